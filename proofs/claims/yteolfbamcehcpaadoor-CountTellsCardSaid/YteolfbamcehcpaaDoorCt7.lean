/-
  CountTells: the law.
-/
import Derived.Test.YteolfbamcehcpaaDoorCt6
import Derived.Test.YteolfbamcehcpaaDoorCt5
import Derived.Test.YteolfbamcehcpaaDoorCo0
set_option linter.unusedVariables false
set_option linter.unusedSimpArgs false
namespace Go.Proofs.YteolfbamcehcpaaDoor
set_option maxRecDepth 100000
open Go.RowKit
theorem cs_dig : ∀ l : List UInt8, (∀ c ∈ l, 48 ≤ c.toNat ∧ c.toNat ≤ 57) → l = [] ∨ csOf l = (true, true, min (dv 10 l) 9999, false) := by
  refine snoc_ind (fun _ => Or.inl rfl) ?_
  intro S c ih h
  right
  have hc := h c (by simp)
  have hs : csOf (S ++ [c]) = csWith (csOf S) ((c.toNat : Int) - 48) := by rw [csOf_snoc]; unfold csStep; rw [if_neg (dig_ne hc)]
  rw [hs, dv_snoc, worth_dig hc]
  have h0 := (cNum_dv S (fun x hx => h x (List.mem_append_left _ hx))).1
  rcases ih (fun x hx => h x (List.mem_append_left _ hx)) with rfl | e
  · show csWith cs0 _ = _
    unfold csWith cs0 dv
    simp
  · rw [e]
    unfold csWith
    simp
    omega
theorem csg_dig {l : List UInt8} (h : ∀ c ∈ l, 48 ≤ c.toNat ∧ c.toNat ≤ 57) : CsG l := fun c hc => Or.inr (h c hc)
theorem do_digit {l : List UInt8} (j : Nat) (hj : j < l.length) (h : ∀ c ∈ l, 48 ≤ c.toNat ∧ c.toNat ≤ 57) : doC (csOf (l.take j)) (3, ((l[j]).toNat : Int), ⟨#[]⟩, false) = (csOf (l.take (j + 1)), true) := by
  have hc := h l[j] (List.getElem_mem _)
  have hk : keyB (3, ((l[j]).toNat : Int), ⟨#[]⟩, false) = true := by
    rw [key_other _ _ _ _ (by decide), may_meta, lnB_no (by omega), decide_eq_true (show (0 : Int) ≤ (l[j].toNat : Int) ∧ (l[j].toNat : Int) < 128 by omega)]; rfl
  unfold doC
  rw [if_neg (by rw [hk]; decide), if_pos (show rdB (3, ((l[j]).toNat : Int), ⟨#[]⟩, false) 3 = true from decide_eq_true ⟨rfl, by show (48 : Int) ≤ (l[j].toNat : Int); omega, by show (l[j].toNat : Int) ≤ 57; omega⟩), cs_take j hj]
  unfold csStep
  rw [if_neg (dig_ne hc)]
theorem dec_facts (a : Int) (h0 : 0 ≤ a) (h1 : a ≤ 65535) : (∀ c ∈ decS a, 48 ≤ c.toNat ∧ c.toNat ≤ 57) ∧ csVal (csOf (decS a)) = min a 9999 ∧ csBg (csOf (decS a)) = true ∧ (decS a).length ≤ 21 := by
  have e : decS a = tell 10 20 a.toNat 1 := by unfold decS; rw [if_neg (by omega)]
  have hd : ∀ c ∈ decS a, 48 ≤ c.toNat ∧ c.toNat ≤ 57 := by rw [e]; exact tell_dig _ _ _
  have hn := decS_ne a
  have hv : dv 10 (decS a) = a := by rw [e, dv_tell 10 (by omega) (by omega) 20 _ _ (by omega)]; omega
  have hb : csBg (csOf (decS a)) = true := by rw [cs_bg]; exact decide_eq_true hn
  refine ⟨hd, ?_, hb, decS_len a⟩
  unfold csVal
  rw [hb, if_pos rfl]
  rcases cs_dig _ hd with h | h
  · exact absurd h hn
  · rw [h, hv]; rfl
theorem rlow_b (a : Int) (w : World) (r : Int) (h : min a 9999 = r) : Calls Tryd.prog 29 #[.int .i64 a, .int .i64 9999] w fun e w' => e = .returned (.int .i64 r) ∧ w = w' := rlow a w r h
set_option maxHeartbeats 8000000 in
set_option maxRecDepth 100000 in
theorem counttells_any (a : Int) (w : World) (hK : KT w) (ha0 : 0 ≤ a) (ha1 : a ≤ 65535) : Calls Tryd.prog 6 #[.int .u16 a] w fun e w' => e = .returned (.bool true) ∧ Below w.heap.size w w' := by
  have AW := Lib.hid fun w hK => ctawake_any w hK
  have NW := Lib.hid fun w => ctnew_any w
  have ⟨hdig, hval, hbg, hlen⟩ := dec_facts a ha0 ha1
  have DC := fun w => dec_ref 65535 a w (by omega) (by omega) (by omega)
  obtain ⟨l, hl⟩ : ∃ l, decS a = l := ⟨_, rfl⟩
  rw [hl] at hdig hval hbg hlen DC
  have LO := Lib.hid fun w => rlow a w (min a 9999) rfl
  have hw : wrap64 a = a := by unfold wrap64; omega
  have hne : w.heap.size ≠ 0 := by have := hK.lt; omega
  have HK := Lib.hid hK
  obtain ⟨S, hS⟩ : ∃ S, mkS l = S := ⟨_, rfl⟩
  have hSl : S.size = l.length := by rw [← hS]; exact mkS_size l
  have DC : ∀ w, Calls Tryd.prog 28 #[.int .i64 a] w fun e w' => e = .returned (.string S) ∧ w = w' := fun w => by rw [← hS]; exact DC w
  replace DC := Lib.hid DC
  have hSh := Lib.hid hS
  clear hS
  have T0 := Lib.hid fun w => cttake_nil w
  have D0 : Hid (∀ w, Calls Tryd.prog 24 #[.pointer none, .agg #[.int .i64 3, .int .i64 49, .string ⟨#[]⟩, .bool false]] w fun e w' => e = .returned (.bool false) ∧ Below w.heap.size w w') := Lib.hid fun w => ctdo_nil (3, 49, ⟨#[]⟩, false) w
  have hgd := Lib.hid (csg_dig hdig)
  have hdg := Lib.hid hdig
  have hvl := Lib.hid hval
  have hbl := Lib.hid hbg
  have hnl := Lib.hid hne
  clear hK hl hdig hval hbg hne
  go_enter Tryd.func6, Tryd.ntmps6
  go_wp2_with (first
    | (go_at_call 21; refine (AW.out _ HK.out).mono ?_; rintro e w1 ⟨rfl, hb1⟩)
    | (go_at_call 22; refine (NW.out _).mono ?_; rintro e w2 ⟨rfl, hw2⟩; have B2 := below_alloc w1 (.cells #[.bool false, .bool false, .int .i64 0, .bool false] 93); have P2 : CtAt w1.heap.size cs0 (w1.alloc (.cells #[.bool false, .bool false, .int .i64 0, .bool false] 93)) := heap_alloc_new w1 _; rw [hw2] at B2 P2; have N2 := seqB hb1 B2; clear hw2)
    | (go_at_call 28; refine (DC.out _).mono ?_; rintro e w3 ⟨rfl, rfl⟩))
  have HN2 := Lib.hid N2
  have hP1 : Hid (w.heap.size ≤ w1.heap.size) := Lib.hid hb1.size
  have hP2 : Hid (w1.heap.size ≠ 0) := Lib.hid (by have := HK.out.lt; have := hb1.size; omega)
  have HP2 := Lib.hid P2
  clear hb1 N2 B2 P2
  go_loopw [5] (fun iv wr => ∃ j : Nat, j ≤ S.size ∧ iv = .int .i64 (j : Int) ∧ CtAt w1.heap.size (csOf (l.take j)) wr ∧ Below w.heap.size w wr) (fun iv _ => S.size - (intOf iv).toNat)
  case atStart => exact ⟨0, Nat.zero_le _, rfl, HP2.out, HN2.out⟩
  case round =>
    obtain ⟨j, hj, rfl, hct, hb⟩ := hrel
    have hcn := cs_num (hgd.out.take j)
    by_cases hlt : j < S.size
    · have hj1 : (j : Int) < S.size := by omega
      have hj0 : (0 : Int) ≤ j := by omega
      have hbt := byte_of hSh.out j hlt (by omega)
      have hdo := do_digit j (by omega) hdg.out
      have D1 : ∀ w, KT w → CtAt w1.heap.size (csOf (l.take j)) w → Calls Tryd.prog 24 #[.pointer (some ⟨w1.heap.size, 0, none⟩), .agg #[.int .i64 3, .int .i64 (wrap64 ((S[j]).toNat : Int)), .string ⟨#[]⟩, .bool false]] w fun e w' => e = .returned (.bool true) ∧ CtAt w1.heap.size (csOf (l.take (j + 1))) w' ∧ w.grownBy w' (some w1.heap.size) := fun w hK hp => by
        rw [show wrap64 ((S[j]).toNat : Int) = ((l[j]'(by omega)).toNat : Int) by rw [hbt]; have := u8_lt (l[j]'(by omega)); unfold wrap64; omega]
        exact ctdo_t w1.heap.size _ _ true (3, ((l[j]'(by omega)).toNat : Int), ⟨#[]⟩, false) w hK hp hcn.1 hcn.2 hdo
      generalize csOf (l.take j) = s at *
      obtain ⟨s2, hs2⟩ : ∃ s2, csOf (l.take (j + 1)) = s2 := ⟨_, rfl⟩
      rw [hs2] at D1
      have Hs2 := Lib.hid hs2
      clear hs2
      have KR := Lib.hid (HK.out.below hb)
      replace D1 := Lib.hid D1
      have HC := Lib.hid hct
      have HBB := Lib.hid hb
      clear hbt hdo hct hb hcn
      go_wp2_with (go_at_call 24; refine (D1.out _ KR.out HC.out).mono ?_; rintro e w5 ⟨rfl, h5, g5⟩)
      go_roundw
      case rel => exact ⟨j + 1, by omega, by go_num, by rw [Hs2.out]; exact h5, below_gb HBB.out g5 hP1.out⟩
      case measure => (simp [intOf]; try omega)
    · have htk : l.take j = l := List.take_of_length_le (by omega)
      rw [htk] at hct hcn
      have TK := Lib.hid fun w hp => cttake_t w1.heap.size (csOf l) (min a 9999) true w hp hcn.1 hcn.2 hvl.out hbl.out
      have HC := Lib.hid hct
      have HBB := Lib.hid hb
      generalize csOf l = s at *
      clear hct hb hcn htk
      generalize min a 9999 = r at *
      go_wp2_with (first
        | (go_at_call 27; (with_reducible refine (TK.out _ HC.out).mono ?_); rintro e w5 ⟨rfl, h5, g5⟩; have B5 := below_gb HBB.out g5 hP1.out)
        | (go_at_call 27; (with_reducible refine (T0.out _).mono ?_); rintro e w6 ⟨rfl, hb6⟩)
        | (go_at_call 29; refine (LO.out _).mono ?_; rintro e w7 ⟨rfl, rfl⟩)
        | (go_at_call 24; refine (D0.out _).mono ?_; rintro e w8 ⟨rfl, hb8⟩))
      go_ret
      exact ⟨by simp, seqB (seqB B5 hb6) hb8⟩
end Go.Proofs.YteolfbamcehcpaaDoor
