/-
  Joined: Ct6 Co0 Ct7.
-/
import Derived.Test.YteolfbamcehcpaaDoorJCb
import Derived.Test.YteolfbamcehcpaaDoorKy1
import Derived.Test.YteolfbamcehcpaaDoorJCc
set_option maxRecDepth 100000
set_option linter.unusedVariables false
set_option linter.unusedSimpArgs false
namespace Go.Proofs.YteolfbamcehcpaaDoor
set_option linter.unusedVariables false
set_option linter.unusedSimpArgs false
open Go.RowKit
/-- The table, behind a call that writes one block of its caller's. -/
theorem KT.grown {w w' : World} {p : Nat} (h : KT w) (hg : w.grownBy w' (some p)) (hp : p ≠ 0) : KT w' :=
  ⟨fun i hi => (World.cell?_of_block (w := w) (a := ⟨0, i, none⟩) (hg.block _ h.lt (fun e => hp (by injection e with e; exact e.symm)))).trans (h.cell i hi), Nat.lt_of_lt_of_le h.lt hg.size⟩
theorem below_gb {w0 w w' : World} {p : Nat} (h : Below w0.heap.size w0 w) (hg : w.grownBy w' (some p)) (hp : w0.heap.size ≤ p) : Below w0.heap.size w0 w' :=
  h.grown hg h.size (fun k e => by injection e with e; subst e; exact hp)
theorem ctdo_t (p : Nat) (s s' : Cs) (b : Bool) (k : Ky) (w : World) (hK : KT w) (hp : CtAt p s w) (hn0 : 0 ≤ s.2.2.1) (hn1 : s.2.2.1 ≤ 9999) (h : doC s k = (s', b)) : Calls Tryd.prog 24 #[.pointer (some ⟨p, 0, none⟩), .agg #[.int .i64 k.1, .int .i64 k.2.1, .string k.2.2.1, .bool k.2.2.2]] w fun e w' => e = .returned (.bool b) ∧ CtAt p s' w' ∧ w.grownBy w' (some p) := by
  have := ctdo_any p s k w hK hp hn0 hn1
  unfold DoPost at this
  rw [h] at this
  exact this
theorem cttake_t (p : Nat) (s : Cs) (v : Int) (b : Bool) (w : World) (hp : CtAt p s w) (hn0 : 0 ≤ s.2.2.1) (hn1 : s.2.2.1 ≤ 9999) (h1 : csVal s = v) (h2 : csBg s = b) : Calls Tryd.prog 27 #[.pointer (some ⟨p, 0, none⟩)] w fun e w' => e = .returned (.tuple #[.int .i64 v, .bool b]) ∧ CtAt p cs0 w' ∧ w.grownBy w' (some p) := by
  subst h1; subst h2; exact cttake_any p s w hp hn0 hn1
theorem ctvalue_t (p : Nat) (s : Cs) (v : Int) (b : Bool) (w : World) (hp : CtAt p s w) (hn0 : 0 ≤ s.2.2.1) (hn1 : s.2.2.1 ≤ 9999) (h1 : csVal s = v) (h2 : csBg s = b) : Calls Tryd.prog 26 #[.pointer (some ⟨p, 0, none⟩)] w fun e w' => e = .returned (.tuple #[.int .i64 v, .bool b]) ∧ Below w.heap.size w w' := by
  subst h1; subst h2; exact ctvalue_any p s w hp hn0 hn1
set_option maxHeartbeats 4000000 in
set_option maxRecDepth 100000 in
theorem ctawake_any (w : World) (hK : KT w) : Calls Tryd.prog 21 #[] w fun e w' => e = .returned (.bool true) ∧ Below w.heap.size w w' := by
  have hne : w.heap.size ≠ 0 := by have := hK.lt; omega
  have B0 := below_alloc w (.cells #[.bool false, .bool false, .int .i64 0, .bool false] 93)
  have P0 : CtAt w.heap.size cs0 (w.alloc (.cells #[.bool false, .bool false, .int .i64 0, .bool false] 93)) := heap_alloc_new w _
  obtain ⟨W0, hW0⟩ : ∃ W0, w.alloc (.cells #[.bool false, .bool false, .int .i64 0, .bool false] 93) = W0 := ⟨_, rfl⟩
  have NW := Lib.hid fun w => ctnew_any w
  rw [hW0] at B0 P0
  have K0 := Lib.hid (hK.below B0)
  obtain ⟨P, hP⟩ : ∃ P, w.heap.size = P := ⟨_, rfl⟩
  have hPle : Hid (w.heap.size ≤ P) := Lib.hid (by omega)
  rw [hP] at hne P0
  have D1 : Hid (∀ w, KT w → CtAt P (cs0) w → Calls Tryd.prog 24 #[.pointer (some ⟨P, 0, none⟩), .agg #[.int .i64 3, .int .i64 45, .string ⟨#[]⟩, .bool false]] w fun e w' => e = .returned (.bool true) ∧ CtAt P (true, false, 0, true) w' ∧ w.grownBy w' (some P)) :=
    Lib.hid fun w hK hp => ctdo_t P (cs0) (true, false, 0, true) true (3, 45, ⟨#[]⟩, false) w hK hp (by decide) (by decide) (by decide)
  have D2 : Hid (∀ w, KT w → CtAt P (true, false, 0, true) w → Calls Tryd.prog 24 #[.pointer (some ⟨P, 0, none⟩), .agg #[.int .i64 3, .int .i64 49, .string ⟨#[]⟩, .bool false]] w fun e w' => e = .returned (.bool true) ∧ CtAt P (true, true, 1, true) w' ∧ w.grownBy w' (some P)) :=
    Lib.hid fun w hK hp => ctdo_t P (true, false, 0, true) (true, true, 1, true) true (3, 49, ⟨#[]⟩, false) w hK hp (by decide) (by decide) (by decide)
  have D3 : Hid (∀ w, KT w → CtAt P (true, true, 1, true) w → Calls Tryd.prog 24 #[.pointer (some ⟨P, 0, none⟩), .agg #[.int .i64 1, .int .i64 50, .string ⟨#[]⟩, .bool false]] w fun e w' => e = .returned (.bool true) ∧ CtAt P (true, true, 12, true) w' ∧ w.grownBy w' (some P)) :=
    Lib.hid fun w hK hp => ctdo_t P (true, true, 1, true) (true, true, 12, true) true (1, 50, ⟨#[]⟩, false) w hK hp (by decide) (by decide) (by decide)
  have D4 : Hid (∀ w, KT w → CtAt P (true, true, 12, true) w → Calls Tryd.prog 24 #[.pointer (some ⟨P, 0, none⟩), .agg #[.int .i64 1, .int .i64 120, .string ⟨#[]⟩, .bool false]] w fun e w' => e = .returned (.bool false) ∧ CtAt P (true, true, 12, true) w' ∧ w.grownBy w' (some P)) :=
    Lib.hid fun w hK hp => ctdo_t P (true, true, 12, true) (true, true, 12, true) false (1, 120, ⟨#[]⟩, false) w hK hp (by decide) (by decide) (by decide)
  have TK : Hid (∀ w, CtAt P (true, true, 12, true) w → Calls Tryd.prog 27 #[.pointer (some ⟨P, 0, none⟩)] w fun e w' => e = .returned (.tuple #[.int .i64 (-12), .bool true]) ∧ CtAt P cs0 w' ∧ w.grownBy w' (some P)) :=
    Lib.hid fun w hp => cttake_t P _ _ _ w hp (by decide) (by decide) (by decide) (by decide)
  have VL : Hid (∀ w, CtAt P cs0 w → Calls Tryd.prog 26 #[.pointer (some ⟨P, 0, none⟩)] w fun e w' => e = .returned (.tuple #[.int .i64 1, .bool false]) ∧ Below w.heap.size w w') :=
    Lib.hid fun w hp => ctvalue_t P _ _ _ w hp (by decide) (by decide) (by decide) (by decide)
  have H0 := Lib.hid P0
  have hne' := Lib.hid hne
  have HW0 := Lib.hid hW0
  clear hK P0 hne hW0
  go_enter Tryd.func21, Tryd.ntmps21
  go_wp2_with (first
    | (go_at_call 22; refine (NW.out _).mono ?_; rintro e w0 ⟨rfl, hw0⟩; rw [hP]; obtain rfl : W0 = w0 := HW0.out.symm.trans hw0)
    | (go_at_call 24; (with_reducible refine (D1.out _ K0.out H0.out).mono ?_); rintro e w1 ⟨rfl, h1, g1⟩; have K1 := Lib.hid (K0.out.grown g1 hne'.out); have H1 := Lib.hid h1; have B1 := Lib.hid (below_gb B0 g1 hPle.out); clear h1 g1)
    | (go_at_call 24; (with_reducible refine (D2.out _ K1.out H1.out).mono ?_); rintro e w2 ⟨rfl, h2, g2⟩; have K2 := Lib.hid (K1.out.grown g2 hne'.out); have H2 := Lib.hid h2; have B2 := Lib.hid (below_gb B1.out g2 hPle.out); clear h2 g2)
    | (go_at_call 24; (with_reducible refine (D3.out _ K2.out H2.out).mono ?_); rintro e w3 ⟨rfl, h3, g3⟩; have K3 := Lib.hid (K2.out.grown g3 hne'.out); have H3 := Lib.hid h3; have B3 := Lib.hid (below_gb B2.out g3 hPle.out); clear h3 g3)
    | (go_at_call 24; (with_reducible refine (D4.out _ K3.out H3.out).mono ?_); rintro e w4 ⟨rfl, h4, g4⟩; have H4 := Lib.hid h4; have B4 := Lib.hid (below_gb B3.out g4 hPle.out); clear h4 g4)
    | (go_at_call 27; refine (TK.out _ H4.out).mono ?_; rintro e w5 ⟨rfl, h5, g5⟩; have H5 := Lib.hid h5; have B5 := Lib.hid (below_gb B4.out g5 hPle.out); clear h5 g5)
    | (go_at_call 26; refine (VL.out _ H5.out).mono ?_; rintro e w6 ⟨rfl, hb6⟩))
  go_ret
  exact ⟨rfl, seqB B5.out hb6⟩
end Go.Proofs.YteolfbamcehcpaaDoor
namespace Go.Proofs.YteolfbamcehcpaaDoor
open Go.RowKit
/-- A count: begun, digits, number, below. -/
abbrev CoS := Bool × Bool × Int × Bool
def cDig (S : List UInt8) : Bool := S.any fun c => c != 45
def cNum (S : List UInt8) : Int := S.foldl (fun n c => if c = 45 then n else min (n * 10 + ((c.toNat : Int) - 48)) 9999) 0
def cNeg (S : List UInt8) : Bool := S.foldl (fun b c => if c = 45 then !b else b) false
def cBeg (S : List UInt8) : Bool := !S.isEmpty
/-- The count that keys make. -/
def coOf (S : List UInt8) : CoS := (cBeg S, cDig S, cNum S, cNeg S)
/-- What the count says. -/
def coV (S : List UInt8) : Int := if cNeg S then -(if cDig S then cNum S else 1) else (if cDig S then cNum S else 1)
/-- Of the bytes of a count. -/
def coOk (S : List UInt8) : Prop := ∀ c ∈ S, c = 45 ∨ (48 ≤ c.toNat ∧ c.toNat ≤ 57)
/-- Which byte a key is of a count; none: of none. -/
def coB (S : List UInt8) (k : Ky) : Option UInt8 :=
  if keyB k = true ∧ (k.1 = 3 ∨ k.1 = 1 ∧ S ≠ []) ∧ 48 ≤ k.2.1 ∧ k.2.1 ≤ 57 then some k.2.1.toNat.toUInt8
  else if keyB k = true ∧ k.1 = 3 ∧ k.2.1 = 45 ∧ cDig S = false then some 45
  else none
def coN (S : List UInt8) (k : Ky) : List UInt8 := match coB S k with | some c => S ++ [c] | none => S
theorem cDig_snoc (S : List UInt8) (c : UInt8) : cDig (S ++ [c]) = (cDig S || c != 45) := by simp [cDig]
theorem cNum_snoc (S : List UInt8) (c : UInt8) : cNum (S ++ [c]) = if c = 45 then cNum S else min (cNum S * 10 + ((c.toNat : Int) - 48)) 9999 := by simp [cNum]
theorem cNeg_snoc (S : List UInt8) (c : UInt8) : cNeg (S ++ [c]) = if c = 45 then !cNeg S else cNeg S := by simp [cNeg]
theorem cBeg_snoc (S : List UInt8) (c : UInt8) : cBeg (S ++ [c]) = true := by simp [cBeg]
theorem coOk_snoc {S : List UInt8} {c : UInt8} (h : coOk S) (hc : c = 45 ∨ (48 ≤ c.toNat ∧ c.toNat ≤ 57)) : coOk (S ++ [c]) := fun x hx => by
  rcases List.mem_append.1 hx with h1 | h1
  · exact h x h1
  · simp at h1; subst h1; exact hc
theorem coOk_nil : coOk [] := fun c h => by cases h
theorem cNum_rng : ∀ S, coOk S → 0 ≤ cNum S ∧ cNum S ≤ 9999 := by
  refine snoc_ind (fun _ => ⟨by decide, by decide⟩) ?_
  intro S c ih h
  have h1 := ih (fun x hx => h x (List.mem_append_left _ hx))
  have h2 := h c (by simp)
  rw [cNum_snoc]
  split
  · exact h1
  · rename_i hc
    rcases h2 with rfl | h2
    · exact absurd rfl hc
    · omega
theorem coV_rng (S : List UInt8) (h : coOk S) : -9999 ≤ coV S ∧ coV S ≤ 9999 := by
  have := cNum_rng S h
  unfold coV
  split <;> split <;> omega
/-- The bytes of a number. -/
theorem coOk_dig {S : List UInt8} (h : ∀ c ∈ S, 48 ≤ c.toNat ∧ c.toNat ≤ 57) : coOk S := fun c hc => Or.inr (h c hc)
theorem dig_ne {c : UInt8} (h : 48 ≤ c.toNat ∧ c.toNat ≤ 57) : c ≠ 45 := fun e => by subst e; simp at h
theorem cNeg_dig : ∀ S : List UInt8, (∀ c ∈ S, 48 ≤ c.toNat ∧ c.toNat ≤ 57) → cNeg S = false := by
  refine snoc_ind (fun _ => rfl) ?_
  intro S c ih h
  rw [cNeg_snoc, if_neg (dig_ne (h c (by simp)))]
  exact ih (fun x hx => h x (List.mem_append_left _ hx))
theorem cDig_dig (S : List UInt8) (h : ∀ c ∈ S, 48 ≤ c.toNat ∧ c.toNat ≤ 57) (hn : S ≠ []) : cDig S = true := by
  obtain ⟨c, r, rfl⟩ := List.exists_cons_of_ne_nil hn
  have := dig_ne (h c (by simp))
  simp [cDig, this]
theorem worth_dig {c : UInt8} (h : 48 ≤ c.toNat ∧ c.toNat ≤ 57) : worth (c.toNat : Int) = (c.toNat : Int) - 48 := by
  unfold worth; rw [if_pos (by omega)]
theorem cNum_dv : ∀ S : List UInt8, (∀ c ∈ S, 48 ≤ c.toNat ∧ c.toNat ≤ 57) → 0 ≤ dv 10 S ∧ cNum S = min (dv 10 S) 9999 := by
  refine snoc_ind (fun _ => ⟨by decide, by decide⟩) ?_
  intro S c ih h
  have hc := h c (by simp)
  have ⟨h0, h1⟩ := ih (fun x hx => h x (List.mem_append_left _ hx))
  rw [cNum_snoc, if_neg (dig_ne hc), dv_snoc, worth_dig hc, h1]
  omega
theorem dg_dig (k : Nat) (h : k < 10) : 48 ≤ (dg k).toNat ∧ (dg k).toNat ≤ 57 := by
  have key : ∀ j : Fin 10, 48 ≤ (dg j).toNat ∧ (dg j).toNat ≤ 57 := by decide
  exact key ⟨k, h⟩
theorem tell_dig : ∀ f n l, ∀ c ∈ tell 10 f n l, 48 ≤ c.toNat ∧ c.toNat ≤ 57 := by
  intro f
  induction f with
  | zero => intro n l c h; simp [tell] at h
  | succ f ih =>
    intro n l c h
    rw [tell] at h
    split at h
    · simp at h
    · rcases List.mem_append.1 h with h | h
      · exact ih _ _ c h
      · simp at h; subst h; exact dg_dig _ (by omega)
theorem decS_co (n : Int) (h0 : 0 ≤ n) (h1 : n ≤ 65535) : (∀ c ∈ decS n, 48 ≤ c.toNat ∧ c.toNat ≤ 57) ∧ coV (decS n) = lowI n 9999 ∧ cBeg (decS n) = true := by
  have e : decS n = tell 10 20 n.toNat 1 := by unfold decS; rw [if_neg (by omega)]
  have hd : ∀ c ∈ decS n, 48 ≤ c.toNat ∧ c.toNat ≤ 57 := by rw [e]; exact tell_dig _ _ _
  have hn := decS_ne n
  refine ⟨hd, ?_, by unfold cBeg; cases hh : decS n with | nil => exact absurd hh hn | cons => rfl⟩
  have hv : dv 10 (decS n) = n := by rw [e, dv_tell 10 (by omega) (by omega) 20 _ _ (by omega)]; omega
  unfold coV
  rw [cNeg_dig _ hd, cDig_dig _ hd hn, if_neg (by decide), if_pos rfl, (cNum_dv _ hd).2, hv]
  unfold lowI; split <;> omega
end Go.Proofs.YteolfbamcehcpaaDoor
namespace Go.Proofs.YteolfbamcehcpaaDoor
open Go.RowKit
theorem cs_dig : ∀ l : List UInt8, (∀ c ∈ l, 48 ≤ c.toNat ∧ c.toNat ≤ 57) → l = [] ∨ csOf l = (true, true, min (dv 10 l) 9999, false) := by
  refine snoc_ind (fun _ => Or.inl rfl) ?_
  intro S c ih h
  right
  have hc := h c (by simp)
  have hs : csOf (S ++ [c]) = csWith (csOf S) ((c.toNat : Int) - 48) := by rw [csOf_snoc]; unfold csStep; rw [if_neg (dig_ne hc)]
  rw [hs, dv_snoc, worth_dig hc]
  have h0 := (cNum_dv S (fun x hx => h x (List.mem_append_left _ hx))).1
  rcases ih (fun x hx => h x (List.mem_append_left _ hx)) with rfl | e
  · show csWith cs0 _ = _
    unfold csWith cs0 dv
    simp
  · rw [e]
    unfold csWith
    simp
    omega
theorem csg_dig {l : List UInt8} (h : ∀ c ∈ l, 48 ≤ c.toNat ∧ c.toNat ≤ 57) : CsG l := fun c hc => Or.inr (h c hc)
theorem do_digit {l : List UInt8} (j : Nat) (hj : j < l.length) (h : ∀ c ∈ l, 48 ≤ c.toNat ∧ c.toNat ≤ 57) : doC (csOf (l.take j)) (3, ((l[j]).toNat : Int), ⟨#[]⟩, false) = (csOf (l.take (j + 1)), true) := by
  have hc := h l[j] (List.getElem_mem _)
  have hk : keyB (3, ((l[j]).toNat : Int), ⟨#[]⟩, false) = true := by
    rw [key_other _ _ _ _ (by decide), may_meta, lnB_no (by omega), decide_eq_true (show (0 : Int) ≤ (l[j].toNat : Int) ∧ (l[j].toNat : Int) < 128 by omega)]; rfl
  unfold doC
  rw [if_neg (by rw [hk]; decide), if_pos (show rdB (3, ((l[j]).toNat : Int), ⟨#[]⟩, false) 3 = true from decide_eq_true ⟨rfl, by show (48 : Int) ≤ (l[j].toNat : Int); omega, by show (l[j].toNat : Int) ≤ 57; omega⟩), cs_take j hj]
  unfold csStep
  rw [if_neg (dig_ne hc)]
theorem dec_facts (a : Int) (h0 : 0 ≤ a) (h1 : a ≤ 65535) : (∀ c ∈ decS a, 48 ≤ c.toNat ∧ c.toNat ≤ 57) ∧ csVal (csOf (decS a)) = min a 9999 ∧ csBg (csOf (decS a)) = true ∧ (decS a).length ≤ 21 := by
  have e : decS a = tell 10 20 a.toNat 1 := by unfold decS; rw [if_neg (by omega)]
  have hd : ∀ c ∈ decS a, 48 ≤ c.toNat ∧ c.toNat ≤ 57 := by rw [e]; exact tell_dig _ _ _
  have hn := decS_ne a
  have hv : dv 10 (decS a) = a := by rw [e, dv_tell 10 (by omega) (by omega) 20 _ _ (by omega)]; omega
  have hb : csBg (csOf (decS a)) = true := by rw [cs_bg]; exact decide_eq_true hn
  refine ⟨hd, ?_, hb, decS_len a⟩
  unfold csVal
  rw [hb, if_pos rfl]
  rcases cs_dig _ hd with h | h
  · exact absurd h hn
  · rw [h, hv]; rfl
theorem rlow_b (a : Int) (w : World) (r : Int) (h : min a 9999 = r) : Calls Tryd.prog 29 #[.int .i64 a, .int .i64 9999] w fun e w' => e = .returned (.int .i64 r) ∧ w = w' := rlow a w r h
set_option maxHeartbeats 8000000 in
set_option maxRecDepth 100000 in
theorem counttells_any (a : Int) (w : World) (hK : KT w) (ha0 : 0 ≤ a) (ha1 : a ≤ 65535) : Calls Tryd.prog 6 #[.int .u16 a] w fun e w' => e = .returned (.bool true) ∧ Below w.heap.size w w' := by
  have AW := Lib.hid fun w hK => ctawake_any w hK
  have NW := Lib.hid fun w => ctnew_any w
  have ⟨hdig, hval, hbg, hlen⟩ := dec_facts a ha0 ha1
  have DC := fun w => dec_ref 65535 a w (by omega) (by omega) (by omega)
  obtain ⟨l, hl⟩ : ∃ l, decS a = l := ⟨_, rfl⟩
  rw [hl] at hdig hval hbg hlen DC
  have LO := Lib.hid fun w => rlow a w (min a 9999) rfl
  have hw : wrap64 a = a := by unfold wrap64; omega
  have hne : w.heap.size ≠ 0 := by have := hK.lt; omega
  have HK := Lib.hid hK
  obtain ⟨S, hS⟩ : ∃ S, mkS l = S := ⟨_, rfl⟩
  have hSl : S.size = l.length := by rw [← hS]; exact mkS_size l
  have DC : ∀ w, Calls Tryd.prog 28 #[.int .i64 a] w fun e w' => e = .returned (.string S) ∧ w = w' := fun w => by rw [← hS]; exact DC w
  replace DC := Lib.hid DC
  have hSh := Lib.hid hS
  clear hS
  have T0 := Lib.hid fun w => cttake_nil w
  have D0 : Hid (∀ w, Calls Tryd.prog 24 #[.pointer none, .agg #[.int .i64 3, .int .i64 49, .string ⟨#[]⟩, .bool false]] w fun e w' => e = .returned (.bool false) ∧ Below w.heap.size w w') := Lib.hid fun w => ctdo_nil (3, 49, ⟨#[]⟩, false) w
  have hgd := Lib.hid (csg_dig hdig)
  have hdg := Lib.hid hdig
  have hvl := Lib.hid hval
  have hbl := Lib.hid hbg
  have hnl := Lib.hid hne
  clear hK hl hdig hval hbg hne
  go_enter Tryd.func6, Tryd.ntmps6
  go_wp2_with (first
    | (go_at_call 21; refine (AW.out _ HK.out).mono ?_; rintro e w1 ⟨rfl, hb1⟩)
    | (go_at_call 22; refine (NW.out _).mono ?_; rintro e w2 ⟨rfl, hw2⟩; have B2 := below_alloc w1 (.cells #[.bool false, .bool false, .int .i64 0, .bool false] 93); have P2 : CtAt w1.heap.size cs0 (w1.alloc (.cells #[.bool false, .bool false, .int .i64 0, .bool false] 93)) := heap_alloc_new w1 _; rw [hw2] at B2 P2; have N2 := seqB hb1 B2; clear hw2)
    | (go_at_call 28; refine (DC.out _).mono ?_; rintro e w3 ⟨rfl, rfl⟩))
  have HN2 := Lib.hid N2
  have hP1 : Hid (w.heap.size ≤ w1.heap.size) := Lib.hid hb1.size
  have hP2 : Hid (w1.heap.size ≠ 0) := Lib.hid (by have := HK.out.lt; have := hb1.size; omega)
  have HP2 := Lib.hid P2
  clear hb1 N2 B2 P2
  go_loopw [5] (fun iv wr => ∃ j : Nat, j ≤ S.size ∧ iv = .int .i64 (j : Int) ∧ CtAt w1.heap.size (csOf (l.take j)) wr ∧ Below w.heap.size w wr) (fun iv _ => S.size - (intOf iv).toNat)
  case atStart => exact ⟨0, Nat.zero_le _, rfl, HP2.out, HN2.out⟩
  case round =>
    obtain ⟨j, hj, rfl, hct, hb⟩ := hrel
    have hcn := cs_num (hgd.out.take j)
    by_cases hlt : j < S.size
    · have hj1 : (j : Int) < S.size := by omega
      have hj0 : (0 : Int) ≤ j := by omega
      have hbt := byte_of hSh.out j hlt (by omega)
      have hdo := do_digit j (by omega) hdg.out
      have D1 : ∀ w, KT w → CtAt w1.heap.size (csOf (l.take j)) w → Calls Tryd.prog 24 #[.pointer (some ⟨w1.heap.size, 0, none⟩), .agg #[.int .i64 3, .int .i64 (wrap64 ((S[j]).toNat : Int)), .string ⟨#[]⟩, .bool false]] w fun e w' => e = .returned (.bool true) ∧ CtAt w1.heap.size (csOf (l.take (j + 1))) w' ∧ w.grownBy w' (some w1.heap.size) := fun w hK hp => by
        rw [show wrap64 ((S[j]).toNat : Int) = ((l[j]'(by omega)).toNat : Int) by rw [hbt]; have := u8_lt (l[j]'(by omega)); unfold wrap64; omega]
        exact ctdo_t w1.heap.size _ _ true (3, ((l[j]'(by omega)).toNat : Int), ⟨#[]⟩, false) w hK hp hcn.1 hcn.2 hdo
      generalize csOf (l.take j) = s at *
      obtain ⟨s2, hs2⟩ : ∃ s2, csOf (l.take (j + 1)) = s2 := ⟨_, rfl⟩
      rw [hs2] at D1
      have Hs2 := Lib.hid hs2
      clear hs2
      have KR := Lib.hid (HK.out.below hb)
      replace D1 := Lib.hid D1
      have HC := Lib.hid hct
      have HBB := Lib.hid hb
      clear hbt hdo hct hb hcn
      go_wp2_with (go_at_call 24; refine (D1.out _ KR.out HC.out).mono ?_; rintro e w5 ⟨rfl, h5, g5⟩)
      go_roundw
      case rel => exact ⟨j + 1, by omega, by go_num, by rw [Hs2.out]; exact h5, below_gb HBB.out g5 hP1.out⟩
      case measure => (simp [intOf]; try omega)
    · have htk : l.take j = l := List.take_of_length_le (by omega)
      rw [htk] at hct hcn
      have TK := Lib.hid fun w hp => cttake_t w1.heap.size (csOf l) (min a 9999) true w hp hcn.1 hcn.2 hvl.out hbl.out
      have HC := Lib.hid hct
      have HBB := Lib.hid hb
      generalize csOf l = s at *
      clear hct hb hcn htk
      generalize min a 9999 = r at *
      go_wp2_with (first
        | (go_at_call 27; (with_reducible refine (TK.out _ HC.out).mono ?_); rintro e w5 ⟨rfl, h5, g5⟩; have B5 := below_gb HBB.out g5 hP1.out)
        | (go_at_call 27; (with_reducible refine (T0.out _).mono ?_); rintro e w6 ⟨rfl, hb6⟩)
        | (go_at_call 29; refine (LO.out _).mono ?_; rintro e w7 ⟨rfl, rfl⟩)
        | (go_at_call 24; refine (D0.out _).mono ?_; rintro e w8 ⟨rfl, hb8⟩))
      go_ret
      exact ⟨by simp, seqB (seqB B5 hb6) hb8⟩
end Go.Proofs.YteolfbamcehcpaaDoor
