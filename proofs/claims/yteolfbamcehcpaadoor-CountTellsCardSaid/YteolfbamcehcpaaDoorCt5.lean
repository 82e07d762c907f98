/-
  Counts, the reference: what the keys say.
-/
import Derived.Test.YteolfbamcehcpaaDoorCt4
import Derived.Test.YteolfbamcehcpaaDoorW6
set_option linter.unusedVariables false
set_option linter.unusedSimpArgs false
namespace Go.Proofs.YteolfbamcehcpaaDoor
set_option maxRecDepth 100000
open Go.RowKit
theorem rlow (a : Int) (w : World) (r : Int) (h : min a 9999 = r) : Calls Tryd.prog 29 #[.int .i64 a, .int .i64 9999] w fun e w' => e = .returned (.int .i64 r) ∧ w = w' :=
  (low_any a 9999 w).mono fun e w' hh => ⟨by rw [hh.1, ← h]; congr 2; unfold lowI; split <;> omega, hh.2⟩
theorem cs_take {l : List UInt8} (j : Nat) (h : j < l.length) : csOf (l.take (j + 1)) = csStep (csOf (l.take j)) l[j] := by
  rw [List.take_succ_eq_append_getElem h, csOf_snoc]
theorem CsG.take {l : List UInt8} (h : CsG l) (j : Nat) : CsG (l.take j) := fun b hb => h b (List.mem_of_mem_take hb)
set_option maxHeartbeats 8000000 in
set_option maxRecDepth 100000 in
theorem rvalC_any (l : List UInt8) (w : World) (hg : CsG l) (hl : l.length ≤ 100000) : Calls Tryd.prog 25 #[.agg #[.string (mkS l)]] w fun e w' => e = .returned (.tuple #[.int .i64 (csVal (csOf l)), .bool (csBg (csOf l))]) ∧ Below w.heap.size w w' := by
  obtain ⟨S, hS⟩ : ∃ S, mkS l = S := ⟨_, rfl⟩
  have hSl : S.size = l.length := by rw [← hS]; exact mkS_size l
  rw [hS]
  have B0 := below_alloc w (.cells #[.string S] 43)
  have q0 := heap_alloc_new w (.cells #[.string S] 43)
  obtain ⟨W0, hW0⟩ : ∃ W0, w.alloc (.cells #[.string S] 43) = W0 := ⟨_, rfl⟩
  rw [hW0] at B0 q0
  have g0 := cell_of_row _ _ 0 _ _ _ q0
  dsimp at g0
  have hlt0 := blk_lt q0
  have HB := Lib.hid B0
  have hSh := Lib.hid hS
  have hG := Lib.hid hg
  clear q0 B0 hS hg
  have hbgl : csBg (csOf l) = decide (l ≠ []) := cs_bg l
  obtain ⟨V, hV⟩ : ∃ V, csVal (csOf l) = V := ⟨_, rfl⟩
  obtain ⟨g, hgg⟩ : ∃ g, csBg (csOf l) = g := ⟨_, rfl⟩
  rw [hV, hgg]
  have HV0 := Lib.hid hV
  have HG0 := Lib.hid hgg
  clear hV hgg
  go_enter Tryd.func25, Tryd.ntmps25
  go_upto_region 1 with fail
  clear hW0
  go_wp2_with fail
  go_loopw [4, 5, 6, 7] (fun nv dv bv iv wr => ∃ j : Nat, j ≤ S.size ∧ iv = .int .i64 (j : Int) ∧ nv = .int .i64 (csOf (l.take j)).2.2.1 ∧ dv = .bool (csOf (l.take j)).2.1 ∧ bv = .bool (csOf (l.take j)).2.2.2 ∧ W0 = wr) (fun _ _ _ iv _ => S.size - (intOf iv).toNat)
  case atStart => exact ⟨0, Nat.zero_le _, rfl, rfl, rfl, rfl, rfl⟩
  case round =>
    obtain ⟨j, hj, rfl, rfl, rfl, rfl, rfl⟩ := hrel
    have hnum := cs_num (hG.out.take j)
    by_cases hlt : j < S.size
    · have hj1 : (j : Int) < S.size := by omega
      have hj0 : (0 : Int) ≤ j := by omega
      have hb := byte_of hSh.out j hlt (by omega)
      have hst := cs_take (l := l) j (by omega)
      have hgd := hG.out (l[j]'(by omega)) (List.getElem_mem _)
      obtain ⟨x, hx⟩ : ∃ x, l[j]'(by omega) = x := ⟨_, rfl⟩
      rw [hx] at hb hst hgd
      by_cases he : x = 45
      · have hv : ((S[j]).toNat : Int) = 45 := by rw [hb, he]; rfl
        have hst2 : Hid (csOf (l.take (j + 1)) = csMinus (csOf (l.take j))) := Lib.hid (by rw [hst, he]; rfl)
        generalize csOf (l.take j) = s at *
        clear hst hb hx hgd he
        go_wp2_with fail
        go_roundw
        case rel => exact ⟨j + 1, by omega, by go_num, by rw [hst2.out]; rfl, by rw [hst2.out]; rfl, by rw [hst2.out]; rfl, by first | rfl | trivial⟩
        case measure => (simp [intOf]; try omega)
      · have hgd2 : 48 ≤ x.toNat ∧ x.toNat ≤ 57 := by rcases hgd with h | h; exact absurd h he; exact h
        have hxe : (S[j]).toNat = x.toNat := by rw [hb]
        have hv : ¬ ((S[j]).toNat : Int) = 45 := by rw [hxe]; omega
        have hst2 : Hid (csOf (l.take (j + 1)) = csWith (csOf (l.take j)) ((x.toNat : Int) - 48)) := Lib.hid (by rw [hst]; unfold csStep; rw [if_neg he])
        generalize csOf (l.take j) = s at *
        have hb48 : (48 : Int) ≤ (S[j]).toNat := by rw [hxe]; omega
        have hb57 : ((S[j]).toNat : Int) ≤ 57 := by rw [hxe]; omega
        have hw : True → wrap64 ((S[j]).toNat : Int) = ((S[j]).toNat : Int) := fun _ => by unfold wrap64; omega
        have LO := Lib.hid fun w => rlow (s.2.2.1 * 10 + ((S[j]).toNat : Int) - 48) w (min (s.2.2.1 * 10 + ((x.toNat : Int) - 48)) 9999) (by rw [hxe]; congr 1; omega)
        clear hst hb hx hgd he hgd2 hxe
        go_wp2_with (go_at_call 29; refine (LO.out _).mono ?_; rintro e w3 ⟨rfl, rfl⟩)
        go_roundw
        case rel => exact ⟨j + 1, by omega, by go_num, by rw [hst2.out]; rfl, by rw [hst2.out]; rfl, by rw [hst2.out]; rfl, by first | rfl | trivial⟩
        case measure => (simp [intOf]; try omega)
    · have htk : l.take j = l := List.take_of_length_le (by omega)
      rw [htk] at hnum ⊢
      have hne : S.toList = l := by rw [← hSh.out, ByteArray.toList_eq]
      by_cases hln : l = []
      · subst hln
        have HVc : Hid (V = 1) := Lib.hid (by rw [← HV0.out]; decide)
        have HGc : Hid (g = false) := Lib.hid (by rw [← HG0.out]; decide)
        have e0 : csOf [] = (false, false, 0, false) := rfl
        rw [e0]
        have n1 : (S.toList == []) = true := by rw [hne]; rfl
        have n2 : (S.toList != []) = false := by rw [hne]; rfl
        clear hnum hbgl e0 HV0 HG0
        dsimp only
        go_upto_region 15 with fail
        go_quiet (fail)
        go_wp2_with fail
        go_ret2
        rw [HVc.out, HGc.out]
        exact ⟨rfl, drewN_below HB.out _⟩
      · have hl0 : ¬ S.toList = [] := by rw [hne]; exact hln
        have n1 : (S.toList == []) = false := by simpa using hl0
        have n2 : (S.toList != []) = true := by simpa using hl0
        have n3 : S.toList.isEmpty = false := by simpa using hl0
        have hbg : csBg (csOf l) = true := by rw [hbgl]; exact decide_eq_true hln
        have HVc : V = (if (csOf l).2.2.2 then -(if (csOf l).2.1 then (csOf l).2.2.1 else 1) else (if (csOf l).2.1 then (csOf l).2.2.1 else 1)) := by rw [← HV0.out]; unfold csVal; rw [hbg, if_pos rfl]; rfl
        have HGc : Hid (g = true) := Lib.hid (by rw [← HG0.out]; exact hbg)
        obtain ⟨⟨a, dd, n, bb⟩, hs⟩ : ∃ s, csOf l = s := ⟨_, rfl⟩
        rw [hs] at hnum HVc ⊢
        dsimp only at hnum HVc ⊢
        replace HVc := Lib.hid HVc
        clear hbg hs hbgl hne htk HV0 HG0
        cases dd <;> cases bb
        all_goals
          go_upto_region 15 with fail
          go_quiet (fail)
          go_wp2_with fail
          go_ret2
          rw [HVc.out, HGc.out]
          exact ⟨rfl, drewN_below HB.out _⟩
end Go.Proofs.YteolfbamcehcpaaDoor
