import Derived.Test.YtfhcfamjlhmgiaaDoorSh3
set_option linter.unusedVariables false
set_option linter.unusedSimpArgs false
namespace Go.Proofs.YtfhcfamjlhmgiaaDoor
set_option maxRecDepth 100000
open Go.RowKit
set_option maxHeartbeats 4000000 in
theorem shsame_any (x y : List Cl) (a b : Option Addr) (c d : Nat) (w : World) (hx : x.length ≤ 9223372036854775807) (hy : y.length ≤ 9223372036854775807) (ha : CellsIn w a x) (hb : CellsIn w b y) :
    Calls Tryd.prog 22 #[.slice a x.length c, .slice b y.length d] w fun e w' => e = .returned (.bool (shS x y)) ∧ Below w.heap.size w w' := by
  have HA := Lib.hid ha; have HB := Lib.hid hb; clear ha hb
  by_cases hl : x.length = y.length
  · have hln : ((x.length : Int) != (y.length : Int)) = false := by rw [hl]; simp
    have hyl : y.length ≤ x.length ∧ x.length ≤ y.length := by omega
    have Hl := Lib.hid hl; clear hl
    go_enter Tryd.func22, Tryd.ntmps22
    go_wp2
    go_loopw [14] (fun iv wr => ∃ k : Nat, k ≤ x.length ∧ iv = .int .i64 (k : Int) ∧ Hid (∀ j, j < k → clE (x.getD j cl0) (y.getD j cl0) = true) ∧ Below w.heap.size w wr) (fun iv _ => x.length - (intOf iv).toNat)
    case atStart => exact ⟨0, Nat.zero_le _, rfl, Lib.hid (fun j hj => absurd hj (by omega)), Below.refl _ _⟩
    case round =>
      obtain ⟨k, hk, rfl, hall, hbl⟩ := hrel
      by_cases hlt : k < x.length
      · obtain ⟨b1, o1, rfl, hb1, c1, c2, c3, c4, c5⟩ := (HA.out.below hbl) k hlt
        obtain ⟨b2, o2, rfl, hb2, d1, d2, d3, d4, d5⟩ := (HB.out.below hbl) k (by omega)
        have hk1 : (k : Int) < x.length := by omega
        have hk2 : (k : Int) < y.length := by omega
        have hk0 : (0 : Int) ≤ k := by omega
        obtain ⟨v, a1, p1, f1, q1, hp⟩ : ∃ v a p f q, x.getD k cl0 = (v, a, p, f, q) := ⟨_, _, _, _, _, rfl⟩
        obtain ⟨v', a2, p2, f2, q2, hq⟩ : ∃ v a p f q, y.getD k cl0 = (v, a, p, f, q) := ⟨_, _, _, _, _, rfl⟩
        rw [hp] at c1 c2 c3 c4 c5; rw [hq] at d1 d2 d3 d4 d5
        have d1' := fun o => (World.cell?_alloc_lt wr o (⟨b2, o2 + k * 5, none⟩ : Addr) hb2).trans d1
        have d2' := fun o => (World.cell?_alloc_lt wr o (⟨b2, o2 + k * 5 + 1, none⟩ : Addr) hb2).trans d2
        have hbb := fun o1 => hbl.alloc hbl.size o1
        clear d1 d2 d3 d4 d5
        have hor : (v != v') = true ∨ ((v != v') = false ∧ (a1 != a2) = true) ∨ ((v != v') = false ∧ (a1 != a2) = false) := by
          cases h1 : (v != v') <;> cases h2 : (a1 != a2) <;> simp
        rcases hor with e1 | ⟨e1, e2⟩ | ⟨e1, e2⟩
        · have HF : Hid (shS x y = false) := Lib.hid (shS_no hlt (by rw [hp, hq]; unfold clE; rw [show (v == v') = false by simpa using e1]; rfl))
          clear hp hq
          go_wp2
          go_quiet (fail)
          go_wp2
          go_ret
          rw [HF.out]
          exact ⟨rfl, drewN_below (hbb _) _⟩
        · have HF : Hid (shS x y = false) := Lib.hid (shS_no hlt (by rw [hp, hq]; unfold clE; rw [show (a1 == a2) = false by simpa using e2, Bool.and_false]))
          clear hp hq
          go_wp2
          go_quiet (fail)
          go_wp2
          go_ret
          rw [HF.out]
          exact ⟨rfl, drewN_below (hbb _) _⟩
        · have HF : Hid (∀ j, j < k + 1 → clE (x.getD j cl0) (y.getD j cl0) = true) := Lib.hid (by
            intro j hj
            rcases Nat.lt_succ_iff_lt_or_eq.1 hj with h | rfl
            · exact hall.out j h
            · rw [hp, hq]; unfold clE; rw [show (v == v') = true by simpa using e1, show (a1 == a2) = true by simpa using e2]; rfl)
          clear hp hq
          go_wp2
          go_quiet (fail)
          go_wp2
          go_roundw
          case rel => exact ⟨k + 1, by omega, by go_num, HF, drewN_below (hbb _) _⟩
          case measure => simp [intOf]; omega
      · obtain rfl : k = x.length := by omega
        have HF : Hid (shS x y = true) := Lib.hid (shS_yes Hl.out hall.out)
        go_wp2
        go_ret
        rw [HF.out]
        exact ⟨rfl, hbl⟩
  · have hln : ((x.length : Int) != (y.length : Int)) = true := by rw [bne_iff_ne]; omega
    have HF : Hid (shS x y = false) := Lib.hid (shS_len hl)
    go_enter Tryd.func22, Tryd.ntmps22
    go_wp2
    go_ret
    rw [HF.out]
    exact ⟨rfl, Below.refl _ _⟩
set_option maxHeartbeats 4000000 in
theorem shsame_ref (x y : List Cl) (a b : Option Addr) (c d : Nat) (w : World) (hx : x.length ≤ 9223372036854775807) (hy : y.length ≤ 9223372036854775807) (ha : CellsIn w a x) (hb : CellsIn w b y) :
    Calls Tryd.prog 23 #[.slice a x.length c, .slice b y.length d] w fun e w' => e = .returned (.bool (shS x y)) ∧ Below w.heap.size w w' := by
  have HA := Lib.hid ha; have HB := Lib.hid hb; clear ha hb
  by_cases hl : x.length = y.length
  · have hln : ((x.length : Int) != (y.length : Int)) = false := by rw [hl]; simp
    have hyl : y.length ≤ x.length ∧ x.length ≤ y.length := by omega
    have Hl := Lib.hid hl; clear hl
    go_enter Tryd.func23, Tryd.ntmps23
    go_wp2
    go_loopw [5] (fun iv wr => ∃ k : Nat, k ≤ x.length ∧ iv = .int .i64 (k : Int) ∧ Hid (∀ j, j < k → clE (x.getD j cl0) (y.getD j cl0) = true) ∧ Below w.heap.size w wr) (fun iv _ => x.length - (intOf iv).toNat)
    case atStart => exact ⟨0, Nat.zero_le _, rfl, Lib.hid (fun j hj => absurd hj (by omega)), Below.refl _ _⟩
    case round =>
      obtain ⟨k, hk, rfl, hall, hbl⟩ := hrel
      by_cases hlt : k < x.length
      · obtain ⟨b1, o1, rfl, hb1, c1, c2, c3, c4, c5⟩ := (HA.out.below hbl) k hlt
        obtain ⟨b2, o2, rfl, hb2, d1, d2, d3, d4, d5⟩ := (HB.out.below hbl) k (by omega)
        have hk1 : (k : Int) < x.length := by omega
        have hk2 : (k : Int) < y.length := by omega
        have hk0 : (0 : Int) ≤ k := by omega
        obtain ⟨v, a1, p1, f1, q1, hp⟩ : ∃ v a p f q, x.getD k cl0 = (v, a, p, f, q) := ⟨_, _, _, _, _, rfl⟩
        obtain ⟨v', a2, p2, f2, q2, hq⟩ : ∃ v a p f q, y.getD k cl0 = (v, a, p, f, q) := ⟨_, _, _, _, _, rfl⟩
        rw [hp] at c1 c2 c3 c4 c5; rw [hq] at d1 d2 d3 d4 d5
        have hor : (v != v') = true ∨ ((v != v') = false ∧ (a1 != a2) = true) ∨ ((v != v') = false ∧ (a1 != a2) = false) := by
          cases h1 : (v != v') <;> cases h2 : (a1 != a2) <;> simp
        rcases hor with e1 | ⟨e1, e2⟩ | ⟨e1, e2⟩
        · have HF : Hid (shS x y = false) := Lib.hid (shS_no hlt (by rw [hp, hq]; unfold clE; rw [show (v == v') = false by simpa using e1]; rfl))
          clear hp hq
          go_wp2
          go_quiet (fail)
          go_wp2
          go_ret
          rw [HF.out]
          exact ⟨rfl, drewN_below hbl _⟩
        · have HF : Hid (shS x y = false) := Lib.hid (shS_no hlt (by rw [hp, hq]; unfold clE; rw [show (a1 == a2) = false by simpa using e2, Bool.and_false]))
          clear hp hq
          go_wp2
          go_quiet (fail)
          go_wp2
          go_ret
          rw [HF.out]
          exact ⟨rfl, drewN_below hbl _⟩
        · have HF : Hid (∀ j, j < k + 1 → clE (x.getD j cl0) (y.getD j cl0) = true) := Lib.hid (by
            intro j hj
            rcases Nat.lt_succ_iff_lt_or_eq.1 hj with h | rfl
            · exact hall.out j h
            · rw [hp, hq]; unfold clE; rw [show (v == v') = true by simpa using e1, show (a1 == a2) = true by simpa using e2]; rfl)
          clear hp hq
          go_wp2
          go_quiet (fail)
          go_wp2
          go_roundw
          case rel => exact ⟨k + 1, by omega, by go_num, HF, drewN_below hbl _⟩
          case measure => simp [intOf]; omega
      · obtain rfl : k = x.length := by omega
        have HF : Hid (shS x y = true) := Lib.hid (shS_yes Hl.out hall.out)
        go_wp2
        go_ret
        rw [HF.out]
        exact ⟨rfl, hbl⟩
  · have hln : ((x.length : Int) != (y.length : Int)) = true := by rw [bne_iff_ne]; omega
    have HF : Hid (shS x y = false) := Lib.hid (shS_len hl)
    go_enter Tryd.func23, Tryd.ntmps23
    go_wp2
    go_ret
    rw [HF.out]
    exact ⟨rfl, Below.refl _ _⟩
set_option maxHeartbeats 4000000 in
theorem shall_ref (x y : List Cl) (a b : Option Addr) (c d : Nat) (w : World) (hx : x.length ≤ 9223372036854775807) (hy : y.length ≤ 9223372036854775807) (ha : CellsIn w a x) (hb : CellsIn w b y) :
    Calls Tryd.prog 20 #[.slice a x.length c, .slice b y.length d] w fun e w' => e = .returned (.bool (shA x y)) ∧ Below w.heap.size w w' := by
  have HA := Lib.hid ha; have HB := Lib.hid hb; clear ha hb
  by_cases hl : x.length = y.length
  · have hln : ((x.length : Int) != (y.length : Int)) = false := by rw [hl]; simp
    have hyl : y.length ≤ x.length ∧ x.length ≤ y.length := by omega
    have Hl := Lib.hid hl; clear hl
    go_enter Tryd.func20, Tryd.ntmps20
    go_wp2
    go_loopw [5] (fun iv wr => ∃ k : Nat, k ≤ x.length ∧ iv = .int .i64 (k : Int) ∧ Hid (∀ j, j < k → x.getD j cl0 = y.getD j cl0) ∧ Below w.heap.size w wr) (fun iv _ => x.length - (intOf iv).toNat)
    case atStart => exact ⟨0, Nat.zero_le _, rfl, Lib.hid (fun j hj => absurd hj (by omega)), Below.refl _ _⟩
    case round =>
      obtain ⟨k, hk, rfl, hall, hbl⟩ := hrel
      by_cases hlt : k < x.length
      · obtain ⟨b1, o1, rfl, hb1, c1, c2, c3, c4, c5⟩ := (HA.out.below hbl) k hlt
        obtain ⟨b2, o2, rfl, hb2, d1, d2, d3, d4, d5⟩ := (HB.out.below hbl) k (by omega)
        have hk1 : (k : Int) < x.length := by omega
        have hk2 : (k : Int) < y.length := by omega
        have hk0 : (0 : Int) ≤ k := by omega
        obtain ⟨v, a1, p1, f1, q1, hp⟩ : ∃ v a p f q, x.getD k cl0 = (v, a, p, f, q) := ⟨_, _, _, _, _, rfl⟩
        obtain ⟨v', a2, p2, f2, q2, hq⟩ : ∃ v a p f q, y.getD k cl0 = (v, a, p, f, q) := ⟨_, _, _, _, _, rfl⟩
        rw [hp] at c1 c2 c3 c4 c5; rw [hq] at d1 d2 d3 d4 d5
        have N := fun W => neqCell v a1 p1 f1 q1 v' a2 p2 f2 q2 W
        cases he : decide (((v, a1, p1, f1, q1) : Cl) ≠ (v', a2, p2, f2, q2))
        · rw [he] at N
          have HF : Hid (∀ j, j < k + 1 → x.getD j cl0 = y.getD j cl0) := Lib.hid (by
            intro j hj
            rcases Nat.lt_succ_iff_lt_or_eq.1 hj with h | rfl
            · exact hall.out j h
            · rw [hp, hq]; exact Decidable.byContradiction (of_decide_eq_false he))
          clear hp hq he
          go_wp2
          go_quiet (fail)
          go_wp2
          go_roundw
          case rel => exact ⟨k + 1, by omega, by go_num, HF, drewN_below hbl _⟩
          case measure => simp [intOf]; omega
        · rw [he] at N
          have HF : Hid (shA x y = false) := Lib.hid (shA_no (k := k) (by rw [hp, hq]; exact of_decide_eq_true he))
          clear hp hq he
          go_wp2
          go_quiet (fail)
          go_wp2
          go_ret
          rw [HF.out]
          exact ⟨rfl, drewN_below hbl _⟩
      · obtain rfl : k = x.length := by omega
        have HF : Hid (shA x y = true) := Lib.hid (shA_yes Hl.out hall.out)
        go_wp2
        go_ret
        rw [HF.out]
        exact ⟨rfl, hbl⟩
  · have hln : ((x.length : Int) != (y.length : Int)) = true := by rw [bne_iff_ne]; omega
    have HF : Hid (shA x y = false) := Lib.hid (shA_len hl)
    go_enter Tryd.func20, Tryd.ntmps20
    go_wp2
    go_ret
    rw [HF.out]
    exact ⟨rfl, Below.refl _ _⟩
end Go.Proofs.YtfhcfamjlhmgiaaDoor
