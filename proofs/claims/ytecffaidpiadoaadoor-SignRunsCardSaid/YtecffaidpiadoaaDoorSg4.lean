import Derived.Test.YtecffaidpiadoaaDoorSg3
set_option linter.unusedVariables false
set_option linter.unusedSimpArgs false
namespace Go.Proofs.YtecffaidpiadoaaDoor
open Go.RowKit
theorem sgS_len {a b : List (Int × Int)} (h : a.length ≠ b.length) : sgS a b = false := by
  unfold sgS; rw [decide_eq_false]; intro e; exact h (by rw [e])
theorem sgS_no {a b : List (Int × Int)} {k : Nat} (h : a.getD k (0, 0) ≠ b.getD k (0, 0)) : sgS a b = false := by
  unfold sgS; rw [decide_eq_false]; intro e; exact h (by rw [e])
theorem sgS_yes {a b : List (Int × Int)} (hl : a.length = b.length) (h : ∀ j, j < a.length → a.getD j (0, 0) = b.getD j (0, 0)) : sgS a b = true := by
  unfold sgS; rw [decide_eq_true]
  apply List.ext_getElem hl
  intro j h1 h2
  have := h j h1
  rwa [List.getD, List.getD, List.getElem?_eq_getElem h1, List.getElem?_eq_getElem h2] at this
set_option maxRecDepth 100000 in
set_option maxHeartbeats 1000000 in
theorem equal_any (x y : List (Int × Int)) (a b : Option Addr) (c d : Nat) (w : World) (hx : x.length ≤ 9223372036854775807) (hy : y.length ≤ 9223372036854775807) (ha : Signs w a x) (hb : Signs w b y) :
    Calls Tryd.prog 74 #[.slice a x.length c, .slice b y.length d, .func (.func 75) #[] #[]] w fun e w' => e = .returned (.bool (sgS x y)) ∧ Below w.heap.size w w' := by
  have HA := Lib.hid ha; have HB := Lib.hid hb; clear ha hb
  by_cases hl : x.length = y.length
  · have hln : ((x.length : Int) != (y.length : Int)) = false := by rw [hl]; simp
    have hyl : y.length ≤ x.length ∧ x.length ≤ y.length := by omega
    have Hl := Lib.hid hl; clear hl
    go_enter Tryd.func74, Tryd.ntmps74
    go_wp2
    go_loopw [17] (fun iv wr => ∃ k : Nat, k ≤ x.length ∧ iv = .int .i64 (k : Int) ∧ Hid (∀ j, j < k → x.getD j (0, 0) = y.getD j (0, 0)) ∧ Below w.heap.size w wr) (fun iv _ => x.length - (intOf iv).toNat)
    case atStart => exact ⟨0, Nat.zero_le _, rfl, Lib.hid (fun j hj => absurd hj (by omega)), Below.refl _ _⟩
    case round =>
      obtain ⟨k, hk, rfl, hall, hbl⟩ := hrel
      by_cases hlt : k < x.length
      · obtain ⟨b1, o1, rfl, hb1, c1, c2⟩ := (HA.out.below hbl) k hlt
        obtain ⟨b2, o2, rfl, hb2, d1, d2⟩ := (HB.out.below hbl) k (by omega)
        have hk1 : (k : Int) < x.length := by omega
        have hk2 : (k : Int) < y.length := by omega
        have hk0 : (0 : Int) ≤ k := by omega
        have hne := sgS_no (a := x) (b := y) (k := k)
        have d1' := fun o => (World.cell?_alloc_lt wr o (⟨b2, o2 + k * 2, none⟩ : Addr) hb2).trans d1
        have d2' := fun o => (World.cell?_alloc_lt wr o (⟨b2, o2 + k * 2 + 1, none⟩ : Addr) hb2).trans d2
        obtain ⟨v, u, hp⟩ : ∃ v u, x.getD k (0, 0) = (v, u) := ⟨_, _, rfl⟩
        obtain ⟨v', u', hq⟩ : ∃ v u, y.getD k (0, 0) = (v, u) := ⟨_, _, rfl⟩
        rw [hp] at c1 c2; rw [hq] at d1' d2'
        rw [hp, hq] at hne
        have S := fun w => same1_any v u v' u' w
        have hbb := fun o1 o2 => (hbl.alloc hbl.size o1).alloc (by have := hbl.size; simp; omega) o2
        cases he : decide ((v, u) = (v', u'))
        · rw [he] at S
          have HF : Hid (sgS x y = false) := Lib.hid (hne (by simpa using he))
          replace S := Lib.hid S
          clear hne he hp hq
          go_wp2_with (go_at_call 75; refine (S.out _).mono ?_; rintro e w1 ⟨rfl, hb3⟩)
          go_ret
          rw [HF.out]
          exact ⟨rfl, (hbb _ _).trans (hb3.mono (hbb _ _).size)⟩
        · rw [he] at S
          have HF : Hid (∀ j, j < k + 1 → x.getD j (0, 0) = y.getD j (0, 0)) := Lib.hid (by
            intro j hj
            rcases Nat.lt_succ_iff_lt_or_eq.1 hj with h | rfl
            · exact hall.out j h
            · rw [hp, hq]; simpa using he)
          replace S := Lib.hid S
          clear hne he hp hq
          go_wp2_with (go_at_call 75; refine (S.out _).mono ?_; rintro e w1 ⟨rfl, hb3⟩)
          go_roundw
          case rel => exact ⟨k + 1, by omega, by go_num, HF, (hbb _ _).trans (hb3.mono (hbb _ _).size)⟩
          case measure => simp [intOf]; omega
      · obtain rfl : k = x.length := by omega
        have HF : Hid (sgS x y = true) := Lib.hid (sgS_yes Hl.out hall.out)
        go_wp2
        go_ret
        rw [HF.out]
        exact ⟨rfl, hbl⟩
  · have hln : ((x.length : Int) != (y.length : Int)) = true := by rw [bne_iff_ne]; omega
    have HF : Hid (sgS x y = false) := Lib.hid (sgS_len hl)
    go_enter Tryd.func74, Tryd.ntmps74
    go_wp2
    go_ret
    rw [HF.out]
    exact ⟨rfl, Below.refl _ _⟩
theorem ssame_any (x y : List (Int × Int)) (a b : Option Addr) (c d : Nat) (w : World) (hx : x.length ≤ 9223372036854775807) (hy : y.length ≤ 9223372036854775807) (ha : Signs w a x) (hb : Signs w b y) :
    Calls Tryd.prog 58 #[.slice a x.length c, .slice b y.length d] w fun e w' => e = .returned (.bool (sgS x y)) ∧ Below w.heap.size w w' := by
  have E := Lib.hid (equal_any x y a b c d w hx hy ha hb)
  clear ha hb
  go_enter Tryd.func58, Tryd.ntmps58
  go_wp2_with (go_at_call 74; refine E.out.mono ?_; rintro e w1 ⟨rfl, hb1⟩)
  go_ret
  exact ⟨rfl, hb1⟩
/-- Do the values of part stand at a place? -/
def atM (l part : List (Int × Int)) (at_ : Int) : Bool := (List.range part.length).all fun i => (l.getD (at_.toNat + i) (0, 0)).1 == (part.getD i (0, 0)).1
theorem atM_no {l part : List (Int × Int)} {at_ : Int} {k : Nat} (hk : k < part.length) (h : ((l.getD (at_.toNat + k) (0, 0)).1 != (part.getD k (0, 0)).1) = true) : atM l part at_ = false := by
  unfold atM; rw [List.all_eq_false]; exact ⟨k, by simpa using hk, by simpa using h⟩
theorem atM_yes {l part : List (Int × Int)} {at_ : Int} (h : ∀ j, j < part.length → ((l.getD (at_.toNat + j) (0, 0)).1 != (part.getD j (0, 0)).1) = false) : atM l part at_ = true := by
  unfold atM; rw [List.all_eq_true]; intro j hj
  have := h j (by simpa using hj)
  simpa using this
/-- A closure's two blocks. -/
structure Fin2 (w : World) (p q : Nat) (a b : Option Addr) (l part : List (Int × Int)) (c d : Nat) : Prop where
  cp : w.cell? ⟨p, 0, none⟩ = some (.slice b part.length d)
  cq : w.cell? ⟨q, 0, none⟩ = some (.slice a l.length c)
  s : Signs w a l
  t : Signs w b part
  pl : p < w.heap.size
  ql : q < w.heap.size
theorem Fin2.below {w w' : World} {p q : Nat} {a b : Option Addr} {l part : List (Int × Int)} {c d : Nat} (h : Fin2 w p q a b l part c d) (hb : Below w.heap.size w w') : Fin2 w' p q a b l part c d :=
  ⟨(hb.cell (p := ⟨p, 0, none⟩) h.pl).trans h.cp, (hb.cell (p := ⟨q, 0, none⟩) h.ql).trans h.cq, h.s.below hb, h.t.below hb, Nat.lt_of_lt_of_le h.pl hb.size, Nat.lt_of_lt_of_le h.ql hb.size⟩
set_option maxRecDepth 100000 in
set_option maxHeartbeats 1000000 in
theorem finder1_any (m : Nat) (p q : Nat) (a b : Option Addr) (l part : List (Int × Int)) (c d : Nat) (w : World) (hl : l.length ≤ 1000000000000000000) (hm : m + part.length ≤ l.length) (hK : Fin2 w p q a b l part c d) :
    Calls Tryd.prog 79 #[.int .i64 (m : Int), .pointer (some ⟨p, 0, none⟩), .pointer (some ⟨q, 0, none⟩)] w fun e w' => e = .returned (.bool (atM l part m)) ∧ Below w.heap.size w w' := by
  have hp := hK.cp
  have HK := Lib.hid hK; clear hK
  go_enter Tryd.func79, Tryd.ntmps79
  go_wp2
  go_loopw [9] (fun iv wr => ∃ k : Nat, k ≤ part.length ∧ iv = .int .i64 (k : Int) ∧ Hid (∀ j, j < k → ((l.getD ((m : Int).toNat + j) (0, 0)).1 != (part.getD j (0, 0)).1) = false) ∧ Below w.heap.size w wr) (fun iv _ => part.length - (intOf iv).toNat)
  case atStart => exact ⟨0, Nat.zero_le _, rfl, Lib.hid (fun j hj => absurd hj (by omega)), Below.refl _ _⟩
  case round =>
    obtain ⟨k, hk, rfl, hall, hbl⟩ := hrel
    by_cases hlt : k < part.length
    · have hK := HK.out.below hbl
      obtain ⟨b1, o1, rfl, hb1, c1, c2⟩ := hK.s (m + k) (by omega)
      obtain ⟨b2, o2, rfl, hb2, d1, d2⟩ := hK.t k hlt
      have hq := hK.cq
      have hql := hK.ql
      have hk1 : (k : Int) < part.length := by omega
      have hk0 : (0 : Int) ≤ (m : Int) + (k : Int) := by omega
      have hk2 : (m : Int) + (k : Int) < l.length := by omega
      have hno := atM_no (l := l) (at_ := (m : Int)) hlt
      rw [Int.toNat_natCast] at hno
      obtain ⟨v, u, hpp⟩ : ∃ v u, part.getD k (0, 0) = (v, u) := ⟨_, _, rfl⟩
      obtain ⟨v', u', hqq⟩ : ∃ v u, l.getD (m + k) (0, 0) = (v, u) := ⟨_, _, rfl⟩
      rw [hpp] at d1 d2; rw [hqq] at c1
      rw [hpp, hqq] at hno
      have c1' := fun o => (World.cell?_alloc_lt wr o (⟨b1, o1 + (m + k) * 2, none⟩ : Addr) hb1).trans c1
      have hq' := fun o => (World.cell?_alloc_lt wr o (⟨q, 0, none⟩ : Addr) hql).trans hq
      have hbb := fun o1 => hbl.alloc hbl.size o1
      clear c1 c2 hq hK
      cases he : (v' != v)
      · have HF : Hid (∀ j, j < k + 1 → ((l.getD ((m : Int).toNat + j) (0, 0)).1 != (part.getD j (0, 0)).1) = false) := Lib.hid (by
          intro j hj
          rcases Nat.lt_succ_iff_lt_or_eq.1 hj with h | rfl
          · exact hall.out j h
          · rw [Int.toNat_natCast, hpp, hqq]; exact he)
        clear hno hpp hqq
        go_wp2
        go_quiet (fail)
        go_wp2
        go_roundw
        case rel => exact ⟨k + 1, by omega, by go_num, HF, drewN_below (hbb _) _⟩
        case measure => simp [intOf]; omega
      · have HF : Hid (atM l part m = false) := Lib.hid (hno he)
        clear hno hpp hqq
        go_wp2
        go_quiet (fail)
        go_wp2
        go_ret
        rw [HF.out]
        exact ⟨rfl, drewN_below (hbb _) _⟩
    · obtain rfl : k = part.length := by omega
      have HF : Hid (atM l part m = true) := Lib.hid (atM_yes hall.out)
      go_wp2
      go_ret
      rw [HF.out]
      exact ⟨rfl, hbl⟩
end Go.Proofs.YtecffaidpiadoaaDoor
