/-
  Joined: Sg4 Ln1 Ki1 Ki2 Ki3 Ki4 Ki5.
-/
import Derived.Test.YtgpcflpeddnfcaaDoorJO02
import Derived.Test.YtgpcflpeddnfcaaDoorJO03
import Derived.Test.YtgpcflpeddnfcaaDoorJO04
import Derived.Lib.AppendZeros
import Derived.Lib.AppendZerosOnto
import Derived.Deep.Onto
import Derived.Deep.Cut
import Derived.Deep.CutRange
import Derived.Carry
import Derived.BigQuiet
import Derived.Deep.RegionHeld3
set_option linter.unusedVariables false
set_option linter.unusedSimpArgs false
set_option maxRecDepth 100000
set_option linter.unusedVariables false
set_option linter.unusedSimpArgs false
namespace Go.Proofs.YtgpcflpeddnfcaaDoor
open Go.RowKit
theorem sgS_len {a b : List (Int × Int)} (h : a.length ≠ b.length) : sgS a b = false := by
  unfold sgS; rw [decide_eq_false]; intro e; exact h (by rw [e])
theorem sgS_no {a b : List (Int × Int)} {k : Nat} (h : a.getD k (0, 0) ≠ b.getD k (0, 0)) : sgS a b = false := by
  unfold sgS; rw [decide_eq_false]; intro e; exact h (by rw [e])
theorem sgS_yes {a b : List (Int × Int)} (hl : a.length = b.length) (h : ∀ j, j < a.length → a.getD j (0, 0) = b.getD j (0, 0)) : sgS a b = true := by
  unfold sgS; rw [decide_eq_true]
  apply List.ext_getElem hl
  intro j h1 h2
  have := h j h1
  rwa [List.getD, List.getD, List.getElem?_eq_getElem h1, List.getElem?_eq_getElem h2] at this
set_option maxRecDepth 100000 in
set_option maxHeartbeats 1000000 in
theorem equal_any (x y : List (Int × Int)) (a b : Option Addr) (c d : Nat) (w : World) (hx : x.length ≤ 9223372036854775807) (hy : y.length ≤ 9223372036854775807) (ha : Signs w a x) (hb : Signs w b y) :
    Calls Tryd.prog 156 #[.slice a x.length c, .slice b y.length d, .func (.func 157) #[] #[]] w fun e w' => e = .returned (.bool (sgS x y)) ∧ Below w.heap.size w w' := by
  have HA := Lib.hid ha; have HB := Lib.hid hb; clear ha hb
  by_cases hl : x.length = y.length
  · have hln : ((x.length : Int) != (y.length : Int)) = false := by rw [hl]; simp
    have hyl : y.length ≤ x.length ∧ x.length ≤ y.length := by omega
    have Hl := Lib.hid hl; clear hl
    go_enter Tryd.func156, Tryd.ntmps156
    go_wp2
    go_loopw [17] (fun iv wr => ∃ k : Nat, k ≤ x.length ∧ iv = .int .i64 (k : Int) ∧ Hid (∀ j, j < k → x.getD j (0, 0) = y.getD j (0, 0)) ∧ Below w.heap.size w wr) (fun iv _ => x.length - (intOf iv).toNat)
    case atStart => exact ⟨0, Nat.zero_le _, rfl, Lib.hid (fun j hj => absurd hj (by omega)), Below.refl _ _⟩
    case round =>
      obtain ⟨k, hk, rfl, hall, hbl⟩ := hrel
      by_cases hlt : k < x.length
      · obtain ⟨b1, o1, rfl, hb1, c1, c2⟩ := (HA.out.below hbl) k hlt
        obtain ⟨b2, o2, rfl, hb2, d1, d2⟩ := (HB.out.below hbl) k (by omega)
        have hk1 : (k : Int) < x.length := by omega
        have hk2 : (k : Int) < y.length := by omega
        have hk0 : (0 : Int) ≤ k := by omega
        have hne := sgS_no (a := x) (b := y) (k := k)
        have d1' := fun o => (World.cell?_alloc_lt wr o (⟨b2, o2 + k * 2, none⟩ : Addr) hb2).trans d1
        have d2' := fun o => (World.cell?_alloc_lt wr o (⟨b2, o2 + k * 2 + 1, none⟩ : Addr) hb2).trans d2
        obtain ⟨v, u, hp⟩ : ∃ v u, x.getD k (0, 0) = (v, u) := ⟨_, _, rfl⟩
        obtain ⟨v', u', hq⟩ : ∃ v u, y.getD k (0, 0) = (v, u) := ⟨_, _, rfl⟩
        rw [hp] at c1 c2; rw [hq] at d1' d2'
        rw [hp, hq] at hne
        have S := fun w => same1_any v u v' u' w
        have hbb := fun o1 o2 => (hbl.alloc hbl.size o1).alloc (by have := hbl.size; simp; omega) o2
        cases he : decide ((v, u) = (v', u'))
        · rw [he] at S
          have HF : Hid (sgS x y = false) := Lib.hid (hne (by simpa using he))
          replace S := Lib.hid S
          clear hne he hp hq
          go_wp2_with (go_at_call 157; refine (S.out _).mono ?_; rintro e w1 ⟨rfl, hb3⟩)
          go_ret
          rw [HF.out]
          exact ⟨rfl, (hbb _ _).trans (hb3.mono (hbb _ _).size)⟩
        · rw [he] at S
          have HF : Hid (∀ j, j < k + 1 → x.getD j (0, 0) = y.getD j (0, 0)) := Lib.hid (by
            intro j hj
            rcases Nat.lt_succ_iff_lt_or_eq.1 hj with h | rfl
            · exact hall.out j h
            · rw [hp, hq]; simpa using he)
          replace S := Lib.hid S
          clear hne he hp hq
          go_wp2_with (go_at_call 157; refine (S.out _).mono ?_; rintro e w1 ⟨rfl, hb3⟩)
          go_roundw
          case rel => exact ⟨k + 1, by omega, by go_num, HF, (hbb _ _).trans (hb3.mono (hbb _ _).size)⟩
          case measure => simp [intOf]; omega
      · obtain rfl : k = x.length := by omega
        have HF : Hid (sgS x y = true) := Lib.hid (sgS_yes Hl.out hall.out)
        go_wp2
        go_ret
        rw [HF.out]
        exact ⟨rfl, hbl⟩
  · have hln : ((x.length : Int) != (y.length : Int)) = true := by rw [bne_iff_ne]; omega
    have HF : Hid (sgS x y = false) := Lib.hid (sgS_len hl)
    go_enter Tryd.func156, Tryd.ntmps156
    go_wp2
    go_ret
    rw [HF.out]
    exact ⟨rfl, Below.refl _ _⟩
theorem ssame_any (x y : List (Int × Int)) (a b : Option Addr) (c d : Nat) (w : World) (hx : x.length ≤ 9223372036854775807) (hy : y.length ≤ 9223372036854775807) (ha : Signs w a x) (hb : Signs w b y) :
    Calls Tryd.prog 113 #[.slice a x.length c, .slice b y.length d] w fun e w' => e = .returned (.bool (sgS x y)) ∧ Below w.heap.size w w' := by
  have E := Lib.hid (equal_any x y a b c d w hx hy ha hb)
  clear ha hb
  go_enter Tryd.func113, Tryd.ntmps113
  go_wp2_with (go_at_call 156; refine E.out.mono ?_; rintro e w1 ⟨rfl, hb1⟩)
  go_ret
  exact ⟨rfl, hb1⟩
/-- Do the values of part stand at a place? -/
def atM (l part : List (Int × Int)) (at_ : Int) : Bool := (List.range part.length).all fun i => (l.getD (at_.toNat + i) (0, 0)).1 == (part.getD i (0, 0)).1
theorem atM_no {l part : List (Int × Int)} {at_ : Int} {k : Nat} (hk : k < part.length) (h : ((l.getD (at_.toNat + k) (0, 0)).1 != (part.getD k (0, 0)).1) = true) : atM l part at_ = false := by
  unfold atM; rw [List.all_eq_false]; exact ⟨k, by simpa using hk, by simpa using h⟩
theorem atM_yes {l part : List (Int × Int)} {at_ : Int} (h : ∀ j, j < part.length → ((l.getD (at_.toNat + j) (0, 0)).1 != (part.getD j (0, 0)).1) = false) : atM l part at_ = true := by
  unfold atM; rw [List.all_eq_true]; intro j hj
  have := h j (by simpa using hj)
  simpa using this
/-- A closure's two blocks. -/
structure Fin2 (w : World) (p q : Nat) (a b : Option Addr) (l part : List (Int × Int)) (c d : Nat) : Prop where
  cp : w.cell? ⟨p, 0, none⟩ = some (.slice b part.length d)
  cq : w.cell? ⟨q, 0, none⟩ = some (.slice a l.length c)
  s : Signs w a l
  t : Signs w b part
  pl : p < w.heap.size
  ql : q < w.heap.size
theorem Fin2.below {w w' : World} {p q : Nat} {a b : Option Addr} {l part : List (Int × Int)} {c d : Nat} (h : Fin2 w p q a b l part c d) (hb : Below w.heap.size w w') : Fin2 w' p q a b l part c d :=
  ⟨(hb.cell (p := ⟨p, 0, none⟩) h.pl).trans h.cp, (hb.cell (p := ⟨q, 0, none⟩) h.ql).trans h.cq, h.s.below hb, h.t.below hb, Nat.lt_of_lt_of_le h.pl hb.size, Nat.lt_of_lt_of_le h.ql hb.size⟩
set_option maxRecDepth 100000 in
set_option maxHeartbeats 1000000 in
theorem finder1_any (m : Nat) (p q : Nat) (a b : Option Addr) (l part : List (Int × Int)) (c d : Nat) (w : World) (hl : l.length ≤ 1000000000000000000) (hm : m + part.length ≤ l.length) (hK : Fin2 w p q a b l part c d) :
    Calls Tryd.prog 204 #[.int .i64 (m : Int), .pointer (some ⟨p, 0, none⟩), .pointer (some ⟨q, 0, none⟩)] w fun e w' => e = .returned (.bool (atM l part m)) ∧ Below w.heap.size w w' := by
  have hp := hK.cp
  have HK := Lib.hid hK; clear hK
  go_enter Tryd.func204, Tryd.ntmps204
  go_wp2
  go_loopw [9] (fun iv wr => ∃ k : Nat, k ≤ part.length ∧ iv = .int .i64 (k : Int) ∧ Hid (∀ j, j < k → ((l.getD ((m : Int).toNat + j) (0, 0)).1 != (part.getD j (0, 0)).1) = false) ∧ Below w.heap.size w wr) (fun iv _ => part.length - (intOf iv).toNat)
  case atStart => exact ⟨0, Nat.zero_le _, rfl, Lib.hid (fun j hj => absurd hj (by omega)), Below.refl _ _⟩
  case round =>
    obtain ⟨k, hk, rfl, hall, hbl⟩ := hrel
    by_cases hlt : k < part.length
    · have hK := HK.out.below hbl
      obtain ⟨b1, o1, rfl, hb1, c1, c2⟩ := hK.s (m + k) (by omega)
      obtain ⟨b2, o2, rfl, hb2, d1, d2⟩ := hK.t k hlt
      have hq := hK.cq
      have hql := hK.ql
      have hk1 : (k : Int) < part.length := by omega
      have hk0 : (0 : Int) ≤ (m : Int) + (k : Int) := by omega
      have hk2 : (m : Int) + (k : Int) < l.length := by omega
      have hno := atM_no (l := l) (at_ := (m : Int)) hlt
      rw [Int.toNat_natCast] at hno
      obtain ⟨v, u, hpp⟩ : ∃ v u, part.getD k (0, 0) = (v, u) := ⟨_, _, rfl⟩
      obtain ⟨v', u', hqq⟩ : ∃ v u, l.getD (m + k) (0, 0) = (v, u) := ⟨_, _, rfl⟩
      rw [hpp] at d1 d2; rw [hqq] at c1
      rw [hpp, hqq] at hno
      have c1' := fun o => (World.cell?_alloc_lt wr o (⟨b1, o1 + (m + k) * 2, none⟩ : Addr) hb1).trans c1
      have hq' := fun o => (World.cell?_alloc_lt wr o (⟨q, 0, none⟩ : Addr) hql).trans hq
      have hbb := fun o1 => hbl.alloc hbl.size o1
      clear c1 c2 hq hK
      cases he : (v' != v)
      · have HF : Hid (∀ j, j < k + 1 → ((l.getD ((m : Int).toNat + j) (0, 0)).1 != (part.getD j (0, 0)).1) = false) := Lib.hid (by
          intro j hj
          rcases Nat.lt_succ_iff_lt_or_eq.1 hj with h | rfl
          · exact hall.out j h
          · rw [Int.toNat_natCast, hpp, hqq]; exact he)
        clear hno hpp hqq
        go_wp2
        go_quiet (fail)
        go_wp2
        go_roundw
        case rel => exact ⟨k + 1, by omega, by go_num, HF, drewN_below (hbb _) _⟩
        case measure => simp [intOf]; omega
      · have HF : Hid (atM l part m = false) := Lib.hid (hno he)
        clear hno hpp hqq
        go_wp2
        go_quiet (fail)
        go_wp2
        go_ret
        rw [HF.out]
        exact ⟨rfl, drewN_below (hbb _) _⟩
    · obtain rfl : k = part.length := by omega
      have HF : Hid (atM l part m = true) := Lib.hid (atM_yes hall.out)
      go_wp2
      go_ret
      rw [HF.out]
      exact ⟨rfl, hbl⟩
end Go.Proofs.YtgpcflpeddnfcaaDoor
set_option linter.unusedVariables false
set_option linter.unusedSimpArgs false
namespace Go.Proofs.YtgpcflpeddnfcaaDoor
open Go.RowKit
theorem up_first {t : Int → Bool} {d : Int} : ∀ {f : Nat} {p k : Int}, p ≤ k → k < p + f → t k = true → (∀ j, p ≤ j → j < k → t j = false) → upF t d f p = k
  | 0, p, k, h1, h2, _, _ => by omega
  | f + 1, p, k, h1, h2, ht, hn => by
    by_cases e : p = k
    · subst e; exact up_hit (by omega) ht
    · rw [up_miss (by omega) (hn p (by omega) (by omega))]
      exact up_first (by omega) (by omega) ht (fun j hj1 hj2 => hn j (by omega) hj2)
theorem up_none {t : Int → Bool} {d : Int} : ∀ {f : Nat} {p : Int}, (∀ j, p ≤ j → j < p + f → t j = false) → upF t d f p = d
  | 0, p, _ => rfl
  | f + 1, p, hn => by
    rw [up_miss (by omega) (hn p (by omega) (by omega))]
    exact up_none (fun j hj1 hj2 => hn j (by omega) (by omega))
theorem dn_first {t : Int → Bool} {d : Int} : ∀ {f : Nat} {p k : Int}, k ≤ p → p - f < k → t k = true → (∀ j, k < j → j ≤ p → t j = false) → dnF t d f p = k
  | 0, p, k, h1, h2, _, _ => by omega
  | f + 1, p, k, h1, h2, ht, hn => by
    by_cases e : p = k
    · subst e; exact dn_hit (by omega) ht
    · rw [dn_miss (by omega) (hn p (by omega) (by omega))]
      exact dn_first (by omega) (by omega) ht (fun j hj1 hj2 => hn j hj1 (by omega))
theorem dn_none {t : Int → Bool} {d : Int} : ∀ {f : Nat} {p : Int}, (∀ j, p - f < j → j ≤ p → t j = false) → dnF t d f p = d
  | 0, p, _ => rfl
  | f + 1, p, hn => by
    rw [dn_miss (by omega) (hn p (by omega) (by omega))]
    exact dn_none (fun j hj1 hj2 => hn j (by omega) (by omega))
/-- The document's kind at a place; 9: none. -/
def kRf (l : List (Int × Int)) (i : Int) : Int := if i < 0 ∨ (l.length : Int) ≤ i then 9 else knd (l.getD i.toNat (0, 0)).1
theorem kRf_one (l : List (Int × Int)) (i : Int) : (kRf l i == 1) = (kAt l false i == 1) := by
  unfold kRf kAt
  split
  · rfl
  · rfl
theorem kRf_ne (l : List (Int × Int)) (i : Int) : (kRf l i != 1) = (kAt l false i != 1) := by
  unfold kRf kAt
  split
  · rfl
  · rfl
theorem tNext_eq (l : List (Int × Int)) (p : Int) : tNext l p = (kRf l (p - 1) == 1 && kRf l p != 1) := by unfold tNext; rw [kRf_one, kRf_ne]
theorem tBack_eq (l : List (Int × Int)) (p : Int) : tBack l p = (kRf l p == 1 && kRf l (p - 1) != 1) := by unfold tBack; rw [kRf_one, kRf_ne]
theorem next_is {l : List (Int × Int)} {i : Int} {m k : Nat} (hm : plc l.length i = m) (h1 : m < k) (h2 : k < l.length) (ht : tNext l k = true) (hn : ∀ j : Nat, m < j → j < k → tNext l j = false) : nextM l i = k := by
  unfold nextM
  rw [hm, Int.toNat_natCast]
  refine up_first (by omega) (by omega) ht (fun j hj1 hj2 => ?_)
  obtain ⟨q, rfl⟩ := Int.eq_ofNat_of_zero_le (show 0 ≤ j by omega)
  exact hn q (by omega) (by omega)
theorem next_end {l : List (Int × Int)} {i : Int} {m : Nat} (hm : plc l.length i = m) (hn : ∀ j : Nat, m < j → j < l.length → tNext l j = false) : nextM l i = l.length := by
  unfold nextM
  rw [hm, Int.toNat_natCast]
  refine up_none (fun j hj1 hj2 => ?_)
  obtain ⟨q, rfl⟩ := Int.eq_ofNat_of_zero_le (show 0 ≤ j by omega)
  exact hn q (by omega) (by omega)
theorem back_is {l : List (Int × Int)} {i : Int} {m k : Nat} (hm : plc l.length i = m) (h1 : k < m) (h2 : 0 < k) (ht : tBack l k = true) (hn : ∀ j : Nat, k < j → j < m → tBack l j = false) : backM l i = k := by
  unfold backM
  rw [hm, Int.toNat_natCast]
  refine dn_first (by omega) (by omega) ht (fun j hj1 hj2 => ?_)
  obtain ⟨q, rfl⟩ := Int.eq_ofNat_of_zero_le (show 0 ≤ j by omega)
  exact hn q (by omega) (by omega)
theorem back_end {l : List (Int × Int)} {i : Int} {m : Nat} (hm : plc l.length i = m) (hn : ∀ j : Nat, 0 < j → j < m → tBack l j = false) : backM l i = 0 := by
  unfold backM
  rw [hm, Int.toNat_natCast]
  refine dn_none (fun j hj1 hj2 => ?_)
  obtain ⟨q, rfl⟩ := Int.eq_ofNat_of_zero_le (show 0 ≤ j by omega)
  exact hn q (by omega) (by omega)
theorem next_rng (l : List (Int × Int)) (i : Int) : plc l.length i ≤ nextM l i ∧ nextM l i ≤ l.length ∧ (plc l.length i < l.length → plc l.length i < nextM l i) := by
  obtain ⟨m, hm, hml⟩ := plc_cases l.length i
  rw [hm]
  by_cases h : ∃ k : Nat, m < k ∧ k < l.length ∧ tNext l k = true
  · obtain ⟨k, hk1, hk2, hk3⟩ := h
    have key : ∀ f k : Nat, k ≤ f → m < k → k < l.length → tNext l k = true → ∃ q : Nat, nextM l i = q ∧ m < q ∧ q ≤ l.length := by
      intro f
      induction f with
      | zero => intro k h1 h2; omega
      | succ f ih =>
        intro k h1 h2 h3 h4
        by_cases hh : ∃ j : Nat, m < j ∧ j < k ∧ tNext l j = true
        · obtain ⟨j, j1, j2, j3⟩ := hh
          exact ih j (by omega) j1 (by omega) j3
        · refine ⟨k, next_is hm h2 h3 h4 (fun j j1 j2 => ?_), h2, by omega⟩
          cases hc : tNext l j with
          | false => rfl
          | true => exact absurd ⟨j, j1, j2, hc⟩ hh
    obtain ⟨q, h1, h2, h3⟩ := key k k (Nat.le_refl _) hk1 hk2 hk3
    rw [h1]; omega
  · rw [next_end hm (fun j j1 j2 => by
      cases hc : tNext l j with
      | false => rfl
      | true => exact absurd ⟨j, j1, j2, hc⟩ h)]
    omega
theorem back_rng (l : List (Int × Int)) (i : Int) : 0 ≤ backM l i ∧ backM l i ≤ plc l.length i := by
  obtain ⟨m, hm, hml⟩ := plc_cases l.length i
  rw [hm]
  by_cases h : ∃ k : Nat, 0 < k ∧ k < m ∧ tBack l k = true
  · obtain ⟨k, hk1, hk2, hk3⟩ := h
    have key : ∀ f k : Nat, m - k ≤ f → 0 < k → k < m → tBack l k = true → ∃ q : Nat, backM l i = q ∧ q ≤ m := by
      intro f
      induction f with
      | zero => intro k h1 h2; omega
      | succ f ih =>
        intro k h1 h2 h3 h4
        by_cases hh : ∃ j : Nat, k < j ∧ j < m ∧ tBack l j = true
        · obtain ⟨j, j1, j2, j3⟩ := hh
          exact ih j (by omega) (by omega) j2 j3
        · refine ⟨k, back_is hm h3 h2 h4 (fun j j1 j2 => ?_), by omega⟩
          cases hc : tBack l j with
          | false => rfl
          | true => exact absurd ⟨j, j1, j2, hc⟩ hh
    obtain ⟨q, h1, h2⟩ := key (m - k) k (Nat.le_refl _) hk1 hk2 hk3
    rw [h1]; omega
  · rw [back_end hm (fun j j1 j2 => by
      cases hc : tBack l j with
      | false => rfl
      | true => exact absurd ⟨j, j1, j2, hc⟩ h)]
    omega
end Go.Proofs.YtgpcflpeddnfcaaDoor
set_option linter.unusedVariables false
set_option linter.unusedSimpArgs false
namespace Go.Proofs.YtgpcflpeddnfcaaDoor
open Go.RowKit
theorem OwS.mono {w : World} {B B' : Nat} {v : Value} {L : List (Int × Int)} (h : OwS w B v L) (hB : B' ≤ B) : OwS w B' v L := World.ownsRow.mono h hB
theorem ows_keep {w w' : World} {B : Nat} {v : Value} {L : List (Int × Int)} (h : OwS w B v L) (hb : Below w.heap.size w w') : OwS w' B v L := by
  refine World.ownsRow.kept h (row := none) ⟨hb.os, hb.tape, hb.output, hb.size, fun k hk _ => hb.block k hk⟩ ?_
  cases v.ownBlock <;> simp
theorem ows_nil (w : World) (B : Nat) : OwS w B (.slice none 0 0) [] := World.ownsRow_nil _ _ _ _
set_option maxHeartbeats 2000000 in
theorem clone_sg (l : List (Int × Int)) (a : Option Addr) (n c : Nat) (S : Nat → Prop) (w : World) (hn : l.length = n) (hl : n ≤ 100000) (hs : SlS S w a l c) :
    Calls Tryd.prog 65 #[.slice a n c] w fun e w' => ∃ b d, e = .returned (.slice b n d) ∧ OwS w' w.heap.size (.slice b n d) l ∧ Below w.heap.size w w' := by
  have q := fun (w : World) (a : Option Addr) (n c n' c' : Nat) => Lib.run_eql_slice_nil (P := Tryd.prog) w 28 70 a n c n' c' Tryd.underlying28
  cases a with
  | none =>
    have hc := hs.nl rfl
    have hl0 : l = [] := by
      cases l with
      | nil => rfl
      | cons x l => obtain ⟨_, _, e, _⟩ := hs.s 0 (by simp); cases e
    subst hl0
    obtain rfl : 0 = n := hn
    subst hc
    clear hs
    go_enter Tryd.func65, Tryd.ntmps65
    go_wp2
    go_ret
    exact ⟨none, 0, rfl, ows_nil _ _, Below.refl _ _⟩
  | some ad =>
    have N0 := below_alloc w (.cells #[] 70)
    have H0 := Lib.hid (ows_new w)
    have HA := Lib.hid (hs.below N0)
    have HN := Lib.hid hn
    have HB0 := Lib.hid N0
    clear hs hn N0
    obtain ⟨B, hB⟩ : ∃ B, w.heap.size = B := ⟨_, rfl⟩
    have HBq := Lib.hid hB
    rw [hB] at H0
    obtain ⟨W, hW⟩ : ∃ W, w.alloc (.cells #[] 70) = W := ⟨_, rfl⟩
    rw [hW] at H0 HA HB0
    go_enter Tryd.func65, Tryd.ntmps65
    go_wp2_with (at_builtin; refine wpList_app_signs rfl _ _ rfl B _ 0 [] rfl rfl H0.out (some ad) n c l rfl HN.out HA.out.s (fun e => (by cases e)) ?g3 ?g4 ?_)
    case g3 => omega
    case g4 => have := HB0.out.size; have := HBq.out; omega
    intro ad5 c5 w5 o5 g5
    have N5 := Lib.hid (HB0.out.grown g5 HB0.out.size (fun j hj => by simp [Value.ownBlock] at hj; have := HBq.out; omega))
    have HS := Lib.hid (show OwS w5 w.heap.size (.slice ad5 n c5) l by rw [HBq.out]; exact o5)
    clear o5 g5
    go_wp2
    go_ret
    exact ⟨ad5, c5, rfl, HS.out, N5.out⟩
set_option maxHeartbeats 2000000 in
theorem grow_sg (n : Nat) (w : World) (hn : 0 < n) (hl : n ≤ 100000) : Calls Tryd.prog 208 #[.slice none 0 0, .int .i64 (n : Int)] w fun e w' => ∃ b d, e = .returned (.slice b 0 d) ∧ OwS w' w.heap.size (.slice b 0 d) [] ∧ Below w.heap.size w w' := by
  obtain ⟨i0, hi, hz0, hz1, hz2⟩ := info_parts infoSign
  have h1 : ¬ ((n : Int) < 0) := by omega
  have h4 : (0 : Int) < (n : Int) := by omega
  obtain ⟨G, hG⟩ : ∃ G, grownCap w (0 + n) 0 70 = G := ⟨_, rfl⟩
  have hGn : 0 + n ≤ G := by rw [← hG]; exact grownCap_ge w _ _ _
  have hG63 : G ≤ maxLen := by rw [← hG]; exact grownCap_le_maxLen w (0 + n) 0 70 (by unfold maxLen; omega)
  obtain ⟨cs, hcs⟩ : ∃ cs, ([] : List Value).toArray ++ Builtin.zeroCells (Value.agg #[.int .i64 0, .int .i64 0]).cells n ++ Builtin.zeroCells (Value.agg #[.int .i64 0, .int .i64 0]).cells (grownCap w (0 + n) 0 70 - (0 + n)) = cs := ⟨_, rfl⟩
  have hsz : cs.size = G * 2 := by
    rw [← hcs, hG]
    simp only [Array.size_append, size_zeroCells, List.size_toArray, List.length_nil]
    have : (Value.agg #[.int .i64 0, .int .i64 0]).cells.size = 2 := rfl
    rw [this]
    omega
  have hrz : ∀ ty, (Builtin.append_ #[28, 3] ty #[.slice none 0 0, .int .i64 (n : Int)]).run Tryd.prog w = .ok (.slice (some ⟨w.heap.size, 0, none⟩) (0 + n) G) (w.drew.alloc (.cells cs 70)) := fun ty => by
    have h := Lib.run_append_grow_zeros (P := Tryd.prog) w 28 3 ty 70 i0 _ .i64 .i64 Tryd.underlying28 Tryd.underlying3 hi hz0 none 0 0 [] (run_firstCells_none w.drew i0.size 0 0 0) n hn (by omega) (by omega) (by omega) (by rw [hz2]; omega) (growslice_fits (by omega) (by rw [hz2]; omega))
    rw [hcs, hG] at h
    exact h
  have hnew := heap_alloc_new w.drew (.cells cs 70)
  have HB := Lib.hid ((Below.refl w.heap.size w).drew.trans (below_alloc w.drew (.cells cs 70)))
  have HO : Hid (OwS (w.drew.alloc (.cells cs 70)) w.heap.size (.slice (some ⟨w.heap.size, 0, none⟩) 0 G) []) := Lib.hid ⟨rfl, .inr ⟨w.heap.size, G, cs, rfl, Nat.le_refl _, hnew, Nat.zero_le _, hG63, hsz, rfl⟩⟩
  have hcut : ∀ w : World, (Instr.slice 28 (.slice (some ⟨w.heap.size, 0, none⟩) (0 + n) G) none (some (.int .i64 0)) none).run Tryd.prog w = .ok (.slice (some ⟨w.heap.size, 0, none⟩) 0 G) w := fun w => by
    have := run_cutH w (some ⟨w.heap.size, 0, none⟩) (0 + n) G 0 (by omega)
    rw [if_neg (by omega)] at this
    exact this
  clear hcs hsz hnew hG
  go_enter Tryd.func208, Tryd.ntmps208
  go_wp2_with (at_builtin; refine Lib.wpList_append_run _ rfl _ _ _ _ rfl _ _ rfl rfl _ _ (hrz _) ?_)
  all_goals (go_ret; exact ⟨_, _, rfl, HO.out, HB.out⟩)
set_option maxHeartbeats 4000000 in
theorem concat_sg (x y : List (Int × Int)) (A : Nat) (a1 a2 : Option Addr) (n1 n2 c1 c2 : Nat) (S : Nat → Prop) (w : World) (hA : w.heap[A]? = some (.cells #[.slice a1 n1 c1, .slice a2 n2 c2] 28 (0, 0))) (h1 : SlS S w a1 x c1) (h2 : SlS S w a2 y c2) (hx : x.length = n1) (hy : y.length = n2) (h0 : 0 < n1 + n2) (hl : n1 + n2 ≤ 100000) :
    Calls Tryd.prog 172 #[.slice (some ⟨A, 0, none⟩) 2 2] w fun e w' => ∃ b d, e = .returned (.slice b (n1 + n2) d) ∧ OwS w' w.heap.size (.slice b (n1 + n2) d) (x ++ y) ∧ Below w.heap.size w w' := by
  have yy := fun i => cell_of_row _ _ i _ _ _ hA
  have d0 := yy 0; have d1 := yy 1
  dsimp at d0 d1
  have HA := Lib.hid hA; have H1 := Lib.hid h1; have H2 := Lib.hid h2; have HX := Lib.hid hx; have HY := Lib.hid hy
  have GR := Lib.hid fun w => grow_sg (n1 + n2) w h0 hl
  clear yy hA h1 h2 hx hy
  go_enter Tryd.func172, Tryd.ntmps172
  go_wp2
  go_loopw [3, 11] (fun sv iv wr => w = wr ∧ ((sv = .int .i64 0 ∧ iv = .int .i64 0) ∨ (sv = .int .i64 (n1 : Int) ∧ iv = .int .i64 1) ∨ (sv = .int .i64 ((n1 + n2 : Nat) : Int) ∧ iv = .int .i64 2))) (fun _ iv _ => 2 - (intOf iv).toNat)
  case atStart => exact ⟨rfl, Or.inl ⟨rfl, rfl⟩⟩
  case round =>
    obtain ⟨rfl, ⟨rfl, rfl⟩ | ⟨rfl, rfl⟩ | ⟨rfl, rfl⟩⟩ := hrel
    · go_wp2
      go_roundw
      case rel => exact ⟨trivial, Or.inr (Or.inl ⟨rfl, rfl⟩)⟩
      case measure => simp [intOf]
    · go_wp2
      go_roundw
      case rel => exact ⟨trivial, Or.inr (Or.inr ⟨by simp, rfl⟩)⟩
      case measure => simp [intOf]
    · go_upto_region 11 with (go_at_call 208; refine (GR.out _).mono ?_; rintro e w1 ⟨b, d, rfl, ho, hb⟩; have O1 := Lib.hid ho; have B1 := Lib.hid hb; clear ho hb)
      go_loopw [6, 27] (fun sv iv wr => ∃ (b : Option Addr) (d : Nat), Hid (Below w.heap.size w wr) ∧ ((sv = .slice b 0 d ∧ iv = .int .i64 0 ∧ Hid (OwS wr w.heap.size (.slice b 0 d) [])) ∨ (sv = .slice b n1 d ∧ iv = .int .i64 1 ∧ Hid (OwS wr w.heap.size (.slice b n1 d) x)) ∨ (sv = .slice b (n1 + n2) d ∧ iv = .int .i64 2 ∧ Hid (OwS wr w.heap.size (.slice b (n1 + n2) d) (x ++ y))))) (fun _ iv _ => 2 - (intOf iv).toNat)
      case atStart => exact ⟨b, d, B1, Or.inl ⟨rfl, rfl, O1⟩⟩
      case round =>
        clear O1 B1
        obtain ⟨b, d, HB, ⟨rfl, rfl, HO⟩ | ⟨rfl, rfl, HO⟩ | ⟨rfl, rfl, HO⟩⟩ := hrel
        · have e0 := (HB.out.cell (p := ⟨A, 0, none⟩) (blk_lt HA.out)).trans d0
          have S1 := Lib.hid (H1.out.below HB.out)
          go_wp2_with (at_builtin; refine wpList_app_signs rfl _ _ rfl w.heap.size _ 0 [] rfl rfl HO.out a1 n1 c1 x rfl HX.out S1.out.s S1.out.nl ?g3 ?g4 ?_)
          case g3 => omega
          case g4 => exact HB.out.size
          intro ad5 c5 w5 o5 g5
          have N5 := Lib.hid (HB.out.grown g5 HB.out.size (fun j hj => (HO.out.lt j hj).1))
          have O5 := Lib.hid (show OwS w5 w.heap.size (.slice ad5 n1 c5) x by first | exact o5 | (rw [Nat.zero_add] at o5; exact o5))
          clear o5 g5
          go_wp2
          go_roundw
          case rel => exact ⟨ad5, c5, N5, Or.inr (Or.inl ⟨by first | rfl | simp, rfl, O5⟩)⟩
          case measure => simp [intOf]
        · have e1 := (HB.out.cell (p := ⟨A, 1, none⟩) (blk_lt HA.out)).trans d1
          have S2 := Lib.hid (H2.out.below HB.out)
          go_wp2_with (at_builtin; refine wpList_app_signs rfl _ _ rfl w.heap.size _ n1 x rfl HX.out HO.out a2 n2 c2 y rfl HY.out S2.out.s S2.out.nl ?g3 ?g4 ?_)
          case g3 => omega
          case g4 => exact HB.out.size
          intro ad5 c5 w5 o5 g5
          have N5 := Lib.hid (HB.out.grown g5 HB.out.size (fun j hj => (HO.out.lt j hj).1))
          have O5 := Lib.hid o5
          clear o5 g5
          go_wp2
          go_roundw
          case rel => exact ⟨ad5, c5, N5, Or.inr (Or.inr ⟨rfl, rfl, O5⟩)⟩
          case measure => simp [intOf]
        · go_wp2
          go_ret
          exact ⟨_, _, rfl, HO.out, HB.out⟩
end Go.Proofs.YtgpcflpeddnfcaaDoor
set_option linter.unusedVariables false
set_option linter.unusedSimpArgs false
namespace Go.Proofs.YtgpcflpeddnfcaaDoor
open Go.RowKit
abbrev Sg2 := Int × Int
/-- The blocks S stay as they are. -/
structure KeptK (S : Nat → Prop) (w w' : World) : Prop where
  os : w'.os = w.os
  tape : w'.tape = w.tape
  output : w'.output = w.output
  size : w.heap.size ≤ w'.heap.size
  block : ∀ k, S k → w'.heap[k]? = w.heap[k]?
theorem KeptK.trans {S : Nat → Prop} {w w1 w2 : World} (h : KeptK S w w1) (k : KeptK S w1 w2) : KeptK S w w2 :=
  ⟨k.os.trans h.os, k.tape.trans h.tape, k.output.trans h.output, Nat.le_trans h.size k.size, fun j hj => (k.block j hj).trans (h.block j hj)⟩
theorem KeptK.below {S : Nat → Prop} {w w' : World} (h : KeptK S w w') (B : Nat) (hS : ∀ k, k < B → S k) : Below B w w' :=
  ⟨h.os, h.tape, h.output, h.size, fun k hk => h.block k (hS k hk)⟩
theorem KeptK.of {S : Nat → Prop} {w w' : World} (h : Below w.heap.size w w') (hS : ∀ k, S k → k < w.heap.size) : KeptK S w w' := ⟨h.os, h.tape, h.output, h.size, fun k hk => h.block k (hS k hk)⟩
/-- The ring's texts. -/
def RiT (w : World) (P b : Nat) (T : List (List Sg2)) (vs : List SlV) : Prop := vs.length = T.length ∧ ∀ j, j < T.length → (vs.getD j sl0).2.1 = (T.getD j []).length ∧ SlS (fun k => k < w.heap.size ∧ k ≠ P ∧ k ≠ b) w (vs.getD j sl0).1 (T.getD j []) (vs.getD j sl0).2.2
theorem RiT.keep {w w' : World} {P b : Nat} {T : List (List Sg2)} {vs : List SlV} (h : RiT w P b T vs) (hs : w.heap.size ≤ w'.heap.size) (hk : ∀ k, k < w.heap.size → k ≠ P → k ≠ b → w'.heap[k]? = w.heap[k]?) : RiT w' P b T vs :=
  ⟨h.1, fun j hj => ⟨(h.2 j hj).1, ((h.2 j hj).2.keep hs (fun k hk' => hk k hk'.1 hk'.2.1 hk'.2.2)).mono (fun k hk' => ⟨Nat.lt_of_lt_of_le hk'.1 hs, hk'.2⟩)⟩⟩
section
variable {S : Nat → Prop} {P : Nat} {M o : Int} {T : List (List Sg2)} {h : Nat} {w w' : World}
theorem kept_setK {S : Nat → Prop} {P : Nat} {w : World} (hP : ∀ k, S k → k ≠ P) (i : Nat) (v : Value) : KeptK S w (w.setCell ⟨P, i, none⟩ v) :=
  ⟨rfl, rfl, rfl, by simp [World.setCell], fun k hk => Below.heap_setCell _ _ _ _ (hP k hk)⟩
/-- Where a turned hand is. -/
def tuH (h n : Nat) : Nat := if h = 0 then n - 1 else h - 1
end
end Go.Proofs.YtgpcflpeddnfcaaDoor
set_option linter.unusedVariables false
set_option linter.unusedSimpArgs false
namespace Go.Proofs.YtgpcflpeddnfcaaDoor
open Go.RowKit
/-- Lists of signs lie in memory, each with its room. -/
def SgsK (S : Nat → Prop) (w : World) (a : Option Addr) (H : List (List Sg2)) : Prop :=
  ∀ i, i < H.length → ∃ b off ai ci, a = some ⟨b, off, none⟩ ∧ S b ∧ b < w.heap.size ∧ w.cell? ⟨b, off + i, none⟩ = some (.slice ai (H.getD i []).length ci) ∧ SlS S w ai (H.getD i []) ci
theorem SgsK.below {S : Nat → Prop} {w w' : World} {a : Option Addr} {H : List (List Sg2)} (s : SgsK S w a H) (hb : Below w.heap.size w w') : SgsK S w' a H := fun i hi => by
  obtain ⟨b, off, ai, ci, e, hS, hlt, h1, h2⟩ := s i hi
  exact ⟨b, off, ai, ci, e, hS, Nat.lt_of_lt_of_le hlt hb.size, (hb.cell (p := ⟨b, off + i, none⟩) hlt).trans h1, h2.below hb⟩
theorem SgsK.mono {S Q : Nat → Prop} {w : World} {a : Option Addr} {H : List (List Sg2)} (s : SgsK S w a H) (hQ : ∀ k, S k → Q k) : SgsK Q w a H := fun i hi => by
  obtain ⟨b, off, ai, ci, e, hS, hlt, h1, h2⟩ := s i hi
  exact ⟨b, off, ai, ci, e, hQ b hS, hlt, h1, h2.mono hQ⟩
theorem SgsK.keep {S : Nat → Prop} {w w' : World} {a : Option Addr} {H : List (List Sg2)} (s : SgsK S w a H) (hz : w.heap.size ≤ w'.heap.size) (hk : ∀ k, S k → w'.heap[k]? = w.heap[k]?) : SgsK S w' a H := fun i hi => by
  obtain ⟨b, off, ai, ci, e, hS, hlt, h1, h2⟩ := s i hi
  refine ⟨b, off, ai, ci, e, hS, Nat.lt_of_lt_of_le hlt hz, ?_, h2.keep hz hk⟩
  rw [← h1]; unfold World.cell?; rw [hk b hS]
/-- Lists under way: a row of slices, each of the call's own. -/
structure RdK (B : Nat) (v : Value) (E : List (List Sg2)) (w : World) : Prop where
  ex : ∃ vs : List Value, w.ownsRow B 28 1 v E.length vs ∧ ∀ i, i < E.length → ∃ x, vs[i]? = some x ∧ OwS w B x (E.getD i [])
  le : B ≤ w.heap.size
theorem RdK.below {B : Nat} {v : Value} {E : List (List Sg2)} {w w' : World} (h : RdK B v E w) (hb : Below w.heap.size w w') : RdK B v E w' := by
  obtain ⟨vs, h1, h2⟩ := h.ex
  refine ⟨⟨vs, World.ownsRow.kept h1 (row := none) ⟨hb.os, hb.tape, hb.output, hb.size, fun k hk _ => hb.block k hk⟩ (by cases v.ownBlock <;> simp), fun i hi => by obtain ⟨x, e, hx⟩ := h2 i hi; exact ⟨x, e, ows_keep hx hb⟩⟩, Nat.le_trans h.le hb.size⟩
theorem infoSl : (Tryd.prog.info? 28).map (fun i => (i.zero, i.size, i.bytes)) = some (some (.slice none 0 0), 1, 24) := by kernel_rfl
theorem RdK.form {B : Nat} {v : Value} {E : List (List Sg2)} {w : World} (h : RdK B v E w) : ∃ a c, v = .slice a E.length c := by
  obtain ⟨vs, h1, _⟩ := h.ex
  rcases h1.2 with ⟨rfl, h0⟩ | ⟨g, cap, cur, rfl, _⟩
  · exact ⟨none, 0, by rw [h0]⟩
  · exact ⟨_, cap, rfl⟩
theorem RdK.sgs {B : Nat} {v : Value} {E : List (List Sg2)} {w : World} (h : RdK B v E w) : ∃ a c, v = .slice a E.length c ∧ E.length ≤ c ∧ (a = none → c = 0) ∧ SgsK (fun k => B ≤ k ∧ k < w.heap.size) w a E := by
  obtain ⟨vs, h1, h2⟩ := h.ex
  rcases h1.2 with ⟨rfl, h0⟩ | ⟨g, cap, cur, rfl, hB, hg, hle, _⟩
  · exact ⟨none, 0, by rw [h0], by omega, fun _ => rfl, fun j hj => by omega⟩
  · refine ⟨_, cap, rfl, hle, fun e => (by cases e), fun i hi => ?_⟩
    obtain ⟨x, e, hx⟩ := h2 i hi
    obtain ⟨ai, ci, rfl, hs⟩ := hx.sl
    exact ⟨g, 0, ai, ci, rfl, ⟨hB, blk_lt hg⟩, blk_lt hg, by rw [Nat.zero_add, h1.cellAt i (by omega)]; exact e, hs⟩
theorem RdK.next {B : Nat} {v x : Value} {E : List (List Sg2)} {L : List Sg2} {w w1 : World} {v' : Value} {vs : List Value} (h2 : ∀ i, i < E.length → ∃ x, vs[i]? = some x ∧ OwS w B x (E.getD i [])) (hvl : vs.length = E.length) (hw : w.ownsRow B 28 1 v E.length vs) (hx : OwS w B x L)
    (ho : w1.ownsRow B 28 1 v' (E.length + 1) (vs ++ [x])) (hg : w.grownBy w1 v.ownBlock) (hle : B ≤ w.heap.size) : RdK B v' (E ++ [L]) w1 := by
  have hk : ∀ y M, OwS w B y M → OwS w1 B y M := fun y M hy => World.ownsRow.kept hy hg (own_ne_own hy hw (by decide))
  refine ⟨⟨vs ++ [x], by rw [List.length_append]; exact ho, fun i hi => ?_⟩, Nat.le_trans hle hg.size⟩
  rw [List.length_append, List.length_singleton] at hi
  by_cases hlt : i < E.length
  · obtain ⟨y, e, hy⟩ := h2 i hlt
    refine ⟨y, by rw [List.getElem?_append_left (by omega)]; exact e, ?_⟩
    rw [show (E ++ [L]).getD i [] = E.getD i [] by rw [List.getD, List.getElem?_append_left hlt, List.getD]]
    exact hk _ _ hy
  · obtain rfl : i = E.length := by omega
    refine ⟨x, by rw [List.getElem?_append_right (by omega), hvl, Nat.sub_self]; rfl, ?_⟩
    rw [show (E ++ [L]).getD E.length [] = L by rw [List.getD, List.getElem?_append_right (Nat.le_refl _), Nat.sub_self]; rfl]
    exact hk _ _ hx
section
variable {S : Nat → Prop} {P : Nat} {M o : Int} {T : List (List Sg2)} {h : Nat} {w w' : World}
theorem getD_memT {T : List (List Sg2)} {j : Nat} (hj : j < T.length) : T.getD j [] ∈ T := by
  rw [List.getD, List.getElem?_eq_getElem hj]; exact List.getElem_mem hj
end
end Go.Proofs.YtgpcflpeddnfcaaDoor
set_option linter.unusedVariables false
set_option linter.unusedSimpArgs false
namespace Go.Proofs.YtgpcflpeddnfcaaDoor
open Go.RowKit
/-- What is kept of texts. -/
def puT (M : Int) (T : List (List Sg2)) : List (List Sg2) := if M < T.length then T.tail else T
section
variable {S : Nat → Prop} {P : Nat} {M o : Int} {T : List (List Sg2)} {h : Nat} {w w' : World}
theorem slv_eta (s : SlV) : slV s = .slice s.1 s.2.1 s.2.2 := rfl
/-- The texts, one more. -/
theorem RiT.snoc {w w6 : World} {P b : Nat} {T : List (List Sg2)} {vs : List SlV} (h3 : RiT w P b T vs) (hs : w.heap.size ≤ w6.heap.size) (hk : ∀ k, k < w.heap.size → k ≠ P → k ≠ b → w6.heap[k]? = w.heap[k]?) {t : List Sg2} {bd : Option Addr} {n d : Nat} (hn : t.length = n) (hq : SlS (fun k => k < w6.heap.size ∧ k ≠ P ∧ k ≠ b) w6 bd t d) : RiT w6 P b (T ++ [t]) (vs ++ [(bd, n, d)]) := by
  have h4 := h3.keep hs hk
  have hl := h4.1
  refine ⟨by simp [hl], fun j hj => ?_⟩
  rw [List.length_append, List.length_singleton] at hj
  by_cases hlt : j < T.length
  · have := h4.2 j hlt
    rw [getD_app1, if_pos (by omega), show (T ++ [t]).getD j [] = T.getD j [] by rw [List.getD, List.getElem?_append_left hlt, List.getD]]
    exact this
  · obtain rfl : j = T.length := by omega
    rw [getD_app1, if_neg (by omega), if_pos hl.symm, show (T ++ [t]).getD T.length [] = t by rw [List.getD, List.getElem?_append_right (Nat.le_refl _), Nat.sub_self]; rfl]
    exact ⟨hn.symm, hq⟩
end
end Go.Proofs.YtgpcflpeddnfcaaDoor
set_option linter.unusedVariables false
set_option linter.unusedSimpArgs false
namespace Go.Proofs.YtgpcflpeddnfcaaDoor
open Go.RowKit
section
variable {S : Nat → Prop} {P : Nat} {M o : Int} {T : List (List Sg2)} {h : Nat} {w w' : World}
end
end Go.Proofs.YtgpcflpeddnfcaaDoor
