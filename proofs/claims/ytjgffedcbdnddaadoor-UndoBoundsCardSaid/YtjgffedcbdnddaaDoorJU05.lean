/-
  Joined: Sg4 Ln1 G3 Ki1 Ud1 Ud2 Ud3 Ud4 Ud5 Ud6 Ud7.
-/
import Derived.Test.YtjgffedcbdnddaaDoorJU03
import Derived.Test.YtjgffedcbdnddaaDoorJU04
import Derived.Laws.CopyOwn
import Derived.BigRegion
import Derived.Lib.AppendZeros
import Derived.Lib.AppendZerosOnto
import Derived.Deep.Onto
import Derived.Deep.Cut
import Derived.Deep.CutRange
import Derived.Lib.SliceRun
import Derived.BigQuiet
import Derived.Lib.Overlaps
set_option linter.unusedVariables false
set_option linter.unusedSimpArgs false
set_option maxRecDepth 100000
set_option linter.unusedVariables false
set_option linter.unusedSimpArgs false
namespace Go.Proofs.YtjgffedcbdnddaaDoor
open Go.RowKit
theorem sgS_len {a b : List (Int × Int)} (h : a.length ≠ b.length) : sgS a b = false := by
  unfold sgS; rw [decide_eq_false]; intro e; exact h (by rw [e])
theorem sgS_no {a b : List (Int × Int)} {k : Nat} (h : a.getD k (0, 0) ≠ b.getD k (0, 0)) : sgS a b = false := by
  unfold sgS; rw [decide_eq_false]; intro e; exact h (by rw [e])
theorem sgS_yes {a b : List (Int × Int)} (hl : a.length = b.length) (h : ∀ j, j < a.length → a.getD j (0, 0) = b.getD j (0, 0)) : sgS a b = true := by
  unfold sgS; rw [decide_eq_true]
  apply List.ext_getElem hl
  intro j h1 h2
  have := h j h1
  rwa [List.getD, List.getD, List.getElem?_eq_getElem h1, List.getElem?_eq_getElem h2] at this
set_option maxRecDepth 100000 in
set_option maxHeartbeats 1000000 in
theorem equal_any (x y : List (Int × Int)) (a b : Option Addr) (c d : Nat) (w : World) (hx : x.length ≤ 9223372036854775807) (hy : y.length ≤ 9223372036854775807) (ha : Signs w a x) (hb : Signs w b y) :
    Calls Tryd.prog 34 #[.slice a x.length c, .slice b y.length d, .func (.func 35) #[] #[]] w fun e w' => e = .returned (.bool (sgS x y)) ∧ Below w.heap.size w w' := by
  have HA := Lib.hid ha; have HB := Lib.hid hb; clear ha hb
  by_cases hl : x.length = y.length
  · have hln : ((x.length : Int) != (y.length : Int)) = false := by rw [hl]; simp
    have hyl : y.length ≤ x.length ∧ x.length ≤ y.length := by omega
    have Hl := Lib.hid hl; clear hl
    go_enter Tryd.func34, Tryd.ntmps34
    go_wp2
    go_loopw [17] (fun iv wr => ∃ k : Nat, k ≤ x.length ∧ iv = .int .i64 (k : Int) ∧ Hid (∀ j, j < k → x.getD j (0, 0) = y.getD j (0, 0)) ∧ Below w.heap.size w wr) (fun iv _ => x.length - (intOf iv).toNat)
    case atStart => exact ⟨0, Nat.zero_le _, rfl, Lib.hid (fun j hj => absurd hj (by omega)), Below.refl _ _⟩
    case round =>
      obtain ⟨k, hk, rfl, hall, hbl⟩ := hrel
      by_cases hlt : k < x.length
      · obtain ⟨b1, o1, rfl, hb1, c1, c2⟩ := (HA.out.below hbl) k hlt
        obtain ⟨b2, o2, rfl, hb2, d1, d2⟩ := (HB.out.below hbl) k (by omega)
        have hk1 : (k : Int) < x.length := by omega
        have hk2 : (k : Int) < y.length := by omega
        have hk0 : (0 : Int) ≤ k := by omega
        have hne := sgS_no (a := x) (b := y) (k := k)
        have d1' := fun o => (World.cell?_alloc_lt wr o (⟨b2, o2 + k * 2, none⟩ : Addr) hb2).trans d1
        have d2' := fun o => (World.cell?_alloc_lt wr o (⟨b2, o2 + k * 2 + 1, none⟩ : Addr) hb2).trans d2
        obtain ⟨v, u, hp⟩ : ∃ v u, x.getD k (0, 0) = (v, u) := ⟨_, _, rfl⟩
        obtain ⟨v', u', hq⟩ : ∃ v u, y.getD k (0, 0) = (v, u) := ⟨_, _, rfl⟩
        rw [hp] at c1 c2; rw [hq] at d1' d2'
        rw [hp, hq] at hne
        have S := fun w => same1_any v u v' u' w
        have hbb := fun o1 o2 => (hbl.alloc hbl.size o1).alloc (by have := hbl.size; simp; omega) o2
        cases he : decide ((v, u) = (v', u'))
        · rw [he] at S
          have HF : Hid (sgS x y = false) := Lib.hid (hne (by simpa using he))
          replace S := Lib.hid S
          clear hne he hp hq
          go_wp2_with (go_at_call 35; refine (S.out _).mono ?_; rintro e w1 ⟨rfl, hb3⟩)
          go_ret
          rw [HF.out]
          exact ⟨rfl, (hbb _ _).trans (hb3.mono (hbb _ _).size)⟩
        · rw [he] at S
          have HF : Hid (∀ j, j < k + 1 → x.getD j (0, 0) = y.getD j (0, 0)) := Lib.hid (by
            intro j hj
            rcases Nat.lt_succ_iff_lt_or_eq.1 hj with h | rfl
            · exact hall.out j h
            · rw [hp, hq]; simpa using he)
          replace S := Lib.hid S
          clear hne he hp hq
          go_wp2_with (go_at_call 35; refine (S.out _).mono ?_; rintro e w1 ⟨rfl, hb3⟩)
          go_roundw
          case rel => exact ⟨k + 1, by omega, by go_num, HF, (hbb _ _).trans (hb3.mono (hbb _ _).size)⟩
          case measure => simp [intOf]; omega
      · obtain rfl : k = x.length := by omega
        have HF : Hid (sgS x y = true) := Lib.hid (sgS_yes Hl.out hall.out)
        go_wp2
        go_ret
        rw [HF.out]
        exact ⟨rfl, hbl⟩
  · have hln : ((x.length : Int) != (y.length : Int)) = true := by rw [bne_iff_ne]; omega
    have HF : Hid (sgS x y = false) := Lib.hid (sgS_len hl)
    go_enter Tryd.func34, Tryd.ntmps34
    go_wp2
    go_ret
    rw [HF.out]
    exact ⟨rfl, Below.refl _ _⟩
theorem ssame_any (x y : List (Int × Int)) (a b : Option Addr) (c d : Nat) (w : World) (hx : x.length ≤ 9223372036854775807) (hy : y.length ≤ 9223372036854775807) (ha : Signs w a x) (hb : Signs w b y) :
    Calls Tryd.prog 24 #[.slice a x.length c, .slice b y.length d] w fun e w' => e = .returned (.bool (sgS x y)) ∧ Below w.heap.size w w' := by
  have E := Lib.hid (equal_any x y a b c d w hx hy ha hb)
  clear ha hb
  go_enter Tryd.func24, Tryd.ntmps24
  go_wp2_with (go_at_call 34; refine E.out.mono ?_; rintro e w1 ⟨rfl, hb1⟩)
  go_ret
  exact ⟨rfl, hb1⟩
/-- Do the values of part stand at a place? -/
def atM (l part : List (Int × Int)) (at_ : Int) : Bool := (List.range part.length).all fun i => (l.getD (at_.toNat + i) (0, 0)).1 == (part.getD i (0, 0)).1
theorem atM_no {l part : List (Int × Int)} {at_ : Int} {k : Nat} (hk : k < part.length) (h : ((l.getD (at_.toNat + k) (0, 0)).1 != (part.getD k (0, 0)).1) = true) : atM l part at_ = false := by
  unfold atM; rw [List.all_eq_false]; exact ⟨k, by simpa using hk, by simpa using h⟩
theorem atM_yes {l part : List (Int × Int)} {at_ : Int} (h : ∀ j, j < part.length → ((l.getD (at_.toNat + j) (0, 0)).1 != (part.getD j (0, 0)).1) = false) : atM l part at_ = true := by
  unfold atM; rw [List.all_eq_true]; intro j hj
  have := h j (by simpa using hj)
  simpa using this
/-- A closure's two blocks. -/
structure Fin2 (w : World) (p q : Nat) (a b : Option Addr) (l part : List (Int × Int)) (c d : Nat) : Prop where
  cp : w.cell? ⟨p, 0, none⟩ = some (.slice b part.length d)
  cq : w.cell? ⟨q, 0, none⟩ = some (.slice a l.length c)
  s : Signs w a l
  t : Signs w b part
  pl : p < w.heap.size
  ql : q < w.heap.size
theorem Fin2.below {w w' : World} {p q : Nat} {a b : Option Addr} {l part : List (Int × Int)} {c d : Nat} (h : Fin2 w p q a b l part c d) (hb : Below w.heap.size w w') : Fin2 w' p q a b l part c d :=
  ⟨(hb.cell (p := ⟨p, 0, none⟩) h.pl).trans h.cp, (hb.cell (p := ⟨q, 0, none⟩) h.ql).trans h.cq, h.s.below hb, h.t.below hb, Nat.lt_of_lt_of_le h.pl hb.size, Nat.lt_of_lt_of_le h.ql hb.size⟩
end Go.Proofs.YtjgffedcbdnddaaDoor
set_option linter.unusedVariables false
set_option linter.unusedSimpArgs false
namespace Go.Proofs.YtjgffedcbdnddaaDoor
open Go.RowKit
theorem up_first {t : Int → Bool} {d : Int} : ∀ {f : Nat} {p k : Int}, p ≤ k → k < p + f → t k = true → (∀ j, p ≤ j → j < k → t j = false) → upF t d f p = k
  | 0, p, k, h1, h2, _, _ => by omega
  | f + 1, p, k, h1, h2, ht, hn => by
    by_cases e : p = k
    · subst e; exact up_hit (by omega) ht
    · rw [up_miss (by omega) (hn p (by omega) (by omega))]
      exact up_first (by omega) (by omega) ht (fun j hj1 hj2 => hn j (by omega) hj2)
theorem up_none {t : Int → Bool} {d : Int} : ∀ {f : Nat} {p : Int}, (∀ j, p ≤ j → j < p + f → t j = false) → upF t d f p = d
  | 0, p, _ => rfl
  | f + 1, p, hn => by
    rw [up_miss (by omega) (hn p (by omega) (by omega))]
    exact up_none (fun j hj1 hj2 => hn j (by omega) (by omega))
theorem dn_first {t : Int → Bool} {d : Int} : ∀ {f : Nat} {p k : Int}, k ≤ p → p - f < k → t k = true → (∀ j, k < j → j ≤ p → t j = false) → dnF t d f p = k
  | 0, p, k, h1, h2, _, _ => by omega
  | f + 1, p, k, h1, h2, ht, hn => by
    by_cases e : p = k
    · subst e; exact dn_hit (by omega) ht
    · rw [dn_miss (by omega) (hn p (by omega) (by omega))]
      exact dn_first (by omega) (by omega) ht (fun j hj1 hj2 => hn j hj1 (by omega))
theorem dn_none {t : Int → Bool} {d : Int} : ∀ {f : Nat} {p : Int}, (∀ j, p - f < j → j ≤ p → t j = false) → dnF t d f p = d
  | 0, p, _ => rfl
  | f + 1, p, hn => by
    rw [dn_miss (by omega) (hn p (by omega) (by omega))]
    exact dn_none (fun j hj1 hj2 => hn j (by omega) (by omega))
/-- The document's kind at a place; 9: none. -/
def kRf (l : List (Int × Int)) (i : Int) : Int := if i < 0 ∨ (l.length : Int) ≤ i then 9 else knd (l.getD i.toNat (0, 0)).1
theorem kRf_one (l : List (Int × Int)) (i : Int) : (kRf l i == 1) = (kAt l false i == 1) := by
  unfold kRf kAt
  split
  · rfl
  · rfl
theorem kRf_ne (l : List (Int × Int)) (i : Int) : (kRf l i != 1) = (kAt l false i != 1) := by
  unfold kRf kAt
  split
  · rfl
  · rfl
theorem tNext_eq (l : List (Int × Int)) (p : Int) : tNext l p = (kRf l (p - 1) == 1 && kRf l p != 1) := by unfold tNext; rw [kRf_one, kRf_ne]
theorem tBack_eq (l : List (Int × Int)) (p : Int) : tBack l p = (kRf l p == 1 && kRf l (p - 1) != 1) := by unfold tBack; rw [kRf_one, kRf_ne]
theorem next_is {l : List (Int × Int)} {i : Int} {m k : Nat} (hm : plc l.length i = m) (h1 : m < k) (h2 : k < l.length) (ht : tNext l k = true) (hn : ∀ j : Nat, m < j → j < k → tNext l j = false) : nextM l i = k := by
  unfold nextM
  rw [hm, Int.toNat_natCast]
  refine up_first (by omega) (by omega) ht (fun j hj1 hj2 => ?_)
  obtain ⟨q, rfl⟩ := Int.eq_ofNat_of_zero_le (show 0 ≤ j by omega)
  exact hn q (by omega) (by omega)
theorem next_end {l : List (Int × Int)} {i : Int} {m : Nat} (hm : plc l.length i = m) (hn : ∀ j : Nat, m < j → j < l.length → tNext l j = false) : nextM l i = l.length := by
  unfold nextM
  rw [hm, Int.toNat_natCast]
  refine up_none (fun j hj1 hj2 => ?_)
  obtain ⟨q, rfl⟩ := Int.eq_ofNat_of_zero_le (show 0 ≤ j by omega)
  exact hn q (by omega) (by omega)
theorem back_is {l : List (Int × Int)} {i : Int} {m k : Nat} (hm : plc l.length i = m) (h1 : k < m) (h2 : 0 < k) (ht : tBack l k = true) (hn : ∀ j : Nat, k < j → j < m → tBack l j = false) : backM l i = k := by
  unfold backM
  rw [hm, Int.toNat_natCast]
  refine dn_first (by omega) (by omega) ht (fun j hj1 hj2 => ?_)
  obtain ⟨q, rfl⟩ := Int.eq_ofNat_of_zero_le (show 0 ≤ j by omega)
  exact hn q (by omega) (by omega)
theorem back_end {l : List (Int × Int)} {i : Int} {m : Nat} (hm : plc l.length i = m) (hn : ∀ j : Nat, 0 < j → j < m → tBack l j = false) : backM l i = 0 := by
  unfold backM
  rw [hm, Int.toNat_natCast]
  refine dn_none (fun j hj1 hj2 => ?_)
  obtain ⟨q, rfl⟩ := Int.eq_ofNat_of_zero_le (show 0 ≤ j by omega)
  exact hn q (by omega) (by omega)
theorem next_rng (l : List (Int × Int)) (i : Int) : plc l.length i ≤ nextM l i ∧ nextM l i ≤ l.length ∧ (plc l.length i < l.length → plc l.length i < nextM l i) := by
  obtain ⟨m, hm, hml⟩ := plc_cases l.length i
  rw [hm]
  by_cases h : ∃ k : Nat, m < k ∧ k < l.length ∧ tNext l k = true
  · obtain ⟨k, hk1, hk2, hk3⟩ := h
    have key : ∀ f k : Nat, k ≤ f → m < k → k < l.length → tNext l k = true → ∃ q : Nat, nextM l i = q ∧ m < q ∧ q ≤ l.length := by
      intro f
      induction f with
      | zero => intro k h1 h2; omega
      | succ f ih =>
        intro k h1 h2 h3 h4
        by_cases hh : ∃ j : Nat, m < j ∧ j < k ∧ tNext l j = true
        · obtain ⟨j, j1, j2, j3⟩ := hh
          exact ih j (by omega) j1 (by omega) j3
        · refine ⟨k, next_is hm h2 h3 h4 (fun j j1 j2 => ?_), h2, by omega⟩
          cases hc : tNext l j with
          | false => rfl
          | true => exact absurd ⟨j, j1, j2, hc⟩ hh
    obtain ⟨q, h1, h2, h3⟩ := key k k (Nat.le_refl _) hk1 hk2 hk3
    rw [h1]; omega
  · rw [next_end hm (fun j j1 j2 => by
      cases hc : tNext l j with
      | false => rfl
      | true => exact absurd ⟨j, j1, j2, hc⟩ h)]
    omega
theorem back_rng (l : List (Int × Int)) (i : Int) : 0 ≤ backM l i ∧ backM l i ≤ plc l.length i := by
  obtain ⟨m, hm, hml⟩ := plc_cases l.length i
  rw [hm]
  by_cases h : ∃ k : Nat, 0 < k ∧ k < m ∧ tBack l k = true
  · obtain ⟨k, hk1, hk2, hk3⟩ := h
    have key : ∀ f k : Nat, m - k ≤ f → 0 < k → k < m → tBack l k = true → ∃ q : Nat, backM l i = q ∧ q ≤ m := by
      intro f
      induction f with
      | zero => intro k h1 h2; omega
      | succ f ih =>
        intro k h1 h2 h3 h4
        by_cases hh : ∃ j : Nat, k < j ∧ j < m ∧ tBack l j = true
        · obtain ⟨j, j1, j2, j3⟩ := hh
          exact ih j (by omega) (by omega) j2 j3
        · refine ⟨k, back_is hm h3 h2 h4 (fun j j1 j2 => ?_), by omega⟩
          cases hc : tBack l j with
          | false => rfl
          | true => exact absurd ⟨j, j1, j2, hc⟩ hh
    obtain ⟨q, h1, h2⟩ := key (m - k) k (Nat.le_refl _) hk1 hk2 hk3
    rw [h1]; omega
  · rw [back_end hm (fun j j1 j2 => by
      cases hc : tBack l j with
      | false => rfl
      | true => exact absurd ⟨j, j1, j2, hc⟩ h)]
    omega
end Go.Proofs.YtjgffedcbdnddaaDoor
set_option linter.unusedVariables false
set_option linter.unusedSimpArgs false
namespace Go.Proofs.YtjgffedcbdnddaaDoor
open Go.RowKit
theorem run_copy_w {P : Program} (w : World) (dT sT ty elem : TypeId) (g o dLen dCap : Nat) (a : Addr) (sLen sCap : Nat) (cur : Array Value) (t : TypeId) (cs : List Value) (size n : Nat)
    (hu : P.underlying dT = some (.slice elem)) (hs : (P.info? elem).map (·.size) = some size)
    (hg : w.heap[g]? = some (.cells cur t (0, 0))) (hn : n = Nat.min sLen dLen) (hl : cs.length = n * size)
    (hsrc : ∀ j v, cs[j]? = some v → w.cell? (a.add j) = some v) (hfit : o + cs.length ≤ cur.size) (h1 : ∀ v ∈ cs, v.oneCell' = true) :
    (Builtin.copy_ #[dT, sT] ty #[.slice (some ⟨g, o, none⟩) dLen dCap, .slice (some a) sLen sCap]).run P w =
      .ok (goInt n) (w.setRow g (cur.toList.take o ++ cs ++ cur.toList.drop (o + cs.length)).toArray) := by
  have hld := run_loadCells_list (P := P) w a cs hsrc
  have hst := run_storeCells_at P g o t cs 0 cur w hg (by simpa using hfit) h1
  cases hq : P.info? elem with
  | none => simp [hq] at hs
  | some i =>
    have hi : i.size = size := by simpa [hq] using hs
    rw [hl] at hld
    simp [Builtin.copy_, run_underlying hu, Builtin.lenOf, Builtin.firstCells, sizeOf, typeInfo, hq, hi, ← hn, hld, hst]
theorem run_copy_none {P : Program} (w : World) (dT sT ty elem : TypeId) (s : Option Addr) (sLen sCap : Nat) (hu : P.underlying dT = some (.slice elem)) (hs : ((P.info? elem).map (·.size)).isSome = true) :
    (Builtin.copy_ #[dT, sT] ty #[.slice none 0 0, .slice s sLen sCap]).run P w = .ok (goInt 0) w := by
  cases hq : P.info? elem with
  | none => simp [hq] at hs
  | some i => cases s <;> simp [Builtin.copy_, run_underlying hu, Builtin.lenOf, Builtin.firstCells, sizeOf, typeInfo, hq, loadCells, loadCellsFrom]
/-- A row's cells. -/
def sC (L : List Sn) : List Value := L.flatMap fun p => [Value.int .i64 p.1, Value.int .i64 p.2]
theorem sRow_sC (L : List Sn) : sRow L = (sC L).toArray := rfl
theorem sC_len (L : List Sn) : (sC L).length = L.length * 2 := by
  unfold sC; induction L with
  | nil => rfl
  | cons x R ih => simp only [List.flatMap_cons, List.length_append, List.length_cons, List.length_nil, ih]; omega
theorem sC_append (A B : List Sn) : sC (A ++ B) = sC A ++ sC B := by simp [sC]
theorem sC_take (L : List Sn) (k : Nat) : (sC L).take (k * 2) = sC (L.take k) := by
  induction L generalizing k with
  | nil => simp [sC]
  | cons x L ih =>
    cases k with
    | zero => simp [sC]
    | succ k =>
      have h := ih k
      rw [show (k + 1) * 2 = k * 2 + 1 + 1 by omega]
      show Value.int .i64 x.1 :: Value.int .i64 x.2 :: (sC L).take (k * 2) = _
      rw [h]; rfl
theorem sC_drop (L : List Sn) (k : Nat) : (sC L).drop (k * 2) = sC (L.drop k) := by
  induction L generalizing k with
  | nil => simp [sC]
  | cons x L ih =>
    cases k with
    | zero => simp [sC]
    | succ k =>
      have h := ih k
      rw [show (k + 1) * 2 = k * 2 + 1 + 1 by omega]
      show (sC L).drop (k * 2) = _
      rw [h]; rfl
theorem sC_cell (L : List Sn) : ∀ v ∈ sC L, v.oneCell' = true := by
  intro v hv
  unfold sC at hv
  rw [List.mem_flatMap] at hv
  obtain ⟨p, _, hp⟩ := hv
  simp at hp
  rcases hp with rfl | rfl <;> rfl
/-- What a copy makes of a row. -/
def cpL (D : List Sn) (o : Nat) (L : List Sn) : List Sn := D.take o ++ L ++ D.drop (o + L.length)
theorem cp_row (D : List Sn) (o : Nat) (L : List Sn) : ((sRow D).toList.take (o * 2) ++ sC L ++ (sRow D).toList.drop (o * 2 + (sC L).length)).toArray = sRow (cpL D o L) := by
  rw [sRow_sC, sRow_sC, sC_len, show o * 2 + L.length * 2 = (o + L.length) * 2 by omega]
  congr 1
  rw [sC_take, sC_drop]; unfold cpL; rw [sC_append, sC_append]
theorem cpL_len (D : List Sn) (o : Nat) (L : List Sn) (h : o + L.length ≤ D.length) : (cpL D o L).length = D.length := by
  unfold cpL; simp only [List.length_append, List.length_take, List.length_drop]; omega
theorem infoSz : (Tryd.prog.info? 56).map (·.size) = some 2 := by kernel_rfl
theorem addG (b off k : Nat) : (⟨b, off, none⟩ : Addr).add k = ⟨b, off + k, none⟩ := by unfold Addr.add; split <;> simp_all
/-- A copy into a row of signs, out of a slice that came in. -/
theorem copy_signs {w : World} (ty : TypeId) {g : Nat} {D : List Sn} {o dl dc : Nat} {ad : Addr} {l : List Sn} {sc : Nat} (hg : w.heap[g]? = some (.cells (sRow D) 56 (0, 0))) (hs : Signs w (some ad) l) (hfit : o + dl ≤ D.length) (hn : l.length ≤ dl) :
    (Builtin.copy_ #[28, 28] ty #[.slice (some ⟨g, o * 2, none⟩) dl dc, .slice (some ad) l.length sc]).run Tryd.prog w = .ok (goInt l.length) (w.setRow g (sRow (cpL D o l))) := by
  have hmin : l.length = Nat.min l.length dl := (Nat.min_eq_left hn).symm
  have h := run_copy_w (P := Tryd.prog) w 28 28 ty 56 g (o * 2) dl dc ad l.length sc (sRow D) 56 (sC l) 2 l.length Tryd.underlying28 infoSz hg hmin (sC_len l) (fun j v hv => by
    have hj : j < l.length * 2 := by have := (List.getElem?_eq_some_iff.1 hv).1; rwa [sC_len] at this
    obtain ⟨b, off, e, _, c1, c2⟩ := hs (j / 2) (by omega)
    obtain rfl : ad = ⟨b, off, none⟩ := by injection e
    have hr := sRow_at l (j / 2) (by omega)
    rw [addG]
    rcases Nat.mod_two_eq_zero_or_one j with hm | hm
    · have e2 : j / 2 * 2 = j := by omega
      rw [e2] at c1 hr
      rw [c1, ← hr.1]; exact hv
    · have e2 : j / 2 * 2 + 1 = j := by omega
      rw [e2] at hr
      rw [show off + j / 2 * 2 + 1 = off + j by omega] at c2
      rw [c2, ← hr.2]; exact hv) (by rw [sC_len, sRow_sC, List.size_toArray, sC_len]; omega) (sC_cell l)
  rw [cp_row] at h
  exact h
theorem signs_of_row {w : World} {r x n : Nat} {S : List Sn} {t : TypeId} {f : Nat × Nat} (h : w.heap[r]? = some (.cells (sRow S) t f)) (hx : x + n ≤ S.length) : Signs w (some ⟨r, x * 2, none⟩) ((S.drop x).take n) := fun i hi => by
  have hl : ((S.drop x).take n).length = n := by rw [List.length_take, List.length_drop]; omega
  rw [hl] at hi
  have hc := sg_cells h (k := x + i) (by omega)
  have hg : ((S.drop x).take n).getD i (0, 0) = S.getD (x + i) (0, 0) := by
    simp only [List.getD, List.getElem?_take, if_pos hi, List.getElem?_drop]
  rw [hg]
  exact ⟨r, x * 2, rfl, blk_lt h, by rw [show x * 2 + i * 2 = (x + i) * 2 by omega]; exact hc.1, by rw [show x * 2 + i * 2 + 1 = (x + i) * 2 + 1 by omega]; exact hc.2⟩
/-- A copy out of a room (the same one or another): n signs from x on, to o on. -/
theorem copy_room {w : World} (ty : TypeId) {g r : Nat} {D S : List Sn} {o x dl dc n sc : Nat} (hg : w.heap[g]? = some (.cells (sRow D) 56 (0, 0))) {f : Nat × Nat} {t : TypeId} (hr : w.heap[r]? = some (.cells (sRow S) t f)) (hfit : o + dl ≤ D.length) (hx : x + n ≤ S.length) (hn : n ≤ dl) :
    (Builtin.copy_ #[28, 28] ty #[.slice (some ⟨g, o * 2, none⟩) dl dc, .slice (some ⟨r, x * 2, none⟩) n sc]).run Tryd.prog w = .ok (goInt n) (w.setRow g (sRow (cpL D o ((S.drop x).take n)))) := by
  have hl : ((S.drop x).take n).length = n := by rw [List.length_take, List.length_drop]; omega
  have h := copy_signs (w := w) ty (o := o) (dl := dl) (dc := dc) (sc := sc) hg (signs_of_row hr hx) hfit (by rw [hl]; exact hn)
  rw [hl] at h
  exact h
end Go.Proofs.YtjgffedcbdnddaaDoor
set_option linter.unusedVariables false
set_option linter.unusedSimpArgs false
namespace Go.Proofs.YtjgffedcbdnddaaDoor
open Go.RowKit
theorem OwS.mono {w : World} {B B' : Nat} {v : Value} {L : List (Int × Int)} (h : OwS w B v L) (hB : B' ≤ B) : OwS w B' v L := World.ownsRow.mono h hB
theorem ows_keep {w w' : World} {B : Nat} {v : Value} {L : List (Int × Int)} (h : OwS w B v L) (hb : Below w.heap.size w w') : OwS w' B v L := by
  refine World.ownsRow.kept h (row := none) ⟨hb.os, hb.tape, hb.output, hb.size, fun k hk _ => hb.block k hk⟩ ?_
  cases v.ownBlock <;> simp
theorem ows_nil (w : World) (B : Nat) : OwS w B (.slice none 0 0) [] := World.ownsRow_nil _ _ _ _
set_option maxHeartbeats 2000000 in
theorem clone_sg (l : List (Int × Int)) (a : Option Addr) (n c : Nat) (S : Nat → Prop) (w : World) (hn : l.length = n) (hl : n ≤ 100000) (hs : SlS S w a l c) :
    Calls Tryd.prog 21 #[.slice a n c] w fun e w' => ∃ b d, e = .returned (.slice b n d) ∧ OwS w' w.heap.size (.slice b n d) l ∧ Below w.heap.size w w' := by
  have q := fun (w : World) (a : Option Addr) (n c n' c' : Nat) => Lib.run_eql_slice_nil (P := Tryd.prog) w 28 56 a n c n' c' Tryd.underlying28
  cases a with
  | none =>
    have hc := hs.nl rfl
    have hl0 : l = [] := by
      cases l with
      | nil => rfl
      | cons x l => obtain ⟨_, _, e, _⟩ := hs.s 0 (by simp); cases e
    subst hl0
    obtain rfl : 0 = n := hn
    subst hc
    clear hs
    go_enter Tryd.func21, Tryd.ntmps21
    go_wp2
    go_ret
    exact ⟨none, 0, rfl, ows_nil _ _, Below.refl _ _⟩
  | some ad =>
    have N0 := below_alloc w (.cells #[] 56)
    have H0 := Lib.hid (ows_new w)
    have HA := Lib.hid (hs.below N0)
    have HN := Lib.hid hn
    have HB0 := Lib.hid N0
    clear hs hn N0
    obtain ⟨B, hB⟩ : ∃ B, w.heap.size = B := ⟨_, rfl⟩
    have HBq := Lib.hid hB
    rw [hB] at H0
    obtain ⟨W, hW⟩ : ∃ W, w.alloc (.cells #[] 56) = W := ⟨_, rfl⟩
    rw [hW] at H0 HA HB0
    go_enter Tryd.func21, Tryd.ntmps21
    go_wp2_with (at_builtin; refine wpList_app_signs rfl _ _ rfl B _ 0 [] rfl rfl H0.out (some ad) n c l rfl HN.out HA.out.s (fun e => (by cases e)) ?g3 ?g4 ?_)
    case g3 => omega
    case g4 => have := HB0.out.size; have := HBq.out; omega
    intro ad5 c5 w5 o5 g5
    have N5 := Lib.hid (HB0.out.grown g5 HB0.out.size (fun j hj => by simp [Value.ownBlock] at hj; have := HBq.out; omega))
    have HS := Lib.hid (show OwS w5 w.heap.size (.slice ad5 n c5) l by rw [HBq.out]; exact o5)
    clear o5 g5
    go_wp2
    go_ret
    exact ⟨ad5, c5, rfl, HS.out, N5.out⟩
end Go.Proofs.YtjgffedcbdnddaaDoor
set_option linter.unusedVariables false
set_option linter.unusedSimpArgs false
namespace Go.Proofs.YtjgffedcbdnddaaDoor
open Go.RowKit
/-- A row of signs of the call's own, and all of its room. -/
def RmS (w : World) (B : Nat) (v : Value) (L : List Sn) : Prop := (v = .slice none 0 0 ∧ L = []) ∨ ∃ g D, v = .slice (some ⟨g, 0, none⟩) L.length D.length ∧ B ≤ g ∧ w.heap[g]? = some (.cells (sRow D) 56 (0, 0)) ∧ L.length ≤ D.length ∧ D.take L.length = L ∧ D.length ≤ maxLen
theorem rms_nil (w : World) (B : Nat) : RmS w B (.slice none 0 0) [] := .inl ⟨rfl, rfl⟩
theorem RmS.mono {w : World} {B B' : Nat} {v : Value} {L : List Sn} (h : RmS w B v L) (hB : B' ≤ B) : RmS w B' v L := by
  rcases h with h | ⟨g, D, h1, h2, h3⟩
  · exact .inl h
  · exact .inr ⟨g, D, h1, Nat.le_trans hB h2, h3⟩
theorem RmS.keep {w w' : World} {B : Nat} {v : Value} {L : List Sn} (h : RmS w B v L) (hk : ∀ k, v.ownBlock = some k → w'.heap[k]? = w.heap[k]?) : RmS w' B v L := by
  rcases h with h | ⟨g, D, rfl, h2, h3, h4⟩
  · exact .inl h
  · exact .inr ⟨g, D, rfl, h2, (hk g rfl).trans h3, h4⟩
theorem RmS.lt {w : World} {B : Nat} {v : Value} {L : List Sn} (h : RmS w B v L) : ∀ k, v.ownBlock = some k → B ≤ k ∧ k < w.heap.size := fun k hk => by
  rcases h with ⟨rfl, _⟩ | ⟨g, D, rfl, h2, h3, h4⟩
  · cases hk
  · have e : g = k := by injection hk
    subst e
    exact ⟨h2, blk_lt h3⟩
theorem RmS.below {w w' : World} {B : Nat} {v : Value} {L : List Sn} (h : RmS w B v L) (hb : Below w.heap.size w w') : RmS w' B v L := h.keep fun k hk => hb.block k (h.lt k hk).2
/-- A row with its room is a slice of signs. -/
theorem RmS.sl {w : World} {B : Nat} {v : Value} {L : List Sn} (h : RmS w B v L) : ∃ a c, v = .slice a L.length c ∧ SlS (fun k => v.ownBlock = some k) w a L c := by
  rcases h with ⟨rfl, rfl⟩ | ⟨g, D, rfl, h2, h3, h4, h5, h6⟩
  · exact ⟨none, 0, rfl, fun j hj => absurd hj (Nat.not_lt_zero j), Nat.le_refl _, fun _ => rfl, fun ad e => by cases e⟩
  · refine ⟨_, D.length, rfl, ?_, h4, fun e => (by cases e), fun ad e _ => by cases e; rfl⟩
    have := signs_of_row h3 (x := 0) (n := L.length) (by omega)
    rw [List.drop_zero, h5, Nat.zero_mul] at this
    exact this
theorem zeroC2 (n : Nat) : Builtin.zeroCells #[.int .i64 0, .int .i64 0] n = sRow (List.replicate n (0, 0)) := by
  apply Array.ext
  · simp [Builtin.zeroCells, sRow, List.length_flatMap]
  · intro i h1 h2
    have hl : i < n * 2 := by simpa [Builtin.zeroCells] using h1
    have hs := sRow_at (List.replicate n (0, 0)) (i / 2) (by simp; omega)
    have hg : (List.replicate n ((0 : Int), (0 : Int))).getD (i / 2) (0, 0) = (0, 0) := by
      rw [List.getD, List.getElem?_replicate]; split <;> rfl
    rw [hg] at hs
    have key : (sRow (List.replicate n (0, 0)))[i]? = some (.int .i64 0) := by
      rw [sRow, List.getElem?_toArray]
      rcases Nat.mod_two_eq_zero_or_one i with hm | hm
      · rw [show i = i / 2 * 2 by omega]; exact hs.1
      · rw [show i = i / 2 * 2 + 1 by omega]; exact hs.2
    rw [Array.getElem?_eq_getElem h2] at key
    rw [Option.some.inj key]
    simp only [Builtin.zeroCells, Array.getElem_map, Array.getElem_range]
    rcases Nat.mod_two_eq_zero_or_one i with hm | hm <;> simp [hm]
theorem infoSg3 : ∃ i, Tryd.prog.info? 56 = some i ∧ i.zero = some (.agg #[.int .i64 0, .int .i64 0]) ∧ i.size = 2 ∧ i.bytes = 16 := by
  obtain ⟨i0, hi, hz0, hz1, hz2⟩ := info_parts infoSign
  exact ⟨i0, hi, hz0, hz1, hz2⟩
theorem row_take {g : Nat} {w : World} {D : List Sn} {t : TypeId} (h : w.heap[g]? = some (.cells (sRow D) t (0, 0))) (n : Nat) (hn : n ≤ D.length) : ∀ j v, (sC (D.take n))[j]? = some v → w.cell? ((⟨g, 0, none⟩ : Addr).add j) = some v := fun j v hv => by
  have := signs_of_row h (x := 0) (n := n) (by omega)
  rw [List.drop_zero, Nat.zero_mul] at this
  exact apR_news this j v hv
/-- An append where there is room. -/
theorem app_in {w : World} (ty : TypeId) {g : Nat} {D l : List Sn} {n : Nat} {ad : Addr} {c : Nat} (hg : w.heap[g]? = some (.cells (sRow D) 56 (0, 0))) (hs : Signs w (some ad) l) (hfit : n + l.length ≤ D.length) :
    (Builtin.append_ #[28, 28] ty #[.slice (some ⟨g, 0, none⟩) n D.length, .slice (some ad) l.length c]).run Tryd.prog w = .ok (.slice (some ⟨g, 0, none⟩) (n + l.length) D.length) (w.setRow g (sRow (cpL D n l))) := by
  obtain ⟨i, hi, hz, hs2, hb⟩ := infoSg3
  have h := run_append_room (P := Tryd.prog) w 28 ty 56 i Tryd.underlying28 hi g n D.length (sRow D) hg ad l.length c (sC l) (by rw [hs2, sC_len]) (apR_news hs) (sC_cell l) hfit (by rw [hs2, sC_len, sRow_sC, List.size_toArray, sC_len]; omega)
  rw [hs2, cp_row] at h
  exact h
/-- An append where there is none. -/
theorem app_grow {w : World} (ty : TypeId) {g : Nat} {D l : List Sn} {n : Nat} {ad : Addr} {c : Nat} (hg : w.heap[g]? = some (.cells (sRow D) 56 (0, 0))) (hs : Signs w (some ad) l) (hn : n ≤ D.length) (hno : D.length < n + l.length) (hlen : n + l.length ≤ 1000000) :
    ∃ q, q + (n + l.length) ≤ maxLen ∧ (Builtin.append_ #[28, 28] ty #[.slice (some ⟨g, 0, none⟩) n D.length, .slice (some ad) l.length c]).run Tryd.prog w = .ok (.slice (some ⟨w.heap.size, 0, none⟩) (n + l.length) (D.take n ++ l ++ List.replicate q (0, 0)).length) (w.drew.alloc (.cells (sRow (D.take n ++ l ++ List.replicate q (0, 0))) 56)) := by
  obtain ⟨i, hi, hz, hs2, hb⟩ := infoSg3
  have h := run_append_grow (P := Tryd.prog) w 28 ty 56 i _ Tryd.underlying28 hi hz ⟨g, 0, none⟩ n D.length (sC (D.take n)) (by rw [hs2, sC_len, List.length_take]; omega) (row_take hg n hn) ad l.length c (sC l) (by rw [hs2, sC_len]) (apR_news hs) hno (by omega) (growslice_fits hno (by rw [hb]; omega))
  have hge := grownCap_ge w (n + l.length) D.length 56
  have hle := grownCap_le_maxLen w (n + l.length) D.length 56 (by unfold maxLen; omega)
  obtain ⟨q, hq⟩ : ∃ q, grownCap w (n + l.length) D.length 56 - (n + l.length) = q := ⟨_, rfl⟩
  refine ⟨q, by omega, ?_⟩
  rw [hq, show (Value.agg #[.int .i64 0, .int .i64 0]).cells = #[.int .i64 0, .int .i64 0] from rfl, zeroC2] at h
  rw [h]
  congr 2
  · simp only [List.length_append, List.length_take, List.length_replicate]; congr 1; omega
  · congr 2
    simp [sRow_sC, sC_append]
/-- An append to none. -/
theorem app_none {w : World} (ty : TypeId) {l : List Sn} {ad : Addr} {c : Nat} (hs : Signs w (some ad) l) (h0 : 0 < l.length) (hlen : l.length ≤ 1000000) :
    ∃ q, q + l.length ≤ maxLen ∧ (Builtin.append_ #[28, 28] ty #[.slice none 0 0, .slice (some ad) l.length c]).run Tryd.prog w = .ok (.slice (some ⟨w.heap.size, 0, none⟩) l.length (l ++ List.replicate q (0, 0)).length) (w.drew.alloc (.cells (sRow (l ++ List.replicate q (0, 0))) 56)) := by
  obtain ⟨i, hi, hz, hs2, hb⟩ := infoSg3
  have h := run_append_nil (P := Tryd.prog) w 28 ty 56 i _ Tryd.underlying28 hi hz ad l.length c (sC l) (by rw [hs2, sC_len]) (apR_news hs) h0 (by omega) (by rw [hb]; omega)
  have hge := grownCap_ge w l.length 0 56
  have hle := grownCap_le_maxLen w l.length 0 56 (by unfold maxLen; omega)
  obtain ⟨q, hq⟩ : ∃ q, grownCap w l.length 0 56 - l.length = q := ⟨_, rfl⟩
  refine ⟨q, by omega, ?_⟩
  rw [hq, show (Value.agg #[.int .i64 0, .int .i64 0]).cells = #[.int .i64 0, .int .i64 0] from rfl, zeroC2] at h
  rw [h]
  congr 2
  · simp only [List.length_append, List.length_replicate]; congr 1; omega
  · congr 2
    simp [sRow_sC, sC_append]
/-- An append of zeroes where there is no room. -/
theorem appz_grow {w : World} (ty : TypeId) {g : Nat} {D : List Sn} {n k : Nat} (hg : w.heap[g]? = some (.cells (sRow D) 56 (0, 0))) (hn : n ≤ D.length) (hno : D.length < n + k) (hlen : n + k ≤ 1000000) :
    ∃ q, q + (n + k) ≤ maxLen ∧ (Builtin.append_ #[28, 3] ty #[.slice (some ⟨g, 0, none⟩) n D.length, .int .i64 (k : Int)]).run Tryd.prog w = .ok (.slice (some ⟨w.heap.size, 0, none⟩) (n + k) (D.take n ++ List.replicate k (0, 0) ++ List.replicate q (0, 0)).length) (w.drew.alloc (.cells (sRow (D.take n ++ List.replicate k (0, 0) ++ List.replicate q (0, 0))) 56)) := by
  obtain ⟨i, hi, hz, hs2, hb⟩ := infoSg3
  have hold := run_firstCells_some (P := Tryd.prog) w.drew i.size n ⟨g, 0, none⟩ n D.length (sC (D.take n)) (by rw [hs2, sC_len, List.length_take]; omega) (row_take (w := w.drew) hg n hn)
  have h := Lib.run_append_grow_zeros (P := Tryd.prog) w 28 3 ty 56 i _ .i64 .i64 Tryd.underlying28 Tryd.underlying3 hi hz (some ⟨g, 0, none⟩) n D.length (sC (D.take n)) hold k (by omega) (by omega) hno (by omega) (by rw [hb]; omega) (growslice_fits hno (by rw [hb]; omega))
  have hge := grownCap_ge w (n + k) D.length 56
  have hle := grownCap_le_maxLen w (n + k) D.length 56 (by unfold maxLen; omega)
  obtain ⟨q, hq⟩ : ∃ q, grownCap w (n + k) D.length 56 - (n + k) = q := ⟨_, rfl⟩
  refine ⟨q, by omega, ?_⟩
  rw [hq, show (Value.agg #[.int .i64 0, .int .i64 0]).cells = #[.int .i64 0, .int .i64 0] from rfl, zeroC2, zeroC2] at h
  rw [h]
  congr 2
  · simp only [List.length_append, List.length_take, List.length_replicate]; congr 1; omega
  · congr 2
    simp only [sRow_sC, sC_append, List.append_toArray]
theorem zeroSgV (w : World) : (zeroValue 56).run Tryd.prog w = .ok (.agg #[.int .i64 0, .int .i64 0]) w := by kernel_rfl
/-- A part of a row is cleared. -/
theorem clear_room {w : World} (ty : TypeId) {g : Nat} {D : List Sn} {o n c : Nat} (hg : w.heap[g]? = some (.cells (sRow D) 56 (0, 0))) (hn : 0 < n) (hfit : o + n ≤ D.length) :
    (Builtin.clear_ #[28] ty #[.slice (some ⟨g, o * 2, none⟩) n c]).run Tryd.prog w = .ok (.tuple #[]) (w.setRow g (sRow (cpL D o (List.replicate n (0, 0))))) := by
  have hz : (Builtin.zeroCells #[.int .i64 0, .int .i64 0] n).toList = sC (List.replicate n (0, 0)) := by rw [zeroC2, sRow_sC]
  have hst := run_storeCells_at Tryd.prog g (o * 2) 56 (sC (List.replicate n (0, 0))) 0 (sRow D) w hg (by rw [sC_len, sRow_sC, List.size_toArray, sC_len, List.length_replicate]; omega) (sC_cell _)
  rw [Nat.add_zero, cp_row] at hst
  obtain ⟨m, rfl⟩ : ∃ m, n = m + 1 := ⟨n - 1, by omega⟩
  have e : (Value.agg #[.int .i64 0, .int .i64 0]).cells = #[.int .i64 0, .int .i64 0] := rfl
  simp [Builtin.clear_, run_underlying Tryd.underlying28, zeroSgV, e, hz, hst]
theorem clear_zero {w : World} (ty : TypeId) (a : Option Addr) (c : Nat) :
    (Builtin.clear_ #[28] ty #[.slice a 0 c]).run Tryd.prog w = .ok (.tuple #[]) w := by
  have e : (Value.agg #[.int .i64 0, .int .i64 0]).cells = #[.int .i64 0, .int .i64 0] := rfl
  have hz : Builtin.zeroCells #[.int .i64 0, .int .i64 0] 0 = #[] := by simp [Builtin.zeroCells]
  cases a <;> simp [Builtin.clear_, run_underlying Tryd.underlying28, zeroSgV, e, hz, storeCells]
end Go.Proofs.YtjgffedcbdnddaaDoor
set_option linter.unusedVariables false
set_option linter.unusedSimpArgs false
namespace Go.Proofs.YtjgffedcbdnddaaDoor
open Go.RowKit
/-- What a row becomes: a slice of it, grown, with all else as it was. -/
def InsP (w : World) (B : Nat) (v : Value) (R : List Sn) (e : Ending) (w' : World) : Prop := ∃ v', e = .returned v' ∧ RmS w' B v' R ∧ w.grownBy w' v.ownBlock ∧ ∀ k, v'.ownBlock = some k → v.ownBlock = some k ∨ w.heap.size ≤ k
theorem cpL_take {D X : List Sn} {o : Nat} (h : o ≤ D.length) : (cpL D o X).take (o + X.length) = D.take o ++ X := by
  unfold cpL
  rw [List.take_left']
  rw [List.length_append, List.length_take]; omega
theorem cpL_low {D X : List Sn} {o i : Nat} (h : i ≤ o) (ho : o ≤ D.length) : (cpL D o X).take i = D.take i := by
  unfold cpL
  rw [List.append_assoc, List.take_append_of_le_length (by rw [List.length_take]; omega), List.take_take, Nat.min_eq_left h]
theorem cpL_high {D X : List Sn} {o : Nat} (h : o + X.length ≤ D.length) : ((cpL D o X).drop o).take X.length = X := by
  unfold cpL
  have e : (D.take o).length = o := by rw [List.length_take]; omega
  rw [List.append_assoc, List.drop_left' e, List.take_left']
  rfl
theorem cpL_len' {D X : List Sn} {o : Nat} (h : o + X.length ≤ D.length) : (cpL D o X).length = D.length := cpL_len D o X h
/-- First ahead, then behind. -/
theorem cp_ab {D C R : List Sn} {i : Nat} (h : i + C.length + R.length ≤ D.length) : (cpL (cpL D i C) (i + C.length) R).take (i + C.length + R.length) = D.take i ++ C ++ R := by
  rw [cpL_take (by rw [cpL_len' (by omega)]; omega), cpL_take (by omega)]
/-- First behind, then ahead. -/
theorem cp_ba {D C R : List Sn} {i : Nat} (h : i + C.length + R.length ≤ D.length) : (cpL (cpL D (i + C.length) R) i C).take (i + C.length + R.length) = D.take i ++ C ++ R := by
  have hl := cpL_len' (D := D) (X := R) (o := i + C.length) (by omega)
  have h1 := cpL_low (D := D) (X := R) (o := i + C.length) (i := i) (by omega) (by omega)
  have h2 := cpL_high (D := D) (X := R) (o := i + C.length) (by omega)
  generalize cpL D (i + C.length) R = X at *
  unfold cpL
  rw [h1]
  have e : (D.take i ++ C).length = i + C.length := by rw [List.length_append, List.length_take]; omega
  rw [show i + C.length + R.length = (D.take i ++ C).length + R.length by rw [e], List.take_length_add_append, h2]
theorem tdR {D L : List Sn} {i : Nat} (h : D.take L.length = L) (hi : i ≤ L.length) : D.take i = L.take i ∧ (D.drop i).take (L.length - i) = L.drop i := by
  constructor
  · conv => rhs; rw [← h]
    rw [List.take_take, Nat.min_eq_left hi]
  · conv => rhs; rw [← h]
    rw [List.drop_take]
/-- Parts of a slice in a block. -/
theorem cutL_g (w : World) (g n c f : Nat) (h : f ≤ n) (hc : f < c) : (Instr.slice 28 (.slice (some ⟨g, 0, none⟩) n c) (some (.int .i64 (f : Int))) none none).run Tryd.prog w = .ok (.slice (some ⟨g, f * 2, none⟩) (n - f) (c - f)) w := by
  rw [run_cutL w _ n c f h, if_neg (by omega)]
  simp only [Option.map_some, addG, Nat.zero_add]
theorem cutH_g (w : World) (g n c t : Nat) (h : t ≤ c) : (Instr.slice 28 (.slice (some ⟨g, 0, none⟩) n c) none (some (.int .i64 (t : Int))) none).run Tryd.prog w = .ok (.slice (some ⟨g, 0, none⟩) t c) w := by
  rw [run_cutH w _ n c t h]
  split
  · rfl
  · simp only [Option.map_some, addG, Nat.zero_mul, Nat.add_zero]
end Go.Proofs.YtjgffedcbdnddaaDoor
set_option linter.unusedVariables false
set_option linter.unusedSimpArgs false
namespace Go.Proofs.YtjgffedcbdnddaaDoor
open Go.RowKit
set_option maxRecDepth 100000 in
set_option maxHeartbeats 4000000 in
theorem ins_zero (a : Option Addr) (n c i : Nat) (b : Option Addr) (d : Nat) (w : World) (h : i ≤ n) : Calls Tryd.prog 44 #[.slice a n c, .int .i64 (i : Int), .slice b 0 d] w fun e w' => e = .returned (.slice a n c) ∧ w = w' := by
  have SL := fun w => run_cutL w a n c i h
  generalize (if c = i then a else a.map (·.add (i * 2))) = x at *
  clear h
  go_enter Tryd.func44, Tryd.ntmps44
  go_wp2
  go_ret
  exact ⟨rfl, rfl⟩
set_option maxRecDepth 100000 in
set_option maxHeartbeats 4000000 in
theorem ins_end (a : Option Addr) (n c : Nat) (b : Option Addr) (m d : Nat) (v' : Value) (w w1 : World) (hm : 0 < m) (AP : (Builtin.append_ #[28, 28] 28 #[.slice a n c, .slice b m d]).run Tryd.prog w = .ok v' w1) : Calls Tryd.prog 44 #[.slice a n c, .int .i64 (n : Int), .slice b m d] w fun e w' => e = .returned v' ∧ w1 = w' := by
  have SL := fun w => run_cutL w a n c n (Nat.le_refl _)
  generalize (if c = n then a else a.map (·.add (n * 2))) = x at *
  have g1 : ¬ (m : Int) = 0 := by omega
  have g2 : ((m : Int) == 0) = false := by rw [beq_eq_false_iff_ne]; exact g1
  have HAP := Lib.hid AP
  clear hm AP
  go_enter Tryd.func44, Tryd.ntmps44
  go_wp2_with (at_builtin; refine Lib.wpList_append_run _ rfl _ _ _ _ rfl _ _ rfl rfl _ _ HAP.out ?_)
  go_ret
  exact ⟨rfl, rfl⟩
/-- A copy of as many signs as there is room for. -/
theorem copy_min {w : World} (ty : TypeId) {g r : Nat} {D S : List Sn} {o x dl dc n sl sc : Nat} (hg : w.heap[g]? = some (.cells (sRow D) 56 (0, 0))) {f : Nat × Nat} {t : TypeId} (hr : w.heap[r]? = some (.cells (sRow S) t f)) (hfit : o + n ≤ D.length) (hx : x + n ≤ S.length) (hn : n = Nat.min sl dl) :
    (Builtin.copy_ #[28, 28] ty #[.slice (some ⟨g, o * 2, none⟩) dl dc, .slice (some ⟨r, x * 2, none⟩) sl sc]).run Tryd.prog w = .ok (goInt n) (w.setRow g (sRow (cpL D o ((S.drop x).take n)))) := by
  have hl : ((S.drop x).take n).length = n := by rw [List.length_take, List.length_drop]; omega
  have h := run_copy_w (P := Tryd.prog) w 28 28 ty 56 g (o * 2) dl dc ⟨r, x * 2, none⟩ sl sc (sRow D) 56 (sC ((S.drop x).take n)) 2 n Tryd.underlying28 infoSz hg hn (by rw [sC_len, hl]) (apR_news (signs_of_row hr hx)) (by rw [sC_len, hl, sRow_sC, List.size_toArray, sC_len]; omega) (sC_cell _)
  rw [cp_row] at h
  exact h
/-- Two blocks don't overlap. -/
theorem over_no (w : World) (a b : Addr) (la ca lb cb : Nat) (hne : a.block ≠ b.block) {tA tB : TypeId} {csA csB : Array Value} {lo hi : Nat} {fB : Nat × Nat} (hA : w.heap[a.block]? = some (.cells csA tA (lo, hi))) (hlo : hi ≤ lo) (hB : w.heap[b.block]? = some (.cells csB tB fB)) (h0 : csB.size ≠ 0) :
    (callFunc 45 #[.slice (some a) la ca, .slice (some b) lb cb]).run Tryd.prog w = .ok (.value (.bool false)) w := by
  rw [run_callFunc_extern (P := Tryd.prog) Tryd.func45 (by kernel_rfl) (by kernel_rfl) (by kernel_rfl) (e := Extern.SlicesOverlaps.overlaps #[28, 28] #[4]) (by kernel_rfl),
    Lib.run_overlaps_apart w 28 4 56 Tryd.underlying28 2 sizeSg a b la ca lb cb hne tA tB csA.size csB.size (by simp [World.shape?, hA]) (by simp [World.shape?, hB]) h0 (by simp [World.frozen?, hA]; omega) (by simp [World.frozen?, hA]; omega)]
  rfl
set_option maxRecDepth 100000 in
set_option maxHeartbeats 4000000 in
/-- Behind some signs, where there is room. -/
theorem ins_room (g n i m r : Nat) (D C : List Sn) (ad : Addr) (d : Nat) (w : World) (hg : w.heap[g]? = some (.cells (sRow D) 56 (0, 0))) (hC : Signs w (some ad) C) (hm : C.length = m) (h0 : 0 < m) (hne : ad.block ≠ g) (hir : i + r = n) (hr : 0 < r) (hfit : n + m ≤ D.length) (hsh : ∃ tA csA lo hi, w.heap[ad.block]? = some (.cells csA tA (lo, hi)) ∧ hi ≤ lo) (hbig : D.length ≤ maxLen) :
    Calls Tryd.prog 44 #[.slice (some ⟨g, 0, none⟩) n D.length, .int .i64 (i : Int), .slice (some ad) m d] w fun e w' => e = .returned (.slice (some ⟨g, 0, none⟩) (n + m) D.length) ∧ w' = (w.drew.setRow g (sRow (cpL D (i + m) ((D.drop i).take r)))).setRow g (sRow (cpL (cpL D (i + m) ((D.drop i).take r)) i C)) := by
  have hbig' : D.length ≤ 9223372036854775807 := hbig
  have S0 := fun w => cutL_g w g n D.length i (by omega) (by omega)
  have S1 : ∀ w, (Instr.slice 28 (.slice (some ⟨g, 0, none⟩) n D.length) none (some (.int .i64 ((n : Int) + (m : Int)))) none).run Tryd.prog w = .ok (.slice (some ⟨g, 0, none⟩) (n + m) D.length) w := fun w => by
    have := cutH_g w g n D.length (n + m) (by omega)
    rwa [Int.natCast_add] at this
  have S2 : ∀ w, (Instr.slice 28 (.slice (some ⟨g, 0, none⟩) (n + m) D.length) (some (.int .i64 ((i : Int) + (m : Int)))) none none).run Tryd.prog w = .ok (.slice (some ⟨g, (i + m) * 2, none⟩) r (D.length - (i + m))) w := fun w => by
    have := cutL_g w g (n + m) D.length (i + m) (by omega) (by omega)
    rwa [Int.natCast_add, show n + m - (i + m) = r by omega] at this
  have S3 : ∀ w, (Instr.slice 28 (.slice (some ⟨g, 0, none⟩) (n + m) D.length) (some (.int .i64 (i : Int))) none none).run Tryd.prog w = .ok (.slice (some ⟨g, i * 2, none⟩) (r + m) (D.length - i)) w := fun w => by
    have := cutL_g w g (n + m) D.length i (by omega) (by omega)
    rwa [show n + m - i = r + m by omega] at this
  obtain ⟨tA, csA, lo, hi, hA, hlo⟩ := hsh
  have hsz0 : (sRow D).size ≠ 0 := by rw [sRow_sC, List.size_toArray, sC_len]; omega
  have hov := over_no w ad ⟨g, (i + m) * 2, none⟩ m d r (D.length - (i + m)) hne hA hlo hg hsz0
  have cp1 : (Builtin.copy_ #[28, 28] 3 #[.slice (some ⟨g, (i + m) * 2, none⟩) r (D.length - (i + m)), .slice (some ⟨g, i * 2, none⟩) (r + m) (D.length - i)]).run Tryd.prog w.drew = .ok (goInt r) (w.drew.setRow g (sRow (cpL D (i + m) ((D.drop i).take r)))) :=
    copy_min (w := w.drew) 3 (o := i + m) (x := i) hg hg (by omega) (by omega) (by simp only [Nat.min_def]; split <;> omega)
  have hlr : ((D.drop i).take r).length = r := by rw [List.length_take, List.length_drop]; omega
  have hDl := cpL_len' (D := D) (X := (D.drop i).take r) (o := i + m) (by omega)
  obtain ⟨D1, hD1⟩ : ∃ D1, cpL D (i + m) ((D.drop i).take r) = D1 := ⟨_, rfl⟩
  rw [hD1] at cp1 hDl ⊢
  obtain ⟨W1, hW1⟩ : ∃ W1, w.drew.setRow g (sRow D1) = W1 := ⟨_, rfl⟩
  have b1 := setRow_heap w.drew g _ (sRow D1) 56 (0, 0) hg
  rw [hW1] at cp1 b1 ⊢
  have hC1 : Signs W1 (some ad) C := fun j hj => by
    obtain ⟨b, off, e, hb, c1, c2⟩ := hC j hj
    injection e with e
    have hbg : b ≠ g := by rw [e] at hne; exact hne
    have hk : W1.heap[b]? = w.heap[b]? := by rw [← hW1]; exact setRow_other w.drew g b _ hbg
    refine ⟨b, off, by rw [e], ?_, ?_, ?_⟩
    · rw [← hW1]; simpa [World.setRow] using hb
    · rw [← c1]; unfold World.cell?; rw [hk]
    · rw [← c2]; unfold World.cell?; rw [hk]
  have cp2 : (Builtin.copy_ #[28, 28] 3 #[.slice (some ⟨g, i * 2, none⟩) (r + m) (D.length - i), .slice (some ad) m d]).run Tryd.prog W1 = .ok (goInt m) (W1.setRow g (sRow (cpL D1 i C))) := by
    have := copy_signs (w := W1) 3 (o := i) (dl := r + m) (dc := D.length - i) (sc := d) b1 hC1 (by omega) (by omega)
    rwa [hm] at this
  have g1 : ¬ (m : Int) = 0 := by omega
  have g2 : ((m : Int) == 0) = false := by rw [beq_eq_false_iff_ne]; exact g1
  have g3 : ¬ (i : Int) = (n : Int) := by omega
  have g4 : ((i : Int) == (n : Int)) = false := by rw [beq_eq_false_iff_ne]; exact g3
  have g5 : (n : Int) + (m : Int) ≤ ((D.length : Nat) : Int) := by omega
  have g6 : (i : Int) + (m : Int) < ((D.length : Nat) : Int) := by omega
  have g7 : (i : Int) < (n : Int) := by omega
  have g8 : (i : Int) + (m : Int) ≤ (n : Int) + (m : Int) := by omega
  have HW := Lib.hid hW1
  clear hsz0 hA hlo hC hC1 b1 hg hfit hr hir hm h0 hlr hDl hD1 hbig
  generalize D.length = c at *
  go_enter Tryd.func44, Tryd.ntmps44
  go_wp2_with (simp only [hov])
  go_region
  go_wp2
  go_ret
  exact ⟨rfl, rfl⟩
set_option maxRecDepth 100000 in
set_option maxHeartbeats 4000000 in
/-- Behind some signs, where there is no room. -/
theorem ins_grow (g n i m r : Nat) (D C : List Sn) (ad : Addr) (d : Nat) (w : World) (hg : w.heap[g]? = some (.cells (sRow D) 56 (0, 0))) (hC : Signs w (some ad) C) (hm : C.length = m) (h0 : 0 < m) (hir : i + r = n) (hr : 0 < r) (hn : n ≤ D.length) (hno : D.length < n + m) (hlen : n + m ≤ 1000000) :
    Calls Tryd.prog 44 #[.slice (some ⟨g, 0, none⟩) n D.length, .int .i64 (i : Int), .slice (some ad) m d] w fun e w' => ∃ D1, e = .returned (.slice (some ⟨w.heap.size, 0, none⟩) (n + m) D1.length) ∧ w'.heap[w.heap.size]? = some (.cells (sRow D1) 56 (0, 0)) ∧ n + m ≤ D1.length ∧ D1.length ≤ maxLen ∧ D1.take (n + m) = D.take i ++ C ++ (D.drop i).take r ∧ Below w.heap.size w w' := by
  obtain ⟨k, hk⟩ : ∃ k, i + k = n + m := ⟨n + m - i, by omega⟩
  obtain ⟨q, hq, AP⟩ := appz_grow (w := w) 28 (n := i) (k := k) hg (by omega) (by omega) (by omega)
  have hDi : (D.take i).length = i := by rw [List.length_take]; omega
  have hD1l : (D.take i ++ List.replicate k ((0, 0) : Sn) ++ List.replicate q (0, 0)).length = i + k + q := by rw [List.length_append, List.length_append, hDi, List.length_replicate, List.length_replicate]
  have hD1t : (D.take i ++ List.replicate k ((0, 0) : Sn) ++ List.replicate q (0, 0)).take i = D.take i := by rw [List.append_assoc, List.take_left' hDi]
  obtain ⟨D1, hD1⟩ : ∃ D1, D.take i ++ List.replicate k ((0, 0) : Sn) ++ List.replicate q (0, 0) = D1 := ⟨_, rfl⟩
  rw [hD1] at AP hD1l hD1t
  have b1 := heap_alloc_new w.drew (.cells (sRow D1) 56)
  have N1 := (Below.refl w.heap.size w).drew.alloc (Nat.le_refl _) (.cells (sRow D1) 56)
  have o1 : ∀ j, j < w.heap.size → (w.drew.alloc (.cells (sRow D1) 56)).heap[j]? = w.heap[j]? := fun j hj => N1.block j hj
  have e1 : w.drew.heap.size = w.heap.size := rfl
  rw [e1] at b1
  obtain ⟨W1, hW1⟩ : ∃ W1, w.drew.alloc (.cells (sRow D1) 56) = W1 := ⟨_, rfl⟩
  rw [hW1] at AP b1 N1 o1
  obtain ⟨h, hh⟩ : ∃ h, w.heap.size = h := ⟨_, rfl⟩
  rw [hh] at AP b1 N1 o1 ⊢
  have hgh : g < h := by rw [← hh]; exact blk_lt hg
  have hg1 : W1.heap[g]? = some (.cells (sRow D) 56 (0, 0)) := (o1 g hgh).trans hg
  have hC1 : Signs W1 (some ad) C := hC.below (by rw [hh]; exact N1)
  have cp1 : (Builtin.copy_ #[28, 28] 3 #[.slice (some ⟨h, i * 2, none⟩) k (D1.length - i), .slice (some ad) m d]).run Tryd.prog W1 = .ok (goInt m) (W1.setRow h (sRow (cpL D1 i C))) := by
    have := copy_signs (w := W1) 3 (o := i) (dl := k) (dc := D1.length - i) (sc := d) b1 hC1 (by omega) (by omega)
    rwa [hm] at this
  have hD2l := cpL_len' (D := D1) (X := C) (o := i) (by omega)
  have b2 := setRow_heap W1 h _ (sRow (cpL D1 i C)) 56 (0, 0) b1
  have N2 := Go.below_setRow N1 (Nat.le_refl h) (sRow (cpL D1 i C))
  have hg2 : (W1.setRow h (sRow (cpL D1 i C))).heap[g]? = some (.cells (sRow D) 56 (0, 0)) := (setRow_other W1 h g _ (by omega)).trans hg1
  obtain ⟨D2, hD2⟩ : ∃ D2, cpL D1 i C = D2 := ⟨_, rfl⟩
  rw [hD2] at cp1 b2 N2 hg2 hD2l
  obtain ⟨W2, hW2⟩ : ∃ W2, W1.setRow h (sRow D2) = W2 := ⟨_, rfl⟩
  rw [hW2] at cp1 b2 N2 hg2
  have cp2 : (Builtin.copy_ #[28, 28] 3 #[.slice (some ⟨h, (i + m) * 2, none⟩) r (D1.length - (i + m)), .slice (some ⟨g, i * 2, none⟩) r (D.length - i)]).run Tryd.prog W2.drew = .ok (goInt r) (W2.drew.setRow h (sRow (cpL D2 (i + m) ((D.drop i).take r)))) :=
    copy_min (w := W2.drew) 3 (o := i + m) (x := i) b2 hg2 (by omega) (by omega) (by simp only [Nat.min_def]; split <;> omega)
  have hlr : ((D.drop i).take r).length = r := by rw [List.length_take, List.length_drop]; omega
  have b3 := setRow_heap W2.drew h _ (sRow (cpL D2 (i + m) ((D.drop i).take r))) 56 (0, 0) b2
  have N3 := Go.below_setRow N2.drew (Nat.le_refl h) (sRow (cpL D2 (i + m) ((D.drop i).take r)))
  have hD3l : (cpL D2 (i + m) ((D.drop i).take r)).length = D1.length := by rw [cpL_len' (by omega), hD2l]
  have fin : (cpL D2 (i + m) ((D.drop i).take r)).take (n + m) = D.take i ++ C ++ (D.drop i).take r := by
    have := cp_ab (D := D1) (C := C) (R := (D.drop i).take r) (i := i) (by omega)
    rw [hD2, hD1t, hm, hlr, show i + m + r = n + m by omega] at this
    exact this
  have F := Lib.hid fin; have B3 := Lib.hid b3; have M3 := Lib.hid N3; have HL := Lib.hid hD3l
  have HA : Hid (n + m ≤ D1.length ∧ D1.length ≤ maxLen) := Lib.hid ⟨by omega, by rw [hD1l]; omega⟩
  have S0 := fun w => cutL_g w g n D.length i (by omega) (by omega)
  rw [show n - i = r by omega] at S0
  have S1 := fun w => cutH_g w g n D.length i (by omega)
  have S2 : ∀ w, (Instr.slice 28 (.slice (some ⟨h, 0, none⟩) (i + k) D1.length) (some (.int .i64 (i : Int))) none none).run Tryd.prog w = .ok (.slice (some ⟨h, i * 2, none⟩) k (D1.length - i)) w := fun w => by
    have := cutL_g w h (i + k) D1.length i (by omega) (by omega)
    rwa [show i + k - i = k by omega] at this
  have S3 : ∀ w, (Instr.slice 28 (.slice (some ⟨h, 0, none⟩) (i + k) D1.length) (some (.int .i64 ((i : Int) + (m : Int)))) none none).run Tryd.prog w = .ok (.slice (some ⟨h, (i + m) * 2, none⟩) r (D1.length - (i + m))) w := fun w => by
    have := cutL_g w h (i + k) D1.length (i + m) (by omega) (by omega)
    rwa [Int.natCast_add, show i + k - (i + m) = r by omega] at this
  have g1 : ¬ (m : Int) = 0 := by omega
  have g2 : ((m : Int) == 0) = false := by rw [beq_eq_false_iff_ne]; exact g1
  have g3 : ¬ (i : Int) = (n : Int) := by omega
  have g4 : ((i : Int) == (n : Int)) = false := by rw [beq_eq_false_iff_ne]; exact g3
  have g5 : ((D.length : Nat) : Int) < (n : Int) + (m : Int) := by omega
  have g6 : (n : Int) + (m : Int) ≤ 1000000 := by omega
  have g7 : (i : Int) < (n : Int) := by omega
  have g8 : (i : Int) + (m : Int) ≤ (n : Int) + (m : Int) := by omega
  have hkI : (n : Int) + (m : Int) - (i : Int) = (k : Int) := by omega
  have HK := Lib.hid hk
  have HAP := Lib.hid AP
  clear AP b1 N1 o1 e1 hh hgh hg1 hC1 b2 N2 hg2 b3 N3 hD3l fin hlr hD2l hD1l hD1t hDi hg hC hm h0 hir hr hn hno hlen hq hk hW1 hW2 hD2 hD1
  obtain ⟨D3, hD3⟩ : ∃ D3, cpL D2 (i + m) ((D.drop i).take r) = D3 := ⟨_, rfl⟩
  rw [hD3] at F B3 M3 HL cp2
  clear hD3
  generalize D.length = c at *
  generalize D1.length = c1 at *
  go_enter Tryd.func44, Tryd.ntmps44
  go_wp2_with (at_builtin; refine Lib.wpList_append_run _ rfl _ _ _ _ rfl _ _ rfl rfl _ _ HAP.out ?_)
  go_region
  go_wp2
  go_ret
  exact ⟨D3, (by (rw [HL.out, ← HK.out]) <;> rfl), B3.out, by rw [HL.out]; exact HA.out.1, by rw [HL.out]; exact HA.out.2, F.out, M3.out⟩
end Go.Proofs.YtjgffedcbdnddaaDoor
set_option linter.unusedVariables false
set_option linter.unusedSimpArgs false
namespace Go.Proofs.YtjgffedcbdnddaaDoor
open Go.RowKit
/-- A block of cells none of which is frozen. -/
def PlB (w : World) (a : Option Addr) : Prop := ∀ ad, a = some ad → ∃ tA csA lo hi, w.heap[ad.block]? = some (.cells csA tA (lo, hi)) ∧ hi ≤ lo
theorem ud_grown_below {w w' : World} {row : Option Nat} (h : Below w.heap.size w w') : w.grownBy w' row := ⟨h.os, h.tape, h.output, h.size, fun k hk _ => h.block k hk⟩
theorem insert_any (v : Value) (L C : List Sn) (B i n m : Nat) (b : Option Addr) (d : Nat) (w : World) (hv : RmS w B v L) (hn : L.length = n) (hm : C.length = m) (hi : i ≤ n) (hC : SlS (fun k => v.ownBlock ≠ some k) w b C d) (hP : C ≠ [] → PlB w b) (hlen : n + m ≤ 1000000) (hB : B ≤ w.heap.size) :
    Calls Tryd.prog 44 #[v, .int .i64 (i : Int), .slice b m d] w (InsP w B v (L.take i ++ C ++ L.drop i)) := by
  by_cases h0 : m = 0
  · subst h0
    have hC0 : C = [] := List.length_eq_zero_iff.1 hm
    subst hC0
    obtain ⟨a, c, rfl, _⟩ := hv.sl
    rw [hn] at hv ⊢
    refine (ins_zero a n c i b d w hi).mono ?_
    rintro e w' ⟨rfl, rfl⟩
    refine ⟨_, rfl, ?_, ud_grown_below (Below.refl _ _), fun k hk => Or.inl hk⟩
    rw [List.append_nil, List.take_append_drop]
    exact hv
  have hm0 : 0 < m := by omega
  have hCne : C ≠ [] := fun e => by rw [e] at hm; simp at hm; omega
  obtain ⟨ad, rfl⟩ : ∃ ad, b = some ad := by
    obtain ⟨bb, off, e, _⟩ := hC.s 0 (by omega)
    exact ⟨_, e⟩
  have hne := hC.st ad rfl hCne
  obtain ⟨tA, csA, lo, hh, hA, hlo⟩ := hP hCne ad rfl
  rcases hv with ⟨rfl, rfl⟩ | ⟨g, D, rfl, hBg, hg, hle, hD, hmx⟩
  · obtain rfl : n = 0 := by simpa using hn.symm
    obtain rfl : i = 0 := by omega
    obtain ⟨q, hq, AP⟩ := app_none (w := w) 28 (c := d) hC.s (by omega) (by omega)
    rw [hm] at AP
    refine (ins_end none 0 0 (some ad) m d _ w _ hm0 AP).mono ?_
    rintro e w' ⟨rfl, rfl⟩
    refine ⟨_, rfl, .inr ⟨w.heap.size, C ++ List.replicate q (0, 0), ?_, hB, heap_alloc_new w.drew _, ?_, ?_, ?_⟩, ud_grown_below ((Below.refl w.heap.size w).drew.alloc (Nat.le_refl _) _), fun k hk => ?_⟩
    · (try simp [hm]) <;> (try omega)
    · (try simp) <;> (try omega)
    · simp
    · rw [List.length_append, List.length_replicate]; omega
    · right; exact Nat.le_of_eq (Option.some.inj hk)
  · rw [hn] at hle hD ⊢
    have hbg : ad.block ≠ g := fun e => hne (by rw [e]; rfl)
    have htd := tdR (D := D) (L := L) (i := i) (by rw [hn]; exact hD) (by omega)
    rw [hn] at htd
    by_cases hin : i = n
    · subst hin
      have hLd : L.drop i = [] := List.drop_of_length_le (by omega)
      have hLt : L.take i = L := List.take_of_length_le (by omega)
      rw [hLd, hLt, List.append_nil]
      by_cases hroom : i + m ≤ D.length
      · have AP := app_in (w := w) 28 (n := i) (c := d) hg hC.s (by omega)
        rw [hm] at AP
        refine (ins_end _ i D.length (some ad) m d _ w _ hm0 AP).mono ?_
        rintro e w' ⟨rfl, rfl⟩
        have hl := cpL_len' (D := D) (X := C) (o := i) (by omega)
        refine ⟨_, rfl, .inr ⟨g, cpL D i C, ?_, hBg, setRow_heap w g _ _ _ _ hg, ?_, ?_, ?_⟩, ⟨rfl, rfl, rfl, by simp [World.setRow], fun k hk hkg => setRow_other w g k _ (fun e => hkg (by rw [e]; rfl))⟩, fun k hk => Or.inl hk⟩
        · rw [hl, List.length_append, hn, hm]
        · rw [hl, List.length_append]; omega
        · rw [List.length_append, hn, cpL_take (by omega), hD]
        · rw [hl]; exact hmx
      · obtain ⟨q, hq, AP⟩ := app_grow (w := w) 28 (n := i) (c := d) hg hC.s (by omega) (by omega) (by omega)
        rw [hm, hD] at AP
        refine (ins_end _ i D.length (some ad) m d _ w _ hm0 AP).mono ?_
        rintro e w' ⟨rfl, rfl⟩
        refine ⟨_, rfl, .inr ⟨w.heap.size, L ++ C ++ List.replicate q (0, 0), ?_, hB, heap_alloc_new w.drew _, ?_, ?_, ?_⟩, ud_grown_below ((Below.refl w.heap.size w).drew.alloc (Nat.le_refl _) _), fun k hk => ?_⟩
        · (try simp [hm, hn]) <;> (try omega)
        · (try simp) <;> (try omega)
        · rw [List.take_left' rfl]
        · rw [List.length_append, List.length_append, List.length_replicate]; omega
        · right; exact Nat.le_of_eq (Option.some.inj hk)
    · obtain ⟨r, hr⟩ : ∃ r, i + r = n := ⟨n - i, by omega⟩
      have hnr : n - i = r := by omega
      rw [hnr] at htd
      by_cases hroom : n + m ≤ D.length
      · refine (ins_room g n i m r D C ad d w hg hC.s hm hm0 hbg hr (by omega) hroom ⟨tA, csA, lo, hh, hA, hlo⟩ hmx).mono ?_
        rintro e w' ⟨rfl, rfl⟩
        have hrl : ((D.drop i).take r).length = r := by rw [List.length_take, List.length_drop]; omega
        have hl1 := cpL_len' (D := D) (X := (D.drop i).take r) (o := i + m) (by omega)
        have hl2 := cpL_len' (D := cpL D (i + m) ((D.drop i).take r)) (X := C) (o := i) (by omega)
        have hta := cp_ba (D := D) (C := C) (R := (D.drop i).take r) (i := i) (by omega)
        rw [hm, hrl, htd.1, htd.2] at hta
        have hb1 := setRow_heap w.drew g _ (sRow (cpL D (i + m) ((D.drop i).take r))) 56 (0, 0) hg
        refine ⟨_, rfl, .inr ⟨g, cpL (cpL D (i + m) ((D.drop i).take r)) i C, ?_, hBg, setRow_heap _ g _ _ _ _ hb1, ?_, ?_, ?_⟩, ⟨rfl, rfl, rfl, by simp [World.setRow], fun k hk hkg => ?_⟩, fun k hk => Or.inl hk⟩
        · rw [hl2, hl1, List.length_append, List.length_append, List.length_take, List.length_drop]; congr 1; omega
        · rw [hl2, hl1, List.length_append, List.length_append, List.length_take, List.length_drop]; omega
        · rw [htd.2, List.length_append, List.length_append, List.length_take, List.length_drop, show min i L.length + C.length + (L.length - i) = i + m + r by omega]; exact hta
        · rw [hl2, hl1]; exact hmx
        · have hkg2 : k ≠ g := fun e => hkg (by rw [e]; rfl)
          rw [setRow_other _ g k _ hkg2, setRow_other _ g k _ hkg2]; rfl
      · refine (ins_grow g n i m r D C ad d w hg hC.s hm hm0 hr (by omega) (by omega) (by omega) hlen).mono ?_
        rintro e w' ⟨D1, rfl, h1, h2, h3, h4, h5⟩
        refine ⟨_, rfl, .inr ⟨w.heap.size, D1, ?_, hB, h1, ?_, ?_, h3⟩, ud_grown_below h5, fun k hk => ?_⟩
        · rw [List.length_append, List.length_append, List.length_take, List.length_drop]; congr 1; omega
        · rw [List.length_append, List.length_append, List.length_take, List.length_drop]; omega
        · rw [List.length_append, List.length_append, List.length_take, List.length_drop, show min i L.length + C.length + (L.length - i) = n + m by omega, h4, htd.1, htd.2]
        · right; exact Nat.le_of_eq (Option.some.inj hk)
end Go.Proofs.YtjgffedcbdnddaaDoor
set_option linter.unusedVariables false
set_option linter.unusedSimpArgs false
namespace Go.Proofs.YtjgffedcbdnddaaDoor
open Go.RowKit
/-- A row was written anew, and nothing else. -/
structure Upd (g : Nat) (cs : Array Value) (w w' : World) : Prop where
  row : w'.heap[g]? = some (.cells cs 56 (0, 0))
  oth : ∀ k, k ≠ g → w'.heap[k]? = w.heap[k]?
  size : w'.heap.size = w.heap.size
  os : w'.os = w.os
  tape : w'.tape = w.tape
  output : w'.output = w.output
theorem upd_set {g : Nat} {w : World} {c0 : Array Value} (cs : Array Value) (h : w.heap[g]? = some (.cells c0 56 (0, 0))) : Upd g cs w (w.setRow g cs) :=
  ⟨setRow_heap w g _ _ _ _ h, fun k hk => setRow_other w g k _ hk, by simp [World.setRow], rfl, rfl, rfl⟩
theorem upd_refl {g : Nat} {w : World} {cs : Array Value} (h : w.heap[g]? = some (.cells cs 56 (0, 0))) : Upd g cs w w := ⟨h, fun _ _ => rfl, rfl, rfl, rfl, rfl⟩
theorem Upd.trans {g : Nat} {c1 c2 : Array Value} {w w1 w2 : World} (h : Upd g c1 w w1) (k : Upd g c2 w1 w2) : Upd g c2 w w2 :=
  ⟨k.row, fun j hj => (k.oth j hj).trans (h.oth j hj), k.size.trans h.size, k.os.trans h.os, k.tape.trans h.tape, k.output.trans h.output⟩
theorem Upd.transD {g : Nat} {c1 c2 : Array Value} {w w1 w2 : World} (h : Upd g c1 w w1) (k : Upd g c2 w1.drew w2) : Upd g c2 w w2 :=
  ⟨k.row, fun j hj => (k.oth j hj).trans (h.oth j hj), k.size.trans h.size, k.os.trans h.os, k.tape.trans h.tape, k.output.trans h.output⟩
theorem Upd.grown {g : Nat} {cs : Array Value} {w w' : World} (h : Upd g cs w w') : w.grownBy w' (some g) :=
  ⟨h.os, h.tape, h.output, Nat.le_of_eq h.size.symm, fun k hk hkg => h.oth k (fun e => hkg (by rw [e]))⟩
theorem Upd.below {g B : Nat} {cs : Array Value} {w0 w w' : World} (h : Upd g cs w w') (hb : Below B w0 w) (hg : B ≤ g) : Below B w0 w' :=
  hb.trans ⟨h.os, h.tape, h.output, Nat.le_of_eq h.size.symm, fun k hk => h.oth k (by omega)⟩
theorem SlS.upd {S : Nat → Prop} {g : Nat} {cs : Array Value} {w w' : World} {a : Option Addr} {L : List Sn} {c : Nat} (h : SlS S w a L c) (u : Upd g cs w w') (hS : ∀ k, S k → k ≠ g) : SlS S w' a L c := h.keep (Nat.le_of_eq u.size.symm) fun k hk => u.oth k (hS k hk)
/-- A copy of what may be none. -/
theorem copy_any {w : World} (ty : TypeId) {g : Nat} {D C : List Sn} {o dl dc m : Nat} {b : Option Addr} {d : Nat} {S : Nat → Prop} (hg : w.heap[g]? = some (.cells (sRow D) 56 (0, 0))) (hs : SlS S w b C d) (hm : C.length = m) (hfit : o + dl ≤ D.length) (hn : m ≤ dl) :
    ∃ w', (Builtin.copy_ #[28, 28] ty #[.slice (some ⟨g, o * 2, none⟩) dl dc, .slice b m d]).run Tryd.prog w = .ok (goInt m) w' ∧ Upd g (sRow (cpL D o C)) w w' := by
  subst hm
  cases b with
  | none =>
    have hC : C = [] := by
      cases C with
      | nil => rfl
      | cons x l => obtain ⟨_, _, e, _⟩ := hs.s 0 (by simp); cases e
    subst hC
    obtain rfl := hs.nl rfl
    refine ⟨w, run_copy_nil (P := Tryd.prog) w 28 28 ty 56 ⟨g, o * 2, none⟩ dl dc Tryd.underlying28 (by rw [infoSz]; rfl), ?_⟩
    have e : cpL D o [] = D := by unfold cpL; simp
    rw [e]; exact upd_refl hg
  | some ad => exact ⟨_, copy_signs (w := w) ty hg hs.s hfit hn, upd_set _ hg⟩
section
variable (g n c i j m : Nat) (b : Option Addr) (d : Nat) (w : World)
set_option maxRecDepth 100000 in
set_option maxHeartbeats 4000000 in
theorem rp_ins (a : Option Addr) (B : Nat) (R : List Sn) (h : i ≤ n) (hn : n ≤ c) (IN : Calls Tryd.prog 44 #[.slice a n c, .int .i64 (i : Int), .slice b m d] w (InsP w B (.slice a n c) R)) : Calls Tryd.prog 37 #[.slice a n c, .int .i64 (i : Int), .int .i64 (i : Int), .slice b m d] w (InsP w B (.slice a n c) R) := by
  have SL := fun w => run_cutLH w a n c i i (Nat.le_refl _) (by omega)
  generalize (if c = i then a else a.map (·.add (i * 2))) = x at *
  have HI := Lib.hid IN
  clear IN h hn
  go_enter Tryd.func37, Tryd.ntmps37
  go_wp2_with (go_at_call 44; refine HI.out.mono ?_; rintro e w' ⟨v', rfl, hq⟩; have HH := Lib.hid hq; clear hq)
  go_ret
  exact ⟨_, rfl, HH.out⟩
set_option maxRecDepth 100000 in
set_option maxHeartbeats 4000000 in
/-- All behind a place becomes others: what is left over is cleared. -/
theorem rp_clear (k : Nat) (w1 w2 : World) (hi : i < n) (hc : n ≤ c) (hk : k < n) (hcm : c ≤ 9223372036854775807) (AP : (Builtin.append_ #[28, 28] 28 #[.slice (some ⟨g, 0, none⟩) i c, .slice b m d]).run Tryd.prog w = .ok (.slice (some ⟨g, 0, none⟩) k c) w1)
    (CL : ∀ ty, (Builtin.clear_ #[28] ty #[.slice (some ⟨g, k * 2, none⟩) (n - k) (c - k)]).run Tryd.prog w1 = .ok (.tuple #[]) w2) : Calls Tryd.prog 37 #[.slice (some ⟨g, 0, none⟩) n c, .int .i64 (i : Int), .int .i64 (n : Int), .slice b m d] w fun e w' => e = .returned (.slice (some ⟨g, 0, none⟩) k c) ∧ w2 = w' := by
  have SL := fun w => run_cutLH w (some ⟨g, 0, none⟩) n c i n (by omega) (by omega)
  generalize (if c = i then some (⟨g, 0, none⟩ : Addr) else (some (⟨g, 0, none⟩ : Addr)).map (·.add (i * 2))) = x at *
  have S1 := fun w => cutH_g w g n c i (by omega)
  have S2 := fun w => cutL_g w g n c k (by omega) (by omega)
  have g1 : ¬ (i : Int) = (n : Int) := by omega
  have g2 : ((i : Int) == (n : Int)) = false := by rw [beq_eq_false_iff_ne]; exact g1
  have g3 : (k : Int) < (n : Int) := by omega
  have HAP := Lib.hid AP
  clear AP hi hc hk
  go_enter Tryd.func37, Tryd.ntmps37
  go_wp2_with (at_builtin; refine Lib.wpList_append_run _ rfl _ _ _ _ rfl _ _ rfl rfl _ _ HAP.out ?_)
  go_ret
  exact ⟨rfl, rfl⟩
set_option maxRecDepth 100000 in
set_option maxHeartbeats 4000000 in
/-- .. nothing is left over. -/
theorem rp_keep (k k2 : Nat) (x : Option Addr) (w1 : World) (hi : i < n) (hc : n ≤ c) (hk : n ≤ k) (hcm : c ≤ 9223372036854775807) (AP : (Builtin.append_ #[28, 28] 28 #[.slice (some ⟨g, 0, none⟩) i c, .slice b m d]).run Tryd.prog w = .ok (.slice x k k2) w1) : Calls Tryd.prog 37 #[.slice (some ⟨g, 0, none⟩) n c, .int .i64 (i : Int), .int .i64 (n : Int), .slice b m d] w fun e w' => e = .returned (.slice x k k2) ∧ w1 = w' := by
  have SL := fun w => run_cutLH w (some ⟨g, 0, none⟩) n c i n (by omega) (by omega)
  generalize (if c = i then some (⟨g, 0, none⟩ : Addr) else (some (⟨g, 0, none⟩ : Addr)).map (·.add (i * 2))) = y at *
  have S1 := fun w => cutH_g w g n c i (by omega)
  have g1 : ¬ (i : Int) = (n : Int) := by omega
  have g2 : ((i : Int) == (n : Int)) = false := by rw [beq_eq_false_iff_ne]; exact g1
  have g3 : ¬ (k : Int) < (n : Int) := by omega
  have HAP := Lib.hid AP
  clear AP hi hc hk
  go_enter Tryd.func37, Tryd.ntmps37
  go_wp2_with (at_builtin; refine Lib.wpList_append_run _ rfl _ _ _ _ rfl _ _ rfl rfl _ _ HAP.out ?_)
  go_ret
  exact ⟨rfl, rfl⟩
end
end Go.Proofs.YtjgffedcbdnddaaDoor
set_option linter.unusedVariables false
set_option linter.unusedSimpArgs false
namespace Go.Proofs.YtjgffedcbdnddaaDoor
open Go.RowKit
section
variable (g n c i j m r t : Nat) (b : Option Addr) (d : Nat) (w : World)
set_option maxRecDepth 100000 in
set_option maxHeartbeats 4000000 in
/-- No room: a new row (k of its cells from i on). -/
theorem rp_grow (h k c1 : Nat) (w1 w2 w3 : World) (hij : i < j) (hjr : j + r = n) (hr : 0 < r) (hc : n ≤ c) (ht : i + m + r = t) (hct : c < t) (hk : i + k = t) (htm : t ≤ 1000000) (hc1 : t ≤ c1)
    (AP : (Builtin.append_ #[28, 3] 28 #[.slice (some ⟨g, 0, none⟩) i c, .int .i64 (k : Int)]).run Tryd.prog w.drew = .ok (.slice (some ⟨h, 0, none⟩) t c1) w1)
    (CA : (Builtin.copy_ #[28, 28] 3 #[.slice (some ⟨h, i * 2, none⟩) k (c1 - i), .slice b m d]).run Tryd.prog w1 = .ok (goInt m) w2)
    (CB : (Builtin.copy_ #[28, 28] 3 #[.slice (some ⟨h, (i + m) * 2, none⟩) r (c1 - (i + m)), .slice (some ⟨g, j * 2, none⟩) r (c - j)]).run Tryd.prog w2.drew = .ok (goInt r) w3) :
    Calls Tryd.prog 37 #[.slice (some ⟨g, 0, none⟩) n c, .int .i64 (i : Int), .int .i64 (j : Int), .slice b m d] w fun e w' => e = .returned (.slice (some ⟨h, 0, none⟩) t c1) ∧ w3 = w' := by
  have SL := fun w => run_cutLH w (some ⟨g, 0, none⟩) n c i j (by omega) (by omega)
  generalize (if c = i then some (⟨g, 0, none⟩ : Addr) else (some (⟨g, 0, none⟩ : Addr)).map (·.add (i * 2))) = y at *
  have S1 := fun w => cutH_g w g n c i (by omega)
  have SJ : ∀ w, (Instr.slice 28 (.slice (some ⟨g, 0, none⟩) n c) (some (.int .i64 (j : Int))) none none).run Tryd.prog w = .ok (.slice (some ⟨g, j * 2, none⟩) r (c - j)) w := fun w => by
    have := cutL_g w g n c j (by omega) (by omega)
    rwa [show n - j = r by omega] at this
  have SA : ∀ w, (Instr.slice 28 (.slice (some ⟨h, 0, none⟩) t c1) (some (.int .i64 (i : Int))) none none).run Tryd.prog w = .ok (.slice (some ⟨h, i * 2, none⟩) k (c1 - i)) w := fun w => by
    have := cutL_g w h t c1 i (by omega) (by omega)
    rwa [show t - i = k by omega] at this
  have SB : ∀ w, (Instr.slice 28 (.slice (some ⟨h, 0, none⟩) t c1) (some (.int .i64 ((i : Int) + (m : Int)))) none none).run Tryd.prog w = .ok (.slice (some ⟨h, (i + m) * 2, none⟩) r (c1 - (i + m))) w := fun w => by
    have := cutL_g w h t c1 (i + m) (by omega) (by omega)
    rwa [Int.natCast_add, show t - (i + m) = r by omega] at this
  have g1 : ¬ (i : Int) = (j : Int) := by omega
  have g2 : ((i : Int) == (j : Int)) = false := by rw [beq_eq_false_iff_ne]; exact g1
  have g3 : ¬ (j : Int) = (n : Int) := by omega
  have g4 : ((j : Int) == (n : Int)) = false := by rw [beq_eq_false_iff_ne]; exact g3
  have g5 : (c : Int) < (t : Int) := by omega
  have g6 : (t : Int) ≤ 1000000 := by omega
  have g7 : (i : Int) + (m : Int) < (t : Int) := by omega
  have htI : (i : Int) + (m : Int) + (r : Int) = (t : Int) := by omega
  have hkI : (t : Int) - (i : Int) = (k : Int) := by omega
  have HAP := Lib.hid AP
  clear AP hij hjr hr hc ht hct hk htm hc1
  go_enter Tryd.func37, Tryd.ntmps37
  go_upto_region 9 with fail
  go_region
  go_wp2_with (at_builtin; refine Lib.wpList_append_run _ rfl _ _ _ _ rfl _ _ rfl rfl _ _ HAP.out ?_)
  go_region
  go_wp2
  go_ret
  exact ⟨rfl, rfl⟩
set_option maxRecDepth 100000 in
set_option maxHeartbeats 4000000 in
/-- Less comes, or as much: what is left over is cleared. -/
theorem rp_fit (x : Option Addr) (w1 w2 w3 : World) (hij : i < j) (hjr : j + r = n) (hr : 0 < r) (hc : n ≤ c) (hcm : c ≤ 9223372036854775807) (ht : i + m + r = t) (hmj : i + m ≤ j)
    (SX : ∀ w, (Instr.slice 28 (.slice (some ⟨g, 0, none⟩) n c) (some (.int .i64 (t : Int))) none none).run Tryd.prog w = .ok (.slice x (n - t) (c - t)) w)
    (CA : (Builtin.copy_ #[28, 28] 3 #[.slice (some ⟨g, i * 2, none⟩) (m + r) (c - i), .slice b m d]).run Tryd.prog w.drew = .ok (goInt m) w1)
    (CB : (Builtin.copy_ #[28, 28] 3 #[.slice (some ⟨g, (i + m) * 2, none⟩) r (c - (i + m)), .slice (some ⟨g, j * 2, none⟩) r (c - j)]).run Tryd.prog w1.drew = .ok (goInt r) w2)
    (CL : ∀ ty, (Builtin.clear_ #[28] ty #[.slice x (n - t) (c - t)]).run Tryd.prog w2 = .ok (.tuple #[]) w3) :
    Calls Tryd.prog 37 #[.slice (some ⟨g, 0, none⟩) n c, .int .i64 (i : Int), .int .i64 (j : Int), .slice b m d] w fun e w' => e = .returned (.slice (some ⟨g, 0, none⟩) t c) ∧ w3 = w' := by
  have SL := fun w => run_cutLH w (some ⟨g, 0, none⟩) n c i j (by omega) (by omega)
  generalize (if c = i then some (⟨g, 0, none⟩ : Addr) else (some (⟨g, 0, none⟩ : Addr)).map (·.add (i * 2))) = y at *
  have S1 := fun w => cutH_g w g n c i (by omega)
  have ST := fun w => cutH_g w g n c t (by omega)
  have SJ : ∀ w, (Instr.slice 28 (.slice (some ⟨g, 0, none⟩) n c) (some (.int .i64 (j : Int))) none none).run Tryd.prog w = .ok (.slice (some ⟨g, j * 2, none⟩) r (c - j)) w := fun w => by
    have := cutL_g w g n c j (by omega) (by omega)
    rwa [show n - j = r by omega] at this
  have SA : ∀ w, (Instr.slice 28 (.slice (some ⟨g, 0, none⟩) t c) (some (.int .i64 (i : Int))) none none).run Tryd.prog w = .ok (.slice (some ⟨g, i * 2, none⟩) (m + r) (c - i)) w := fun w => by
    have := cutL_g w g t c i (by omega) (by omega)
    rwa [show t - i = m + r by omega] at this
  have SB : ∀ w, (Instr.slice 28 (.slice (some ⟨g, 0, none⟩) t c) (some (.int .i64 ((i : Int) + (m : Int)))) none none).run Tryd.prog w = .ok (.slice (some ⟨g, (i + m) * 2, none⟩) r (c - (i + m))) w := fun w => by
    have := cutL_g w g t c (i + m) (by omega) (by omega)
    rwa [Int.natCast_add, show t - (i + m) = r by omega] at this
  have g1 : ¬ (i : Int) = (j : Int) := by omega
  have g2 : ((i : Int) == (j : Int)) = false := by rw [beq_eq_false_iff_ne]; exact g1
  have g3 : ¬ (j : Int) = (n : Int) := by omega
  have g4 : ((j : Int) == (n : Int)) = false := by rw [beq_eq_false_iff_ne]; exact g3
  have g5 : (t : Int) ≤ (c : Int) := by omega
  have g5' : ¬ (c : Int) < (t : Int) := by omega
  have g7 : (i : Int) + (m : Int) < (t : Int) := by omega
  have g8 : (i : Int) + (m : Int) ≤ (j : Int) := by omega
  have htI : (i : Int) + (m : Int) + (r : Int) = (t : Int) := by omega
  clear hij hjr hr hc ht hmj
  go_enter Tryd.func37, Tryd.ntmps37
  go_upto_region 9 with fail
  go_region
  go_wp2
  go_region
  go_wp2
  go_ret
  exact ⟨rfl, rfl⟩
set_option maxRecDepth 100000 in
set_option maxHeartbeats 4000000 in
/-- More comes, and there is room. -/
theorem rp_up (w1 w2 : World) (ad : Addr) (hij : i < j) (hjr : j + r = n) (hr : 0 < r) (hc : n ≤ c) (hcm : c ≤ 9223372036854775807) (ht : i + m + r = t) (hmj : j < i + m) (htc : t ≤ c)
    (hov : (callFunc 45 #[.slice (some ⟨g, (i + m) * 2, none⟩) r (c - (i + m)), .slice (some ad) m d]).run Tryd.prog w.drew = .ok (.value (.bool false)) w.drew)
    (CB : (Builtin.copy_ #[28, 28] 3 #[.slice (some ⟨g, (i + m) * 2, none⟩) r (c - (i + m)), .slice (some ⟨g, j * 2, none⟩) r (c - j)]).run Tryd.prog w.drew.drew = .ok (goInt r) w1)
    (CA : (Builtin.copy_ #[28, 28] 3 #[.slice (some ⟨g, i * 2, none⟩) (m + r) (c - i), .slice (some ad) m d]).run Tryd.prog w1 = .ok (goInt m) w2) :
    Calls Tryd.prog 37 #[.slice (some ⟨g, 0, none⟩) n c, .int .i64 (i : Int), .int .i64 (j : Int), .slice (some ad) m d] w fun e w' => e = .returned (.slice (some ⟨g, 0, none⟩) t c) ∧ w2 = w' := by
  have SL := fun w => run_cutLH w (some ⟨g, 0, none⟩) n c i j (by omega) (by omega)
  generalize (if c = i then some (⟨g, 0, none⟩ : Addr) else (some (⟨g, 0, none⟩ : Addr)).map (·.add (i * 2))) = y at *
  have S1 := fun w => cutH_g w g n c i (by omega)
  have ST := fun w => cutH_g w g n c t (by omega)
  have SJ : ∀ w, (Instr.slice 28 (.slice (some ⟨g, 0, none⟩) n c) (some (.int .i64 (j : Int))) none none).run Tryd.prog w = .ok (.slice (some ⟨g, j * 2, none⟩) r (c - j)) w := fun w => by
    have := cutL_g w g n c j (by omega) (by omega)
    rwa [show n - j = r by omega] at this
  have SA : ∀ w, (Instr.slice 28 (.slice (some ⟨g, 0, none⟩) t c) (some (.int .i64 (i : Int))) none none).run Tryd.prog w = .ok (.slice (some ⟨g, i * 2, none⟩) (m + r) (c - i)) w := fun w => by
    have := cutL_g w g t c i (by omega) (by omega)
    rwa [show t - i = m + r by omega] at this
  have SB : ∀ w, (Instr.slice 28 (.slice (some ⟨g, 0, none⟩) t c) (some (.int .i64 ((i : Int) + (m : Int)))) none none).run Tryd.prog w = .ok (.slice (some ⟨g, (i + m) * 2, none⟩) r (c - (i + m))) w := fun w => by
    have := cutL_g w g t c (i + m) (by omega) (by omega)
    rwa [Int.natCast_add, show t - (i + m) = r by omega] at this
  have g1 : ¬ (i : Int) = (j : Int) := by omega
  have g2 : ((i : Int) == (j : Int)) = false := by rw [beq_eq_false_iff_ne]; exact g1
  have g3 : ¬ (j : Int) = (n : Int) := by omega
  have g4 : ((j : Int) == (n : Int)) = false := by rw [beq_eq_false_iff_ne]; exact g3
  have g5 : (t : Int) ≤ (c : Int) := by omega
  have g5' : ¬ (c : Int) < (t : Int) := by omega
  have g7 : (i : Int) + (m : Int) < (t : Int) := by omega
  have g8 : ¬ (i : Int) + (m : Int) ≤ (j : Int) := by omega
  have htI : (i : Int) + (m : Int) + (r : Int) = (t : Int) := by omega
  clear hij hjr hr hc ht hmj htc
  go_enter Tryd.func37, Tryd.ntmps37
  go_upto_region 9 with fail
  go_region
  go_wp2_with (simp only [hov])
  go_region
  go_wp2
  go_ret
  exact ⟨rfl, rfl⟩
end
end Go.Proofs.YtjgffedcbdnddaaDoor
set_option linter.unusedVariables false
set_option linter.unusedSimpArgs false
namespace Go.Proofs.YtjgffedcbdnddaaDoor
open Go.RowKit
theorem own_of_row {w : World} {g i : Nat} {D : List Sn} (hg : w.heap[g]? = some (.cells (sRow D) 56 (0, 0))) (hi : i ≤ D.length) (hm : D.length ≤ maxLen) : w.ownsRow 0 56 2 (.slice (some ⟨g, 0, none⟩) i D.length) i (sC (D.take i)) := by
  refine ⟨by rw [sC_len, List.length_take]; omega, .inr ⟨g, D.length, sRow D, rfl, Nat.zero_le _, hg, hi, hm, ?_, ?_⟩⟩
  · rw [sRow_sC, List.size_toArray, sC_len]
  · rw [sRow_sC]; exact sC_take D i
/-- An append of what may be none, where there is room. -/
theorem app_any {w : World} (ty : TypeId) {g : Nat} {D C : List Sn} {i m : Nat} {b : Option Addr} {d : Nat} {S : Nat → Prop} (hg : w.heap[g]? = some (.cells (sRow D) 56 (0, 0))) (hs : SlS S w b C d) (hm : C.length = m) (hfit : i + m ≤ D.length) (hmx : D.length ≤ maxLen) :
    ∃ w', (Builtin.append_ #[28, 28] ty #[.slice (some ⟨g, 0, none⟩) i D.length, .slice b m d]).run Tryd.prog w = .ok (.slice (some ⟨g, 0, none⟩) (i + m) D.length) w' ∧ Upd g (sRow (cpL D i C)) w w' := by
  subst hm
  cases b with
  | none =>
    have hC : C = [] := by
      cases C with
      | nil => rfl
      | cons x l => obtain ⟨_, _, e, _⟩ := hs.s 0 (by simp); cases e
    subst hC
    obtain rfl := hs.nl rfl
    obtain ⟨i0, hi, _⟩ := infoSg3
    refine ⟨w, run_append_owned_none (P := Tryd.prog) (w := w) 0 28 ty 56 i0 2 Tryd.underlying28 hi _ i _ (own_of_row hg (by simpa using hfit) hmx), ?_⟩
    have e : cpL D i [] = D := by unfold cpL; simp
    rw [e]; exact upd_refl hg
  | some ad => exact ⟨_, app_in (w := w) ty hg hs.s hfit, upd_set _ hg⟩
theorem insP_upd {w w' : World} {B g : Nat} {n c : Nat} {R D1 : List Sn} {k : Nat} (u : Upd g (sRow D1) w w') (hB : B ≤ g) (hk : R.length = k) (hc : D1.length = c) (hle : k ≤ c) (ht : D1.take k = R) (hm : c ≤ maxLen) : InsP w B (.slice (some ⟨g, 0, none⟩) n c) R (.returned (.slice (some ⟨g, 0, none⟩) k c)) w' :=
  ⟨_, rfl, .inr ⟨g, D1, by rw [hk, hc], hB, u.row, by rw [hk, hc]; exact hle, by rw [hk]; exact ht, by rw [hc]; exact hm⟩, u.grown, fun k hk => Or.inl hk⟩
theorem replace_any (v : Value) (L C : List Sn) (B i j n m : Nat) (b : Option Addr) (d : Nat) (w : World) (hv : RmS w B v L) (hn : L.length = n) (hm : C.length = m) (hij : i ≤ j) (hjn : j ≤ n) (hC : SlS (fun k => v.ownBlock ≠ some k) w b C d) (hP : C ≠ [] → PlB w b) (hlen : n + m ≤ 1000000) (hB : B ≤ w.heap.size) :
    Calls Tryd.prog 37 #[v, .int .i64 (i : Int), .int .i64 (j : Int), .slice b m d] w (InsP w B v (L.take i ++ C ++ L.drop j)) := by
  by_cases hE : i = j
  · subst hE
    obtain ⟨a, c, rfl, hs⟩ := hv.sl
    have hle := hs.le
    rw [hn] at hle
    have h := insert_any _ L C B i n m b d w hv hn hm hjn hC hP hlen hB
    rw [hn] at h ⊢
    exact rp_ins n c i m b d w a B _ hjn hle h
  have hij' : i < j := by omega
  rcases hv with ⟨rfl, rfl⟩ | ⟨g, D, rfl, hBg, hg, hle, hD, hmx⟩
  · exfalso; simp at hn; omega
  have hmx' : D.length ≤ 9223372036854775807 := hmx
  have hC' : SlS (fun k => k ≠ g) w b C d := hC.mono fun k hk e => hk (by rw [e]; rfl)
  have tdi := tdR (D := D) (L := L) (i := i) hD (by omega)
  have tdj := tdR (D := D) (L := L) (i := j) hD (by omega)
  rw [hn] at hle hD tdi tdj ⊢
  by_cases hjn' : j = n
  · subst hjn'
    have hLd : L.drop j = [] := List.drop_of_length_le (by omega)
    rw [hLd, List.append_nil]
    have hRl : (L.take i ++ C).length = i + m := by rw [List.length_append, List.length_take]; omega
    by_cases hroom : i + m ≤ D.length
    · obtain ⟨w1, AP, u1⟩ := app_any (w := w) 28 (i := i) hg hC' hm hroom hmx
      have hl1 := cpL_len' (D := D) (X := C) (o := i) (by omega)
      have ht1 := cpL_take (D := D) (X := C) (o := i) (by omega)
      rw [hm, tdi.1] at ht1
      by_cases hk : i + m < j
      · have CL := fun ty => clear_room (w := w1) ty (o := i + m) (n := j - (i + m)) (c := D.length - (i + m)) u1.row (by omega) (by rw [hl1]; omega)
        have u2 := u1.trans (upd_set (sRow (cpL (cpL D i C) (i + m) (List.replicate (j - (i + m)) (0, 0)))) u1.row)
        refine (rp_clear g j D.length i m b d w (i + m) w1 _ (by omega) hle hk hmx' AP CL).mono ?_
        rintro e w' ⟨rfl, rfl⟩
        refine insP_upd u2 hBg hRl (by rw [cpL_len' (by rw [hl1, List.length_replicate]; omega), hl1]) hroom ?_ hmx
        rw [cpL_low (Nat.le_refl _) (by omega), ht1]
      · refine (rp_keep g j D.length i m b d w (i + m) D.length _ w1 (by omega) hle (by omega) hmx' AP).mono ?_
        rintro e w' ⟨rfl, rfl⟩
        exact insP_upd u1 hBg hRl hl1 hroom ht1 hmx
    · obtain ⟨ad, rfl⟩ : ∃ ad, b = some ad := by
        obtain ⟨bb, off, e, _⟩ := hC.s 0 (by omega)
        exact ⟨_, e⟩
      obtain ⟨q, hq, AP⟩ := app_grow (w := w) 28 (n := i) (c := d) hg hC.s (by omega) (by omega) (by omega)
      rw [hm, tdi.1] at AP
      refine (rp_keep g j D.length i m _ d w (i + m) _ _ _ (by omega) hle (by omega) hmx' AP).mono ?_
      rintro e w' ⟨rfl, rfl⟩
      refine ⟨_, rfl, .inr ⟨w.heap.size, L.take i ++ C ++ List.replicate q (0, 0), by rw [hRl], hB, heap_alloc_new w.drew _, ?_, ?_, ?_⟩, ud_grown_below ((Below.refl w.heap.size w).drew.alloc (Nat.le_refl _) _), fun k hk => ?_⟩
      · rw [hRl]; simp only [List.length_append, List.length_take, List.length_replicate]; omega
      · rw [List.take_left' rfl]
      · have : (L.take i ++ C ++ List.replicate q ((0, 0) : Sn)).length = i + m + q := by rw [List.length_append, hRl, List.length_replicate]
        omega
      · right; exact Nat.le_of_eq (Option.some.inj hk)
  obtain ⟨r, hr⟩ : ∃ r, j + r = n := ⟨n - j, by omega⟩
  have hnr : n - j = r := by omega
  rw [hnr] at tdj
  obtain ⟨t, ht⟩ : ∃ t, i + m + r = t := ⟨_, rfl⟩
  have hRl : (L.take i ++ C ++ L.drop j).length = t := by rw [List.length_append, List.length_append, List.length_take, List.length_drop]; omega
  have hrl : ((D.drop j).take r).length = r := by rw [List.length_take, List.length_drop]; omega
  by_cases htc : D.length < t
  · obtain ⟨k, hk⟩ : ∃ k, i + k = t := ⟨m + r, by omega⟩
    obtain ⟨q, hq, AP⟩ := appz_grow (w := w.drew) 28 (n := i) (k := k) hg (by omega) (by omega) (by omega)
    rw [hk] at AP hq
    have hDi : (D.take i).length = i := by rw [List.length_take]; omega
    have hD1l : (D.take i ++ List.replicate k ((0, 0) : Sn) ++ List.replicate q (0, 0)).length = t + q := by rw [List.length_append, List.length_append, hDi, List.length_replicate, List.length_replicate]; omega
    have hD1t : (D.take i ++ List.replicate k ((0, 0) : Sn) ++ List.replicate q (0, 0)).take i = D.take i := by rw [List.append_assoc, List.take_left' hDi]
    obtain ⟨D1, hD1⟩ : ∃ D1, D.take i ++ List.replicate k ((0, 0) : Sn) ++ List.replicate q (0, 0) = D1 := ⟨_, rfl⟩
    rw [hD1] at AP hD1l hD1t
    have N1 := (Below.refl w.heap.size w).drew.drew.alloc (Nat.le_refl _) (.cells (sRow D1) 56)
    have b1 : ((w.drew.drew).alloc (.cells (sRow D1) 56)).heap[w.heap.size]? = some (.cells (sRow D1) 56 (0, 0)) := heap_alloc_new w.drew.drew _
    have e1 : w.drew.heap.size = w.heap.size := rfl
    rw [e1] at AP
    obtain ⟨w1, hw1⟩ : ∃ w1, (w.drew.drew).alloc (.cells (sRow D1) 56) = w1 := ⟨_, rfl⟩
    rw [hw1] at AP N1 b1
    have hgs : g < w.heap.size := blk_lt hg
    have hg1 : w1.heap[g]? = some (.cells (sRow D) 56 (0, 0)) := (N1.block g hgs).trans hg
    have hC1 := (hC.below N1)
    obtain ⟨w2, CA, u2⟩ := copy_any (w := w1) 3 (o := i) (dl := k) (dc := D1.length - i) b1 hC1 hm (by omega) (by omega)
    have hg2 : w2.heap[g]? = some (.cells (sRow D) 56 (0, 0)) := (u2.oth g (by omega)).trans hg1
    have hD2l := cpL_len' (D := D1) (X := C) (o := i) (by omega)
    have CB := copy_min (w := w2.drew) 3 (o := i + m) (x := j) (dl := r) (dc := D1.length - (i + m)) (sl := r) (sc := D.length - j) (n := r) u2.row hg2 (by omega) (by omega) (by simp only [Nat.min_def]; split <;> omega)
    have u3 := upd_set (w := w2.drew) (sRow (cpL (cpL D1 i C) (i + m) ((D.drop j).take r))) u2.row
    refine (rp_grow g n D.length i j m r t b d w w.heap.size k D1.length w1 w2 _ hij' hr (by omega) hle ht htc hk (by omega) (by omega) AP CA CB).mono ?_
    rintro e w' ⟨rfl, rfl⟩
    have hta := cp_ab (D := D1) (C := C) (R := (D.drop j).take r) (i := i) (by omega)
    rw [hm, hrl, ht, hD1t, tdi.1, tdj.2] at hta
    have hD3l : (cpL (cpL D1 i C) (i + m) ((D.drop j).take r)).length = D1.length := by rw [cpL_len' (by omega), hD2l]
    rw [tdj.2] at hD3l
    have bl := u3.below (B := w.heap.size) (u2.below N1 (Nat.le_refl _)).drew (Nat.le_refl _)
    have row := u3.row
    rw [tdj.2] at row bl
    rw [tdj.2]
    refine ⟨_, rfl, .inr ⟨w.heap.size, _, by rw [hRl, hD3l], hB, row, by rw [hRl, hD3l]; omega, by rw [hRl]; exact hta, by rw [hD3l]; omega⟩, ud_grown_below bl, fun k hk => ?_⟩
    right; exact Nat.le_of_eq (Option.some.inj hk)
  · by_cases hmj : i + m ≤ j
    · have hC1 : SlS (fun k => k ≠ g) w.drew b C d := hC'.below (Below.refl _ _).drew
      obtain ⟨w1, CA, u1⟩ := copy_any (w := w.drew) 3 (o := i) (dl := m + r) (dc := D.length - i) hg hC1 hm (by omega) (by omega)
      have hl1 := cpL_len' (D := D) (X := C) (o := i) (by omega)
      -- the source of the second copy lies behind what the first one wrote
      have hsrc : ((cpL D i C).drop j).take r = (D.drop j).take r := by
        have e1 : (D.take i ++ C).length = i + m := by rw [List.length_append, List.length_take]; omega
        unfold cpL
        rw [List.drop_append, List.drop_of_length_le (by omega), List.nil_append, List.drop_drop, e1, hm, show i + m + (j - (i + m)) = j by omega]
      have CB := copy_min (w := w1.drew) 3 (o := i + m) (x := j) (dl := r) (dc := D.length - (i + m)) (sl := r) (sc := D.length - j) (n := r) u1.row u1.row (by omega) (by omega) (by simp only [Nat.min_def]; split <;> omega)
      rw [hsrc] at CB
      have u2' := u1.transD (upd_set (w := w1.drew) (sRow (cpL (cpL D i C) (i + m) ((D.drop j).take r))) u1.row)
      have u2 : Upd g (sRow (cpL (cpL D i C) (i + m) ((D.drop j).take r))) w (w1.drew.setRow g (sRow (cpL (cpL D i C) (i + m) ((D.drop j).take r)))) := ⟨u2'.row, u2'.oth, u2'.size, u2'.os, u2'.tape, u2'.output⟩
      have hl2 : (cpL (cpL D i C) (i + m) ((D.drop j).take r)).length = D.length := by rw [cpL_len' (by omega), hl1]
      have hta := cp_ab (D := D) (C := C) (R := (D.drop j).take r) (i := i) (by omega)
      rw [hm, hrl, ht, tdi.1, tdj.2] at hta
      rw [tdj.2] at hl2 u2 CB
      by_cases hnt : t = n
      · have SX := fun w => run_cutL w (some ⟨g, 0, none⟩) n D.length t (by omega)
        have CL : ∀ ty, (Builtin.clear_ #[28] ty #[.slice (if D.length = t then some (⟨g, 0, none⟩ : Addr) else (some (⟨g, 0, none⟩ : Addr)).map (·.add (t * 2))) (n - t) (D.length - t)]).run Tryd.prog _ = .ok (.tuple #[]) _ := fun ty => by
          rw [show n - t = 0 by omega]
          exact clear_zero (w := w1.drew.setRow g (sRow (cpL (cpL D i C) (i + m) (L.drop j)))) ty _ _
        refine (rp_fit g n D.length i j m r t b d w _ w1 _ _ hij' hr (by omega) hle hmx' ht hmj SX CA CB CL).mono ?_
        rintro e w' ⟨rfl, rfl⟩
        exact insP_upd u2 hBg hRl hl2 (by omega) hta hmx
      · have SX := fun w => cutL_g w g n D.length t (by omega) (by omega)
        have CL := fun ty => clear_room (w := w1.drew.setRow g (sRow (cpL (cpL D i C) (i + m) (L.drop j)))) (D := cpL (cpL D i C) (i + m) (L.drop j)) ty (o := t) (n := n - t) (c := D.length - t) u2.row (by omega) (by omega)
        have u3 := u2.trans (upd_set (sRow (cpL (cpL (cpL D i C) (i + m) (L.drop j)) t (List.replicate (n - t) (0, 0)))) u2.row)
        refine (rp_fit g n D.length i j m r t b d w _ w1 _ _ hij' hr (by omega) hle hmx' ht hmj SX CA CB CL).mono ?_
        rintro e w' ⟨rfl, rfl⟩
        refine insP_upd u3 hBg hRl (by rw [cpL_len' (by rw [List.length_replicate]; omega), hl2]) (by omega) ?_ hmx
        rw [cpL_low (Nat.le_refl _) (by omega), hta]
    · obtain ⟨ad, rfl⟩ : ∃ ad, b = some ad := by
        obtain ⟨bb, off, e, _⟩ := hC.s 0 (by omega)
        exact ⟨_, e⟩
      have hCne : C ≠ [] := fun e => by rw [e] at hm; simp at hm; omega
      have hne := hC'.st ad rfl hCne
      obtain ⟨tA, csA, lo, hh, hA, hlo⟩ := hP hCne ad rfl
      have hsz : csA.size ≠ 0 := by
        obtain ⟨bb, off, e, _, c0, _⟩ := hC.s 0 (by omega)
        injection e with e
        have hb2 : ad.block = bb := by rw [e]
        rw [hb2] at hA
        rw [cell_of_row _ _ _ _ _ _ hA] at c0
        intro h0
        rw [Array.getElem?_eq_none (by omega)] at c0
        cases c0
      have hov := over_no w.drew ⟨g, (i + m) * 2, none⟩ ad r (D.length - (i + m)) m d (fun e => hne e.symm) (show w.drew.heap[g]? = some (.cells (sRow D) 56 (0, 0)) from hg) (Nat.le_refl _) hA hsz
      have CB := copy_min (w := w.drew.drew) 3 (o := i + m) (x := j) (dl := r) (dc := D.length - (i + m)) (sl := r) (sc := D.length - j) (n := r) hg hg (by omega) (by omega) (by simp only [Nat.min_def]; split <;> omega)
      have u1 := upd_set (w := w.drew.drew) (sRow (cpL D (i + m) ((D.drop j).take r))) hg
      have hl1 := cpL_len' (D := D) (X := (D.drop j).take r) (o := i + m) (by omega)
      have hC1 := (hC'.below (Below.refl _ _).drew.drew).upd u1 (fun k hk => hk)
      obtain ⟨w2, CA, u2⟩ := copy_any (w := w.drew.drew.setRow g (sRow (cpL D (i + m) ((D.drop j).take r)))) 3 (o := i) (dl := m + r) (dc := D.length - i) u1.row hC1 hm (by omega) (by omega)
      have hta := cp_ba (D := D) (C := C) (R := (D.drop j).take r) (i := i) (by omega)
      rw [hm, hrl, ht, tdi.1, tdj.2] at hta
      have hl2 := cpL_len' (D := cpL D (i + m) ((D.drop j).take r)) (X := C) (o := i) (by omega)
      rw [hl1] at hl2
      have u3 : Upd g _ w w2 := (show Upd g _ w _ from ⟨u1.row, u1.oth, u1.size, u1.os, u1.tape, u1.output⟩ : Upd g (sRow (cpL D (i + m) ((D.drop j).take r))) w _).trans u2
      rw [tdj.2] at u3 hl2
      refine (rp_up g n D.length i j m r t d w _ w2 ad hij' hr (by omega) hle hmx' ht (by omega) (by omega) hov CB CA).mono ?_
      rintro e w' ⟨rfl, rfl⟩
      exact insP_upd u3 hBg hRl hl2 (by omega) hta hmx
end Go.Proofs.YtjgffedcbdnddaaDoor
