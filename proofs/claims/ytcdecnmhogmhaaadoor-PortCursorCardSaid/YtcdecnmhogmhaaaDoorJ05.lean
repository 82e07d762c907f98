/-
  Joined: R1 R2 R3 Sh3.
-/
import Derived.Test.YtcdecnmhogmhaaaDoorJ03
import Derived.Test.YtcdecnmhogmhaaaDoorJ04
set_option linter.unusedVariables false
set_option linter.unusedSimpArgs false
namespace Go.Proofs.YtcdecnmhogmhaaaDoor
set_option maxRecDepth 100000
open Go.RowKit
/-- May a screen's side be? -/
def sideB (n : Int) : Bool := decide (1 ≤ n) && decide (n ≤ 1000)
theorem sideB_cases (n : Int) : (1 ≤ n ∧ n ≤ 1000 ∧ sideB n = true) ∨ (¬ 1 ≤ n ∧ sideB n = false) ∨ (1 ≤ n ∧ ¬ n ≤ 1000 ∧ sideB n = false) := by
  unfold sideB
  by_cases h1 : 1 ≤ n
  · by_cases h2 : n ≤ 1000
    · left; exact ⟨h1, h2, by rw [decide_eq_true h1, decide_eq_true h2]; rfl⟩
    · right; right; exact ⟨h1, h2, by rw [decide_eq_false h2, Bool.and_false]⟩
  · right; left; exact ⟨h1, by rw [decide_eq_false h1, Bool.false_and]⟩
theorem side_any (n : Int) (w : World) : Calls Tryd.prog 64 #[.int .i64 n] w fun e w' => e = .returned (.bool (sideB n)) ∧ w' = w := by
  rcases sideB_cases n with ⟨h1, h2, h3⟩ | ⟨h1, h3⟩ | ⟨h1, h2, h3⟩
  all_goals
    have H := Lib.hid h3
    clear h3
    go_enter Tryd.func64, Tryd.ntmps64
    go_wp2
    go_ret
    rw [H.out]
    first | exact ⟨rfl, rfl⟩ | exact ⟨ret_boolU (by simp [h2]), rfl⟩
theorem sides_ref (n m : Int) (w : World) : Calls Tryd.prog 16 #[.int .i64 n, .int .i64 m] w fun e w' => e = .returned (.bool (sideB n && sideB m)) ∧ w' = w := by
  rcases sideB_cases n with ⟨h1, h2, h3⟩ | ⟨h1, h3⟩ | ⟨h1, h2, h3⟩
  · rw [h3, Bool.true_and]
    clear h3
    rcases sideB_cases m with ⟨g1, g2, g3⟩ | ⟨g1, g3⟩ | ⟨g1, g2, g3⟩
    all_goals
      have H := Lib.hid g3
      clear g3
      go_enter Tryd.func16, Tryd.ntmps16
      go_wp2
      go_ret
      rw [H.out]
      first | exact ⟨rfl, rfl⟩ | exact ⟨ret_boolU (by simp [g2]), rfl⟩
  all_goals
    rw [h3, Bool.false_and]
    clear h3
    go_enter Tryd.func16, Tryd.ntmps16
    go_wp2
    go_ret
    first | exact ⟨rfl, rfl⟩ | exact ⟨ret_boolU (by simp [h2]), rfl⟩
/-- The first of the rows that are shown. -/
def topN (t r h : Nat) : Nat := if t ≤ h then 0 else min (r - h / 2) (t - h)
set_option maxHeartbeats 2000000 in
theorem top_any (t r h : Nat) (w : World) (ht : t ≤ 1000000) (hr : r ≤ 1000000) (hh : h ≤ 1000000) : Calls Tryd.prog 63 #[.int .i64 t, .int .i64 r, .int .i64 h] w fun e w' => e = .returned (.int .i64 (topN t r h)) ∧ w' = w := by
  have e : Hid (topN t r h = if t ≤ h then 0 else min (r - h / 2) (t - h)) := Lib.hid rfl
  go_enter Tryd.func63, Tryd.ntmps63
  go_wp2
  all_goals
    go_ret
    refine ⟨retI ?_, rfl⟩
    have := e.out
    rw [this]
    split <;> omega
theorem high_ref (a b : Int) (w : World) : Calls Tryd.prog 59 #[.int .i64 a, .int .i64 b] w fun e w' => e = .returned (.int .i64 (max a b)) ∧ w' = w := by
  by_cases h : b < a
  · have e : Hid (max a b = a) := Lib.hid (by omega)
    go_enter Tryd.func59, Tryd.ntmps59
    go_wp2
    go_ret
    rw [e.out]; exact ⟨rfl, rfl⟩
  · have e : Hid (max a b = b) := Lib.hid (by omega)
    go_enter Tryd.func59, Tryd.ntmps59
    go_wp2
    go_ret
    rw [e.out]; exact ⟨rfl, rfl⟩
/-- The cells of the piece at k. -/
def pieceM (L : List Cl) (k : Nat) : Int := if k + 1 < L.length ∧ (L.getD (k + 1) cl0).1 = -1 then 2 else 1
set_option maxHeartbeats 1000000 in
theorem piece_any (L : List Cl) (k : Nat) (a : Option Addr) (c : Nat) (w : World) (hl : L.length ≤ 1000000) (hk : k ≤ 1000000) (ha : CellsIn w a L) :
    Calls Tryd.prog 113 #[.slice a L.length c, .int .i64 k] w fun e w' => e = .returned (.int .i64 (pieceM L k)) ∧ w' = w := by
  by_cases h1 : k + 1 < L.length
  · obtain ⟨b1, o1, rfl, hb1, c1, c2, c3, c4, c5⟩ := ha (k + 1) h1
    have hk1 : (k : Int) + 1 < L.length := by omega
    have hk0 : (0 : Int) ≤ (k : Int) + 1 := by omega
    by_cases h2 : (L.getD (k + 1) cl0).1 = -1
    · have e : Hid (pieceM L k = 2) := Lib.hid (by unfold pieceM; rw [if_pos ⟨h1, h2⟩])
      rw [h2] at c1
      clear h2
      go_enter Tryd.func113, Tryd.ntmps113
      go_wp2
      go_ret
      rw [e.out]; exact ⟨rfl, rfl⟩
    · have e : Hid (pieceM L k = 1) := Lib.hid (by unfold pieceM; rw [if_neg (fun h => h2 h.2)])
      generalize (L.getD (k + 1) cl0).1 = v at *
      have hv : (v == -1) = false := by rw [beq_eq_false_iff_ne]; exact h2
      go_enter Tryd.func113, Tryd.ntmps113
      go_wp2
      go_ret
      rw [e.out]; exact ⟨rfl, rfl⟩
  · have e : Hid (pieceM L k = 1) := Lib.hid (by unfold pieceM; rw [if_neg (fun h => h1 h.1)])
    have hk1 : ¬ (k : Int) + 1 < L.length := by omega
    go_enter Tryd.func113, Tryd.ntmps113
    go_wp2
    go_ret
    rw [e.out]; exact ⟨rfl, rfl⟩
end Go.Proofs.YtcdecnmhogmhaaaDoor
set_option linter.unusedVariables false
set_option linter.unusedSimpArgs false
namespace Go.Proofs.YtcdecnmhogmhaaaDoor
open Go.RowKit
set_option maxHeartbeats 4000000 in
theorem top_ref (t r h : Nat) (w : World) (ht : t ≤ 1000000) (hr : r ≤ 1000000) (hh : h ≤ 1000000) : Calls Tryd.prog 71 #[.int .i64 t, .int .i64 r, .int .i64 h] w fun e w' => e = .returned (.int .i64 (topN t r h)) ∧ w' = w := by
  have e : Hid (topN t r h = if t ≤ h then 0 else min (r - h / 2) (t - h)) := Lib.hid rfl
  have H1 := fun w => high_ref (t : Int) 0 w
  have H2 := fun w => high_ref (r : Int) 0 w
  have H3 := fun w => high_ref (h : Int) 0 w
  rw [show max (t : Int) 0 = t by omega] at H1
  rw [show max (r : Int) 0 = r by omega] at H2
  rw [show max (h : Int) 0 = h by omega] at H3
  replace H1 := Lib.hid H1; replace H2 := Lib.hid H2; replace H3 := Lib.hid H3
  go_enter Tryd.func71, Tryd.ntmps71
  go_wp2_with (first
    | (go_at_call 59; (with_reducible refine (H1.out _).mono ?_); rintro e w1 ⟨rfl, rfl⟩)
    | (go_at_call 59; (with_reducible refine (H2.out _).mono ?_); rintro e w1 ⟨rfl, rfl⟩)
    | (go_at_call 59; (with_reducible refine (H3.out _).mono ?_); rintro e w1 ⟨rfl, rfl⟩))
  all_goals
    go_ret
    refine ⟨retI ?_, rfl⟩
    have := e.out
    rw [this]
    split <;> omega
/-- May cells be laid? -/
def layB (L : List Cl) : Bool := (List.range L.length).all fun i => !((L.getD i cl0).1 == -1 && (i == 0 || (L.getD (i - 1) cl0).1 == -1))
theorem layB_no {L : List Cl} {k : Nat} (hk : k < L.length) (h : (L.getD k cl0).1 = -1) (h2 : k = 0 ∨ (L.getD (k - 1) cl0).1 = -1) : layB L = false := by
  unfold layB
  rw [List.all_eq_false]
  refine ⟨k, by simpa using hk, ?_⟩
  rw [h]
  rcases h2 with h2 | h2
  · subst h2; simp
  · rw [h2]; simp
theorem layB_yes {L : List Cl} (h : ∀ j, j < L.length → (L.getD j cl0).1 = -1 → j ≠ 0 ∧ (L.getD (j - 1) cl0).1 ≠ -1) : layB L = true := by
  unfold layB
  rw [List.all_eq_true]
  intro j hj
  have hj' : j < L.length := by simpa using hj
  by_cases e : (L.getD j cl0).1 = -1
  · obtain ⟨a, b⟩ := h j hj' e
    have b1 : (j == 0) = false := by rw [beq_eq_false_iff_ne]; exact a
    have b2 : ((L.getD (j - 1) cl0).1 == -1) = false := by rw [beq_eq_false_iff_ne]; exact b
    rw [b1, b2]; simp
  · have b2 : ((L.getD j cl0).1 == -1) = false := by rw [beq_eq_false_iff_ne]; exact e
    rw [b2]; rfl
theorem layB_at {L : List Cl} (h : layB L = true) {j : Nat} (hj : j < L.length) (e : (L.getD j cl0).1 = -1) : j ≠ 0 ∧ (L.getD (j - 1) cl0).1 ≠ -1 := by
  constructor
  · intro h0; rw [layB_no hj e (Or.inl h0)] at h; cases h
  · intro h0; rw [layB_no hj e (Or.inr h0)] at h; cases h
set_option maxHeartbeats 4000000 in
theorem layable_any (L : List Cl) (a : Option Addr) (c : Nat) (w : World) (hl : L.length ≤ 1000000) (ha : CellsIn w a L) :
    Calls Tryd.prog 111 #[.slice a L.length c] w fun e w' => e = .returned (.bool (layB L)) ∧ Below w.heap.size w w' := by
  have HA := Lib.hid ha; clear ha
  go_enter Tryd.func111, Tryd.ntmps111
  go_wp2
  go_loopw [7] (fun iv wr => ∃ k : Nat, k ≤ L.length ∧ iv = .int .i64 (k : Int) ∧ Hid (∀ j, j < k → (L.getD j cl0).1 = -1 → j ≠ 0 ∧ (L.getD (j - 1) cl0).1 ≠ -1) ∧ Below w.heap.size w wr) (fun iv _ => L.length - (intOf iv).toNat)
  case atStart => exact ⟨0, Nat.zero_le _, rfl, Lib.hid (fun j hj => absurd hj (by omega)), Below.refl _ _⟩
  case round =>
    obtain ⟨k, hk, rfl, hall, hbl⟩ := hrel
    by_cases hlt : k < L.length
    · obtain ⟨b1, o1, rfl, hb1, c1, c2, c3, c4, c5⟩ := (HA.out.below hbl) k hlt
      have hk1 : (k : Int) < L.length := by omega
      have hk0 : (0 : Int) ≤ k := by omega
      have step : ((L.getD k cl0).1 = -1 → k ≠ 0 ∧ (L.getD (k - 1) cl0).1 ≠ -1) → Hid (∀ j, j < k + 1 → (L.getD j cl0).1 = -1 → j ≠ 0 ∧ (L.getD (j - 1) cl0).1 ≠ -1) := fun h => Lib.hid (by
        intro j hj
        rcases Nat.lt_succ_iff_lt_or_eq.1 hj with h' | rfl
        · exact hall.out j h'
        · exact h)
      by_cases hv : (L.getD k cl0).1 = -1
      · by_cases h0 : k = 0
        · have HF := Lib.hid (layB_no hlt hv (Or.inl h0))
          subst h0
          rw [hv] at c1
          simp only [Nat.zero_mul, Nat.add_zero] at c1 c2 c3 c4 c5
          clear step hv
          generalize L.getD 0 cl0 = q at *
          go_wp2
          go_ret
          rw [HF.out]
          exact ⟨rfl, hbl.alloc hbl.size _⟩
        · obtain ⟨b2, o2, e2, hb2, d1, d2, d3, d4, d5⟩ := (HA.out.below hbl) (k - 1) (by omega)
          obtain ⟨rfl, rfl⟩ : b1 = b2 ∧ o1 = o2 := by simpa using e2
          have d1' := fun o => (World.cell?_alloc_lt wr o (⟨b1, o1 + (k - 1) * 5, none⟩ : Addr) hb1).trans d1
          have hkm : (k : Int) - 1 = ((k - 1 : Nat) : Int) := by omega
          have hkm0 : ((k : Int) == 0) = false := by rw [beq_eq_false_iff_ne]; omega
          have hkm1 : ((k - 1 : Nat) : Int) < L.length := by omega
          by_cases hp : (L.getD (k - 1) cl0).1 = -1
          · have HF := Lib.hid (layB_no hlt hv (Or.inr hp))
            rw [hv] at c1
            rw [hp] at d1'
            clear step hv hp d1 d2 d3 d4 d5 e2
            generalize L.getD k cl0 = q at *
            generalize hm : k - 1 = m at *
            go_wp2
            go_ret
            rw [HF.out]
            exact ⟨rfl, hbl.alloc hbl.size _⟩
          · have HF := step (fun _ => ⟨h0, hp⟩)
            rw [hv] at c1
            have hpb : ((L.getD (k - 1) cl0).1 == -1) = false := by rw [beq_eq_false_iff_ne]; exact hp
            clear step hv d1 d2 d3 d4 d5 e2
            generalize L.getD k cl0 = q at *
            generalize (L.getD (k - 1) cl0).1 = v at *
            generalize hm : k - 1 = m at *
            go_wp2
            go_roundw
            case rel => exact ⟨k + 1, by omega, by go_num, HF, hbl.alloc hbl.size _⟩
            case measure => (simp [intOf]; try omega)
      · have HF := step (fun h => absurd h hv)
        have hvb : ((L.getD k cl0).1 == -1) = false := by rw [beq_eq_false_iff_ne]; exact hv
        clear step
        generalize L.getD k cl0 = q at *
        go_wp2
        go_roundw
        case rel => exact ⟨k + 1, by omega, by go_num, HF, hbl.alloc hbl.size _⟩
        case measure => (simp [intOf]; try omega)
    · obtain rfl : k = L.length := by omega
      have HF := Lib.hid (layB_yes hall.out)
      go_wp2
      go_ret
      rw [HF.out]
      exact ⟨rfl, hbl⟩
end Go.Proofs.YtcdecnmhogmhaaaDoor
set_option linter.unusedVariables false
set_option linter.unusedSimpArgs false
namespace Go.Proofs.YtcdecnmhogmhaaaDoor
open Go.RowKit
/-- Of how many columns the piece at k is. -/
def spN (L : List Cl) (w : Int) (k : Nat) : Int := if k + 1 < L.length ∧ (L.getD (k + 1) cl0).1 = -1 ∧ 1 < w then 2 else 1
/-- Does a new row begin before the cell at k? -/
def spNew (L : List Cl) (w : Int) (k : Nat) (col : Int) : Bool := decide ((L.getD k cl0).1 ≠ -1) && decide (w < col + spN L w k)
/-- Is the cell at k shown by the one before? -/
def spSkip (L : List Cl) (w : Int) (k : Nat) : Bool := decide ((L.getD k cl0).1 = -1) && decide (w = 1)
/-- The places of the first k cells; the row and the column that come next. -/
def spS (L : List Cl) (w : Int) : Nat → List (Int × Int) × Int × Int
  | 0 => ([], 0, 0)
  | k + 1 =>
    let s := spS L w k
    if spSkip L w k = true then (s.1 ++ [s.1.getD (k - 1) (0, 0)], s.2)
    else if spNew L w k s.2.2 = true then (s.1 ++ [(s.2.1 + 1, 0)], s.2.1 + 1, 1)
    else (s.1 ++ [(s.2.1, s.2.2)], s.2.1, s.2.2 + 1)
/-- The places of cells, and of the end. -/
def spAll (L : List Cl) (w : Int) : List (Int × Int) :=
  (spS L w L.length).1 ++ [if (spS L w L.length).2.2 = w then ((spS L w L.length).2.1 + 1, 0) else (spS L w L.length).2]
theorem spS_len (L : List Cl) (w : Int) : ∀ k, (spS L w k).1.length = k
  | 0 => rfl
  | k + 1 => by
    have ih := spS_len L w k
    simp only [spS]
    split
    · simp [ih]
    · split <;> simp [ih]
theorem spS_rng (L : List Cl) (w : Int) : ∀ k, 0 ≤ (spS L w k).2.1 ∧ (spS L w k).2.1 ≤ k ∧ 0 ≤ (spS L w k).2.2 ∧ (spS L w k).2.2 ≤ k
  | 0 => by simp [spS]
  | k + 1 => by
    have ih := spS_rng L w k
    simp only [spS]
    split
    · show 0 ≤ (spS L w k).2.1 ∧ (spS L w k).2.1 ≤ ((k + 1 : Nat) : Int) ∧ 0 ≤ (spS L w k).2.2 ∧ (spS L w k).2.2 ≤ ((k + 1 : Nat) : Int)
      omega
    · split <;> simp only <;> omega
/-- A row of places of the call's own. -/
def ownP (w : World) (B : Nat) (v : Value) (S : List (Int × Int)) : Prop := w.ownsRow B 45 2 v S.length (sRow S).toList
theorem infoSpot : (Tryd.prog.info? 45).map (fun i => (i.zero, i.size, i.bytes)) = some (some (.agg #[.int .i64 0, .int .i64 0]), 2, 16) := by kernel_rfl
theorem sRow_snoc (S : List (Int × Int)) (a b : Int) : (sRow (S ++ [(a, b)])).toList = (sRow S).toList ++ [.int .i64 a, .int .i64 b] := by simp [sRow]
theorem spots_of_own {w : World} {B : Nat} {v : Value} {L : List (Int × Int)} (h : ownP w B v L) : ∃ a c, v = .slice a L.length c ∧ Signs w a L := by
  unfold ownP at h
  rcases h.2 with ⟨rfl, h0⟩ | ⟨g, cap, cur, rfl, _, hg, _⟩
  · exact ⟨none, 0, by rw [h0], fun j hj => by omega⟩
  · refine ⟨_, cap, rfl, fun j hj => ⟨g, 0, rfl, blk_lt hg, ?_, ?_⟩⟩
    · have := sRow_at L j hj
      rw [Nat.zero_add, h.cellAt (j * 2) (by omega)]; exact this.1
    · have := sRow_at L j hj
      rw [Nat.zero_add, h.cellAt (j * 2 + 1) (by omega)]; exact this.2
theorem sp_cases (L : List Cl) (w : Int) (k : Nat) : (spSkip L w k = true ∧ (L.getD k cl0).1 = -1 ∧ w = 1) ∨ (spSkip L w k = false ∧ (L.getD k cl0).1 = -1 ∧ w ≠ 1 ∧ (∀ col, spNew L w k col = false)) ∨ (spSkip L w k = false ∧ (L.getD k cl0).1 ≠ -1 ∧ (∀ col, spNew L w k col = decide (w < col + spN L w k))) := by
  unfold spSkip spNew
  by_cases h1 : (L.getD k cl0).1 = -1
  · by_cases h2 : w = 1
    · left; rw [h1, h2]; exact ⟨rfl, rfl, rfl⟩
    · right; left; rw [h1, decide_eq_false h2]; exact ⟨rfl, rfl, h2, fun _ => rfl⟩
  · right; right; rw [decide_eq_false h1, decide_eq_true h1]; exact ⟨rfl, h1, fun _ => Bool.true_and _⟩
set_option maxHeartbeats 8000000 in
theorem spots_ref (L : List Cl) (wd : Int) (a : Option Addr) (c : Nat) (w : World) (hl : L.length ≤ 100000) (hw : 1 ≤ wd) (hw2 : wd ≤ 1000) (hlay : layB L = true) (ha : CellsIn w a L) :
    Calls Tryd.prog 23 #[.slice a L.length c, .int .i64 wd] w fun e w' => ∃ x, e = .returned x ∧ ownP w' w.heap.size x (spAll L wd) ∧ Below w.heap.size w w' := by
  obtain ⟨i0, hi, hz0, hz1, hz2⟩ := info_parts infoSpot
  have HA := Lib.hid ha; have HL := Lib.hid hlay
  clear ha hlay
  go_enter Tryd.func23, Tryd.ntmps23
  go_wp2
  go_loopw [5, 6, 7, 8] (fun ov rv cv iv wr => ∃ k : Nat, k ≤ L.length ∧ iv = .int .i64 (k : Int) ∧ rv = .int .i64 (spS L wd k).2.1 ∧ cv = .int .i64 (spS L wd k).2.2 ∧ Hid (ownP wr w.heap.size ov (spS L wd k).1) ∧ Below w.heap.size w wr) (fun _ _ _ iv _ => L.length - (intOf iv).toNat)
  case atStart => exact ⟨0, Nat.zero_le _, rfl, rfl, rfl, Lib.hid (World.ownsRow_nil _ _ _ _), Below.refl _ _⟩
  case round =>
    obtain ⟨k, hk, rfl, rfl, rfl, hO, hbl⟩ := hrel
    have hrng := spS_rng L wd k
    have hslen := spS_len L wd k
    by_cases hlt : k < L.length
    · obtain ⟨b1, o1, rfl, hb1, c1, c2, c3, c4, c5⟩ := (HA.out.below hbl) k hlt
      have hk1 : (k : Int) < L.length := by omega
      have hk0 : (0 : Int) ≤ k := by omega
      have hown := hO.out
      unfold ownP at hown
      rw [hslen] at hown
      have hsz := hbl.size
      have hstep : spS L wd (k + 1) = if spSkip L wd k = true then ((spS L wd k).1 ++ [(spS L wd k).1.getD (k - 1) (0, 0)], (spS L wd k).2)
        else if spNew L wd k (spS L wd k).2.2 = true then ((spS L wd k).1 ++ [((spS L wd k).2.1 + 1, 0)], (spS L wd k).2.1 + 1, 1)
        else ((spS L wd k).1 ++ [((spS L wd k).2.1, (spS L wd k).2.2)], (spS L wd k).2.1, (spS L wd k).2.2 + 1) := rfl
      rcases sp_cases L wd k with ⟨s1, s2, s3⟩ | ⟨s1, s2, s3, s4⟩ | ⟨s1, s2, s4⟩
      · obtain ⟨hk', _⟩ := layB_at HL.out hlt s2
        obtain ⟨g, cap, rfl⟩ := ownsRow_pos hown (by omega)
        rw [if_pos s1] at hstep
        have hat := sRow_at (spS L wd k).1 (k - 1) (by rw [hslen]; omega)
        obtain ⟨p, q, hpq⟩ : ∃ p q, (spS L wd k).1.getD (k - 1) (0, 0) = (p, q) := ⟨_, _, rfl⟩
        rw [hpq] at hat hstep
        have e1 := (hown.cellAt ((k - 1) * 2) (by omega)).trans hat.1
        have e2 := (hown.cellAt ((k - 1) * 2 + 1) (by omega)).trans hat.2
        have hkm : (k : Int) - 1 = ((k - 1 : Nat) : Int) := by omega
        have hkm1 : ((k - 1 : Nat) : Int) < (k : Int) := by omega
        have Hst := Lib.hid hstep
        rw [s2] at c1
        subst s3
        clear hstep hat hpq s1 s2 c2 c3 c4 c5
        generalize (spS L 1 k).1 = S at *
        generalize (spS L 1 k).2 = rc at *
        generalize hm : k - 1 = m at *
        go_wp2_with (at_builtin; refine wpList_append_own _ rfl _ _ 42 rfl w.heap.size 45 i0 _ 2 16 Tryd.underlying42 hi hz0 hz1 hz2 rfl (by decide) _ _ _ rfl (hown.alloc _) ⟨wr.heap.size, 0, none⟩ 1 1 [.int .i64 p, .int .i64 q] rfl rfl (fun j x hj => app_cells rfl hj) ?g2 ?g3 ?g4 ?g5 ?_)
        case g2 => simp [Value.oneCell']
        case g3 => unfold maxLen; omega
        case g4 => omega
        case g5 => first | omega | (simp; omega)
        intro v' w5 hown5 hgrow5 _
        have N5 := (hbl.alloc hbl.size _).grown hgrow5 (by simp; omega) (fun j hj => (hown.lt j hj).1)
        have HO := Lib.hid hown5
        clear hown5 hgrow5 hown
        go_wp2
        go_roundw
        case rel => exact ⟨k + 1, by omega, by go_num, by rw [Hst.out], by rw [Hst.out], Lib.hid (by rw [Hst.out]; unfold ownP; rw [List.length_append, sRow_snoc, hslen]; exact HO.out), N5⟩
        case measure => (simp [intOf]; try omega)
      · rw [if_neg (by rw [s1]; simp), if_neg (by rw [s4]; simp)] at hstep
        have Hst := Lib.hid hstep
        have w1b : (wd == 1) = false := by rw [beq_eq_false_iff_ne]; exact s3
        rw [s2] at c1
        by_cases hk2 : k + 1 < L.length
        · obtain ⟨b2, o2, e2, hb2, d1, d2, d3, d4, d5⟩ := (HA.out.below hbl) (k + 1) hk2
          obtain ⟨rfl, rfl⟩ : b1 = b2 ∧ o1 = o2 := by simpa using e2
          have hne : (L.getD (k + 1) cl0).1 ≠ -1 := fun h => (layB_at HL.out hk2 h).2 (by rw [Nat.add_sub_cancel]; exact s2)
          have hnb : ((L.getD (k + 1) cl0).1 == -1) = false := by rw [beq_eq_false_iff_ne]; exact hne
          have hk3 : (k : Int) + 1 < L.length := by omega
          have hk4 : (0 : Int) ≤ (k : Int) + 1 := by omega
          generalize (L.getD (k + 1) cl0).1 = v2 at *
          clear hstep s1 s2 s4 c2 c3 c4 c5 d2 d3 d4 d5 e2 hne
          generalize (spS L wd k).1 = S at *
          generalize (spS L wd k).2.1 = row at *
          generalize (spS L wd k).2.2 = col at *
          go_wp2_with (at_builtin; refine wpList_append_own _ rfl _ _ 42 rfl w.heap.size 45 i0 _ 2 16 Tryd.underlying42 hi hz0 hz1 hz2 rfl (by decide) _ _ _ rfl (hown.alloc _) ⟨wr.heap.size, 0, none⟩ 1 1 [.int .i64 row, .int .i64 col] rfl rfl (fun j x hj => app_cells rfl hj) ?g2 ?g3 ?g4 ?g5 ?_)
          case g2 => simp [Value.oneCell']
          case g3 => unfold maxLen; omega
          case g4 => omega
          case g5 => first | omega | (simp; omega)
          intro v' w5 hown5 hgrow5 _
          have N5 := (hbl.alloc hbl.size _).grown hgrow5 (by simp; omega) (fun j hj => (hown.lt j hj).1)
          have HO := Lib.hid hown5
          clear hown5 hgrow5 hown
          go_wp2
          go_roundw
          case rel => exact ⟨k + 1, by omega, by go_num, by rw [Hst.out], by rw [Hst.out], Lib.hid (by rw [Hst.out]; unfold ownP; rw [List.length_append, sRow_snoc, hslen]; exact HO.out), N5⟩
          case measure => (simp [intOf]; try omega)
        · have hk3 : ¬ (k : Int) + 1 < L.length := by omega
          clear hstep s1 s2 s4 c2 c3 c4 c5
          generalize (spS L wd k).1 = S at *
          generalize (spS L wd k).2.1 = row at *
          generalize (spS L wd k).2.2 = col at *
          go_wp2_with (at_builtin; refine wpList_append_own _ rfl _ _ 42 rfl w.heap.size 45 i0 _ 2 16 Tryd.underlying42 hi hz0 hz1 hz2 rfl (by decide) _ _ _ rfl (hown.alloc _) ⟨wr.heap.size, 0, none⟩ 1 1 [.int .i64 row, .int .i64 col] rfl rfl (fun j x hj => app_cells rfl hj) ?g2 ?g3 ?g4 ?g5 ?_)
          case g2 => simp [Value.oneCell']
          case g3 => unfold maxLen; omega
          case g4 => omega
          case g5 => first | omega | (simp; omega)
          intro v' w5 hown5 hgrow5 _
          have N5 := (hbl.alloc hbl.size _).grown hgrow5 (by simp; omega) (fun j hj => (hown.lt j hj).1)
          have HO := Lib.hid hown5
          clear hown5 hgrow5 hown
          go_wp2
          go_roundw
          case rel => exact ⟨k + 1, by omega, by go_num, by rw [Hst.out], by rw [Hst.out], Lib.hid (by rw [Hst.out]; unfold ownP; rw [List.length_append, sRow_snoc, hslen]; exact HO.out), N5⟩
          case measure => (simp [intOf]; try omega)
      · have hvb : ((L.getD k cl0).1 == -1) = false := by rw [beq_eq_false_iff_ne]; exact s2
        have hvn : ((L.getD k cl0).1 != -1) = true := by rw [bne_iff_ne]; exact s2
        have cellN : k + 1 < L.length → wr.cell? ⟨b1, o1 + (k + 1) * 5, none⟩ = some (.int .i64 (L.getD (k + 1) cl0).1) := fun h => by
          obtain ⟨b2, o2, e2, hb2, d1, _⟩ := (HA.out.below hbl) (k + 1) h
          obtain ⟨rfl, rfl⟩ : b1 = b2 ∧ o1 = o2 := by simpa using e2
          exact d1
        have hn : (k + 1 < L.length ∧ (L.getD (k + 1) cl0).1 = -1 ∧ 1 < wd ∧ spN L wd k = 2) ∨ (k + 1 < L.length ∧ (L.getD (k + 1) cl0).1 = -1 ∧ ¬ 1 < wd ∧ spN L wd k = 1) ∨ (k + 1 < L.length ∧ (L.getD (k + 1) cl0).1 ≠ -1 ∧ spN L wd k = 1) ∨ (¬ k + 1 < L.length ∧ spN L wd k = 1) := by
          unfold spN
          by_cases h1 : k + 1 < L.length
          · by_cases h2 : (L.getD (k + 1) cl0).1 = -1
            · by_cases h3 : 1 < wd
              · left; exact ⟨h1, h2, h3, by rw [if_pos ⟨h1, h2, h3⟩]⟩
              · right; left; exact ⟨h1, h2, h3, by rw [if_neg (fun h => h3 h.2.2)]⟩
            · right; right; left; exact ⟨h1, h2, by rw [if_neg (fun h => h2 h.2.1)]⟩
          · right; right; right; exact ⟨h1, by rw [if_neg (fun h => h1 h.1)]⟩
        rw [if_neg (by rw [s1]; simp), s4] at hstep
        have hk4 : (0 : Int) ≤ (k : Int) + 1 := by omega
        generalize (L.getD k cl0).1 = v1 at *
        clear s1 s2 s4 c2 c3 c4 c5
        by_cases hnew : wd < (spS L wd k).2.2 + spN L wd k
        · rw [decide_eq_true hnew, if_pos rfl] at hstep
          have Hst := Lib.hid hstep
          clear hstep
          generalize (spS L wd k).1 = S at *
          generalize (spS L wd k).2.1 = row at *
          generalize (spS L wd k).2.2 = col at *
          rcases hn with ⟨n1, n2, n3, n4⟩ | ⟨n1, n2, n3, n4⟩ | ⟨n1, n2, n4⟩ | ⟨n1, n4⟩
          · have d1 := cellN n1
            have hk3 : (k : Int) + 1 < L.length := by omega
            rw [n2] at d1; rw [n4] at hnew
            clear n2 n4 cellN
            go_wp2_with (at_builtin; refine wpList_append_own _ rfl _ _ 42 rfl w.heap.size 45 i0 _ 2 16 Tryd.underlying42 hi hz0 hz1 hz2 rfl (by decide) _ _ _ rfl (hown.alloc _) ⟨wr.heap.size, 0, none⟩ 1 1 [.int .i64 (row + 1), .int .i64 0] rfl rfl (fun j x hj => app_cells rfl hj) ?g2 ?g3 ?g4 ?g5 ?_)
            case g2 => simp [Value.oneCell']
            case g3 => unfold maxLen; omega
            case g4 => omega
            case g5 => first | omega | (simp; omega)
            intro v' w5 hown5 hgrow5 _
            have N5 := (hbl.alloc hbl.size _).grown hgrow5 (by simp; omega) (fun j hj => (hown.lt j hj).1)
            have HO := Lib.hid hown5
            clear hown5 hgrow5 hown
            go_wp2
            go_roundw
            case rel => exact ⟨k + 1, by omega, by go_num, by rw [Hst.out], by rw [Hst.out], Lib.hid (by rw [Hst.out]; unfold ownP; rw [List.length_append, sRow_snoc, hslen]; exact HO.out), N5⟩
            case measure => (simp [intOf]; try omega)
          · have d1 := cellN n1
            have hk3 : (k : Int) + 1 < L.length := by omega
            rw [n2] at d1; rw [n4] at hnew
            clear n2 n4 cellN
            go_wp2_with (at_builtin; refine wpList_append_own _ rfl _ _ 42 rfl w.heap.size 45 i0 _ 2 16 Tryd.underlying42 hi hz0 hz1 hz2 rfl (by decide) _ _ _ rfl (hown.alloc _) ⟨wr.heap.size, 0, none⟩ 1 1 [.int .i64 (row + 1), .int .i64 0] rfl rfl (fun j x hj => app_cells rfl hj) ?g2 ?g3 ?g4 ?g5 ?_)
            case g2 => simp [Value.oneCell']
            case g3 => unfold maxLen; omega
            case g4 => omega
            case g5 => first | omega | (simp; omega)
            intro v' w5 hown5 hgrow5 _
            have N5 := (hbl.alloc hbl.size _).grown hgrow5 (by simp; omega) (fun j hj => (hown.lt j hj).1)
            have HO := Lib.hid hown5
            clear hown5 hgrow5 hown
            go_wp2
            go_roundw
            case rel => exact ⟨k + 1, by omega, by go_num, by rw [Hst.out], by rw [Hst.out], Lib.hid (by rw [Hst.out]; unfold ownP; rw [List.length_append, sRow_snoc, hslen]; exact HO.out), N5⟩
            case measure => (simp [intOf]; try omega)
          · have d1 := cellN n1
            have hk3 : (k : Int) + 1 < L.length := by omega
            have hnb : ((L.getD (k + 1) cl0).1 == -1) = false := by rw [beq_eq_false_iff_ne]; exact n2
            rw [n4] at hnew
            generalize (L.getD (k + 1) cl0).1 = v2 at *
            clear n2 n4 cellN
            go_wp2_with (at_builtin; refine wpList_append_own _ rfl _ _ 42 rfl w.heap.size 45 i0 _ 2 16 Tryd.underlying42 hi hz0 hz1 hz2 rfl (by decide) _ _ _ rfl (hown.alloc _) ⟨wr.heap.size, 0, none⟩ 1 1 [.int .i64 (row + 1), .int .i64 0] rfl rfl (fun j x hj => app_cells rfl hj) ?g2 ?g3 ?g4 ?g5 ?_)
            case g2 => simp [Value.oneCell']
            case g3 => unfold maxLen; omega
            case g4 => omega
            case g5 => first | omega | (simp; omega)
            intro v' w5 hown5 hgrow5 _
            have N5 := (hbl.alloc hbl.size _).grown hgrow5 (by simp; omega) (fun j hj => (hown.lt j hj).1)
            have HO := Lib.hid hown5
            clear hown5 hgrow5 hown
            go_wp2
            go_roundw
            case rel => exact ⟨k + 1, by omega, by go_num, by rw [Hst.out], by rw [Hst.out], Lib.hid (by rw [Hst.out]; unfold ownP; rw [List.length_append, sRow_snoc, hslen]; exact HO.out), N5⟩
            case measure => (simp [intOf]; try omega)
          · have hk3 : ¬ (k : Int) + 1 < L.length := by omega
            rw [n4] at hnew
            clear n4 cellN
            go_wp2_with (at_builtin; refine wpList_append_own _ rfl _ _ 42 rfl w.heap.size 45 i0 _ 2 16 Tryd.underlying42 hi hz0 hz1 hz2 rfl (by decide) _ _ _ rfl (hown.alloc _) ⟨wr.heap.size, 0, none⟩ 1 1 [.int .i64 (row + 1), .int .i64 0] rfl rfl (fun j x hj => app_cells rfl hj) ?g2 ?g3 ?g4 ?g5 ?_)
            case g2 => simp [Value.oneCell']
            case g3 => unfold maxLen; omega
            case g4 => omega
            case g5 => first | omega | (simp; omega)
            intro v' w5 hown5 hgrow5 _
            have N5 := (hbl.alloc hbl.size _).grown hgrow5 (by simp; omega) (fun j hj => (hown.lt j hj).1)
            have HO := Lib.hid hown5
            clear hown5 hgrow5 hown
            go_wp2
            go_roundw
            case rel => exact ⟨k + 1, by omega, by go_num, by rw [Hst.out], by rw [Hst.out], Lib.hid (by rw [Hst.out]; unfold ownP; rw [List.length_append, sRow_snoc, hslen]; exact HO.out), N5⟩
            case measure => (simp [intOf]; try omega)
        · rw [decide_eq_false hnew, if_neg (by simp)] at hstep
          have Hst := Lib.hid hstep
          clear hstep
          generalize (spS L wd k).1 = S at *
          generalize (spS L wd k).2.1 = row at *
          generalize (spS L wd k).2.2 = col at *
          rcases hn with ⟨n1, n2, n3, n4⟩ | ⟨n1, n2, n3, n4⟩ | ⟨n1, n2, n4⟩ | ⟨n1, n4⟩
          · have d1 := cellN n1
            have hk3 : (k : Int) + 1 < L.length := by omega
            rw [n2] at d1; rw [n4] at hnew
            clear n2 n4 cellN
            go_wp2_with (at_builtin; refine wpList_append_own _ rfl _ _ 42 rfl w.heap.size 45 i0 _ 2 16 Tryd.underlying42 hi hz0 hz1 hz2 rfl (by decide) _ _ _ rfl (hown.alloc _) ⟨wr.heap.size, 0, none⟩ 1 1 [.int .i64 row, .int .i64 col] rfl rfl (fun j x hj => app_cells rfl hj) ?g2 ?g3 ?g4 ?g5 ?_)
            case g2 => simp [Value.oneCell']
            case g3 => unfold maxLen; omega
            case g4 => omega
            case g5 => first | omega | (simp; omega)
            intro v' w5 hown5 hgrow5 _
            have N5 := (hbl.alloc hbl.size _).grown hgrow5 (by simp; omega) (fun j hj => (hown.lt j hj).1)
            have HO := Lib.hid hown5
            clear hown5 hgrow5 hown
            go_wp2
            go_roundw
            case rel => exact ⟨k + 1, by omega, by go_num, by rw [Hst.out], by rw [Hst.out], Lib.hid (by rw [Hst.out]; unfold ownP; rw [List.length_append, sRow_snoc, hslen]; exact HO.out), N5⟩
            case measure => (simp [intOf]; try omega)
          · have d1 := cellN n1
            have hk3 : (k : Int) + 1 < L.length := by omega
            rw [n2] at d1; rw [n4] at hnew
            clear n2 n4 cellN
            go_wp2_with (at_builtin; refine wpList_append_own _ rfl _ _ 42 rfl w.heap.size 45 i0 _ 2 16 Tryd.underlying42 hi hz0 hz1 hz2 rfl (by decide) _ _ _ rfl (hown.alloc _) ⟨wr.heap.size, 0, none⟩ 1 1 [.int .i64 row, .int .i64 col] rfl rfl (fun j x hj => app_cells rfl hj) ?g2 ?g3 ?g4 ?g5 ?_)
            case g2 => simp [Value.oneCell']
            case g3 => unfold maxLen; omega
            case g4 => omega
            case g5 => first | omega | (simp; omega)
            intro v' w5 hown5 hgrow5 _
            have N5 := (hbl.alloc hbl.size _).grown hgrow5 (by simp; omega) (fun j hj => (hown.lt j hj).1)
            have HO := Lib.hid hown5
            clear hown5 hgrow5 hown
            go_wp2
            go_roundw
            case rel => exact ⟨k + 1, by omega, by go_num, by rw [Hst.out], by rw [Hst.out], Lib.hid (by rw [Hst.out]; unfold ownP; rw [List.length_append, sRow_snoc, hslen]; exact HO.out), N5⟩
            case measure => (simp [intOf]; try omega)
          · have d1 := cellN n1
            have hk3 : (k : Int) + 1 < L.length := by omega
            have hnb : ((L.getD (k + 1) cl0).1 == -1) = false := by rw [beq_eq_false_iff_ne]; exact n2
            rw [n4] at hnew
            generalize (L.getD (k + 1) cl0).1 = v2 at *
            clear n2 n4 cellN
            go_wp2_with (at_builtin; refine wpList_append_own _ rfl _ _ 42 rfl w.heap.size 45 i0 _ 2 16 Tryd.underlying42 hi hz0 hz1 hz2 rfl (by decide) _ _ _ rfl (hown.alloc _) ⟨wr.heap.size, 0, none⟩ 1 1 [.int .i64 row, .int .i64 col] rfl rfl (fun j x hj => app_cells rfl hj) ?g2 ?g3 ?g4 ?g5 ?_)
            case g2 => simp [Value.oneCell']
            case g3 => unfold maxLen; omega
            case g4 => omega
            case g5 => first | omega | (simp; omega)
            intro v' w5 hown5 hgrow5 _
            have N5 := (hbl.alloc hbl.size _).grown hgrow5 (by simp; omega) (fun j hj => (hown.lt j hj).1)
            have HO := Lib.hid hown5
            clear hown5 hgrow5 hown
            go_wp2
            go_roundw
            case rel => exact ⟨k + 1, by omega, by go_num, by rw [Hst.out], by rw [Hst.out], Lib.hid (by rw [Hst.out]; unfold ownP; rw [List.length_append, sRow_snoc, hslen]; exact HO.out), N5⟩
            case measure => (simp [intOf]; try omega)
          · have hk3 : ¬ (k : Int) + 1 < L.length := by omega
            rw [n4] at hnew
            clear n4 cellN
            go_wp2_with (at_builtin; refine wpList_append_own _ rfl _ _ 42 rfl w.heap.size 45 i0 _ 2 16 Tryd.underlying42 hi hz0 hz1 hz2 rfl (by decide) _ _ _ rfl (hown.alloc _) ⟨wr.heap.size, 0, none⟩ 1 1 [.int .i64 row, .int .i64 col] rfl rfl (fun j x hj => app_cells rfl hj) ?g2 ?g3 ?g4 ?g5 ?_)
            case g2 => simp [Value.oneCell']
            case g3 => unfold maxLen; omega
            case g4 => omega
            case g5 => first | omega | (simp; omega)
            intro v' w5 hown5 hgrow5 _
            have N5 := (hbl.alloc hbl.size _).grown hgrow5 (by simp; omega) (fun j hj => (hown.lt j hj).1)
            have HO := Lib.hid hown5
            clear hown5 hgrow5 hown
            go_wp2
            go_roundw
            case rel => exact ⟨k + 1, by omega, by go_num, by rw [Hst.out], by rw [Hst.out], Lib.hid (by rw [Hst.out]; unfold ownP; rw [List.length_append, sRow_snoc, hslen]; exact HO.out), N5⟩
            case measure => (simp [intOf]; try omega)
    · obtain rfl : k = L.length := by omega
      have hown := hO.out
      unfold ownP at hown
      rw [hslen] at hown
      have hsz := hbl.size
      have hall : spAll L wd = (spS L wd L.length).1 ++ [if (spS L wd L.length).2.2 = wd then ((spS L wd L.length).2.1 + 1, 0) else ((spS L wd L.length).2.1, (spS L wd L.length).2.2)] := rfl
      by_cases hc : (spS L wd L.length).2.2 = wd
      · rw [if_pos hc] at hall
        have Hall := Lib.hid hall
        clear hall
        have hcb : ((spS L wd L.length).2.2 == wd) = true := by rw [beq_iff_eq]; exact hc
        generalize (spS L wd L.length).1 = S at *
        generalize (spS L wd L.length).2.1 = row at *
        generalize (spS L wd L.length).2.2 = col at *
        go_wp2_with (at_builtin; refine wpList_append_own _ rfl _ _ 42 rfl w.heap.size 45 i0 _ 2 16 Tryd.underlying42 hi hz0 hz1 hz2 rfl (by decide) _ _ _ rfl (hown.alloc _) ⟨wr.heap.size, 0, none⟩ 1 1 [.int .i64 (row + 1), .int .i64 0] rfl rfl (fun j x hj => app_cells rfl hj) ?g2 ?g3 ?g4 ?g5 ?_)
        case g2 => simp [Value.oneCell']
        case g3 => unfold maxLen; omega
        case g4 => omega
        case g5 => first | omega | (simp; omega)
        intro v' w5 hown5 hgrow5 _
        have N5 := (hbl.alloc hbl.size _).grown hgrow5 (by simp; omega) (fun j hj => (hown.lt j hj).1)
        have HO := Lib.hid hown5
        clear hown5 hgrow5 hown
        go_wp2
        go_ret
        refine ⟨_, rfl, ?_, N5⟩
        rw [Hall.out]; unfold ownP; rw [List.length_append, sRow_snoc, hslen]; exact HO.out
      · rw [if_neg hc] at hall
        have Hall := Lib.hid hall
        clear hall
        have hcb : ((spS L wd L.length).2.2 == wd) = false := by rw [beq_eq_false_iff_ne]; exact hc
        generalize (spS L wd L.length).1 = S at *
        generalize (spS L wd L.length).2.1 = row at *
        generalize (spS L wd L.length).2.2 = col at *
        go_wp2_with (at_builtin; refine wpList_append_own _ rfl _ _ 42 rfl w.heap.size 45 i0 _ 2 16 Tryd.underlying42 hi hz0 hz1 hz2 rfl (by decide) _ _ _ rfl (hown.alloc _) ⟨wr.heap.size, 0, none⟩ 1 1 [.int .i64 row, .int .i64 col] rfl rfl (fun j x hj => app_cells rfl hj) ?g2 ?g3 ?g4 ?g5 ?_)
        case g2 => simp [Value.oneCell']
        case g3 => unfold maxLen; omega
        case g4 => omega
        case g5 => first | omega | (simp; omega)
        intro v' w5 hown5 hgrow5 _
        have N5 := (hbl.alloc hbl.size _).grown hgrow5 (by simp; omega) (fun j hj => (hown.lt j hj).1)
        have HO := Lib.hid hown5
        clear hown5 hgrow5 hown
        go_wp2
        go_ret
        refine ⟨_, rfl, ?_, N5⟩
        rw [Hall.out]; unfold ownP; rw [List.length_append, sRow_snoc, hslen]; exact HO.out
end Go.Proofs.YtcdecnmhogmhaaaDoor
set_option linter.unusedVariables false
set_option linter.unusedSimpArgs false
namespace Go.Proofs.YtcdecnmhogmhaaaDoor
open Go.RowKit
set_option maxHeartbeats 4000000 in
theorem looks_ref (v l : Int) (w : World) : Calls Tryd.prog 119 #[.agg #[.int .i64 v, .int .i64 l]] w fun e w' => e = .returned (.int .i64 (lkI v l)) ∧ Below w.heap.size w w' := by
  have O := fun w => of_ref v w
  rw [← cls_eq] at O
  have hk : lkI v l = (if 3 < cls v then 1 else 0) + (if l = 2 ∨ l = 3 ∨ l = 4 then 2 else 0) + (if cls v = 3 then 4 else 0) := rfl
  have hb0 := below_alloc w (.cells #[.int .i64 v, .int .i64 l] 53)
  generalize cls v = c at *
  replace O := Lib.hid O
  have hc : (3 < c) ∨ c = 3 ∨ (c < 3) := by omega
  have hl : l = 2 ∨ l = 3 ∨ l = 4 ∨ (l ≠ 2 ∧ l ≠ 3 ∧ l ≠ 4) := by omega
  rcases hc with hc | hc | hc
  all_goals
    first
      | (subst hc
         have e3 : True := trivial)
      | (have e3 : (c == 3) = false := by rw [beq_eq_false_iff_ne]; omega)
    rcases hl with hl | hl | hl | ⟨n2, n3, n4⟩
    all_goals
      first
        | (subst hl
           have l2 : True := trivial; have l3 : True := trivial; have l4 : True := trivial)
        | (have l2 : (l == 2) = false := by rw [beq_eq_false_iff_ne]; exact n2
           have l3 : (l == 3) = false := by rw [beq_eq_false_iff_ne]; exact n3
           have l4 : (l == 4) = false := by rw [beq_eq_false_iff_ne]; exact n4)
      have Hk := Lib.hid hk
      clear hk
      go_enter Tryd.func119, Tryd.ntmps119
      go_wp2_with (go_at_call 42; refine (O.out _).mono ?_; rintro e w1 ⟨rfl, hb1⟩; have cc1 := (hb1.cell (p := ⟨w.heap.size, 0, none⟩) (by simp)).trans (World.cell?_alloc_new w (#[.int .i64 v, .int .i64 _]) 53 0); have cc2 := (hb1.cell (p := ⟨w.heap.size, 1, none⟩) (by simp)).trans (World.cell?_alloc_new w (#[.int .i64 v, .int .i64 _]) 53 1))
      go_ret
      rw [Hk.out]
      refine ⟨retI ?_, seqB hb0 hb1⟩
      clear O hb0 hb1
      (repeat' split) <;> first | omega | simp_all
def twM (a b : Int) : Bool := cls a == cls b && shC a == shC b
/-- Do cells look the same? -/
def clE (p q : Cl) : Bool := p.1 == q.1 && p.2.1 == q.2.1
def shS (x y : List Cl) : Bool := x.length == y.length && (List.range x.length).all fun i => clE (x.getD i cl0) (y.getD i cl0)
theorem shS_len {x y : List Cl} (h : x.length ≠ y.length) : shS x y = false := by
  unfold shS; rw [show (x.length == y.length) = false by simpa using h]; rfl
theorem shS_no {x y : List Cl} {k : Nat} (hk : k < x.length) (h : clE (x.getD k cl0) (y.getD k cl0) = false) : shS x y = false := by
  unfold shS
  rw [show ((List.range x.length).all fun i => clE (x.getD i cl0) (y.getD i cl0)) = false by rw [List.all_eq_false]; exact ⟨k, by simpa using hk, by rw [h]; simp⟩, Bool.and_false]
theorem shS_yes {x y : List Cl} (hl : x.length = y.length) (h : ∀ j, j < x.length → clE (x.getD j cl0) (y.getD j cl0) = true) : shS x y = true := by
  unfold shS
  rw [Bool.and_eq_true]
  exact ⟨by simpa using hl, by rw [List.all_eq_true]; intro j hj; exact h j (by simpa using hj)⟩
/-- The very same cells? -/
def shA (x y : List Cl) : Bool := decide (x = y)
theorem shA_len {x y : List Cl} (h : x.length ≠ y.length) : shA x y = false := by unfold shA; rw [decide_eq_false]; intro e; exact h (by rw [e])
theorem shA_no {x y : List Cl} {k : Nat} (h : x.getD k cl0 ≠ y.getD k cl0) : shA x y = false := by unfold shA; rw [decide_eq_false]; intro e; exact h (by rw [e])
theorem shA_yes {x y : List Cl} (hl : x.length = y.length) (h : ∀ j, j < x.length → x.getD j cl0 = y.getD j cl0) : shA x y = true := by
  unfold shA; rw [decide_eq_true]
  apply List.ext_getElem hl
  intro j h1 h2
  have := h j h1
  rwa [List.getD, List.getD, List.getElem?_eq_getElem h1, List.getElem?_eq_getElem h2] at this
end Go.Proofs.YtcdecnmhogmhaaaDoor
