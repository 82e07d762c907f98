/-
  Joined: R6 V5 R3 R9 R10 CCom Sh5 Sh6 V1.
-/
import Derived.Test.YtcdecnmhogmhaaaDoorJ01
import Derived.Test.YtcdecnmhogmhaaaDoorJ04
import Derived.Deep.RegionHeld3
import Derived.Test.YtcdecnmhogmhaaaDoorCards
import Derived.Test.YtcdecnmhogmhaaaDoorTie
import Derived.Deep.DeepHandedRow
import Derived.Lib.LaidTab
import Derived.Stop.LaidErr
import Derived.Deep.DrawnRows
import Derived.Maps.AppendAt
import Derived.Maps.Range
import Derived.Deep.AppendLies
set_option linter.unusedVariables false
set_option linter.unusedSimpArgs false
set_option maxRecDepth 100000
set_option linter.unusedVariables false
set_option linter.unusedSimpArgs false
namespace Go.Proofs.YtcdecnmhogmhaaaDoor
open Go.RowKit
/-- Behind the last of the first k cells that is not blank. -/
def lenN (L : List Cl) : Nat → Nat
  | 0 => 0
  | k + 1 => if (L.getD k cl0).1 ≠ 0 then k + 1 else lenN L k
theorem lenN_le (L : List Cl) : ∀ k, lenN L k ≤ k
  | 0 => Nat.le_refl _
  | k + 1 => by
    have := lenN_le L k
    unfold lenN; split <;> omega
set_option maxHeartbeats 1000000 in
theorem len_ref (L : List Cl) (a : Option Addr) (c : Nat) (w : World) (hl : L.length ≤ 1000000) (ha : CellsIn w a L) :
    Calls Tryd.prog 116 #[.slice a L.length c] w fun e w' => e = .returned (.int .i64 (lenN L L.length)) ∧ w' = w := by
  have HA := Lib.hid ha; clear ha
  go_enter Tryd.func116, Tryd.ntmps116
  go_wp2
  go_loop [3, 4] (fun nv iv => ∃ k : Nat, k ≤ L.length ∧ iv = .int .i64 (k : Int) ∧ nv = .int .i64 (lenN L k)) (fun _ iv => L.length - (intOf iv).toNat)
  case atStart => exact ⟨0, Nat.zero_le _, rfl, rfl⟩
  case round =>
    obtain ⟨k, hk, rfl, rfl⟩ := hrel
    by_cases hlt : k < L.length
    · obtain ⟨b1, o1, rfl, hb1, c1, c2, c3, c4, c5⟩ := HA.out k hlt
      have hk1 : (k : Int) < L.length := by omega
      have hk0 : (0 : Int) ≤ k := by omega
      have hs : lenN L (k + 1) = if (L.getD k cl0).1 ≠ 0 then k + 1 else lenN L k := rfl
      by_cases hv : (L.getD k cl0).1 = 0
      · rw [if_neg (fun h => h hv)] at hs
        have Hs := Lib.hid hs
        rw [hv] at c1
        clear hs hv
        go_wp2
        go_round
        case rel => exact ⟨k + 1, by omega, by go_num, by rw [Hs.out]⟩
        case measure => (simp [intOf]; try omega)
      · rw [if_pos hv] at hs
        have Hs := Lib.hid hs
        have hvb : ((L.getD k cl0).1 != 0) = true := by rw [bne_iff_ne]; exact hv
        generalize (L.getD k cl0).1 = v at *
        clear hs
        go_wp2
        go_round
        case rel => exact ⟨k + 1, by omega, by go_num, by rw [Hs.out]; go_num⟩
        case measure => (simp [intOf]; try omega)
    · obtain rfl : k = L.length := by omega
      go_wp2
      go_ret
      exact ⟨rfl, rfl⟩
set_option maxHeartbeats 1000000 in
theorem len_any (L : List Cl) (a : Option Addr) (c : Nat) (w : World) (hl : L.length ≤ 1000000) (ha : CellsIn w a L) :
    Calls Tryd.prog 61 #[.slice a L.length c] w fun e w' => e = .returned (.int .i64 (lenN L L.length)) ∧ w' = w := by
  have HA := Lib.hid ha; clear ha
  generalize hR : lenN L L.length = R
  have HR := Lib.hid hR
  clear hR
  go_enter Tryd.func61, Tryd.ntmps61
  go_wp2
  go_loop [3] (fun nv => ∃ k : Nat, k ≤ L.length ∧ nv = .int .i64 (k : Int) ∧ Hid (R = lenN L k)) (fun nv => (intOf nv).toNat)
  case atStart => exact ⟨L.length, Nat.le_refl _, rfl, Lib.hid HR.out.symm⟩
  case round =>
    obtain ⟨k, hk, rfl, hs⟩ := hrel
    cases k with
    | zero =>
      have h0 : R = 0 := hs.out
      subst h0
      go_wp2
      go_ret
      exact ⟨rfl, rfl⟩
    | succ k =>
      obtain ⟨b1, o1, rfl, hb1, c1, c2, c3, c4, c5⟩ := HA.out k (by omega)
      have hk1 : (k : Int) < L.length := by omega
      have hk0 : (0 : Int) ≤ k := by omega
      have hkp : (0 : Int) < ((k + 1 : Nat) : Int) := by omega
      have hkp2 : (0 : Int) < (k : Int) + 1 := by omega
      have hkm : ((k + 1 : Nat) : Int) - 1 = (k : Int) := by omega
      have hs2 : lenN L (k + 1) = if (L.getD k cl0).1 ≠ 0 then k + 1 else lenN L k := rfl
      by_cases hv : (L.getD k cl0).1 = 0
      · rw [if_neg (fun h => h hv)] at hs2
        have Hs := Lib.hid (hs.out.trans hs2)
        rw [hv] at c1
        clear hs hs2 hv
        go_wp2
        go_round
        case rel => exact ⟨k, by omega, by first | rfl | go_num, Hs⟩
        case measure => (simp [intOf]; try omega)
      · rw [if_pos hv] at hs2
        have Hs := Lib.hid (hs.out.trans hs2)
        have hvb : ((L.getD k cl0).1 == 0) = false := by rw [beq_eq_false_iff_ne]; exact hv
        generalize (L.getD k cl0).1 = v at *
        clear hs hs2
        go_wp2
        go_ret
        rw [Hs.out]
        exact ⟨rfl, rfl⟩
end Go.Proofs.YtcdecnmhogmhaaaDoor
set_option linter.unusedVariables false
set_option linter.unusedSimpArgs false
namespace Go.Proofs.YtcdecnmhogmhaaaDoor
open Go.RowKit
/-- The values that a cell says. -/
def txO (x : Int) : List Int := if 0 < x then [x] else if x = 0 then [32] else []
/-- .. that cells say. -/
def txV (L : List Cl) : List Int := L.flatMap fun c => txO c.1
theorem txV_append (a b : List Cl) : txV (a ++ b) = txV a ++ txV b := by unfold txV; simp
theorem txV_le (L : List Cl) : (txV L).length ≤ L.length := by
  induction L with
  | nil => simp [txV]
  | cons c L ih =>
    have h : (txO c.1).length ≤ 1 := by unfold txO; split; · simp
                                        split <;> simp
    have e : txV (c :: L) = txO c.1 ++ txV L := rfl
    rw [e, List.length_append, List.length_cons]; omega
theorem txV_take (L : List Cl) (k : Nat) (h : k < L.length) : txV (L.take (k + 1)) = txV (L.take k) ++ txO (L.getD k cl0).1 := by
  rw [List.take_add_one, txV_append, List.getElem?_eq_getElem h]
  simp [txV, List.getD, List.getElem?_eq_getElem h]
end Go.Proofs.YtcdecnmhogmhaaaDoor
set_option linter.unusedVariables false
set_option linter.unusedSimpArgs false
namespace Go.Proofs.YtcdecnmhogmhaaaDoor
open Go.RowKit
/-- Of how many columns the piece at k is. -/
def spN (L : List Cl) (w : Int) (k : Nat) : Int := if k + 1 < L.length ∧ (L.getD (k + 1) cl0).1 = -1 ∧ 1 < w then 2 else 1
/-- Does a new row begin before the cell at k? -/
def spNew (L : List Cl) (w : Int) (k : Nat) (col : Int) : Bool := decide ((L.getD k cl0).1 ≠ -1) && decide (w < col + spN L w k)
/-- Is the cell at k shown by the one before? -/
def spSkip (L : List Cl) (w : Int) (k : Nat) : Bool := decide ((L.getD k cl0).1 = -1) && decide (w = 1)
/-- The places of the first k cells; the row and the column that come next. -/
def spS (L : List Cl) (w : Int) : Nat → List (Int × Int) × Int × Int
  | 0 => ([], 0, 0)
  | k + 1 =>
    let s := spS L w k
    if spSkip L w k = true then (s.1 ++ [s.1.getD (k - 1) (0, 0)], s.2)
    else if spNew L w k s.2.2 = true then (s.1 ++ [(s.2.1 + 1, 0)], s.2.1 + 1, 1)
    else (s.1 ++ [(s.2.1, s.2.2)], s.2.1, s.2.2 + 1)
/-- The places of cells, and of the end. -/
def spAll (L : List Cl) (w : Int) : List (Int × Int) :=
  (spS L w L.length).1 ++ [if (spS L w L.length).2.2 = w then ((spS L w L.length).2.1 + 1, 0) else (spS L w L.length).2]
theorem spS_len (L : List Cl) (w : Int) : ∀ k, (spS L w k).1.length = k
  | 0 => rfl
  | k + 1 => by
    have ih := spS_len L w k
    simp only [spS]
    split
    · simp [ih]
    · split <;> simp [ih]
theorem spS_rng (L : List Cl) (w : Int) : ∀ k, 0 ≤ (spS L w k).2.1 ∧ (spS L w k).2.1 ≤ k ∧ 0 ≤ (spS L w k).2.2 ∧ (spS L w k).2.2 ≤ k
  | 0 => by simp [spS]
  | k + 1 => by
    have ih := spS_rng L w k
    simp only [spS]
    split
    · show 0 ≤ (spS L w k).2.1 ∧ (spS L w k).2.1 ≤ ((k + 1 : Nat) : Int) ∧ 0 ≤ (spS L w k).2.2 ∧ (spS L w k).2.2 ≤ ((k + 1 : Nat) : Int)
      omega
    · split <;> simp only <;> omega
/-- A row of places of the call's own. -/
def ownP (w : World) (B : Nat) (v : Value) (S : List (Int × Int)) : Prop := w.ownsRow B 45 2 v S.length (sRow S).toList
theorem infoSpot : (Tryd.prog.info? 45).map (fun i => (i.zero, i.size, i.bytes)) = some (some (.agg #[.int .i64 0, .int .i64 0]), 2, 16) := by kernel_rfl
theorem sRow_snoc (S : List (Int × Int)) (a b : Int) : (sRow (S ++ [(a, b)])).toList = (sRow S).toList ++ [.int .i64 a, .int .i64 b] := by simp [sRow]
theorem spots_of_own {w : World} {B : Nat} {v : Value} {L : List (Int × Int)} (h : ownP w B v L) : ∃ a c, v = .slice a L.length c ∧ Signs w a L := by
  unfold ownP at h
  rcases h.2 with ⟨rfl, h0⟩ | ⟨g, cap, cur, rfl, _, hg, _⟩
  · exact ⟨none, 0, by rw [h0], fun j hj => by omega⟩
  · refine ⟨_, cap, rfl, fun j hj => ⟨g, 0, rfl, blk_lt hg, ?_, ?_⟩⟩
    · have := sRow_at L j hj
      rw [Nat.zero_add, h.cellAt (j * 2) (by omega)]; exact this.1
    · have := sRow_at L j hj
      rw [Nat.zero_add, h.cellAt (j * 2 + 1) (by omega)]; exact this.2
theorem sp_cases (L : List Cl) (w : Int) (k : Nat) : (spSkip L w k = true ∧ (L.getD k cl0).1 = -1 ∧ w = 1) ∨ (spSkip L w k = false ∧ (L.getD k cl0).1 = -1 ∧ w ≠ 1 ∧ (∀ col, spNew L w k col = false)) ∨ (spSkip L w k = false ∧ (L.getD k cl0).1 ≠ -1 ∧ (∀ col, spNew L w k col = decide (w < col + spN L w k))) := by
  unfold spSkip spNew
  by_cases h1 : (L.getD k cl0).1 = -1
  · by_cases h2 : w = 1
    · left; rw [h1, h2]; exact ⟨rfl, rfl, rfl⟩
    · right; left; rw [h1, decide_eq_false h2]; exact ⟨rfl, rfl, h2, fun _ => rfl⟩
  · right; right; rw [decide_eq_false h1, decide_eq_true h1]; exact ⟨rfl, h1, fun _ => Bool.true_and _⟩
set_option maxHeartbeats 8000000 in
theorem spots_ref (L : List Cl) (wd : Int) (a : Option Addr) (c : Nat) (w : World) (hl : L.length ≤ 100000) (hw : 1 ≤ wd) (hw2 : wd ≤ 1000) (hlay : layB L = true) (ha : CellsIn w a L) :
    Calls Tryd.prog 23 #[.slice a L.length c, .int .i64 wd] w fun e w' => ∃ x, e = .returned x ∧ ownP w' w.heap.size x (spAll L wd) ∧ Below w.heap.size w w' := by
  obtain ⟨i0, hi, hz0, hz1, hz2⟩ := info_parts infoSpot
  have HA := Lib.hid ha; have HL := Lib.hid hlay
  clear ha hlay
  go_enter Tryd.func23, Tryd.ntmps23
  go_wp2
  go_loopw [5, 6, 7, 8] (fun ov rv cv iv wr => ∃ k : Nat, k ≤ L.length ∧ iv = .int .i64 (k : Int) ∧ rv = .int .i64 (spS L wd k).2.1 ∧ cv = .int .i64 (spS L wd k).2.2 ∧ Hid (ownP wr w.heap.size ov (spS L wd k).1) ∧ Below w.heap.size w wr) (fun _ _ _ iv _ => L.length - (intOf iv).toNat)
  case atStart => exact ⟨0, Nat.zero_le _, rfl, rfl, rfl, Lib.hid (World.ownsRow_nil _ _ _ _), Below.refl _ _⟩
  case round =>
    obtain ⟨k, hk, rfl, rfl, rfl, hO, hbl⟩ := hrel
    have hrng := spS_rng L wd k
    have hslen := spS_len L wd k
    by_cases hlt : k < L.length
    · obtain ⟨b1, o1, rfl, hb1, c1, c2, c3, c4, c5⟩ := (HA.out.below hbl) k hlt
      have hk1 : (k : Int) < L.length := by omega
      have hk0 : (0 : Int) ≤ k := by omega
      have hown := hO.out
      unfold ownP at hown
      rw [hslen] at hown
      have hsz := hbl.size
      have hstep : spS L wd (k + 1) = if spSkip L wd k = true then ((spS L wd k).1 ++ [(spS L wd k).1.getD (k - 1) (0, 0)], (spS L wd k).2)
        else if spNew L wd k (spS L wd k).2.2 = true then ((spS L wd k).1 ++ [((spS L wd k).2.1 + 1, 0)], (spS L wd k).2.1 + 1, 1)
        else ((spS L wd k).1 ++ [((spS L wd k).2.1, (spS L wd k).2.2)], (spS L wd k).2.1, (spS L wd k).2.2 + 1) := rfl
      rcases sp_cases L wd k with ⟨s1, s2, s3⟩ | ⟨s1, s2, s3, s4⟩ | ⟨s1, s2, s4⟩
      · obtain ⟨hk', _⟩ := layB_at HL.out hlt s2
        obtain ⟨g, cap, rfl⟩ := ownsRow_pos hown (by omega)
        rw [if_pos s1] at hstep
        have hat := sRow_at (spS L wd k).1 (k - 1) (by rw [hslen]; omega)
        obtain ⟨p, q, hpq⟩ : ∃ p q, (spS L wd k).1.getD (k - 1) (0, 0) = (p, q) := ⟨_, _, rfl⟩
        rw [hpq] at hat hstep
        have e1 := (hown.cellAt ((k - 1) * 2) (by omega)).trans hat.1
        have e2 := (hown.cellAt ((k - 1) * 2 + 1) (by omega)).trans hat.2
        have hkm : (k : Int) - 1 = ((k - 1 : Nat) : Int) := by omega
        have hkm1 : ((k - 1 : Nat) : Int) < (k : Int) := by omega
        have Hst := Lib.hid hstep
        rw [s2] at c1
        subst s3
        clear hstep hat hpq s1 s2 c2 c3 c4 c5
        generalize (spS L 1 k).1 = S at *
        generalize (spS L 1 k).2 = rc at *
        generalize hm : k - 1 = m at *
        go_wp2_with (at_builtin; refine wpList_append_own _ rfl _ _ 42 rfl w.heap.size 45 i0 _ 2 16 Tryd.underlying42 hi hz0 hz1 hz2 rfl (by decide) _ _ _ rfl (hown.alloc _) ⟨wr.heap.size, 0, none⟩ 1 1 [.int .i64 p, .int .i64 q] rfl rfl (fun j x hj => app_cells rfl hj) ?g2 ?g3 ?g4 ?g5 ?_)
        case g2 => simp [Value.oneCell']
        case g3 => unfold maxLen; omega
        case g4 => omega
        case g5 => first | omega | (simp; omega)
        intro v' w5 hown5 hgrow5 _
        have N5 := (hbl.alloc hbl.size _).grown hgrow5 (by simp; omega) (fun j hj => (hown.lt j hj).1)
        have HO := Lib.hid hown5
        clear hown5 hgrow5 hown
        go_wp2
        go_roundw
        case rel => exact ⟨k + 1, by omega, by go_num, by rw [Hst.out], by rw [Hst.out], Lib.hid (by rw [Hst.out]; unfold ownP; rw [List.length_append, sRow_snoc, hslen]; exact HO.out), N5⟩
        case measure => (simp [intOf]; try omega)
      · rw [if_neg (by rw [s1]; simp), if_neg (by rw [s4]; simp)] at hstep
        have Hst := Lib.hid hstep
        have w1b : (wd == 1) = false := by rw [beq_eq_false_iff_ne]; exact s3
        rw [s2] at c1
        by_cases hk2 : k + 1 < L.length
        · obtain ⟨b2, o2, e2, hb2, d1, d2, d3, d4, d5⟩ := (HA.out.below hbl) (k + 1) hk2
          obtain ⟨rfl, rfl⟩ : b1 = b2 ∧ o1 = o2 := by simpa using e2
          have hne : (L.getD (k + 1) cl0).1 ≠ -1 := fun h => (layB_at HL.out hk2 h).2 (by rw [Nat.add_sub_cancel]; exact s2)
          have hnb : ((L.getD (k + 1) cl0).1 == -1) = false := by rw [beq_eq_false_iff_ne]; exact hne
          have hk3 : (k : Int) + 1 < L.length := by omega
          have hk4 : (0 : Int) ≤ (k : Int) + 1 := by omega
          generalize (L.getD (k + 1) cl0).1 = v2 at *
          clear hstep s1 s2 s4 c2 c3 c4 c5 d2 d3 d4 d5 e2 hne
          generalize (spS L wd k).1 = S at *
          generalize (spS L wd k).2.1 = row at *
          generalize (spS L wd k).2.2 = col at *
          go_wp2_with (at_builtin; refine wpList_append_own _ rfl _ _ 42 rfl w.heap.size 45 i0 _ 2 16 Tryd.underlying42 hi hz0 hz1 hz2 rfl (by decide) _ _ _ rfl (hown.alloc _) ⟨wr.heap.size, 0, none⟩ 1 1 [.int .i64 row, .int .i64 col] rfl rfl (fun j x hj => app_cells rfl hj) ?g2 ?g3 ?g4 ?g5 ?_)
          case g2 => simp [Value.oneCell']
          case g3 => unfold maxLen; omega
          case g4 => omega
          case g5 => first | omega | (simp; omega)
          intro v' w5 hown5 hgrow5 _
          have N5 := (hbl.alloc hbl.size _).grown hgrow5 (by simp; omega) (fun j hj => (hown.lt j hj).1)
          have HO := Lib.hid hown5
          clear hown5 hgrow5 hown
          go_wp2
          go_roundw
          case rel => exact ⟨k + 1, by omega, by go_num, by rw [Hst.out], by rw [Hst.out], Lib.hid (by rw [Hst.out]; unfold ownP; rw [List.length_append, sRow_snoc, hslen]; exact HO.out), N5⟩
          case measure => (simp [intOf]; try omega)
        · have hk3 : ¬ (k : Int) + 1 < L.length := by omega
          clear hstep s1 s2 s4 c2 c3 c4 c5
          generalize (spS L wd k).1 = S at *
          generalize (spS L wd k).2.1 = row at *
          generalize (spS L wd k).2.2 = col at *
          go_wp2_with (at_builtin; refine wpList_append_own _ rfl _ _ 42 rfl w.heap.size 45 i0 _ 2 16 Tryd.underlying42 hi hz0 hz1 hz2 rfl (by decide) _ _ _ rfl (hown.alloc _) ⟨wr.heap.size, 0, none⟩ 1 1 [.int .i64 row, .int .i64 col] rfl rfl (fun j x hj => app_cells rfl hj) ?g2 ?g3 ?g4 ?g5 ?_)
          case g2 => simp [Value.oneCell']
          case g3 => unfold maxLen; omega
          case g4 => omega
          case g5 => first | omega | (simp; omega)
          intro v' w5 hown5 hgrow5 _
          have N5 := (hbl.alloc hbl.size _).grown hgrow5 (by simp; omega) (fun j hj => (hown.lt j hj).1)
          have HO := Lib.hid hown5
          clear hown5 hgrow5 hown
          go_wp2
          go_roundw
          case rel => exact ⟨k + 1, by omega, by go_num, by rw [Hst.out], by rw [Hst.out], Lib.hid (by rw [Hst.out]; unfold ownP; rw [List.length_append, sRow_snoc, hslen]; exact HO.out), N5⟩
          case measure => (simp [intOf]; try omega)
      · have hvb : ((L.getD k cl0).1 == -1) = false := by rw [beq_eq_false_iff_ne]; exact s2
        have hvn : ((L.getD k cl0).1 != -1) = true := by rw [bne_iff_ne]; exact s2
        have cellN : k + 1 < L.length → wr.cell? ⟨b1, o1 + (k + 1) * 5, none⟩ = some (.int .i64 (L.getD (k + 1) cl0).1) := fun h => by
          obtain ⟨b2, o2, e2, hb2, d1, _⟩ := (HA.out.below hbl) (k + 1) h
          obtain ⟨rfl, rfl⟩ : b1 = b2 ∧ o1 = o2 := by simpa using e2
          exact d1
        have hn : (k + 1 < L.length ∧ (L.getD (k + 1) cl0).1 = -1 ∧ 1 < wd ∧ spN L wd k = 2) ∨ (k + 1 < L.length ∧ (L.getD (k + 1) cl0).1 = -1 ∧ ¬ 1 < wd ∧ spN L wd k = 1) ∨ (k + 1 < L.length ∧ (L.getD (k + 1) cl0).1 ≠ -1 ∧ spN L wd k = 1) ∨ (¬ k + 1 < L.length ∧ spN L wd k = 1) := by
          unfold spN
          by_cases h1 : k + 1 < L.length
          · by_cases h2 : (L.getD (k + 1) cl0).1 = -1
            · by_cases h3 : 1 < wd
              · left; exact ⟨h1, h2, h3, by rw [if_pos ⟨h1, h2, h3⟩]⟩
              · right; left; exact ⟨h1, h2, h3, by rw [if_neg (fun h => h3 h.2.2)]⟩
            · right; right; left; exact ⟨h1, h2, by rw [if_neg (fun h => h2 h.2.1)]⟩
          · right; right; right; exact ⟨h1, by rw [if_neg (fun h => h1 h.1)]⟩
        rw [if_neg (by rw [s1]; simp), s4] at hstep
        have hk4 : (0 : Int) ≤ (k : Int) + 1 := by omega
        generalize (L.getD k cl0).1 = v1 at *
        clear s1 s2 s4 c2 c3 c4 c5
        by_cases hnew : wd < (spS L wd k).2.2 + spN L wd k
        · rw [decide_eq_true hnew, if_pos rfl] at hstep
          have Hst := Lib.hid hstep
          clear hstep
          generalize (spS L wd k).1 = S at *
          generalize (spS L wd k).2.1 = row at *
          generalize (spS L wd k).2.2 = col at *
          rcases hn with ⟨n1, n2, n3, n4⟩ | ⟨n1, n2, n3, n4⟩ | ⟨n1, n2, n4⟩ | ⟨n1, n4⟩
          · have d1 := cellN n1
            have hk3 : (k : Int) + 1 < L.length := by omega
            rw [n2] at d1; rw [n4] at hnew
            clear n2 n4 cellN
            go_wp2_with (at_builtin; refine wpList_append_own _ rfl _ _ 42 rfl w.heap.size 45 i0 _ 2 16 Tryd.underlying42 hi hz0 hz1 hz2 rfl (by decide) _ _ _ rfl (hown.alloc _) ⟨wr.heap.size, 0, none⟩ 1 1 [.int .i64 (row + 1), .int .i64 0] rfl rfl (fun j x hj => app_cells rfl hj) ?g2 ?g3 ?g4 ?g5 ?_)
            case g2 => simp [Value.oneCell']
            case g3 => unfold maxLen; omega
            case g4 => omega
            case g5 => first | omega | (simp; omega)
            intro v' w5 hown5 hgrow5 _
            have N5 := (hbl.alloc hbl.size _).grown hgrow5 (by simp; omega) (fun j hj => (hown.lt j hj).1)
            have HO := Lib.hid hown5
            clear hown5 hgrow5 hown
            go_wp2
            go_roundw
            case rel => exact ⟨k + 1, by omega, by go_num, by rw [Hst.out], by rw [Hst.out], Lib.hid (by rw [Hst.out]; unfold ownP; rw [List.length_append, sRow_snoc, hslen]; exact HO.out), N5⟩
            case measure => (simp [intOf]; try omega)
          · have d1 := cellN n1
            have hk3 : (k : Int) + 1 < L.length := by omega
            rw [n2] at d1; rw [n4] at hnew
            clear n2 n4 cellN
            go_wp2_with (at_builtin; refine wpList_append_own _ rfl _ _ 42 rfl w.heap.size 45 i0 _ 2 16 Tryd.underlying42 hi hz0 hz1 hz2 rfl (by decide) _ _ _ rfl (hown.alloc _) ⟨wr.heap.size, 0, none⟩ 1 1 [.int .i64 (row + 1), .int .i64 0] rfl rfl (fun j x hj => app_cells rfl hj) ?g2 ?g3 ?g4 ?g5 ?_)
            case g2 => simp [Value.oneCell']
            case g3 => unfold maxLen; omega
            case g4 => omega
            case g5 => first | omega | (simp; omega)
            intro v' w5 hown5 hgrow5 _
            have N5 := (hbl.alloc hbl.size _).grown hgrow5 (by simp; omega) (fun j hj => (hown.lt j hj).1)
            have HO := Lib.hid hown5
            clear hown5 hgrow5 hown
            go_wp2
            go_roundw
            case rel => exact ⟨k + 1, by omega, by go_num, by rw [Hst.out], by rw [Hst.out], Lib.hid (by rw [Hst.out]; unfold ownP; rw [List.length_append, sRow_snoc, hslen]; exact HO.out), N5⟩
            case measure => (simp [intOf]; try omega)
          · have d1 := cellN n1
            have hk3 : (k : Int) + 1 < L.length := by omega
            have hnb : ((L.getD (k + 1) cl0).1 == -1) = false := by rw [beq_eq_false_iff_ne]; exact n2
            rw [n4] at hnew
            generalize (L.getD (k + 1) cl0).1 = v2 at *
            clear n2 n4 cellN
            go_wp2_with (at_builtin; refine wpList_append_own _ rfl _ _ 42 rfl w.heap.size 45 i0 _ 2 16 Tryd.underlying42 hi hz0 hz1 hz2 rfl (by decide) _ _ _ rfl (hown.alloc _) ⟨wr.heap.size, 0, none⟩ 1 1 [.int .i64 (row + 1), .int .i64 0] rfl rfl (fun j x hj => app_cells rfl hj) ?g2 ?g3 ?g4 ?g5 ?_)
            case g2 => simp [Value.oneCell']
            case g3 => unfold maxLen; omega
            case g4 => omega
            case g5 => first | omega | (simp; omega)
            intro v' w5 hown5 hgrow5 _
            have N5 := (hbl.alloc hbl.size _).grown hgrow5 (by simp; omega) (fun j hj => (hown.lt j hj).1)
            have HO := Lib.hid hown5
            clear hown5 hgrow5 hown
            go_wp2
            go_roundw
            case rel => exact ⟨k + 1, by omega, by go_num, by rw [Hst.out], by rw [Hst.out], Lib.hid (by rw [Hst.out]; unfold ownP; rw [List.length_append, sRow_snoc, hslen]; exact HO.out), N5⟩
            case measure => (simp [intOf]; try omega)
          · have hk3 : ¬ (k : Int) + 1 < L.length := by omega
            rw [n4] at hnew
            clear n4 cellN
            go_wp2_with (at_builtin; refine wpList_append_own _ rfl _ _ 42 rfl w.heap.size 45 i0 _ 2 16 Tryd.underlying42 hi hz0 hz1 hz2 rfl (by decide) _ _ _ rfl (hown.alloc _) ⟨wr.heap.size, 0, none⟩ 1 1 [.int .i64 (row + 1), .int .i64 0] rfl rfl (fun j x hj => app_cells rfl hj) ?g2 ?g3 ?g4 ?g5 ?_)
            case g2 => simp [Value.oneCell']
            case g3 => unfold maxLen; omega
            case g4 => omega
            case g5 => first | omega | (simp; omega)
            intro v' w5 hown5 hgrow5 _
            have N5 := (hbl.alloc hbl.size _).grown hgrow5 (by simp; omega) (fun j hj => (hown.lt j hj).1)
            have HO := Lib.hid hown5
            clear hown5 hgrow5 hown
            go_wp2
            go_roundw
            case rel => exact ⟨k + 1, by omega, by go_num, by rw [Hst.out], by rw [Hst.out], Lib.hid (by rw [Hst.out]; unfold ownP; rw [List.length_append, sRow_snoc, hslen]; exact HO.out), N5⟩
            case measure => (simp [intOf]; try omega)
        · rw [decide_eq_false hnew, if_neg (by simp)] at hstep
          have Hst := Lib.hid hstep
          clear hstep
          generalize (spS L wd k).1 = S at *
          generalize (spS L wd k).2.1 = row at *
          generalize (spS L wd k).2.2 = col at *
          rcases hn with ⟨n1, n2, n3, n4⟩ | ⟨n1, n2, n3, n4⟩ | ⟨n1, n2, n4⟩ | ⟨n1, n4⟩
          · have d1 := cellN n1
            have hk3 : (k : Int) + 1 < L.length := by omega
            rw [n2] at d1; rw [n4] at hnew
            clear n2 n4 cellN
            go_wp2_with (at_builtin; refine wpList_append_own _ rfl _ _ 42 rfl w.heap.size 45 i0 _ 2 16 Tryd.underlying42 hi hz0 hz1 hz2 rfl (by decide) _ _ _ rfl (hown.alloc _) ⟨wr.heap.size, 0, none⟩ 1 1 [.int .i64 row, .int .i64 col] rfl rfl (fun j x hj => app_cells rfl hj) ?g2 ?g3 ?g4 ?g5 ?_)
            case g2 => simp [Value.oneCell']
            case g3 => unfold maxLen; omega
            case g4 => omega
            case g5 => first | omega | (simp; omega)
            intro v' w5 hown5 hgrow5 _
            have N5 := (hbl.alloc hbl.size _).grown hgrow5 (by simp; omega) (fun j hj => (hown.lt j hj).1)
            have HO := Lib.hid hown5
            clear hown5 hgrow5 hown
            go_wp2
            go_roundw
            case rel => exact ⟨k + 1, by omega, by go_num, by rw [Hst.out], by rw [Hst.out], Lib.hid (by rw [Hst.out]; unfold ownP; rw [List.length_append, sRow_snoc, hslen]; exact HO.out), N5⟩
            case measure => (simp [intOf]; try omega)
          · have d1 := cellN n1
            have hk3 : (k : Int) + 1 < L.length := by omega
            rw [n2] at d1; rw [n4] at hnew
            clear n2 n4 cellN
            go_wp2_with (at_builtin; refine wpList_append_own _ rfl _ _ 42 rfl w.heap.size 45 i0 _ 2 16 Tryd.underlying42 hi hz0 hz1 hz2 rfl (by decide) _ _ _ rfl (hown.alloc _) ⟨wr.heap.size, 0, none⟩ 1 1 [.int .i64 row, .int .i64 col] rfl rfl (fun j x hj => app_cells rfl hj) ?g2 ?g3 ?g4 ?g5 ?_)
            case g2 => simp [Value.oneCell']
            case g3 => unfold maxLen; omega
            case g4 => omega
            case g5 => first | omega | (simp; omega)
            intro v' w5 hown5 hgrow5 _
            have N5 := (hbl.alloc hbl.size _).grown hgrow5 (by simp; omega) (fun j hj => (hown.lt j hj).1)
            have HO := Lib.hid hown5
            clear hown5 hgrow5 hown
            go_wp2
            go_roundw
            case rel => exact ⟨k + 1, by omega, by go_num, by rw [Hst.out], by rw [Hst.out], Lib.hid (by rw [Hst.out]; unfold ownP; rw [List.length_append, sRow_snoc, hslen]; exact HO.out), N5⟩
            case measure => (simp [intOf]; try omega)
          · have d1 := cellN n1
            have hk3 : (k : Int) + 1 < L.length := by omega
            have hnb : ((L.getD (k + 1) cl0).1 == -1) = false := by rw [beq_eq_false_iff_ne]; exact n2
            rw [n4] at hnew
            generalize (L.getD (k + 1) cl0).1 = v2 at *
            clear n2 n4 cellN
            go_wp2_with (at_builtin; refine wpList_append_own _ rfl _ _ 42 rfl w.heap.size 45 i0 _ 2 16 Tryd.underlying42 hi hz0 hz1 hz2 rfl (by decide) _ _ _ rfl (hown.alloc _) ⟨wr.heap.size, 0, none⟩ 1 1 [.int .i64 row, .int .i64 col] rfl rfl (fun j x hj => app_cells rfl hj) ?g2 ?g3 ?g4 ?g5 ?_)
            case g2 => simp [Value.oneCell']
            case g3 => unfold maxLen; omega
            case g4 => omega
            case g5 => first | omega | (simp; omega)
            intro v' w5 hown5 hgrow5 _
            have N5 := (hbl.alloc hbl.size _).grown hgrow5 (by simp; omega) (fun j hj => (hown.lt j hj).1)
            have HO := Lib.hid hown5
            clear hown5 hgrow5 hown
            go_wp2
            go_roundw
            case rel => exact ⟨k + 1, by omega, by go_num, by rw [Hst.out], by rw [Hst.out], Lib.hid (by rw [Hst.out]; unfold ownP; rw [List.length_append, sRow_snoc, hslen]; exact HO.out), N5⟩
            case measure => (simp [intOf]; try omega)
          · have hk3 : ¬ (k : Int) + 1 < L.length := by omega
            rw [n4] at hnew
            clear n4 cellN
            go_wp2_with (at_builtin; refine wpList_append_own _ rfl _ _ 42 rfl w.heap.size 45 i0 _ 2 16 Tryd.underlying42 hi hz0 hz1 hz2 rfl (by decide) _ _ _ rfl (hown.alloc _) ⟨wr.heap.size, 0, none⟩ 1 1 [.int .i64 row, .int .i64 col] rfl rfl (fun j x hj => app_cells rfl hj) ?g2 ?g3 ?g4 ?g5 ?_)
            case g2 => simp [Value.oneCell']
            case g3 => unfold maxLen; omega
            case g4 => omega
            case g5 => first | omega | (simp; omega)
            intro v' w5 hown5 hgrow5 _
            have N5 := (hbl.alloc hbl.size _).grown hgrow5 (by simp; omega) (fun j hj => (hown.lt j hj).1)
            have HO := Lib.hid hown5
            clear hown5 hgrow5 hown
            go_wp2
            go_roundw
            case rel => exact ⟨k + 1, by omega, by go_num, by rw [Hst.out], by rw [Hst.out], Lib.hid (by rw [Hst.out]; unfold ownP; rw [List.length_append, sRow_snoc, hslen]; exact HO.out), N5⟩
            case measure => (simp [intOf]; try omega)
    · obtain rfl : k = L.length := by omega
      have hown := hO.out
      unfold ownP at hown
      rw [hslen] at hown
      have hsz := hbl.size
      have hall : spAll L wd = (spS L wd L.length).1 ++ [if (spS L wd L.length).2.2 = wd then ((spS L wd L.length).2.1 + 1, 0) else ((spS L wd L.length).2.1, (spS L wd L.length).2.2)] := rfl
      by_cases hc : (spS L wd L.length).2.2 = wd
      · rw [if_pos hc] at hall
        have Hall := Lib.hid hall
        clear hall
        have hcb : ((spS L wd L.length).2.2 == wd) = true := by rw [beq_iff_eq]; exact hc
        generalize (spS L wd L.length).1 = S at *
        generalize (spS L wd L.length).2.1 = row at *
        generalize (spS L wd L.length).2.2 = col at *
        go_wp2_with (at_builtin; refine wpList_append_own _ rfl _ _ 42 rfl w.heap.size 45 i0 _ 2 16 Tryd.underlying42 hi hz0 hz1 hz2 rfl (by decide) _ _ _ rfl (hown.alloc _) ⟨wr.heap.size, 0, none⟩ 1 1 [.int .i64 (row + 1), .int .i64 0] rfl rfl (fun j x hj => app_cells rfl hj) ?g2 ?g3 ?g4 ?g5 ?_)
        case g2 => simp [Value.oneCell']
        case g3 => unfold maxLen; omega
        case g4 => omega
        case g5 => first | omega | (simp; omega)
        intro v' w5 hown5 hgrow5 _
        have N5 := (hbl.alloc hbl.size _).grown hgrow5 (by simp; omega) (fun j hj => (hown.lt j hj).1)
        have HO := Lib.hid hown5
        clear hown5 hgrow5 hown
        go_wp2
        go_ret
        refine ⟨_, rfl, ?_, N5⟩
        rw [Hall.out]; unfold ownP; rw [List.length_append, sRow_snoc, hslen]; exact HO.out
      · rw [if_neg hc] at hall
        have Hall := Lib.hid hall
        clear hall
        have hcb : ((spS L wd L.length).2.2 == wd) = false := by rw [beq_eq_false_iff_ne]; exact hc
        generalize (spS L wd L.length).1 = S at *
        generalize (spS L wd L.length).2.1 = row at *
        generalize (spS L wd L.length).2.2 = col at *
        go_wp2_with (at_builtin; refine wpList_append_own _ rfl _ _ 42 rfl w.heap.size 45 i0 _ 2 16 Tryd.underlying42 hi hz0 hz1 hz2 rfl (by decide) _ _ _ rfl (hown.alloc _) ⟨wr.heap.size, 0, none⟩ 1 1 [.int .i64 row, .int .i64 col] rfl rfl (fun j x hj => app_cells rfl hj) ?g2 ?g3 ?g4 ?g5 ?_)
        case g2 => simp [Value.oneCell']
        case g3 => unfold maxLen; omega
        case g4 => omega
        case g5 => first | omega | (simp; omega)
        intro v' w5 hown5 hgrow5 _
        have N5 := (hbl.alloc hbl.size _).grown hgrow5 (by simp; omega) (fun j hj => (hown.lt j hj).1)
        have HO := Lib.hid hown5
        clear hown5 hgrow5 hown
        go_wp2
        go_ret
        refine ⟨_, rfl, ?_, N5⟩
        rw [Hall.out]; unfold ownP; rw [List.length_append, sRow_snoc, hslen]; exact HO.out
end Go.Proofs.YtcdecnmhogmhaaaDoor
set_option linter.unusedVariables false
set_option linter.unusedSimpArgs false
namespace Go.Proofs.YtcdecnmhogmhaaaDoor
open Go.RowKit
/-- Rows of cells lie in memory. -/
def RowsIn (w : World) (a : Option Addr) (l : List (List Cl)) : Prop :=
  ∀ i, i < l.length → ∃ b off ra rc, a = some ⟨b, off, none⟩ ∧ b < w.heap.size ∧ w.cell? ⟨b, off + i, none⟩ = some (.slice ra (l.getD i []).length rc) ∧ CellsIn w ra (l.getD i [])
theorem RowsIn.below {w w' : World} {a : Option Addr} {l : List (List Cl)} (h : RowsIn w a l) (hb : Below w.heap.size w w') : RowsIn w' a l := fun i hi => by
  obtain ⟨b, off, ra, rc, e, hlt, h1, h2⟩ := h i hi
  exact ⟨b, off, ra, rc, e, Nat.lt_of_lt_of_le hlt hb.size, (hb.cell (p := ⟨b, off + i, none⟩) hlt).trans h1, h2.below hb⟩
/-- The same rows, to look at? -/
def rowsS (x y : List (List Cl)) : Bool := (List.range x.length).all fun i => shS (x.getD i []) (y.getD i [])
theorem rowsS_no {x y : List (List Cl)} {k : Nat} (hk : k < x.length) (h : shS (x.getD k []) (y.getD k []) = false) : rowsS x y = false := by
  unfold rowsS; rw [List.all_eq_false]; exact ⟨k, by simpa using hk, by rw [h]; simp⟩
theorem rowsS_yes {x y : List (List Cl)} (h : ∀ j, j < x.length → shS (x.getD j []) (y.getD j []) = true) : rowsS x y = true := by
  unfold rowsS; rw [List.all_eq_true]; intro j hj; exact h j (by simpa using hj)
/-- The same screens, to look at? -/
def scrS (W H R C W' H' R' C' : Int) (x y : List (List Cl)) : Bool := W == W' && (H == H' && (R == R' && (C == C' && (x.length == y.length && rowsS x y))))
theorem scrS_cases (W H R C W' H' R' C' : Int) (x y : List (List Cl)) : (scrS W H R C W' H' R' C' x y = rowsS x y ∧ W = W' ∧ H = H' ∧ R = R' ∧ C = C' ∧ x.length = y.length) ∨ (scrS W H R C W' H' R' C' x y = false ∧
    ((W != W') = true ∨ ((W != W') = false ∧ (H != H') = true) ∨ ((W != W') = false ∧ (H != H') = false ∧ (R != R') = true) ∨ ((W != W') = false ∧ (H != H') = false ∧ (R != R') = false ∧ (C != C') = true) ∨ ((W != W') = false ∧ (H != H') = false ∧ (R != R') = false ∧ (C != C') = false ∧ ((x.length : Int) != (y.length : Int)) = true))) := by
  unfold scrS
  by_cases h1 : W = W'
  · by_cases h2 : H = H'
    · by_cases h3 : R = R'
      · by_cases h4 : C = C'
        · by_cases h5 : x.length = y.length
          · left; subst h1; subst h2; subst h3; subst h4; simp [h5]
          · right; refine ⟨by simp [h5], ?_⟩
            right; right; right; right; refine ⟨by simp [h1], by simp [h2], by simp [h3], by simp [h4], ?_⟩
            rw [bne_iff_ne]; omega
        · right; refine ⟨by simp [h4], ?_⟩
          right; right; right; left; exact ⟨by simp [h1], by simp [h2], by simp [h3], by simp [h4]⟩
      · right; refine ⟨by simp [h3], ?_⟩
        right; right; left; exact ⟨by simp [h1], by simp [h2], by simp [h3]⟩
    · right; refine ⟨by simp [h2], ?_⟩
      right; left; exact ⟨by simp [h1], by simp [h2]⟩
  · right; exact ⟨by simp [h1], Or.inl (by simp [h1])⟩
set_option maxHeartbeats 8000000 in
theorem psame_any (W H R C W' H' R' C' : Int) (x y : List (List Cl)) (a b : Option Addr) (c d : Nat) (w : World) (hx : x.length ≤ 100000) (hy : y.length ≤ 100000) (hxr : ∀ i, i < x.length → (x.getD i []).length ≤ 100000) (hyr : ∀ i, i < y.length → (y.getD i []).length ≤ 100000) (ha : RowsIn w a x) (hb : RowsIn w b y) :
    Calls Tryd.prog 24 #[.agg #[.int .i64 W, .int .i64 H, .slice a x.length c, .int .i64 R, .int .i64 C], .agg #[.int .i64 W', .int .i64 H', .slice b y.length d, .int .i64 R', .int .i64 C']] w fun e w' => e = .returned (.bool (scrS W H R C W' H' R' C' x y)) ∧ Below w.heap.size w w' := by
  have hb0 := seqB (below_alloc w (.cells #[.int .i64 W, .int .i64 H, .slice a x.length c, .int .i64 R, .int .i64 C] 28)) (below_alloc _ (.cells #[.int .i64 W', .int .i64 H', .slice b y.length d, .int .i64 R', .int .i64 C'] 28))
  have HA := Lib.hid (ha.below hb0); have HB := Lib.hid (hb.below hb0)
  clear ha hb
  rcases scrS_cases W H R C W' H' R' C' x y with ⟨hs, rfl, rfl, rfl, rfl, hlen⟩ | ⟨hs, h⟩
  · have HS := Lib.hid hs
    have HL := Lib.hid hlen
    have hXR := Lib.hid hxr; have hYR := Lib.hid hyr
    clear hs hlen hxr hyr
    have g2 : ((w.alloc (.cells #[.int .i64 W, .int .i64 H, .slice a x.length c, .int .i64 R, .int .i64 C] 28)).alloc (.cells #[.int .i64 W, .int .i64 H, .slice b y.length d, .int .i64 R, .int .i64 C] 28)).cell? ⟨w.heap.size + 1, 2, none⟩ = some (.slice b y.length d) := by simp
    have hz : ((w.alloc (.cells #[.int .i64 W, .int .i64 H, .slice a x.length c, .int .i64 R, .int .i64 C] 28)).alloc (.cells #[.int .i64 W, .int .i64 H, .slice b y.length d, .int .i64 R, .int .i64 C] 28)).heap.size = w.heap.size + 1 + 1 := by simp
    have hlb : ((x.length : Int) != (y.length : Int)) = false := by rw [bne_eq_false_iff_eq, HL.out]
    go_enter Tryd.func24, Tryd.ntmps24
    go_wp2
    generalize (w.alloc _).alloc _ = W0 at *
    have hlt1 : w.heap.size + 1 < W0.heap.size := by omega
    have Hz := Lib.hid hz
    clear hz
    go_loopw [45] (fun iv wr => ∃ k : Nat, k ≤ x.length ∧ iv = .int .i64 (k : Int) ∧ Hid (∀ j, j < k → shS (x.getD j []) (y.getD j []) = true) ∧ Below W0.heap.size W0 wr) (fun iv _ => x.length - (intOf iv).toNat)
    case atStart => exact ⟨0, Nat.zero_le _, rfl, Lib.hid (fun j hj => absurd hj (by omega)), Below.refl _ _⟩
    case round =>
      obtain ⟨k, hk, rfl, hall, hbl⟩ := hrel
      have hN := hb0.trans (hbl.mono hb0.size)
      by_cases hlt : k < x.length
      · obtain ⟨b1, o1, r1, n1, rfl, hb1, c1, d1⟩ := (HA.out.below hbl) k hlt
        obtain ⟨b2, o2, r2, n2, rfl, hb2, c2, d2⟩ := (HB.out.below hbl) k (by have := HL.out; omega)
        have g2r := (hbl.cell (p := ⟨w.heap.size + 1, 2, none⟩) hlt1).trans g2
        have hk1 : (k : Int) < x.length := by omega
        have hk2 : (k : Int) < y.length := by have := HL.out; omega
        have hk0 : (0 : Int) ≤ k := by omega
        have S := shsame_any (x.getD k []) (y.getD k []) r1 r2 n1 n2 wr (by have := hXR.out k hlt; omega) (by have := hYR.out k (by have := HL.out; omega); omega) d1 d2
        have hno := fun h => rowsS_no (x := x) (y := y) hlt h
        have hyes := fun (h : shS (x.getD k []) (y.getD k []) = true) => (fun j (hj : j < k + 1) => (by
          rcases Nat.lt_succ_iff_lt_or_eq.1 hj with h' | rfl
          · exact hall.out j h'
          · exact h : shS (x.getD j []) (y.getD j []) = true))
        clear d1 d2
        generalize (x.getD k []).length = lx at *
        generalize (y.getD k []).length = ly at *
        cases hr : shS (x.getD k []) (y.getD k [])
        · rw [hr] at S
          have HF := Lib.hid (HS.out.trans (hno hr))
          replace S := Lib.hid S
          clear hno hyes hr
          go_wp2_with (go_at_call 78; refine S.out.mono ?_; rintro e w5 ⟨rfl, hb5⟩)
          go_ret
          rw [HF.out]
          exact ⟨rfl, hN.trans (hb5.mono hN.size)⟩
        · rw [hr] at S
          have HF := Lib.hid (hyes hr)
          replace S := Lib.hid S
          clear hno hyes hr
          go_wp2_with (go_at_call 78; refine S.out.mono ?_; rintro e w5 ⟨rfl, hb5⟩)
          go_roundw
          case rel => exact ⟨k + 1, by omega, by go_num, HF, hbl.trans (hb5.mono hbl.size)⟩
          case measure => (simp [intOf]; try omega)
      · obtain rfl : k = x.length := by omega
        have HF := Lib.hid (HS.out.trans (rowsS_yes hall.out))
        go_wp2
        go_ret
        rw [HF.out]
        exact ⟨rfl, hN⟩
  · have HS := Lib.hid hs
    clear hs hxr hyr HA HB
    rcases h with h | ⟨h, h2⟩ | ⟨h, h2, h3⟩ | ⟨h, h2, h3, h4⟩ | ⟨h, h2, h3, h4, h5⟩
    all_goals
      go_enter Tryd.func24, Tryd.ntmps24
      go_wp2
      go_ret
      rw [HS.out]
      exact ⟨rfl, hb0⟩
end Go.Proofs.YtcdecnmhogmhaaaDoor
set_option linter.unusedVariables false
set_option linter.unusedSimpArgs false
namespace Go.Proofs.YtcdecnmhogmhaaaDoor
open Go.RowKit
set_option maxHeartbeats 8000000 in
theorem psame_ref (W H R C W' H' R' C' : Int) (x y : List (List Cl)) (a b : Option Addr) (c d : Nat) (w : World) (hx : x.length ≤ 100000) (hy : y.length ≤ 100000) (hxr : ∀ i, i < x.length → (x.getD i []).length ≤ 100000) (hyr : ∀ i, i < y.length → (y.getD i []).length ≤ 100000) (ha : RowsIn w a x) (hb : RowsIn w b y) :
    Calls Tryd.prog 19 #[.agg #[.int .i64 W, .int .i64 H, .slice a x.length c, .int .i64 R, .int .i64 C], .agg #[.int .i64 W', .int .i64 H', .slice b y.length d, .int .i64 R', .int .i64 C']] w fun e w' => e = .returned (.bool (scrS W H R C W' H' R' C' x y)) ∧ Below w.heap.size w w' := by
  have hb0 := seqB (below_alloc w (.cells #[.int .i64 W, .int .i64 H, .slice a x.length c, .int .i64 R, .int .i64 C] 28)) (below_alloc _ (.cells #[.int .i64 W', .int .i64 H', .slice b y.length d, .int .i64 R', .int .i64 C'] 28))
  have HA := Lib.hid (ha.below hb0); have HB := Lib.hid (hb.below hb0)
  clear ha hb
  rcases scrS_cases W H R C W' H' R' C' x y with ⟨hs, rfl, rfl, rfl, rfl, hlen⟩ | ⟨hs, h⟩
  · have HS := Lib.hid hs
    have HL := Lib.hid hlen
    have hXR := Lib.hid hxr; have hYR := Lib.hid hyr
    clear hs hlen hxr hyr
    have g2 : ((w.alloc (.cells #[.int .i64 W, .int .i64 H, .slice a x.length c, .int .i64 R, .int .i64 C] 28)).alloc (.cells #[.int .i64 W, .int .i64 H, .slice b y.length d, .int .i64 R, .int .i64 C] 28)).cell? ⟨w.heap.size + 1, 2, none⟩ = some (.slice b y.length d) := by simp
    have g1 : ((w.alloc (.cells #[.int .i64 W, .int .i64 H, .slice a x.length c, .int .i64 R, .int .i64 C] 28)).alloc (.cells #[.int .i64 W, .int .i64 H, .slice b y.length d, .int .i64 R, .int .i64 C] 28)).cell? ⟨w.heap.size, 2, none⟩ = some (.slice a x.length c) := by simp
    have hz : ((w.alloc (.cells #[.int .i64 W, .int .i64 H, .slice a x.length c, .int .i64 R, .int .i64 C] 28)).alloc (.cells #[.int .i64 W, .int .i64 H, .slice b y.length d, .int .i64 R, .int .i64 C] 28)).heap.size = w.heap.size + 1 + 1 := by simp
    have hlb : ((x.length : Int) != (y.length : Int)) = false := by rw [bne_eq_false_iff_eq, HL.out]
    go_enter Tryd.func19, Tryd.ntmps19
    go_wp2
    generalize (w.alloc _).alloc _ = W0 at *
    have hlt1 : w.heap.size + 1 < W0.heap.size := by omega
    have hlt0 : w.heap.size < W0.heap.size := by omega
    have Hz := Lib.hid hz
    clear hz
    go_loopw [5] (fun iv wr => ∃ k : Nat, k ≤ x.length ∧ iv = .int .i64 (k : Int) ∧ Hid (∀ j, j < k → shS (x.getD j []) (y.getD j []) = true) ∧ Below W0.heap.size W0 wr) (fun iv _ => x.length - (intOf iv).toNat)
    case atStart => exact ⟨0, Nat.zero_le _, rfl, Lib.hid (fun j hj => absurd hj (by omega)), Below.refl _ _⟩
    case round =>
      obtain ⟨k, hk, rfl, hall, hbl⟩ := hrel
      have hN := hb0.trans (hbl.mono hb0.size)
      have g1r := (hbl.cell (p := ⟨w.heap.size, 2, none⟩) hlt0).trans g1
      have g2r := (hbl.cell (p := ⟨w.heap.size + 1, 2, none⟩) hlt1).trans g2
      have hs0 := Nat.lt_of_lt_of_le hlt0 hbl.size
      have hs1 := Nat.lt_of_lt_of_le hlt1 hbl.size
      by_cases hlt : k < x.length
      · obtain ⟨b1, o1, r1, n1, rfl, hb1, c1, d1⟩ := (HA.out.below hbl) k hlt
        obtain ⟨b2, o2, r2, n2, rfl, hb2, c2, d2⟩ := (HB.out.below hbl) k (by have := HL.out; omega)
        have hk1 : (k : Int) < x.length := by omega
        have hk2 : (k : Int) < y.length := by have := HL.out; omega
        have hk0 : (0 : Int) ≤ k := by omega
        have S := fun W hb => shsame_ref (x.getD k []) (y.getD k []) r1 r2 n1 n2 W (by have := hXR.out k hlt; omega) (by have := hYR.out k (by have := HL.out; omega); omega) (d1.below hb) (d2.below hb)
        have hno := fun h => rowsS_no (x := x) (y := y) hlt h
        have hyes := fun (h : shS (x.getD k []) (y.getD k []) = true) => (fun j (hj : j < k + 1) => (by
          rcases Nat.lt_succ_iff_lt_or_eq.1 hj with h' | rfl
          · exact hall.out j h'
          · exact h : shS (x.getD j []) (y.getD j []) = true))
        clear d1 d2
        generalize (x.getD k []).length = lx at *
        generalize (y.getD k []).length = ly at *
        cases hr : shS (x.getD k []) (y.getD k [])
        · rw [hr] at S
          have HF := Lib.hid (HS.out.trans (hno hr))
          replace S := Lib.hid S
          clear hno hyes hr
          go_wp2
          go_region_held3 (fun w' => w'.cell? ⟨w.heap.size, 2, none⟩ = some (.slice (some ⟨b1, o1, none⟩) x.length c) ∧ w'.cell? ⟨w.heap.size + 1, 2, none⟩ = some (.slice (some ⟨b2, o2, none⟩) y.length d) ∧ w'.cell? ⟨b1, o1 + k, none⟩ = some (.slice r1 lx n1) ∧ w'.cell? ⟨b2, o2 + k, none⟩ = some (.slice r2 ly n2)) (first | go_keep)
            (first | (go_at_call 74; refine (S.out _ ((Below.refl _ _).drew)).mono ?_; rintro e w5 ⟨rfl, hb5⟩; have e1 := (hb5.cell (p := ⟨w.heap.size, 2, none⟩) hs0).trans g1r; have e2 := (hb5.cell (p := ⟨w.heap.size + 1, 2, none⟩) hs1).trans g2r; have e3 := (hb5.cell (p := ⟨b1, o1 + k, none⟩) hb1).trans c1; have e4 := (hb5.cell (p := ⟨b2, o2 + k, none⟩) hb2).trans c2))
          go_wp2
          go_ret
          rw [HF.out]
          exact ⟨rfl, hN.trans (((Below.refl _ _).drew.trans hb5).mono hN.size)⟩
        · rw [hr] at S
          have HF := Lib.hid (hyes hr)
          replace S := Lib.hid S
          clear hno hyes hr
          go_wp2
          go_region_held3 (fun w' => w'.cell? ⟨w.heap.size, 2, none⟩ = some (.slice (some ⟨b1, o1, none⟩) x.length c) ∧ w'.cell? ⟨w.heap.size + 1, 2, none⟩ = some (.slice (some ⟨b2, o2, none⟩) y.length d) ∧ w'.cell? ⟨b1, o1 + k, none⟩ = some (.slice r1 lx n1) ∧ w'.cell? ⟨b2, o2 + k, none⟩ = some (.slice r2 ly n2)) (first | go_keep)
            (first | (go_at_call 74; refine (S.out _ ((Below.refl _ _).drew)).mono ?_; rintro e w5 ⟨rfl, hb5⟩; have e1 := (hb5.cell (p := ⟨w.heap.size, 2, none⟩) hs0).trans g1r; have e2 := (hb5.cell (p := ⟨w.heap.size + 1, 2, none⟩) hs1).trans g2r; have e3 := (hb5.cell (p := ⟨b1, o1 + k, none⟩) hb1).trans c1; have e4 := (hb5.cell (p := ⟨b2, o2 + k, none⟩) hb2).trans c2))
          go_wp2
          go_roundw
          case rel => exact ⟨k + 1, by omega, by go_num, HF, hbl.trans (((Below.refl _ _).drew.trans hb5).mono hbl.size)⟩
          case measure => (simp [intOf]; try omega)
      · obtain rfl : k = x.length := by omega
        have HF := Lib.hid (HS.out.trans (rowsS_yes hall.out))
        go_wp2
        go_ret
        rw [HF.out]
        exact ⟨rfl, hN⟩
  · have HS := Lib.hid hs
    clear hs hxr hyr HA HB
    rcases h with h | ⟨h, h2⟩ | ⟨h, h2, h3⟩ | ⟨h, h2, h3, h4⟩ | ⟨h, h2, h3, h4, h5⟩
    all_goals
      go_enter Tryd.func19, Tryd.ntmps19
      go_wp2
      go_ret
      rw [HS.out]
      exact ⟨rfl, hb0⟩
end Go.Proofs.YtcdecnmhogmhaaaDoor
namespace Go.Proofs.YtcdecnmhogmhaaaDoor
open Go.ChangeShapes Go.WideShapes Go.ChangeAt Go.RowKit
namespace clsC
theorem own : ownKnob Tryd.prog.godebug = none := by kernel_rfl
theorem laidOut : laidOutB Tryd.prog = true := by kernel_rfl
theorem gR : Tryd.prog.globalNamed "dactyl/class.ranges" = some 1 := by kernel_rfl
theorem gL : Tryd.prog.globalNamed "dactyl/class.looks" = some 2 := by kernel_rfl
theorem gRType : (Tryd.prog.globals[1]?).map (·.type) = some 173 := by kernel_rfl
theorem gLType : (Tryd.prog.globals[2]?).map (·.type) = some 188 := by kernel_rfl
theorem cellsR : Tryd.prog.cellsOf 173 = 159 := by kernel_rfl
theorem cellsL : Tryd.prog.cellsOf 188 = 102 := by kernel_rfl
theorem cellsE : Tryd.prog.cellsOf 21 = 1 := by kernel_rfl
def laid : List (String × DataW Unit) := [("dactyl/class.ranges", Rows.laid_dactyl_class_ranges), ("dactyl/class.looks", Rows.laid_dactyl_class_looks)]
set_option maxRecDepth 100000 in
theorem tables {W : World} (h : laidMetH Tryd.prog laid W) : Tabs W := by
  have h1 : Lib.TabIs Tryd.prog W "dactyl/class.ranges" .i32 rng :=
    Lib.tabIs_of_head (rest := [("dactyl/class.looks", Rows.laid_dactyl_class_looks)]) gR gRType Tryd.underlying173 Tryd.underlying21 cellsE cellsR h
  have h2 : Lib.TabIs Tryd.prog W "dactyl/class.looks" .i32 lks :=
    Lib.tabIs_of_head (rest := []) gL gLType Tryd.underlying188 Tryd.underlying21 cellsE cellsL (laidMet.tail h)
  exact ⟨fun i hi => h1.cell gR i hi, fun i hi => h2.cell gL i hi, block_lt_of_cell (h1.cell gR 0 (by decide)), block_lt_of_cell (h2.cell gL 0 (by decide))⟩
/-- A world for the witness: the settled one, the tables as their initialisers lay them. -/
def lay (cs : Array Value) : Obj → Obj
  | .cells _ t frozen => .cells cs t frozen
  | o => o
noncomputable def laidWorld (os : Os) : World :=
  { World.holding Tryd.prog os ⟨#[], #[], []⟩ with heap := ((World.holding Tryd.prog os ⟨#[], #[], []⟩).heap.modify 1 (lay (rng.map (Value.int .i32)).toArray)).modify 2 (lay (lks.map (Value.int .i32)).toArray) }
theorem laid_met (os : Os) (args : Array Value) : laidMet Tryd.prog laid ((laidWorld os).forCall (fun _ _ => 0) ⟨#[], args, []⟩).memory :=
  laidMet_of_run' 8 (by kernel_rfl) (by kernel_rfl)
end clsC
end Go.Proofs.YtcdecnmhogmhaaaDoor
set_option linter.unusedVariables false
set_option linter.unusedSimpArgs false
namespace Go.Proofs.YtcdecnmhogmhaaaDoor
open Go.RowKit
attribute [local go_sem ↓] Go.wp_at_zero Go.wp_at_succ
theorem grown_set (w : World) (p i : Nat) (u : Value) : w.grownBy (w.setCell ⟨p, i, none⟩ u) (some p) :=
  ⟨rfl, rfl, rfl, by simp [World.setCell], fun j hj hne => Below.heap_setCell w ⟨p, i, none⟩ u j (by rintro rfl; exact hne rfl)⟩
/-- The cell that the closure keeps, at block p. -/
def Nx (w : World) (p : Nat) (a o f k : Int) : Prop := w.heap[p]? = some (.cells #[.int .i64 0, .int .i64 a, .int .i64 o, .int .i64 f, .int .i64 k] 51 (0, 0))
theorem nx_below {w w' : World} {p : Nat} {a o f k : Int} (h : Nx w p a o f k) (hb : Below w.heap.size w w') : Nx w' p a o f k := blk_below h hb
set_option maxHeartbeats 4000000 in
theorem cells1_any (x a o f k : Int) (p : Nat) (w : World) (hk : 0 ≤ k) (hk' : k ≤ 1000) (hN : Nx w p a o f k) :
    Calls Tryd.prog 149 #[.int .i64 x, .pointer (some ⟨p, 0, none⟩)] w fun e w' => e = .returned (.agg #[.int .i64 x, .int .i64 a, .int .i64 o, .int .i64 f, .int .i64 k]) ∧ Nx w' p a o f (k + 1) ∧ w.grownBy w' (some p) := by
  have hp := blk_lt hN
  unfold Nx at hN
  have k0 := fun i => cell_of_row w p i _ _ _ hN
  have q0 : w.cell? ⟨p, 0, none⟩ = some (.int .i64 0) := k0 0
  have q1 : w.cell? ⟨p, 1, none⟩ = some (.int .i64 a) := k0 1
  have q2 : w.cell? ⟨p, 2, none⟩ = some (.int .i64 o) := k0 2
  have q3 : w.cell? ⟨p, 3, none⟩ = some (.int .i64 f) := k0 3
  have q4 : w.cell? ⟨p, 4, none⟩ = some (.int .i64 k) := k0 4
  have f4 : w.frozen? ⟨p, 4, none⟩ = false := frozen_of_row w p 4 _ _ hN
  have HN := Lib.hid hN
  clear hN k0
  go_enter Tryd.func149, Tryd.ntmps149
  go_wp2
  exact bodyPost_ret (v := .agg #[.int .i64 x, .int .i64 a, .int .i64 o, .int .i64 f, .int .i64 k]) (by simp [results, Tryd.results149, go_sem]) rfl ⟨rfl, blk_alloc (blk_alloc (blk_set HN.out 4 _) _) _, ((grown_set w p 4 _).trans (World.grownBy_alloc _ _ _)).trans (World.grownBy_alloc _ _ _)⟩
/-- A text's bytes as cells. -/
def tkL (s : ByteArray) (a o f : Int) (k : Nat) : List Cl := (List.range k).map fun i => (((s.get! i).toNat : Int), a, o, f, (i : Int))
/-- A sign's cells. -/
def shK (v l o : Int) : List Cl :=
  if 3 < cls v then tkL (shT v) (lkI v l) o v (shT v).size else if cls v = 2 then [(v, lkI v l, o, v, 0), (-1, lkI v l, o, v, 1)] else if cls v = 0 then [] else [(v, lkI v l, o, v, 0)]
theorem tkL_len (s : ByteArray) (a o f : Int) (k : Nat) : (tkL s a o f k).length = k := by simp [tkL]
theorem tkL_succ (s : ByteArray) (a o f : Int) (k : Nat) : tkL s a o f (k + 1) = tkL s a o f k ++ [(((s.get! k).toNat : Int), a, o, f, (k : Int))] := by simp [tkL, List.range_succ]
theorem made_cells (n : Nat) : madeCells #[.int .i64 0, .int .i64 0, .int .i64 0, .int .i64 0, .int .i64 0] (n * 5) = cRow (List.replicate n cl0) := by
  apply Array.ext
  · simp [madeCells, cRow, cCells_len]
  · intro i h1 h2
    simp only [madeCells, Array.getElem_map, Array.getElem_range]
    have hi : i < n * 5 := by simpa [madeCells] using h1
    have hlt : i / 5 < (List.replicate n cl0).length := by simp; omega
    have h := cCells_at (List.replicate n cl0) (i / 5) hlt
    have hz : (List.replicate n cl0).getD (i / 5) cl0 = cl0 := by
      rw [List.getD, List.getElem?_replicate]; split <;> rfl
    rw [hz] at h
    have hm : i % 5 = 0 ∨ i % 5 = 1 ∨ i % 5 = 2 ∨ i % 5 = 3 ∨ i % 5 = 4 := by omega
    have e : (cRow (List.replicate n cl0))[i]? = some (.int .i64 0) := by
      rw [cRow, List.getElem?_toArray]
      rcases hm with hm | hm | hm | hm | hm
      · rw [show i / 5 * 5 = i by omega] at h; exact h.1
      · rw [show i / 5 * 5 + 1 = i by omega] at h; exact h.2.1
      · rw [show i / 5 * 5 + 2 = i by omega] at h; exact h.2.2.1
      · rw [show i / 5 * 5 + 3 = i by omega] at h; exact h.2.2.2.1
      · rw [show i / 5 * 5 + 4 = i by omega] at h; exact h.2.2.2.2
    have e2 := Array.getElem?_eq_getElem h2
    rw [e] at e2
    injection e2 with e2
    rw [← e2]
    rcases hm with hm | hm | hm | hm | hm <;> simp [hm]
theorem cRow_set (L : List Cl) (k : Nat) (p : Cl) (h : k < L.length) : (((((cRow L).setIfInBounds (k * 5) (.int .i64 p.1)).setIfInBounds (k * 5 + 1) (.int .i64 p.2.1)).setIfInBounds (k * 5 + 2) (.int .i64 p.2.2.1)).setIfInBounds (k * 5 + 3) (.int .i64 p.2.2.2.1)).setIfInBounds (k * 5 + 4) (.int .i64 p.2.2.2.2) = cRow (L.set k p) := by
  apply Array.ext'
  simp only [cRow, cCells, Array.toList_setIfInBounds]
  induction L generalizing k with
  | nil => simp at h
  | cons x L ih =>
    cases k with
    | zero => rfl
    | succ k =>
      have := ih k (by simpa using h)
      rw [show (k + 1) * 5 = k * 5 + 1 + 1 + 1 + 1 + 1 by omega]
      simp only [List.flatMap_cons, List.cons_append, List.nil_append, List.set_cons_succ, this]
/-- What the loop has made after k rounds. -/
def kLp (s : ByteArray) (a o f : Int) (k : Nat) : List Cl := tkL s a o f k ++ List.replicate (s.size - k) cl0
theorem kLp_len (s : ByteArray) (a o f : Int) (k : Nat) (h : k ≤ s.size) : (kLp s a o f k).length = s.size := by simp [kLp, tkL_len]; omega
theorem kLp_set (s : ByteArray) (a o f : Int) (k : Nat) (h : k < s.size) : (kLp s a o f k).set k (((s.get! k).toNat : Int), a, o, f, (k : Int)) = kLp s a o f (k + 1) := by
  unfold kLp
  rw [List.set_append_right _ _ (by rw [tkL_len]; exact Nat.le_refl _), tkL_len, Nat.sub_self, tkL_succ, List.append_assoc]
  congr 1
  obtain ⟨m, hm⟩ : ∃ m, s.size - k = m + 1 := ⟨s.size - k - 1, by omega⟩
  rw [hm, show s.size - (k + 1) = m by omega]; rfl
theorem cl_cells {w : World} {g k : Nat} {L : List Cl} {t : TypeId} {f : Nat × Nat} (h : w.heap[g]? = some (.cells (cRow L) t f)) (hk : k < L.length) :
    w.cell? ⟨g, k * 5, none⟩ = some (.int .i64 (L.getD k cl0).1) ∧ w.cell? ⟨g, k * 5 + 1, none⟩ = some (.int .i64 (L.getD k cl0).2.1) ∧ w.cell? ⟨g, k * 5 + 2, none⟩ = some (.int .i64 (L.getD k cl0).2.2.1) ∧ w.cell? ⟨g, k * 5 + 3, none⟩ = some (.int .i64 (L.getD k cl0).2.2.2.1) ∧ w.cell? ⟨g, k * 5 + 4, none⟩ = some (.int .i64 (L.getD k cl0).2.2.2.2) := by
  have hh := cCells_at L k hk
  rw [cell_of_row _ _ _ _ _ _ h, cell_of_row _ _ _ _ _ _ h, cell_of_row _ _ _ _ _ _ h, cell_of_row _ _ _ _ _ _ h, cell_of_row _ _ _ _ _ _ h, cRow, List.getElem?_toArray, List.getElem?_toArray, List.getElem?_toArray, List.getElem?_toArray, List.getElem?_toArray]
  exact hh
theorem zero5 {W w1 : World} {h : Nat} (hh : W.heap.size = h) (hb : Below (W.alloc (.cells #[.int .i64 0, .int .i64 0, .int .i64 0, .int .i64 0, .int .i64 0] 51)).drew.heap.size (W.alloc (.cells #[.int .i64 0, .int .i64 0, .int .i64 0, .int .i64 0, .int .i64 0] 51)).drew w1) :
    w1.heap[h]? = some (.cells #[.int .i64 0, .int .i64 0, .int .i64 0, .int .i64 0, .int .i64 0] 51 (0, 0)) ∧ w1.cell? ⟨h, 0, none⟩ = some (.int .i64 0) ∧ w1.cell? ⟨h, 1, none⟩ = some (.int .i64 0) ∧ w1.cell? ⟨h, 2, none⟩ = some (.int .i64 0) ∧ w1.cell? ⟨h, 3, none⟩ = some (.int .i64 0) ∧ w1.cell? ⟨h, 4, none⟩ = some (.int .i64 0) ∧
    w1.frozen? ⟨h, 0, none⟩ = false ∧ w1.frozen? ⟨h, 1, none⟩ = false ∧ w1.frozen? ⟨h, 2, none⟩ = false ∧ w1.frozen? ⟨h, 3, none⟩ = false ∧ w1.frozen? ⟨h, 4, none⟩ = false := by
  subst hh
  have hg : w1.heap[W.heap.size]? = some (.cells #[.int .i64 0, .int .i64 0, .int .i64 0, .int .i64 0, .int .i64 0] 51 (0, 0)) := blk_below (w := (W.alloc (.cells #[.int .i64 0, .int .i64 0, .int .i64 0, .int .i64 0, .int .i64 0] 51)).drew) (heap_alloc_new W _) hb
  refine ⟨hg, cell_of_row _ _ _ _ _ _ hg, cell_of_row _ _ _ _ _ _ hg, cell_of_row _ _ _ _ _ _ hg, cell_of_row _ _ _ _ _ _ hg, cell_of_row _ _ _ _ _ _ hg, ?_, ?_, ?_, ?_, ?_⟩ <;> exact frozen_of_row _ _ _ _ _ hg
theorem cells_cases (v l o : Int) : (dng v = true ∧ shK v l o = tkL (shT v) (lkI v l) o v (shT v).size) ∨ (dng v = false ∧ wid v = 2 ∧ shK v l o = [(v, lkI v l, o, v, 0), (-1, lkI v l, o, v, 1)]) ∨
    (dng v = false ∧ wid v = 1 ∧ shK v l o = [(v, lkI v l, o, v, 0)]) ∨ (dng v = false ∧ wid v = 0 ∧ shK v l o = []) := by
  have hd : dng v = decide (3 < cls v) := rfl
  have hw : wid v = if cls v = 2 then 2 else if cls v = 1 ∨ cls v = 3 then 1 else 0 := rfl
  have hk : shK v l o = if 3 < cls v then tkL (shT v) (lkI v l) o v (shT v).size else if cls v = 2 then [(v, lkI v l, o, v, 0), (-1, lkI v l, o, v, 1)] else if cls v = 0 then [] else [(v, lkI v l, o, v, 0)] := rfl
  have hr := cls_rng v
  by_cases h : 3 < cls v
  · left; exact ⟨by rw [hd, decide_eq_true h], by rw [hk, if_pos h]⟩
  · right
    by_cases h2 : cls v = 2
    · left; exact ⟨by rw [hd, decide_eq_false h], by rw [hw, if_pos h2], by rw [hk, if_neg h, if_pos h2]⟩
    · right
      by_cases h0 : cls v = 0
      · right; exact ⟨by rw [hd, decide_eq_false h], by rw [hw, if_neg h2, if_neg (by omega)], by rw [hk, if_neg h, if_neg h2, if_pos h0]⟩
      · left; exact ⟨by rw [hd, decide_eq_false h], by rw [hw, if_neg h2, if_pos (by omega)], by rw [hk, if_neg h, if_neg h2, if_neg h0]⟩
set_option maxHeartbeats 8000000 in
theorem cells_any (v l o : Int) (w : World) (hT : Tabs w) :
    Calls Tryd.prog 110 #[.agg #[.int .i64 v, .int .i64 l], .int .i64 o] w fun e w' => ∃ x, e = .returned x ∧ ownC w' w.heap.size x (shK v l o) ∧ Below w.heap.size w w' := by
  obtain ⟨i0, hi, hz0, hz1, hz2⟩ := info_parts infoCell
  have hb0 := below_alloc w (.cells #[.int .i64 v, .int .i64 l] 53)
  have L := Lib.hid fun w hT => looks_any v l w hT
  have HT := Lib.hid (hT.below hb0)
  clear hT
  have hcs := cells_cases v l o
  have D := fun w hT => danger_any v w hT
  have X := fun w hT => shtext_any v w hT
  have WI := fun w hT => width_any v w hT
  have hsz := shT_size v
  generalize shK v l o = R at *
  generalize shT v = s at *
  generalize wid v = wd at *
  generalize dng v = dg at *
  generalize lkI v l = a at *
  have Hcs := Lib.hid hcs
  replace D := Lib.hid D; replace X := Lib.hid X; replace WI := Lib.hid WI
  clear hcs
  go_enter Tryd.func110, Tryd.ntmps110
  go_wp2
  have q1 : (w.alloc (.cells #[.int .i64 v, .int .i64 l] 53)).cell? ⟨w.heap.size, 0, none⟩ = some (.int .i64 v) := by rw [World.cell?_alloc_new]; rfl
  have q2 : (w.alloc (.cells #[.int .i64 v, .int .i64 l] 53)).cell? ⟨w.heap.size, 1, none⟩ = some (.int .i64 l) := by rw [World.cell?_alloc_new]; rfl
  have hsz0 : (w.alloc (.cells #[.int .i64 v, .int .i64 l] 53)).heap.size = w.heap.size + 1 := by simp
  generalize hW : w.alloc _ = W0 at *
  have hlt0 : w.heap.size < W0.heap.size := by omega
  have Hsz0 := Lib.hid hsz0
  clear hW hsz0
  have HTd := Lib.hid (show Tabs W0.drew from HT.out.below (Below.refl _ _).drew)
  have HTa := Lib.hid fun o => (show Tabs (W0.alloc o).drew from HT.out.below (below_alloc W0 o).drew)
  have q1a := fun o => (World.cell?_alloc_lt W0 o (⟨w.heap.size, 0, none⟩ : Addr) hlt0).trans q1
  have q2a := fun o => (World.cell?_alloc_lt W0 o (⟨w.heap.size, 1, none⟩ : Addr) hlt0).trans q2
  have n1 := World.new_ne W0 (⟨w.heap.size, 0, none⟩ : Addr) q1
  have n2 := World.new_ne W0 (⟨w.heap.size, 1, none⟩ : Addr) q2
  have n3 : ¬ w.heap.size = W0.heap.size := by omega
  have n4 : ¬ W0.heap.size = w.heap.size := by omega
  go_region_held3 (fun w' => w'.cell? ⟨w.heap.size, 0, none⟩ = some (.int .i64 v) ∧ w'.cell? ⟨w.heap.size, 1, none⟩ = some (.int .i64 l)) (first | go_keep) (first | (go_at_call 148; (with_reducible refine (L.out _ HTd.out).mono ?_); rintro e w1 ⟨rfl, hb1⟩; have cc1 := (hb1.cell (p := ⟨w.heap.size, 0, none⟩) hlt0).trans q1; have cc2 := (hb1.cell (p := ⟨w.heap.size, 1, none⟩) hlt0).trans q2) | (go_at_call 148; (with_reducible refine (L.out _ (HTa.out _)).mono ?_); rintro e w1 ⟨rfl, hb1⟩; have cc1 := (hb1.cell (p := ⟨w.heap.size, 0, none⟩) (by simp; omega)).trans (q1a _); have cc2 := (hb1.cell (p := ⟨w.heap.size, 1, none⟩) (by simp; omega)).trans (q2a _); obtain ⟨hz5, z0, z1, z2, z3, z4, y0, y1, y2, y3, y4⟩ := zero5 rfl hb1; have Hz5 := Lib.hid hz5; clear hz5))
  case' refine_2.refine_3.refine_3.refine_3.refine_3.refine_1.refine_2.refine_3.refine_1.refine_2.refine_1.refine_2 =>
    have M1 : Nx (w1.alloc (.cells #[.int .i64 0, .int .i64 a, .int .i64 o, .int .i64 v, .int .i64 0] 51)) w1.heap.size a o v 0 := heap_alloc_new _ _
    have hbq : Below W0.heap.size W0 w1 := (Below.refl _ _).drew.trans hb1
    have M3 : W0.heap.size ≤ w1.heap.size := hbq.size
    have M2 : Below W0.heap.size W0 (w1.alloc (.cells #[.int .i64 0, .int .i64 a, .int .i64 o, .int .i64 v, .int .i64 0] 51)) := hbq.alloc hbq.size _
    have m1 := (World.cell?_alloc_lt w1 (.cells #[.int .i64 0, .int .i64 a, .int .i64 o, .int .i64 v, .int .i64 0] 51) (⟨w.heap.size, 0, none⟩ : Addr) (Nat.lt_of_lt_of_le hlt0 M3)).trans cc1
    have m2 := (World.cell?_alloc_lt w1 (.cells #[.int .i64 0, .int .i64 a, .int .i64 o, .int .i64 v, .int .i64 0] 51) (⟨w.heap.size, 1, none⟩ : Addr) (Nat.lt_of_lt_of_le hlt0 M3)).trans cc2
    clear hb1 cc1 cc2 hbq
    have N2 := hb0.trans (M2.mono hb0.size)
    have N3 : w.heap.size < w1.heap.size := by omega
    have TT := Lib.hid (HT.out.below M2)
    clear q1 q2 hlt0 Hsz0 HTd HTa q1a q2a n1 n2 n3 n4 M2 M3 HT hb0 L
    generalize hW2 : w1.alloc _ = W2 at *
    generalize hpp : w1.heap.size = p at *
    clear hW2 hpp
  case' refine_2.refine_3.refine_3.refine_3.refine_3.refine_2.refine_1.refine_2.refine_1.refine_2.refine_3.refine_1.refine_2 =>
    have M1 : Nx (((((w1.setCell ⟨W0.heap.size, 0, none⟩ (.int .i64 0)).setCell ⟨W0.heap.size, 1, none⟩ (.int .i64 a)).setCell ⟨W0.heap.size, 2, none⟩ (.int .i64 o)).setCell ⟨W0.heap.size, 3, none⟩ (.int .i64 v)).setCell ⟨W0.heap.size, 4, none⟩ (.int .i64 0)) W0.heap.size a o v 0 :=
      blk_set (blk_set (blk_set (blk_set (blk_set Hz5.out 0 _) 1 _) 2 _) 3 _) 4 _
    have hbq : Below W0.heap.size W0 w1 := ((below_alloc W0 _).drew).trans (hb1.mono (by simp))
    have M3 : W0.heap.size ≤ W0.heap.size := Nat.le_refl _
    have M2 : Below W0.heap.size W0 (((((w1.setCell ⟨W0.heap.size, 0, none⟩ (.int .i64 0)).setCell ⟨W0.heap.size, 1, none⟩ (.int .i64 a)).setCell ⟨W0.heap.size, 2, none⟩ (.int .i64 o)).setCell ⟨W0.heap.size, 3, none⟩ (.int .i64 v)).setCell ⟨W0.heap.size, 4, none⟩ (.int .i64 0)) :=
      ((((hbq.setCell (Nat.le_refl _) _).setCell (Nat.le_refl _) _).setCell (Nat.le_refl _) _).setCell (Nat.le_refl _) _).setCell (Nat.le_refl _) _
    have m1 := M2.cell (p := ⟨w.heap.size, 0, none⟩) hlt0 |>.trans q1
    have m2 := M2.cell (p := ⟨w.heap.size, 1, none⟩) hlt0 |>.trans q2
    clear hb1 cc1 cc2 hbq z0 z1 z2 z3 z4 y0 y1 y2 y3 y4 Hz5
    have N2 := hb0.trans (M2.mono hb0.size)
    have N3 : w.heap.size < W0.heap.size := hlt0
    have TT := Lib.hid (HT.out.below M2)
    clear q1 q2 hlt0 Hsz0 HTd HTa q1a q2a n1 n2 n3 n4 M2 M3 HT hb0 L
    generalize hW2 : World.setCell _ _ _ = W2 at *
    generalize hpp : W0.heap.size = p at *
    clear hW2 hpp
  all_goals
    rcases Hcs.out with ⟨rfl, hR⟩ | ⟨rfl, rfl, hR⟩ | ⟨rfl, rfl, hR⟩ | ⟨rfl, rfl, hR⟩
  · have hmk := make_rowN (P := Tryd.prog) 36 51 i0 _ Tryd.underlying36 hi hz0 s.size (by rw [hz2]; omega) (by omega)
    rw [hz1] at hmk
    have hmade : madeCells (Value.agg #[.int .i64 0, .int .i64 0, .int .i64 0, .int .i64 0, .int .i64 0]).cells (s.size * 5) = cRow (kLp s a o v 0) := by rw [show (Value.agg #[.int .i64 0, .int .i64 0, .int .i64 0, .int .i64 0, .int .i64 0]).cells = #[.int .i64 0, .int .i64 0, .int .i64 0, .int .i64 0, .int .i64 0] from rfl, made_cells]; simp [kLp, tkL]
    rw [hmade] at hmk
    have HR := Lib.hid hR
    clear hR hmade Hcs WI
    have hp2 := blk_lt M1
    have hlt2 : w.heap.size < W2.heap.size := by omega
    go_wp2_with (first
      | (go_at_call 150; refine (D.out _ TT.out).mono ?_; rintro e w3 ⟨rfl, hb3⟩; have T3 := Lib.hid (TT.out.below hb3); have c31 := (hb3.cell (p := ⟨w.heap.size, 0, none⟩) hlt2).trans m1)
      | (go_at_call 151; refine (X.out _ T3.out).mono ?_; rintro e w4 ⟨rfl, hb4⟩))
    have M4 := Lib.hid (blk_below (blk_below M1 hb3) hb4)
    have N4 := N2.trans ((seqB hb3 hb4).mono N2.size)
    have hp4 : p < w4.heap.size := blk_lt M4.out
    clear c31 T3 hb3 hb4 m1 m2 M1 N2 D X TT
    have Y1 := Lib.hid (show Nx (w4.alloc (.cells (cRow (kLp s a o v 0)) 51)) p a o v 0 from blk_alloc M4.out _)
    go_loopw [28] (fun iv wr => ∃ k : Nat, k ≤ s.size ∧ iv = .int .i64 (k : Int) ∧ Hid (Nx wr p a o v (k : Int)) ∧ Hid (wr.heap[w4.heap.size]? = some (.cells (cRow (kLp s a o v k)) 51 (0, 0))) ∧ Below w.heap.size w wr) (fun iv _ => s.size - (intOf iv).toNat)
    case atStart => exact ⟨0, Nat.zero_le _, rfl, Y1, Lib.hid (heap_alloc_new _ _), N4.alloc N4.size _⟩
    case round =>
      obtain ⟨k, hk, rfl, hN, hG, hb⟩ := hrel
      by_cases hlt : k < s.size
      · have hk1 : (k : Int) < s.size := by omega
        have hk0 : (0 : Int) ≤ k := by omega
        have hlen := kLp_len s a o v k hk
        have hgp : w4.heap.size ≠ p := by omega
        have hgl := blk_lt hG.out
        have C := Lib.hid fun x => cells1_any x a o v (k : Int) p wr hk0 (by omega) hN.out
        have hset := kLp_set s a o v k hlt
        have hgx : ((s.get! k).toNat : Int) = wrap64 (s[k].toNat : Int) := by rw [w64_u8, get_get s k hlt]
        rw [hgx] at hset
        have Hset := Lib.hid hset
        have Hset2 := Lib.hid fun x => cRow_set (kLp s a o v k) k (x, a, o, v, (k : Int)) (by rw [hlen]; exact hlt)
        have Hcell := Lib.hid fun (w5 : World) (h : w5.heap[w4.heap.size]? = some (.cells (cRow (kLp s a o v k)) 51 (0, 0))) => cl_cells h (k := k) (by rw [hlen]; exact hlt)
        generalize (kLp s a o v k).getD k cl0 = q at *
        clear hset hgx hlen
        go_wp2_with (go_at_call 149; refine (C.out _).mono ?_; rintro e w5 ⟨rfl, hN5, hg5⟩; have G5 := Lib.hid ((hg5.block w4.heap.size hgl (by simpa using hgp)).trans hG.out); have z0 := (Hcell.out w5 G5.out).1; have z1 := (Hcell.out w5 G5.out).2.1; have z2 := (Hcell.out w5 G5.out).2.2.1; have z3 := (Hcell.out w5 G5.out).2.2.2.1; have z4 := (Hcell.out w5 G5.out).2.2.2.2; have y0 := fun i => frozen_of_row w5 w4.heap.size i _ _ G5.out; have HN5 := Lib.hid hN5; clear hN5)
        have N5 := hb.grown hg5 hb.size (fun j hj => by injection hj with hj; omega)
        go_roundw
        case rel => exact ⟨k + 1, by omega, by go_num, Lib.hid (blk_far (blk_far (blk_far (blk_far (blk_far HN5.out (Ne.symm hgp) _) (Ne.symm hgp) _) (Ne.symm hgp) _) (Ne.symm hgp) _) (Ne.symm hgp) _), Lib.hid (by rw [← Hset.out, ← Hset2.out]; exact blk_set (blk_set (blk_set (blk_set (blk_set G5.out _ _) _ _) _ _) _ _) _ _), ((((N5.setCell N4.size _).setCell N4.size _).setCell N4.size _).setCell N4.size _).setCell N4.size _⟩
        case measure => simp [intOf]; omega
      · obtain rfl : k = s.size := by omega
        have hfin : kLp s a o v s.size = tkL s a o v s.size := by unfold kLp; rw [Nat.sub_self, List.replicate_zero, List.append_nil]
        have HG2 := Lib.hid hG.out
        rw [hfin] at HG2
        clear hfin
        have hl := tkL_len s a o v s.size
        have HO := Lib.hid (own_of_blk (B := w.heap.size) HG2.out N4.size (by rw [hl]; unfold maxLen; omega))
        rw [hl] at HO
        clear hl
        go_wp2
        go_ret
        refine ⟨_, rfl, ?_, hb⟩
        rw [HR.out]; exact HO.out
  · have HR := Lib.hid hR
    clear hR Hcs X
    have hp2 := blk_lt M1
    have hlt2 : w.heap.size < W2.heap.size := by omega
    go_wp2_with (first
      | (go_at_call 150; refine (D.out _ TT.out).mono ?_; rintro e w3 ⟨rfl, hb3⟩; have T3 := Lib.hid (TT.out.below hb3); have c31 := (hb3.cell (p := ⟨w.heap.size, 0, none⟩) hlt2).trans m1; have hlt3 := Nat.lt_of_lt_of_le hlt2 hb3.size; have M3 := Lib.hid (nx_below M1 hb3))
      | (go_at_call 131; refine (WI.out _ T3.out).mono ?_; rintro e w4 ⟨rfl, hb4⟩; have c41 := (hb4.cell (p := ⟨w.heap.size, 0, none⟩) hlt3).trans c31; have M4 := Lib.hid (nx_below M3.out hb4))
      | (go_at_call 149; (with_reducible refine (cells1_any v a o v 0 p w4 (by omega) (by omega) M4.out).mono ?_); rintro e w5 ⟨rfl, hN5, hg5⟩; have M5 := Lib.hid hN5; clear hN5)
      | (go_at_call 149; (with_reducible refine (cells1_any (-1) a o v (0 + 1) p w5 (by omega) (by omega) M5.out).mono ?_); rintro e w6 ⟨rfl, hN6, hg6⟩; clear hN6))
    have N4 := N2.trans ((seqB hb3 hb4).mono N2.size)
    have hp4 : p < w4.heap.size := blk_lt M4.out
    have N5 := N4.grown hg5 N4.size (fun j hj => by injection hj with hj; omega)
    have N6 := N5.grown hg6 N5.size (fun j hj => by injection hj with hj; omega)
    go_ret
    refine ⟨_, rfl, ?_, N6.alloc N6.size _⟩
    rw [HR.out]
    exact own_of_blk (L := [(v, a, o, v, 0), (-1, a, o, v, 1)]) (heap_alloc_new _ _) N6.size (by simp [maxLen])
  · have HR := Lib.hid hR
    clear hR Hcs X
    have hp2 := blk_lt M1
    have hlt2 : w.heap.size < W2.heap.size := by omega
    go_wp2_with (first
      | (go_at_call 150; refine (D.out _ TT.out).mono ?_; rintro e w3 ⟨rfl, hb3⟩; have T3 := Lib.hid (TT.out.below hb3); have c31 := (hb3.cell (p := ⟨w.heap.size, 0, none⟩) hlt2).trans m1; have hlt3 := Nat.lt_of_lt_of_le hlt2 hb3.size; have M3 := Lib.hid (nx_below M1 hb3))
      | (go_at_call 131; refine (WI.out _ T3.out).mono ?_; rintro e w4 ⟨rfl, hb4⟩; have c41 := (hb4.cell (p := ⟨w.heap.size, 0, none⟩) hlt3).trans c31; have M4 := Lib.hid (nx_below M3.out hb4))
      | (go_at_call 149; (with_reducible refine (cells1_any v a o v 0 p w4 (by omega) (by omega) M4.out).mono ?_); rintro e w5 ⟨rfl, hN5, hg5⟩; clear hN5))
    have N4 := N2.trans ((seqB hb3 hb4).mono N2.size)
    have hp4 : p < w4.heap.size := blk_lt M4.out
    have N5 := N4.grown hg5 N4.size (fun j hj => by injection hj with hj; omega)
    go_ret
    refine ⟨_, rfl, ?_, N5.alloc N5.size _⟩
    rw [HR.out]
    exact own_of_blk (L := [(v, a, o, v, 0)]) (heap_alloc_new _ _) N5.size (by simp [maxLen])
  · have HR := Lib.hid hR
    clear hR Hcs X
    have hp2 := blk_lt M1
    have hlt2 : w.heap.size < W2.heap.size := by omega
    go_wp2_with (first
      | (go_at_call 150; refine (D.out _ TT.out).mono ?_; rintro e w3 ⟨rfl, hb3⟩; have T3 := Lib.hid (TT.out.below hb3); have c31 := (hb3.cell (p := ⟨w.heap.size, 0, none⟩) hlt2).trans m1; have hlt3 := Nat.lt_of_lt_of_le hlt2 hb3.size; have M3 := Lib.hid (nx_below M1 hb3))
      | (go_at_call 131; refine (WI.out _ T3.out).mono ?_; rintro e w4 ⟨rfl, hb4⟩; have c41 := (hb4.cell (p := ⟨w.heap.size, 0, none⟩) hlt3).trans c31; have M4 := Lib.hid (nx_below M3.out hb4)))
    have N4 := N2.trans ((seqB hb3 hb4).mono N2.size)
    go_ret
    refine ⟨_, rfl, ?_, N4⟩
    rw [HR.out]
    exact World.ownsRow_nil _ _ _ _
  · have hmk := make_rowN (P := Tryd.prog) 36 51 i0 _ Tryd.underlying36 hi hz0 s.size (by rw [hz2]; omega) (by omega)
    rw [hz1] at hmk
    have hmade : madeCells (Value.agg #[.int .i64 0, .int .i64 0, .int .i64 0, .int .i64 0, .int .i64 0]).cells (s.size * 5) = cRow (kLp s a o v 0) := by rw [show (Value.agg #[.int .i64 0, .int .i64 0, .int .i64 0, .int .i64 0, .int .i64 0]).cells = #[.int .i64 0, .int .i64 0, .int .i64 0, .int .i64 0, .int .i64 0] from rfl, made_cells]; simp [kLp, tkL]
    rw [hmade] at hmk
    have HR := Lib.hid hR
    clear hR hmade Hcs WI
    have hp2 := blk_lt M1
    have hlt2 : w.heap.size < W2.heap.size := by omega
    go_wp2_with (first
      | (go_at_call 150; refine (D.out _ TT.out).mono ?_; rintro e w3 ⟨rfl, hb3⟩; have T3 := Lib.hid (TT.out.below hb3); have c31 := (hb3.cell (p := ⟨w.heap.size, 0, none⟩) hlt2).trans m1)
      | (go_at_call 151; refine (X.out _ T3.out).mono ?_; rintro e w4 ⟨rfl, hb4⟩))
    have M4 := Lib.hid (blk_below (blk_below M1 hb3) hb4)
    have N4 := N2.trans ((seqB hb3 hb4).mono N2.size)
    have hp4 : p < w4.heap.size := blk_lt M4.out
    clear c31 T3 hb3 hb4 m1 m2 M1 N2 D X TT
    have Y1 := Lib.hid (show Nx (w4.alloc (.cells (cRow (kLp s a o v 0)) 51)) p a o v 0 from blk_alloc M4.out _)
    go_loopw [28] (fun iv wr => ∃ k : Nat, k ≤ s.size ∧ iv = .int .i64 (k : Int) ∧ Hid (Nx wr p a o v (k : Int)) ∧ Hid (wr.heap[w4.heap.size]? = some (.cells (cRow (kLp s a o v k)) 51 (0, 0))) ∧ Below w.heap.size w wr) (fun iv _ => s.size - (intOf iv).toNat)
    case atStart => exact ⟨0, Nat.zero_le _, rfl, Y1, Lib.hid (heap_alloc_new _ _), N4.alloc N4.size _⟩
    case round =>
      obtain ⟨k, hk, rfl, hN, hG, hb⟩ := hrel
      by_cases hlt : k < s.size
      · have hk1 : (k : Int) < s.size := by omega
        have hk0 : (0 : Int) ≤ k := by omega
        have hlen := kLp_len s a o v k hk
        have hgp : w4.heap.size ≠ p := by omega
        have hgl := blk_lt hG.out
        have C := Lib.hid fun x => cells1_any x a o v (k : Int) p wr hk0 (by omega) hN.out
        have hset := kLp_set s a o v k hlt
        have hgx : ((s.get! k).toNat : Int) = wrap64 (s[k].toNat : Int) := by rw [w64_u8, get_get s k hlt]
        rw [hgx] at hset
        have Hset := Lib.hid hset
        have Hset2 := Lib.hid fun x => cRow_set (kLp s a o v k) k (x, a, o, v, (k : Int)) (by rw [hlen]; exact hlt)
        have Hcell := Lib.hid fun (w5 : World) (h : w5.heap[w4.heap.size]? = some (.cells (cRow (kLp s a o v k)) 51 (0, 0))) => cl_cells h (k := k) (by rw [hlen]; exact hlt)
        generalize (kLp s a o v k).getD k cl0 = q at *
        clear hset hgx hlen
        go_wp2_with (go_at_call 149; refine (C.out _).mono ?_; rintro e w5 ⟨rfl, hN5, hg5⟩; have G5 := Lib.hid ((hg5.block w4.heap.size hgl (by simpa using hgp)).trans hG.out); have z0 := (Hcell.out w5 G5.out).1; have z1 := (Hcell.out w5 G5.out).2.1; have z2 := (Hcell.out w5 G5.out).2.2.1; have z3 := (Hcell.out w5 G5.out).2.2.2.1; have z4 := (Hcell.out w5 G5.out).2.2.2.2; have y0 := fun i => frozen_of_row w5 w4.heap.size i _ _ G5.out; have HN5 := Lib.hid hN5; clear hN5)
        have N5 := hb.grown hg5 hb.size (fun j hj => by injection hj with hj; omega)
        go_roundw
        case rel => exact ⟨k + 1, by omega, by go_num, Lib.hid (blk_far (blk_far (blk_far (blk_far (blk_far HN5.out (Ne.symm hgp) _) (Ne.symm hgp) _) (Ne.symm hgp) _) (Ne.symm hgp) _) (Ne.symm hgp) _), Lib.hid (by rw [← Hset.out, ← Hset2.out]; exact blk_set (blk_set (blk_set (blk_set (blk_set G5.out _ _) _ _) _ _) _ _) _ _), ((((N5.setCell N4.size _).setCell N4.size _).setCell N4.size _).setCell N4.size _).setCell N4.size _⟩
        case measure => simp [intOf]; omega
      · obtain rfl : k = s.size := by omega
        have hfin : kLp s a o v s.size = tkL s a o v s.size := by unfold kLp; rw [Nat.sub_self, List.replicate_zero, List.append_nil]
        have HG2 := Lib.hid hG.out
        rw [hfin] at HG2
        clear hfin
        have hl := tkL_len s a o v s.size
        have HO := Lib.hid (own_of_blk (B := w.heap.size) HG2.out N4.size (by rw [hl]; unfold maxLen; omega))
        rw [hl] at HO
        clear hl
        go_wp2
        go_ret
        refine ⟨_, rfl, ?_, hb⟩
        rw [HR.out]; exact HO.out
  · have HR := Lib.hid hR
    clear hR Hcs X
    have hp2 := blk_lt M1
    have hlt2 : w.heap.size < W2.heap.size := by omega
    go_wp2_with (first
      | (go_at_call 150; refine (D.out _ TT.out).mono ?_; rintro e w3 ⟨rfl, hb3⟩; have T3 := Lib.hid (TT.out.below hb3); have c31 := (hb3.cell (p := ⟨w.heap.size, 0, none⟩) hlt2).trans m1; have hlt3 := Nat.lt_of_lt_of_le hlt2 hb3.size; have M3 := Lib.hid (nx_below M1 hb3))
      | (go_at_call 131; refine (WI.out _ T3.out).mono ?_; rintro e w4 ⟨rfl, hb4⟩; have c41 := (hb4.cell (p := ⟨w.heap.size, 0, none⟩) hlt3).trans c31; have M4 := Lib.hid (nx_below M3.out hb4))
      | (go_at_call 149; (with_reducible refine (cells1_any v a o v 0 p w4 (by omega) (by omega) M4.out).mono ?_); rintro e w5 ⟨rfl, hN5, hg5⟩; have M5 := Lib.hid hN5; clear hN5)
      | (go_at_call 149; (with_reducible refine (cells1_any (-1) a o v (0 + 1) p w5 (by omega) (by omega) M5.out).mono ?_); rintro e w6 ⟨rfl, hN6, hg6⟩; clear hN6))
    have N4 := N2.trans ((seqB hb3 hb4).mono N2.size)
    have hp4 : p < w4.heap.size := blk_lt M4.out
    have N5 := N4.grown hg5 N4.size (fun j hj => by injection hj with hj; omega)
    have N6 := N5.grown hg6 N5.size (fun j hj => by injection hj with hj; omega)
    go_ret
    refine ⟨_, rfl, ?_, N6.alloc N6.size _⟩
    rw [HR.out]
    exact own_of_blk (L := [(v, a, o, v, 0), (-1, a, o, v, 1)]) (heap_alloc_new _ _) N6.size (by simp [maxLen])
  · have HR := Lib.hid hR
    clear hR Hcs X
    have hp2 := blk_lt M1
    have hlt2 : w.heap.size < W2.heap.size := by omega
    go_wp2_with (first
      | (go_at_call 150; refine (D.out _ TT.out).mono ?_; rintro e w3 ⟨rfl, hb3⟩; have T3 := Lib.hid (TT.out.below hb3); have c31 := (hb3.cell (p := ⟨w.heap.size, 0, none⟩) hlt2).trans m1; have hlt3 := Nat.lt_of_lt_of_le hlt2 hb3.size; have M3 := Lib.hid (nx_below M1 hb3))
      | (go_at_call 131; refine (WI.out _ T3.out).mono ?_; rintro e w4 ⟨rfl, hb4⟩; have c41 := (hb4.cell (p := ⟨w.heap.size, 0, none⟩) hlt3).trans c31; have M4 := Lib.hid (nx_below M3.out hb4))
      | (go_at_call 149; (with_reducible refine (cells1_any v a o v 0 p w4 (by omega) (by omega) M4.out).mono ?_); rintro e w5 ⟨rfl, hN5, hg5⟩; clear hN5))
    have N4 := N2.trans ((seqB hb3 hb4).mono N2.size)
    have hp4 : p < w4.heap.size := blk_lt M4.out
    have N5 := N4.grown hg5 N4.size (fun j hj => by injection hj with hj; omega)
    go_ret
    refine ⟨_, rfl, ?_, N5.alloc N5.size _⟩
    rw [HR.out]
    exact own_of_blk (L := [(v, a, o, v, 0)]) (heap_alloc_new _ _) N5.size (by simp [maxLen])
  · have HR := Lib.hid hR
    clear hR Hcs X
    have hp2 := blk_lt M1
    have hlt2 : w.heap.size < W2.heap.size := by omega
    go_wp2_with (first
      | (go_at_call 150; refine (D.out _ TT.out).mono ?_; rintro e w3 ⟨rfl, hb3⟩; have T3 := Lib.hid (TT.out.below hb3); have c31 := (hb3.cell (p := ⟨w.heap.size, 0, none⟩) hlt2).trans m1; have hlt3 := Nat.lt_of_lt_of_le hlt2 hb3.size; have M3 := Lib.hid (nx_below M1 hb3))
      | (go_at_call 131; refine (WI.out _ T3.out).mono ?_; rintro e w4 ⟨rfl, hb4⟩; have c41 := (hb4.cell (p := ⟨w.heap.size, 0, none⟩) hlt3).trans c31; have M4 := Lib.hid (nx_below M3.out hb4)))
    have N4 := N2.trans ((seqB hb3 hb4).mono N2.size)
    go_ret
    refine ⟨_, rfl, ?_, N4⟩
    rw [HR.out]
    exact World.ownsRow_nil _ _ _ _
end Go.Proofs.YtcdecnmhogmhaaaDoor
set_option linter.unusedVariables false
set_option linter.unusedSimpArgs false
namespace Go.Proofs.YtcdecnmhogmhaaaDoor
open Go.RowKit
theorem shK_le (v l o : Int) : (shK v l o).length ≤ 30 := by
  have h := shT_size v
  rcases cells_cases v l o with ⟨_, hs⟩ | ⟨_, _, hs⟩ | ⟨_, _, hs⟩ | ⟨_, _, hs⟩ <;> rw [hs]
  · rw [tkL_len]; exact h
  all_goals (simp)
theorem shK_len (v l o : Int) : ((shK v l o).length : Int) = shC v := by
  have hd : dng v = decide (3 < cls v) := rfl
  rcases cells_cases v l o with ⟨h, hs⟩ | ⟨h, h2, hs⟩ | ⟨h, h2, hs⟩ | ⟨h, h2, hs⟩ <;> rw [hs]
  · rw [tkL_len, shC_big (by rw [hd] at h; exact of_decide_eq_true h)]
  all_goals (rw [shC_small (by rw [hd] at h; exact of_decide_eq_false h), h2]; rfl)
attribute [local go_sem ↓] Go.wp_at_zero Go.wp_at_succ
theorem ownC_mono {w : World} {B B' : Nat} {v : Value} {L : List Cl} (h : ownC w B v L) (hB : B' ≤ B) : ownC w B' v L := by
  unfold ownC at h ⊢
  refine ⟨h.1, ?_⟩
  rcases h.2 with h2 | ⟨g, cap, cur, hv, hg, r⟩
  · exact .inl h2
  · exact .inr ⟨g, cap, cur, hv, Nat.le_trans hB hg, r⟩
theorem cells_casesR (v l o : Int) : (cls v = 0 ∧ shK v l o = []) ∨ (cls v = 2 ∧ shK v l o = [(v, lkI v l, o, v, 0), (-1, lkI v l, o, v, 1)]) ∨ ((cls v = 1 ∨ cls v = 3) ∧ shK v l o = [(v, lkI v l, o, v, 0)]) ∨ (3 < cls v ∧ shK v l o = tkL (shT v) (lkI v l) o v (shT v).size) := by
  have hr := cls_rng v
  have hk : shK v l o = if 3 < cls v then tkL (shT v) (lkI v l) o v (shT v).size else if cls v = 2 then [(v, lkI v l, o, v, 0), (-1, lkI v l, o, v, 1)] else if cls v = 0 then [] else [(v, lkI v l, o, v, 0)] := rfl
  by_cases h : 3 < cls v
  · right; right; right; exact ⟨h, by rw [hk, if_pos h]⟩
  · by_cases h2 : cls v = 2
    · right; left; exact ⟨h2, by rw [hk, if_neg h, if_pos h2]⟩
    · by_cases h0 : cls v = 0
      · left; exact ⟨h0, by rw [hk, if_neg h, if_neg h2, if_pos h0]⟩
      · right; right; left; exact ⟨by omega, by rw [hk, if_neg h, if_neg h2, if_neg h0]⟩
set_option maxHeartbeats 8000000 in
theorem cells_ref (v l o : Int) (w : World) :
    Calls Tryd.prog 77 #[.agg #[.int .i64 v, .int .i64 l], .int .i64 o] w fun e w' => ∃ x, e = .returned x ∧ ownC w' w.heap.size x (shK v l o) ∧ Below w.heap.size w w' := by
  obtain ⟨i0, hi, hz0, hz1, hz2⟩ := info_parts infoCell
  have hb0 := below_alloc w (.cells #[.int .i64 v, .int .i64 l] 53)
  have L := Lib.hid fun w => looks_ref v l w
  have hcs := cells_casesR v l o
  have O := fun w => of_ref v w
  rw [← cls_eq] at O
  have X := Lib.hid fun w => shtext_ref v w
  have hsz := shT_size v
  generalize shK v l o = R at *
  generalize shT v = s at *
  generalize lkI v l = a at *
  generalize cls v = c at *
  replace O := Lib.hid O
  have q1 : (w.alloc (.cells #[.int .i64 v, .int .i64 l] 53)).cell? ⟨w.heap.size, 0, none⟩ = some (.int .i64 v) := by rw [World.cell?_alloc_new]; rfl
  have hsz0 : (w.alloc (.cells #[.int .i64 v, .int .i64 l] 53)).heap.size = w.heap.size + 1 := by simp
  rcases hcs with ⟨rfl, hR⟩ | ⟨rfl, hR⟩ | ⟨hc, hR⟩ | ⟨hc, hR⟩
  · have HR := Lib.hid hR; clear hR
    go_enter Tryd.func77, Tryd.ntmps77
    go_wp2_with (first
      | (go_at_call 119; refine (L.out _).mono ?_; rintro e w1 ⟨rfl, hb1⟩; have c1 := (hb1.cell (p := ⟨w.heap.size, 0, none⟩) (by simp)).trans q1)
      | (go_at_call 42; refine (O.out _).mono ?_; rintro e w2 ⟨rfl, hb2⟩))
    go_ret
    refine ⟨_, rfl, ?_, seqB (seqB hb0 hb1) hb2⟩
    rw [HR.out]; exact World.ownsRow_nil _ _ _ _
  · have HR := Lib.hid hR; clear hR
    go_enter Tryd.func77, Tryd.ntmps77
    go_wp2_with (first
      | (go_at_call 119; refine (L.out _).mono ?_; rintro e w1 ⟨rfl, hb1⟩; have hlt1 : w.heap.size < w1.heap.size := (by have := hb1.size; simp at this; omega); have c1 := (hb1.cell (p := ⟨w.heap.size, 0, none⟩) (by simp)).trans q1)
      | (go_at_call 42; refine (O.out _).mono ?_; rintro e w2 ⟨rfl, hb2⟩; have hlt2 := Nat.lt_of_lt_of_le hlt1 hb2.size; have c2 := (hb2.cell (p := ⟨w.heap.size, 0, none⟩) hlt1).trans c1; have c2' := fun o => (World.cell?_alloc_lt w2 o (⟨w.heap.size, 0, none⟩ : Addr) hlt2).trans c2)
      | (at_builtin; refine wpList_append_own _ rfl _ _ 36 rfl w.heap.size 51 i0 _ 5 40 Tryd.underlying36 hi hz0 hz1 hz2 rfl (by decide) _ 1 (cCells [(v, a, o, v, 0)]) rfl ((show (w2.alloc (.cells (cRow [(v, a, o, v, 0)]) 51)).ownsRow w.heap.size 51 5 (.slice (some ⟨w2.heap.size, 0, none⟩) 1 1) 1 (cCells [(v, a, o, v, 0)]) from own_of_blk (L := [(v, a, o, v, 0)]) (heap_alloc_new _ _) (Nat.le_of_lt hlt2) (by simp [maxLen])).alloc _) ⟨w2.heap.size + 1, 0, none⟩ 1 1 (cCells [(-1, a, o, v, 1)]) rfl rfl ?c1 ?c2 ?c3 ?c4 ?c5 ?_))
    case c1 => intro j x hj; exact app_cells (by simp) hj
    case c2 => intro x hx; simp [cCells] at hx; rcases hx with rfl | rfl | rfl | rfl | rfl <;> rfl
    case c3 => unfold maxLen; omega
    case c4 => omega
    case c5 => simp; omega
    intro v' w3 hown3 hgrow3 _
    have N2 := seqB (seqB hb0 hb1) hb2
    have N3 := (N2.alloc N2.size (.cells (cRow [(v, a, o, v, 0)]) 51))
    have N4 := (N3.alloc N3.size (.cells (cRow [(-1, a, o, v, 1)]) 51)).grown hgrow3 (by have := N2.size; simp; omega) (fun k hk => by simp [Value.ownBlock] at hk; have := N2.size; omega)
    have HO := Lib.hid hown3
    clear hown3 hgrow3
    go_wp2
    go_ret
    refine ⟨_, rfl, ?_, N4⟩
    rw [HR.out]; exact HO.out
  · have HR := Lib.hid hR; clear hR
    rcases hc with rfl | rfl
    all_goals
      go_enter Tryd.func77, Tryd.ntmps77
      go_wp2_with (first
        | (go_at_call 119; refine (L.out _).mono ?_; rintro e w1 ⟨rfl, hb1⟩; have hlt1 : w.heap.size < w1.heap.size := (by have := hb1.size; simp at this; omega); have c1 := (hb1.cell (p := ⟨w.heap.size, 0, none⟩) (by simp)).trans q1)
        | (go_at_call 42; refine (O.out _).mono ?_; rintro e w2 ⟨rfl, hb2⟩; have hlt2 := Nat.lt_of_lt_of_le hlt1 hb2.size; have c2 := (hb2.cell (p := ⟨w.heap.size, 0, none⟩) hlt1).trans c1))
      go_ret
      have N2 := seqB (seqB hb0 hb1) hb2
      refine ⟨_, rfl, ?_, N2.alloc N2.size _⟩
      rw [HR.out]
      exact own_of_blk (L := [(v, a, o, v, 0)]) (heap_alloc_new _ _) N2.size (by simp [maxLen])
  · have HR := Lib.hid hR; clear hR
    have b0 : (c == 0) = false := by rw [beq_eq_false_iff_ne]; omega
    go_enter Tryd.func77, Tryd.ntmps77
    go_wp2_with (first
      | (go_at_call 119; refine (L.out _).mono ?_; rintro e w1 ⟨rfl, hb1⟩; have hlt1 : w.heap.size < w1.heap.size := (by have := hb1.size; simp at this; omega); have c1 := (hb1.cell (p := ⟨w.heap.size, 0, none⟩) (by simp)).trans q1)
      | (go_at_call 42; refine (O.out _).mono ?_; rintro e w2 ⟨rfl, hb2⟩; have hlt2 := Nat.lt_of_lt_of_le hlt1 hb2.size; have c2 := (hb2.cell (p := ⟨w.heap.size, 0, none⟩) hlt1).trans c1)
      | (go_at_call 120; refine (X.out _).mono ?_; rintro e w3 ⟨rfl, hb3⟩))
    have N3 := seqB (seqB (seqB hb0 hb1) hb2) hb3
    have hlt3 := Nat.lt_of_lt_of_le hlt2 hb3.size
    have c3 := (hb3.cell (p := ⟨w.heap.size, 0, none⟩) hlt2).trans c2
    have C3 := Lib.hid c3
    clear c1 c2 c3 hb1 hb2 hb3 hlt1 hlt2 q1 hsz0 hb0 L O X
    go_loopw [9, 10] (fun ov iv wr => ∃ k : Nat, k ≤ s.size ∧ iv = .int .i64 (k : Int) ∧ Hid (ownC wr (w.heap.size + 1) ov (tkL s a o v k)) ∧ Hid (wr.cell? ⟨w.heap.size, 0, none⟩ = some (.int .i64 v)) ∧ Below w.heap.size w wr) (fun _ iv _ => s.size - (intOf iv).toNat)
    case atStart => exact ⟨0, Nat.zero_le _, rfl, Lib.hid (World.ownsRow_nil _ _ _ _), C3, N3⟩
    case round =>
      obtain ⟨k, hk, rfl, hO, hC, hb⟩ := hrel
      by_cases hlt : k < s.size
      · have hk1 : (k : Int) < s.size := by omega
        have hk0 : (0 : Int) ≤ k := by omega
        have hown := hO.out
        unfold ownC at hown
        rw [tkL_len] at hown
        have hc1 := hC.out
        have hcl := block_lt_of_cell hc1
        have ag : u9.ownBlock ≠ some w.heap.size := fun e => by have := (hown.lt _ e).1; omega
        have Hown := Lib.hid hown
        have hsk := tkL_succ s a o v k
        have hgx : ((s.get! k).toNat : Int) = IntKind.i64.wrap (s[k].toNat : Int) := by rw [get_get s k hlt]; have := s[k].toNat_lt; rw [IntKind.wrap_i64]; omega
        rw [hgx] at hsk
        have Hsk := Lib.hid hsk
        clear hsk hgx hown
        go_wp2
        go_region_held3 (fun w' => w'.cell? ⟨w.heap.size, 0, none⟩ = some (.int .i64 v)) (first | go_keep | (rw [hgrow.cell_far _ (by simp; omega) (Ne.symm ag)]; assumption))
          ((refine step_append_lies _ (by rfl) _ _ _ (by rfl) (w.heap.size + 1) 51 i0 _ 5 40 Tryd.underlying36 hi hz0 hz1 hz2 rfl (by decide) _ k (cCells (tkL s a o v k)) (by rfl) ((show (wr.alloc _).drew.ownsRow _ _ _ _ _ _ from Hown.out.alloc _)) ⟨wr.heap.size, 0, none⟩ 1 1 [.int .i64 (IntKind.i64.wrap (s[k].toNat : Int)), .int .i64 a, .int .i64 o, .int .i64 v, .int .i64 (k : Int)] (by rfl) (by rfl) (fun j x hj => app_cells rfl hj) (by simp [Value.oneCell']) (by omega) (by unfold maxLen; omega) (by omega) (by simp; omega) (wr.heap.size + 1) (by simp) ?_; intro gg cap w1 hown1 hgrow hat hlt1))
        have N4 := ((hb.alloc hb.size (.cells #[.int .i64 (IntKind.i64.wrap (s[k].toNat : Int)), .int .i64 a, .int .i64 o, .int .i64 v, .int .i64 (k : Int)] 51)).drew).grown hgrow (by have := hb.size; simp; omega) (fun j hj => by have := (Hown.out.lt j hj).1; omega)
        have H1 := Lib.hid hown1
        have HC1 := Lib.hid (show w1.cell? ⟨w.heap.size, 0, none⟩ = some (.int .i64 v) by assumption)
        clear hown1 hgrow hat
        go_wp2
        go_roundw
        case rel => exact ⟨k + 1, by omega, by go_num, Lib.hid (by rw [Hsk.out]; unfold ownC; rw [List.length_append, tkL_len, cCells_snoc]; exact H1.out), HC1, N4⟩
        case measure => simp [intOf]; omega
      · obtain rfl : k = s.size := by omega
        go_wp2
        go_ret
        refine ⟨_, rfl, ?_, hb⟩
        rw [HR.out]; exact ownC_mono hO.out (Nat.le_succ _)
end Go.Proofs.YtcdecnmhogmhaaaDoor
set_option linter.unusedVariables false
set_option linter.unusedSimpArgs false
namespace Go.Proofs.YtcdecnmhogmhaaaDoor
open Go.RowKit
attribute [local go_sem ↓] Go.wp_at_zero Go.wp_at_succ
/-- The cells of the first k signs; f tells whose they are. -/
def vwG (l : List (Int × Int)) (f : Nat → Int) (k : Nat) : List Cl := (List.range k).flatMap fun i => shK (l.getD i (0, 0)).1 (l.getD i (0, 0)).2 (f i)
theorem vwG_succ (l : List (Int × Int)) (f : Nat → Int) (k : Nat) : vwG l f (k + 1) = vwG l f k ++ shK (l.getD k (0, 0)).1 (l.getD k (0, 0)).2 (f k) := by simp [vwG, List.range_succ]
theorem vwG_le (l : List (Int × Int)) (f : Nat → Int) : ∀ k, (vwG l f k).length ≤ 30 * k
  | 0 => by simp [vwG]
  | k + 1 => by
    rw [vwG_succ, List.length_append]
    have := vwG_le l f k
    have := shK_le (l.getD k (0, 0)).1 (l.getD k (0, 0)).2 (f k)
    omega
/-- Whose a prompt's cells are; whose a line's. -/
def ofP (_ : Nat) : Int := -1
def ofL (i : Nat) : Int := i
/-- The view of a prompt and a line. -/
def vwOf (p l : List (Int × Int)) : List Cl := vwG p ofP p.length ++ vwG l ofL l.length
theorem sgC_at {l : List (Int × Int)} (h : sgC l = true) {k : Nat} (hk : k < l.length) : cls (l.getD k (0, 0)).1 ≠ 0 := by
  have h2 := (List.all_eq_true.1 h) _ (getD_mem hk)
  refine right_yes ?_
  unfold sgR at h2
  rw [Bool.and_eq_true, Bool.and_eq_true] at h2
  exact h2.2.2
theorem shK_pos {v : Int} (h : cls v ≠ 0) (l o : Int) : 0 < (shK v l o).length := by
  have h1 := shK_len v l o
  have h2 := shC_rng v h
  omega
set_option maxHeartbeats 8000000 in
theorem vof_yes (p l : List (Int × Int)) (a b : Option Addr) (c d : Nat) (w : World) (hp : p.length ≤ 1000) (hl : l.length ≤ 1000) (ha : Signs w a p) (hb : Signs w b l) (hT : Tabs w) (hP : sgC p = true) (hL : sgC l = true) :
    Calls Tryd.prog 65 #[.slice a p.length c, .slice b l.length d] w fun e w' => ∃ x, e = .returned (.tuple #[x, .int .i64 0]) ∧ ownC w' w.heap.size x (vwOf p l) ∧ Below w.heap.size w w' := by
  obtain ⟨i0, hi, hz0, hz1, hz2⟩ := info_parts infoCell
  have S1 := scheck_any p a c w (by omega) ha
  have S2 := Lib.hid fun w1 (h : Signs w1 b l) => (by have h1 := scheck_any l b d w1 (by omega) h; rw [sgE_yes hL] at h1; exact h1 : Calls Tryd.prog 109 #[.slice b l.length d] w1 fun e w' => e = .returned (.int .i64 0) ∧ Below w1.heap.size w1 w')
  rw [sgE_yes hP] at S1
  replace S1 := Lib.hid S1
  have HA := Lib.hid ha; have HB := Lib.hid hb; have HT := Lib.hid hT; have HP := Lib.hid hP; have HL := Lib.hid hL
  clear ha hb hT hP hL
  go_enter Tryd.func65, Tryd.ntmps65
  go_wp2_with (first
    | (go_at_call 109; (with_reducible refine S1.out.mono ?_); rintro e w1 ⟨rfl, hb1⟩)
    | (go_at_call 109; refine (S2.out _ (HB.out.below hb1)).mono ?_; rintro e w2 ⟨rfl, hb2⟩)
    | (at_make; refine wpList_make_own _ rfl _ _ 36 rfl w.heap.size 51 i0 _ 5 Tryd.underlying36 hi hz0 hz1 _ _ _ (p.length + l.length) rfl rfl ?b1 ?b2 ?b3 ?b4 ?_))
  case b1 => first | rfl | (push_cast; rfl) | (simp [IntKind.wrap_i64]; omega)
  case b2 => rw [hz2]; omega
  case b3 => unfold maxLen; omega
  case b4 => have := hb1.size; have := hb2.size; omega
  intro w3 hown3 hgrow3
  have N2 := seqB hb1 hb2
  have N3 := N2.grown hgrow3 N2.size (fun j hj => by cases hj)
  have H3 := Lib.hid (show ownC w3 w.heap.size (.slice (some ⟨w2.heap.size, 0, none⟩) 0 (p.length + l.length)) (vwG p ofP 0) from hown3)
  clear hown3 hgrow3 hb1 hb2 N2
  go_wp2
  go_loopw [6, 27] (fun ov iv wr => ∃ k : Nat, k ≤ p.length ∧ iv = .int .i64 (k : Int) ∧ Hid (ownC wr w.heap.size ov (vwG p ofP k)) ∧ Below w.heap.size w wr) (fun _ iv _ => p.length - (intOf iv).toNat)
  case atStart => exact ⟨0, Nat.zero_le _, rfl, H3, N3⟩
  case round =>
    obtain ⟨k, hk, rfl, hO, hbl⟩ := hrel
    clear H3 N3 S1 S2
    by_cases hlt : k < p.length
    · obtain ⟨b1, off, rfl, hblk, c1, c2⟩ := (HA.out.below hbl) k hlt
      have hk1 : (k : Int) < p.length := by omega
      have hk0 : (0 : Int) ≤ k := by omega
      have C := fun w hT => cells_any (p.getD k (0, 0)).1 (p.getD k (0, 0)).2 (-1) w hT
      have hpos := shK_pos (sgC_at HP.out hlt) (p.getD k (0, 0)).2 (-1)
      have hle := shK_le (p.getD k (0, 0)).1 (p.getD k (0, 0)).2 (-1)
      have hsucc := vwG_succ p ofP k
      have hvl := vwG_le p ofP k
      rw [show ofP k = -1 from rfl] at hsucc
      generalize (p.getD k (0, 0)).1 = v at *
      generalize (p.getD k (0, 0)).2 = u at *
      generalize shK v u (-1) = X at *
      have Hsucc := Lib.hid hsucc
      replace C := Lib.hid C
      have hown := hO.out
      unfold ownC at hown
      clear hsucc
      generalize hX : vwG p ofP k = Y at *
      clear hX
      go_wp2_with (first
        | (go_at_call 110; refine (C.out _ ((HT.out.below hbl).below (below_alloc _ _))).mono ?_; rintro e w4 ⟨x, rfl, hown4, hb4⟩; obtain ⟨g, cap, rfl⟩ := ownsRow_pos hown4 hpos; have N4 := hbl.trans ((seqB (below_alloc _ _) hb4).mono hbl.size); have hold := ownB hown ((seqB (below_alloc wr (.cells #[.int .i64 v, .int .i64 u] 53)) hb4)))
        | (at_builtin; refine wpList_append_own _ rfl _ _ 36 rfl w.heap.size 51 i0 _ 5 40 Tryd.underlying36 hi hz0 hz1 hz2 rfl (by decide) _ _ _ rfl hold ⟨g, 0, none⟩ X.length cap (cCells X) rfl (cCells_len X) (hown4.cells rfl) (cCells_one X) ?c3 ?c4 N4.size ?_))
      case c3 => unfold maxLen; omega
      case c4 => omega
      intro v' w5 hown5 hgrow5 _
      have N5 := N4.grown hgrow5 N4.size (fun j hj => (hold.lt j hj).1)
      have HO := Lib.hid (show ownC w5 w.heap.size v' (Y ++ X) by unfold ownC; rw [List.length_append, cCells_append]; exact hown5)
      clear hown5 hgrow5 hold hown4 hown
      go_wp2
      go_roundw
      case rel => exact ⟨k + 1, by omega, by go_num, Lib.hid (by rw [Hsucc.out]; exact HO.out), N5⟩
      case measure => (simp [intOf]; try omega)
    · obtain rfl : k = p.length := by omega
      have hpl := vwG_le p ofP p.length
      have HS := Lib.hid (show vwOf p l = vwG p ofP p.length ++ vwG l ofL l.length from rfl)
      generalize vwG p ofP p.length = Z at *
      go_wp2
      go_loopw [6, 38] (fun ov iv wr => ∃ k : Nat, k ≤ l.length ∧ iv = .int .i64 (k : Int) ∧ Hid (ownC wr w.heap.size ov (Z ++ vwG l ofL k)) ∧ Below w.heap.size w wr) (fun _ iv _ => l.length - (intOf iv).toNat)
      case atStart => exact ⟨0, Nat.zero_le _, rfl, Lib.hid (by rw [show vwG l ofL 0 = [] from rfl, List.append_nil]; exact hO.out), hbl⟩
      case round =>
        obtain ⟨k, hk, rfl, hO, hbl⟩ := hrel
        by_cases hlt : k < l.length
        · obtain ⟨b1, off, rfl, hblk, c1, c2⟩ := (HB.out.below hbl) k hlt
          have hk1 : (k : Int) < l.length := by omega
          have hk0 : (0 : Int) ≤ k := by omega
          have C := fun w hT => cells_any (l.getD k (0, 0)).1 (l.getD k (0, 0)).2 (k : Int) w hT
          have hpos := shK_pos (sgC_at HL.out hlt) (l.getD k (0, 0)).2 (k : Int)
          have hle := shK_le (l.getD k (0, 0)).1 (l.getD k (0, 0)).2 (k : Int)
          have hsucc := vwG_succ l ofL k
          have hvl := vwG_le l ofL k
          rw [show ofL k = (k : Int) from rfl] at hsucc
          generalize (l.getD k (0, 0)).1 = v at *
          generalize (l.getD k (0, 0)).2 = u at *
          generalize shK v u (k : Int) = X at *
          have Hsucc := Lib.hid hsucc
          replace C := Lib.hid C
          have hown := hO.out
          unfold ownC at hown
          clear hsucc
          have hZY : (Z ++ vwG l ofL k).length ≤ 60000 := by rw [List.length_append]; omega
          generalize hX : vwG l ofL k = Y at *
          clear hX
          have Happ := Lib.hid (List.append_assoc Z Y X)
          generalize Z ++ Y = V at *
          go_wp2_with (first
            | (go_at_call 110; refine (C.out _ ((HT.out.below hbl).below (below_alloc _ _))).mono ?_; rintro e w4 ⟨x, rfl, hown4, hb4⟩; obtain ⟨g, cap, rfl⟩ := ownsRow_pos hown4 hpos; have N4 := hbl.trans ((seqB (below_alloc _ _) hb4).mono hbl.size); have hold := ownB hown ((seqB (below_alloc wr (.cells #[.int .i64 v, .int .i64 u] 53)) hb4)))
            | (at_builtin; refine wpList_append_own _ rfl _ _ 36 rfl w.heap.size 51 i0 _ 5 40 Tryd.underlying36 hi hz0 hz1 hz2 rfl (by decide) _ _ _ rfl hold ⟨g, 0, none⟩ X.length cap (cCells X) rfl (cCells_len X) (hown4.cells rfl) (cCells_one X) ?c3 ?c4 N4.size ?_))
          case c3 => unfold maxLen; omega
          case c4 => omega
          intro v' w5 hown5 hgrow5 _
          have N5 := N4.grown hgrow5 N4.size (fun j hj => (hold.lt j hj).1)
          have HO := Lib.hid (show ownC w5 w.heap.size v' (V ++ X) by unfold ownC; rw [List.length_append, cCells_append]; exact hown5)
          clear hown5 hgrow5 hold hown4 hown
          go_wp2
          go_roundw
          case rel => exact ⟨k + 1, by omega, by go_num, Lib.hid (by rw [Hsucc.out, ← Happ.out]; exact HO.out), N5⟩
          case measure => (simp [intOf]; try omega)
        · obtain rfl : k = l.length := by omega
          go_wp2
          exact bodyPost_ret (results_tmp2 rfl _ _ _) rfl ⟨_, rfl, by rw [HS.out]; exact hO.out, hbl⟩
set_option maxHeartbeats 4000000 in
theorem vof_no (p l : List (Int × Int)) (a b : Option Addr) (c d : Nat) (w : World) (hp : p.length ≤ 1000) (hl : l.length ≤ 1000) (ha : Signs w a p) (hb : Signs w b l) (hR : (sgC p && sgC l) = false) :
    Calls Tryd.prog 65 #[.slice a p.length c, .slice b l.length d] w fun e w' => e = .returned (.tuple #[.slice none 0 0, .int .i64 2]) ∧ Below w.heap.size w w' := by
  have S1 := scheck_any p a c w (by omega) ha
  have S2 := fun w1 (h : Signs w1 b l) => scheck_any l b d w1 (by omega) h
  have HB := Lib.hid hb
  cases hP : sgC p
  · rw [sgE_no hP] at S1
    replace S1 := Lib.hid S1
    clear S2 ha hb hR
    go_enter Tryd.func65, Tryd.ntmps65
    go_wp2_with (go_at_call 109; (with_reducible refine S1.out.mono ?_); rintro e w1 ⟨rfl, hb1⟩)
    exact bodyPost_ret (results_tmp2 rfl _ _ _) rfl ⟨rfl, hb1⟩
  · rw [hP, Bool.true_and] at hR
    rw [sgE_yes hP] at S1
    rw [sgE_no hR] at S2
    replace S1 := Lib.hid S1; replace S2 := Lib.hid S2
    clear ha hb hR
    go_enter Tryd.func65, Tryd.ntmps65
    go_wp2_with (first
      | (go_at_call 109; (with_reducible refine S1.out.mono ?_); rintro e w1 ⟨rfl, hb1⟩)
      | (go_at_call 109; refine (S2.out _ (HB.out.below hb1)).mono ?_; rintro e w2 ⟨rfl, hb2⟩))
    exact bodyPost_ret (results_tmp2 rfl _ _ _) rfl ⟨rfl, seqB hb1 hb2⟩
end Go.Proofs.YtcdecnmhogmhaaaDoor
