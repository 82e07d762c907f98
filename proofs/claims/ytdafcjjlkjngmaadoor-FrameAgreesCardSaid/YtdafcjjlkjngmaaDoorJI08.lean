/-
  Joined: Ky10 Ky11 Ky12 Ky13 Ky14 Ky15 Ky16 Ky17 ArgS ArgU8.
-/
import Derived.Test.YtdafcjjlkjngmaaDoorJI01
import Derived.Test.YtdafcjjlkjngmaaDoorJI02
import Derived.Test.YtdafcjjlkjngmaaDoorJI07
import Derived.Laws.BytesArg
import Derived.Deep.RegionHeld3
import Derived.Deep.SlicePairs
import Derived.ChangeArms
import Derived.Lib.LaidTab
import Derived.Lib.LaidU8
import Derived.Lib.SmallJoins
set_option linter.unusedVariables false
set_option linter.unusedSimpArgs false
set_option maxRecDepth 100000
set_option linter.unusedVariables false
set_option linter.unusedSimpArgs false
namespace Go.Proofs.YtdafcjjlkjngmaaDoor
open Go.RowKit
def uRow (L : List Int) : Array Value := (L.map (Value.int .u8)).toArray
theorem uRow_at (L : List Int) (i : Nat) (h : i < L.length) : (uRow L)[i]? = some (.int .u8 (L.getD i 0)) := by
  rw [uRow, List.getElem?_toArray, List.getElem?_map, List.getElem?_eq_getElem h, List.getD, List.getElem?_eq_getElem h]; rfl
theorem uRow_set (L : List Int) (i : Nat) (x : Int) : (uRow L).setIfInBounds i (.int .u8 x) = uRow (L.set i x) := by
  apply Array.ext'; simp [uRow, List.map_set]
theorem made_u8 (n : Nat) : madeCells #[.int .u8 0] (n * 1) = uRow (List.replicate n 0) := by
  apply Array.ext'
  rw [toList_madeCells_one]; simp [uRow]
theorem u_cell {w : World} {g k : Nat} {L : List Int} {t : TypeId} {f : Nat × Nat} (h : w.heap[g]? = some (.cells (uRow L) t f)) (hk : k < L.length) :
    w.cell? ⟨g, k, none⟩ = some (.int .u8 (L.getD k 0)) := by
  rw [cell_of_row _ _ _ _ _ _ h, uRow_at L k hk]
def uL (t : List UInt8) : List Int := t.map fun b => (b.toNat : Int)
theorem txt_uL (t : List UInt8) : txt (uL t) = mkS t := by
  unfold txt uL mkS
  rw [List.map_map]
  have : ((fun n : Int => n.toNat.toUInt8) ∘ fun b : UInt8 => (b.toNat : Int)) = id := by funext b; simp
  rw [this, List.map_id]
/-- The room for a paste's bytes, so many of them read. -/
def psL (t : List UInt8) (n : Nat) : List Int := uL t ++ List.replicate (n - t.length) 0
theorem psL_len (t : List UInt8) (n : Nat) (h : t.length ≤ n) : (psL t n).length = n := by simp [psL, uL]; omega
theorem psL_set (t : List UInt8) (n : Nat) (b : UInt8) (h : t.length < n) : (psL t n).set t.length (b.toNat : Int) = psL (t ++ [b]) n := by
  have hl : (uL t).length = t.length := by simp [uL]
  unfold psL
  rw [List.set_append_right _ _ (by omega), hl, Nat.sub_self]
  obtain ⟨m, hm⟩ : ∃ m, n - t.length = m + 1 := ⟨n - t.length - 1, by omega⟩
  have hm2 : n - (t ++ [b]).length = m := by simp; omega
  rw [hm, hm2, List.replicate_succ, List.set_cons_zero]
  simp [uL]
theorem psL_full (t : List UInt8) (n : Nat) (h : t.length = n) : psL t n = uL t := by unfold psL; rw [h, Nat.sub_self]; simp
theorem bp_step (l : List UInt8) (n k : Nat) (h : k < n) (he : uhE ((l.drop (2 * k)).take 2) = 0) : bpOf l (n - k) k = (bpOf l (n - (k + 1)) (k + 1)).map fun r => (uhR ((l.drop (2 * k)).take 2)).toNat.toUInt8 :: r := by
  rw [show n - k = (n - (k + 1)) + 1 by omega, bpOf, if_pos he]
theorem bp_stop (l : List UInt8) (n k : Nat) (h : k < n) (he : ¬ uhE ((l.drop (2 * k)).take 2) = 0) : bpOf l (n - k) k = none := by
  rw [show n - k = (n - (k + 1)) + 1 by omega, bpOf, if_neg he]
theorem bp_done (l : List UInt8) (n : Nat) : bpOf l (n - n) n = some [] := by rw [Nat.sub_self]; rfl
theorem ps_none {l : List UInt8} (h : bpOf (psCut l).1 ((psCut l).1.length / 2) 0 = none) : psOf l = k0 := by unfold psOf; rw [h]
theorem ps_some {l t : List UInt8} (h : bpOf (psCut l).1 ((psCut l).1.length / 2) 0 = some t) : psOf l = (15, 0, mkS t, (psCut l).2) := by unfold psOf; rw [h]
theorem cutS_list (s : ByteArray) : (cutS s).data.toList = (psCut s.data.toList).1 := by simp [cutS, mkS]
theorem cutS_size (s : ByteArray) : (cutS s).size ≤ s.size := by
  rw [← list_size, cutS_list, ← list_size]
  unfold psCut; split
  · simp
  · simp
def psN2 (s : ByteArray) : Nat := (cutS s).size / 2
theorem ps_none2 {s : ByteArray} (h : bpOf (cutS s).data.toList (psN2 s) 0 = none) : psOf s.data.toList = k0 := by
  apply ps_none; rw [← cutS_list, list_size]; exact h
theorem ps_some2 {s : ByteArray} {t : List UInt8} (h : bpOf (cutS s).data.toList (psN2 s) 0 = some t) : psOf s.data.toList = (15, 0, mkS t, cutB s) := by
  apply ps_some; rw [← cutS_list, list_size]; exact h
theorem u8_wrap {b : Int} (h : 0 ≤ b) : IntKind.u8.wrap b = ((b.toNat.toUInt8).toNat : Int) := by
  rw [show IntKind.u8.wrap b = b % 256 by first | rfl | (simp [IntKind.wrap]; done) | (unfold IntKind.wrap; simp [IntKind.bits, IntKind.signed]; omega)]
  simp
  omega
theorem u8_list {w : World} {g n : Nat} {t : List UInt8} {ty : TypeId} {f : Nat × Nat} (h : w.heap[g]? = some (.cells (uRow (psL t n)) ty f)) (hl : t.length = n) :
    ∀ dst, Tryd.prog.underlying dst = some .string → (convert 39 dst (.slice (some ⟨g, 0, none⟩) n n)).run Tryd.prog w = .ok (.string (mkS t)) w := by
  rw [psL_full t n hl] at h
  have hu : (uL t).length = n := by simp [uL]; exact hl
  have := conv_lit (w := w) (g := g) (k := n) (c := n) (uL t) hu.symm (fun i hi => by rw [Nat.zero_add]; exact u_cell h (by omega))
  rwa [txt_uL] at this
end Go.Proofs.YtdafcjjlkjngmaaDoor
set_option linter.unusedVariables false
set_option linter.unusedSimpArgs false
namespace Go.Proofs.YtdafcjjlkjngmaaDoor
open Go.RowKit
/-- From a row on: which is of a name. -/
def kNFrom (l : List UInt8) (k : Nat) : Option KRow := (kTab.drop k).find? fun r => r.2.2.1 == l
theorem kNFrom_step (l : List UInt8) (k : Nat) (hk : k < 13) : kNFrom l k = if (kTab.getD k kr0).2.2.1 = l then some (kTab.getD k kr0) else kNFrom l (k + 1) := by
  unfold kNFrom
  have hk' : k < kTab.length := hk
  rw [List.drop_eq_getElem_cons hk', List.find?_cons]
  have e : kTab.getD k kr0 = kTab[k] := by rw [List.getD, List.getElem?_eq_getElem hk']; rfl
  rw [e]
  by_cases h : (kTab[k]).2.2.1 = l
  · rw [if_pos h, show ((kTab[k]).2.2.1 == l) = true by rw [h]; simp]
  · rw [if_neg h, show ((kTab[k]).2.2.1 == l) = false by simpa using h]
theorem kN_hit {l : List UInt8} {k : Nat} {r : KRow} (h : kNFrom l k = kNamed l) (hk : k < 13) (e : kTab.getD k kr0 = r) (h1 : r.2.2.1 = l) : kNamed l = some r := by
  rw [← h, kNFrom_step l k hk, e, if_pos h1]
theorem kN_miss {l : List UInt8} {k : Nat} {r : KRow} (h : kNFrom l k = kNamed l) (hk : k < 13) (e : kTab.getD k kr0 = r) (h1 : ¬ r.2.2.1 = l) : kNFrom l (k + 1) = kNamed l := by
  rw [← h, kNFrom_step l k hk, e, if_neg h1]
theorem kN_end {l : List UInt8} (h : kNFrom l 13 = kNamed l) : kNamed l = none := by rw [← h]; rfl
theorem pre_iff (l p : List UInt8) : Lib.hasPrefix l p = true ↔ p <+: l := by unfold Lib.hasPrefix; exact List.isPrefixOf_iff_prefix
theorem kyOf_named {l : List UInt8} {r : KRow} (h : kNamed l = some r) : kyOf l = (r.1, r.2.1, ⟨#[]⟩, false) := by unfold kyOf; rw [h]
theorem pre_no {l p : List UInt8} (h : Lib.hasPrefix l p = false) : ¬ p <+: l := fun h2 => by rw [(pre_iff l p).2 h2] at h; cases h
theorem kyOf_p {l : List UInt8} (h : kNamed l = none) (h1 : Lib.hasPrefix l [80, 45] = true) : kyOf l = psOf (l.drop 2) := by
  unfold kyOf; rw [h]; dsimp only; rw [if_pos ((pre_iff _ _).1 h1)]
theorem kyOf_mc {l : List UInt8} (h : kNamed l = none) (h1 : Lib.hasPrefix l [80, 45] = false) (h2 : Lib.hasPrefix l [77, 45, 67, 45] = true) : kyOf l = (3, ctOf (l.drop 2), ⟨#[]⟩, false) := by
  unfold kyOf; rw [h]; dsimp only; rw [if_neg (pre_no h1), if_pos ((pre_iff _ _).1 h2)]
theorem kyOf_m {l : List UInt8} (h : kNamed l = none) (h1 : Lib.hasPrefix l [80, 45] = false) (h2 : Lib.hasPrefix l [77, 45, 67, 45] = false) (h3 : Lib.hasPrefix l [77, 45] = true) : kyOf l = (3, sgOf (l.drop 2), ⟨#[]⟩, false) := by
  unfold kyOf; rw [h]; dsimp only; rw [if_neg (pre_no h1), if_neg (pre_no h2), if_pos ((pre_iff _ _).1 h3)]
theorem kyOf_c {l : List UInt8} (h : kNamed l = none) (h1 : Lib.hasPrefix l [80, 45] = false) (h2 : Lib.hasPrefix l [77, 45, 67, 45] = false) (h3 : Lib.hasPrefix l [77, 45] = false) (h4 : Lib.hasPrefix l [67, 45] = true) : kyOf l = (2, ctOf l, ⟨#[]⟩, false) := by
  unfold kyOf; rw [h]; dsimp only; rw [if_neg (pre_no h1), if_neg (pre_no h2), if_neg (pre_no h3), if_pos ((pre_iff _ _).1 h4)]
theorem kyOf_s {l : List UInt8} (h : kNamed l = none) (h1 : Lib.hasPrefix l [80, 45] = false) (h2 : Lib.hasPrefix l [77, 45, 67, 45] = false) (h3 : Lib.hasPrefix l [77, 45] = false) (h4 : Lib.hasPrefix l [67, 45] = false) : kyOf l = (1, sgOf l, ⟨#[]⟩, false) := by
  unfold kyOf; rw [h]; dsimp only; rw [if_neg (pre_no h1), if_neg (pre_no h2), if_neg (pre_no h3), if_neg (pre_no h4)]
/-- What stands behind two bytes. -/
def rest2 (s : ByteArray) : ByteArray := s.extract 2 s.size
theorem rest2_list (s : ByteArray) : (rest2 s).data.toList = s.data.toList.drop 2 := by
  unfold rest2; rw [ext_list, List.take_of_length_le]; rw [List.length_drop, list_size]; omega
theorem rest2_nil (s : ByteArray) (h : ¬ 2 < s.size) : rest2 s = ⟨#[]⟩ := by
  apply kzero; unfold rest2; rw [ByteArray.size_extract]; omega
/-- The reference's rule for which keys may be. -/
theorem kFind_iff (kind v : Int) : (kFind kind v).isSome = decide ((kind = 4 ∧ (v = 13 ∨ v = 10)) ∨ (5 ≤ kind ∧ kind ≤ 14 ∧ v = 0) ∨ (kind = 14 ∧ v = 1)) := by
  unfold kFind
  rw [Bool.eq_iff_iff, List.find?_isSome, decide_eq_true_iff]
  simp only [kTab, kIs, List.mem_cons, List.not_mem_nil, or_false, exists_eq_or_imp, exists_eq_left, Bool.and_eq_true, beq_iff_eq]
  omega
end Go.Proofs.YtdafcjjlkjngmaaDoor
set_option linter.unusedVariables false
set_option linter.unusedSimpArgs false
namespace Go.Proofs.YtdafcjjlkjngmaaDoor
open Go.RowKit
theorem may_other2 (kind v : Int) (h1 : kind ≠ 1) (h2 : kind ≠ 2) (h3 : kind ≠ 3) : kmB kind v = decide ((kind = 4 ∧ (v = 13 ∨ v = 10)) ∨ (5 ≤ kind ∧ kind ≤ 14 ∧ v = 0) ∨ (kind = 14 ∧ v = 1)) := by
  rw [may_other kind v h1 h2 h3, kFind_iff]
theorem rm4 (v : Int) : kmB 4 v = (decide (v = 10) || decide (v = 13)) := by
  rw [may_other2 _ _ (by decide) (by decide) (by decide), Bool.eq_iff_iff, decide_eq_true_iff]; simp; try omega
theorem rm14 (v : Int) : kmB 14 v = (decide (v = 0) || decide (v = 1)) := by
  rw [may_other2 _ _ (by decide) (by decide) (by decide), Bool.eq_iff_iff, decide_eq_true_iff]; simp; try omega
theorem rmo (kind v : Int) (h1 : kind ≠ 1) (h2 : kind ≠ 2) (h3 : kind ≠ 3) (h4 : kind ≠ 4) (h14 : kind ≠ 14) : kmB kind v = (decide (5 ≤ kind) && decide (kind ≤ 13) && decide (v = 0)) := by
  rw [may_other2 _ _ h1 h2 h3, Bool.eq_iff_iff, decide_eq_true_iff]; simp; try omega
set_option maxHeartbeats 4000000 in
theorem rmay_ref (k : Ky) (w : World) : Calls Tryd.prog 41 #[kyV k] w fun e w' => e = .returned (.bool (keyB k)) ∧ Below w.heap.size w w' := by
  obtain ⟨kind, v, t, c⟩ := k
  show Calls _ _ #[.agg #[.int .i64 kind, .int .i64 v, .string t, .bool c]] _ _
  have B0 := below_alloc w (.cells #[.int .i64 kind, .int .i64 v, .string t, .bool c] 44)
  by_cases h15 : kind = 15
  · subst h15
    rw [key_paste]
    by_cases hv : v = 0
    · subst hv
      have ht' : (t.size ≤ 65536) ↔ ((t.size : Int) ≤ 65536) := by omega
      rw [show decide (t.size ≤ 65536) = decide ((t.size : Int) ≤ 65536) by simp [ht']]
      go_enter Tryd.func41, Tryd.ntmps41
      go_wp2_with fail
      go_ret
      exact ⟨by simp, B0⟩
    · rw [decide_eq_false hv]
      go_enter Tryd.func41, Tryd.ntmps41
      go_wp2_with fail
      go_ret
      exact ⟨rfl, B0⟩
  rw [key_other _ _ _ _ h15]
  by_cases ht : t = ⟨#[]⟩
  · subst ht
    cases c with
    | true =>
      rw [show (decide ((⟨#[]⟩ : ByteArray).size = 0) && !true && kmB kind v) = false by simp]
      go_enter Tryd.func41, Tryd.ntmps41
      go_wp2_with fail
      go_ret
      exact ⟨rfl, B0⟩
    | false =>
      rw [show (decide ((⟨#[]⟩ : ByteArray).size = 0) && !false && kmB kind v) = kmB kind v by show (decide (0 = 0) && !false && kmB kind v) = _; simp]
      by_cases h1 : kind = 1
      · subst h1
        rw [may_sign]
        have R := Lib.hid fun w => right_ref v w
        by_cases h32 : 32 ≤ v
        · by_cases h127 : v = 127
          · subst h127
            go_enter Tryd.func41, Tryd.ntmps41
            go_wp2_with fail
            go_ret
            exact ⟨rfl, B0⟩
          · rw [decide_eq_true h32, decide_eq_true h127]
            go_enter Tryd.func41, Tryd.ntmps41
            go_wp2_with (go_at_call 75; refine (R.out _).mono ?_; rintro e w1 ⟨rfl, rfl⟩)
            go_ret
            refine ⟨?_, B0⟩
            show Ending.returned (.bool (v != 127 && rightB v)) = _
            rw [show (v != 127) = true by simp [h127]]
            rfl
        · rw [decide_eq_false h32]
          go_enter Tryd.func41, Tryd.ntmps41
          go_wp2_with fail
          go_ret
          exact ⟨rfl, B0⟩
      by_cases h2 : kind = 2
      · subst h2
        rw [may_ctrl]
        have R := Lib.hid fun w => control_ref v w
        go_enter Tryd.func41, Tryd.ntmps41
        go_wp2_with (go_at_call 76; refine (R.out _).mono ?_; rintro e w1 ⟨rfl, hb1⟩)
        go_ret
        exact ⟨rfl, seqB B0 hb1⟩
      by_cases h3 : kind = 3
      · subst h3
        rw [may_meta]
        have R := fun w => control_ref v w
        by_cases hc : ctB v = true
        · rw [hc] at R
          have e : (decide (0 ≤ v ∧ v < 128) && !lnB v) = true := by
            unfold ctB at hc
            simp at hc
            rw [hc.2, decide_eq_true (by omega)]; rfl
          rw [e]
          replace R := Lib.hid R
          clear e hc
          go_enter Tryd.func41, Tryd.ntmps41
          go_wp2_with (go_at_call 76; refine (R.out _).mono ?_; rintro e w1 ⟨rfl, hb1⟩)
          go_ret
          exact ⟨rfl, seqB B0 hb1⟩
        · have hc' : ctB v = false := by simpa using hc
          have Q0 := Lib.hid (heap_alloc_new w (.cells #[.int .i64 3, .int .i64 v, .string ⟨#[]⟩, .bool false] 44))
          rw [hc'] at R
          have e : (decide (0 ≤ v ∧ v < 128) && !lnB v) = (decide (32 ≤ v) && decide (v ≤ 127)) := by
            unfold ctB at hc'
            by_cases h32 : 32 ≤ v
            · rw [lnB_no (by omega), decide_eq_true h32]
              by_cases h7 : v ≤ 127
              · rw [decide_eq_true (by omega), decide_eq_true h7]; rfl
              · rw [decide_eq_false (by omega), decide_eq_false h7]; rfl
            · rw [decide_eq_false h32]
              by_cases h0 : 0 ≤ v
              · rw [decide_eq_true (by omega)] at hc'
                rw [decide_eq_true (by omega)]
                exact hc'
              · rw [decide_eq_false (by omega)]; rfl
          rw [e]
          replace R := Lib.hid R
          clear e hc hc'
          by_cases h32 : 32 ≤ v
          · rw [decide_eq_true h32]
            go_enter Tryd.func41, Tryd.ntmps41
            go_wp2_with (go_at_call 76; refine (R.out _).mono ?_; rintro e w1 ⟨rfl, hb1⟩; have q1 := blk_below Q0.out hb1; have y := fun i => cell_of_row _ _ i _ _ _ q1; have y1 := y 1; clear y q1; dsimp at y1)
            go_ret
            exact ⟨by simp, seqB B0 hb1⟩
          · rw [decide_eq_false h32]
            go_enter Tryd.func41, Tryd.ntmps41
            go_wp2_with (go_at_call 76; refine (R.out _).mono ?_; rintro e w1 ⟨rfl, hb1⟩; have q1 := blk_below Q0.out hb1; have y := fun i => cell_of_row _ _ i _ _ _ q1; have y1 := y 1; clear y q1; dsimp at y1)
            go_ret
            exact ⟨rfl, seqB B0 hb1⟩
      by_cases h4 : kind = 4
      · subst h4
        rw [rm4]
        by_cases hv : v = 10
        · subst hv
          go_enter Tryd.func41, Tryd.ntmps41
          go_wp2_with fail
          go_ret
          exact ⟨rfl, B0⟩
        · rw [decide_eq_false hv]
          go_enter Tryd.func41, Tryd.ntmps41
          go_wp2_with fail
          go_ret
          refine ⟨?_, B0⟩
          by_cases hw : v = 13 <;> simp [hw, hv]
      by_cases h14 : kind = 14
      · subst h14
        rw [rm14]
        by_cases hv : v = 0
        · subst hv
          go_enter Tryd.func41, Tryd.ntmps41
          go_wp2_with fail
          go_ret
          exact ⟨rfl, B0⟩
        · rw [decide_eq_false hv]
          go_enter Tryd.func41, Tryd.ntmps41
          go_wp2_with fail
          go_ret
          refine ⟨?_, B0⟩
          by_cases hw : v = 1 <;> simp [hw, hv]
      rw [rmo kind v h1 h2 h3 h4 h14]
      by_cases h5 : 5 ≤ kind
      · by_cases h13 : kind ≤ 13
        · rw [decide_eq_true h5, decide_eq_true h13]
          go_enter Tryd.func41, Tryd.ntmps41
          go_wp2_with fail
          go_ret
          refine ⟨?_, B0⟩
          by_cases hw : v = 0 <;> simp [hw]
        · rw [decide_eq_false h13]
          go_enter Tryd.func41, Tryd.ntmps41
          go_wp2_with fail
          go_ret
          exact ⟨by simp, B0⟩
      · rw [decide_eq_false h5]
        go_enter Tryd.func41, Tryd.ntmps41
        go_wp2_with fail
        go_ret
        exact ⟨by simp, B0⟩
  · rw [show (decide (t.size = 0) && !c && kmB kind v) = false by rw [decide_eq_false (fun h => ht (kzero h))]; rfl]
    have s3 : ¬ t.toList = [] := kstr_nil ht
    go_enter Tryd.func41, Tryd.ntmps41
    go_wp2_with fail
    go_ret
    exact ⟨rfl, B0⟩
end Go.Proofs.YtdafcjjlkjngmaaDoor
set_option linter.unusedVariables false
set_option linter.unusedSimpArgs false
namespace Go.Proofs.YtdafcjjlkjngmaaDoor
open Go.RowKit
theorem rhex1 (v : Int) (w : World) (h0 : 0 ≤ v) (h1 : v ≤ 9223372036854775807) : Calls Tryd.prog 59 #[.int .i64 v, .int .i64 1] w fun e w' => e = .returned (.string (mkS (hexN v 1))) ∧ w = w' :=
  hex_ref 16 v 1 w h0 h1 (by omega) (by omega) (by omega) (by omega)
theorem rhex2 (v : Int) (w : World) (h0 : 0 ≤ v) (h1 : v ≤ 9223372036854775807) : Calls Tryd.prog 59 #[.int .i64 v, .int .i64 2] w fun e w' => e = .returned (.string (mkS (hexN v 2))) ∧ w = w' :=
  hex_ref 16 v 2 w h0 h1 (by omega) (by omega) (by omega) (by omega)
theorem conv1 (v : Int) (w : World) (o : Obj) : ∀ dst, Tryd.prog.underlying dst = some .string → (convert 39 dst (.slice (some ⟨w.heap.size + 1, 0, none⟩) 1 1)).run Tryd.prog ((w.alloc o).alloc (Obj.cells #[.int .u8 v] 5)) = .ok (.string (txt [v])) ((w.alloc o).alloc (Obj.cells #[.int .u8 v] 5)) := by
  have h := conv_new (w.alloc o) [v] 1 rfl
  rwa [show (w.alloc o).heap.size = w.heap.size + 1 by simp] at h
theorem conv2 (u v : Int) (w : World) (o : Obj) : ∀ dst, Tryd.prog.underlying dst = some .string → (convert 39 dst (.slice (some ⟨w.heap.size + 1, 0, none⟩) 2 2)).run Tryd.prog ((w.alloc o).alloc (Obj.cells #[.int .u8 u, .int .u8 v] 5)) = .ok (.string (txt [u, v])) ((w.alloc o).alloc (Obj.cells #[.int .u8 u, .int .u8 v] 5)) := by
  have h := conv_new (w.alloc o) [u, v] 2 rfl
  rwa [show (w.alloc o).heap.size = w.heap.size + 1 by simp] at h
/-- What a value is named by the reference. -/
def svN (v : Int) : List UInt8 := if 32 ≤ v then sgN v else ctN v
theorem kTab_row : ∀ r ∈ kTab, kRowOf r.1 r.2.1 = r := by decide
end Go.Proofs.YtdafcjjlkjngmaaDoor
set_option linter.unusedVariables false
set_option linter.unusedSimpArgs false
namespace Go.Proofs.YtdafcjjlkjngmaaDoor
open Go.RowKit
theorem kpre_any (s : ByteArray) (p : List UInt8) (b : Bool) (h : Lib.hasPrefix s.data.toList p = b) (w : World) : Calls Tryd.prog 57 #[.string s, .string (mkS p)] w fun e w' => e = .returned (.bool b) ∧ w = w' :=
  (Tryd.strings_HasPrefix s (mkS p) w).mono fun e w' hh => ⟨by rw [hh.1, ← h], hh.2.symm⟩
end Go.Proofs.YtdafcjjlkjngmaaDoor
set_option linter.unusedVariables false
set_option linter.unusedSimpArgs false
namespace Go.Proofs.YtdafcjjlkjngmaaDoor
open Go.RowKit
def PrPost (l : List UInt8) (w : World) (e : Ending) (w' : World) : Prop := e = .returned (.tuple #[kyV (prK l), .int .i64 (prE l)]) ∧ Below w.heap.size w w'
theorem pr_no {l : List UInt8} {w w' : World} (h : prOk l = false) (hb : Below w.heap.size w w') : PrPost l w (.returned (.tuple #[.agg #[.int .i64 0, .int .i64 0, .string ⟨#[]⟩, .bool false], .int .i64 6])) w' := by
  unfold PrPost prK prE; rw [h]; exact ⟨rfl, hb⟩
theorem pr_yes {l : List UInt8} {w w' : World} {k : Ky} (h : prOk l = true) (hk : kyOf l = k) (hb : Below w.heap.size w w') : PrPost l w (.returned (.tuple #[.agg #[.int .i64 k.1, .int .i64 k.2.1, .string k.2.2.1, .bool k.2.2.2], .int .i64 0])) w' := by
  unfold PrPost prK prE; rw [h, if_pos rfl, if_pos rfl, hk]; exact ⟨rfl, hb⟩
end Go.Proofs.YtdafcjjlkjngmaaDoor
set_option linter.unusedVariables false
set_option linter.unusedSimpArgs false
namespace Go.Proofs.YtdafcjjlkjngmaaDoor
open Go.RowKit
theorem ktoL_ne {a b : ByteArray} (h : ¬ a = b) : ¬ a.toList = b.toList := by
  rw [ByteArray.toList_eq, ByteArray.toList_eq]; intro e; exact h (ByteArray.ext (Array.ext' e))
set_option maxHeartbeats 1000000 in
theorem eqKey (a b : Int) (t : ByteArray) (c : Bool) (a' b' : Int) (t' : ByteArray) (c' : Bool) (w : World) : (binOp .eql 44 (.agg #[.int .i64 a, .int .i64 b, .string t, .bool c]) (.agg #[.int .i64 a', .int .i64 b', .string t', .bool c'])).run Tryd.prog w = .ok (.bool (decide (((a, b, t, c) : Ky) = (a', b', t', c')))) w := by
  by_cases h1 : a = a'
  · by_cases h2 : b = b'
    · by_cases h3 : t = t'
      · by_cases h4 : c = c'
        · subst h1; subst h2; subst h3; subst h4
          simp [go_sem]
        · simp [go_sem, h1, h2, h3, h4]
      · simp [go_sem, h1, h2, h3, ktoL_ne h3]
    · simp [go_sem, h1, h2]
  · simp [go_sem, h1]
theorem eqKey_same (a b : Int) (t : ByteArray) (c : Bool) (w : World) : (binOp .eql 44 (.agg #[.int .i64 a, .int .i64 b, .string t, .bool c]) (.agg #[.int .i64 a, .int .i64 b, .string t, .bool c])).run Tryd.prog w = .ok (.bool true) w := by
  rw [eqKey, decide_eq_true rfl]
theorem ka_bytes (w : World) (hK : KT w) : Calls Tryd.prog 43 #[.agg #[.int .i64 7, .int .i64 0, .string ⟨#[]⟩, .bool false]] w fun e w' => e = .returned (.string ⟨#[27, 91, 65]⟩) ∧ Below w.heap.size w w' := by
  have h := kbytes_any (7, 0, ⟨#[]⟩, false) w hK
  unfold ByPost at h
  rw [show byR (7, 0, ⟨#[]⟩, false) = [27, 91, 65] by decide] at h
  exact h
theorem ka_check (w : World) (hK : KT w) : Calls Tryd.prog 42 #[.agg #[.int .i64 0, .int .i64 0, .string ⟨#[]⟩, .bool false]] w fun e w' => e = .returned (.int .i64 2) ∧ Below w.heap.size w w' := by
  have h := kcheck_any (0, 0, ⟨#[]⟩, false) w hK
  rw [show ckE (0, 0, ⟨#[]⟩, false) = 2 by decide] at h
  exact h
end Go.Proofs.YtdafcjjlkjngmaaDoor
set_option linter.unusedVariables false
set_option linter.unusedSimpArgs false
namespace Go.Proofs.YtdafcjjlkjngmaaDoor
open Go.RowKit
theorem rmay_t (k : Ky) (w : World) (b : Bool) (h : keyB k = b) : Calls Tryd.prog 41 #[.agg #[.int .i64 k.1, .int .i64 k.2.1, .string k.2.2.1, .bool k.2.2.2]] w fun e w' => e = .returned (.bool b) ∧ Below w.heap.size w w' := by
  subst h; exact rmay_ref k w
end Go.Proofs.YtdafcjjlkjngmaaDoor
set_option linter.unusedVariables false
set_option linter.unusedSimpArgs false
namespace Go.Proofs.YtdafcjjlkjngmaaDoor
open Go.ChangeShapes Go.WideShapes Go.ChangeAt Go.RowKit Go.Deep Go.Joins
section
variable {H : Type} {enc : TypeId × Value → H} {W : World}
theorem addS_none (b off k : Nat) : (⟨b, off, none⟩ : Addr).add k = ⟨b, off + k, none⟩ := by unfold Addr.add; split <;> simp_all
set_option maxRecDepth 100000 in
theorem cellsIntS : Tryd.prog.cellsOf 3 = 1 := by kernel_rfl
set_option maxRecDepth 100000 in
theorem cellsSign : Tryd.prog.cellsOf 216 = 2 := by kernel_rfl
set_option maxRecDepth 100000 in
theorem arg_signs0 {base : Nat} {v0 : Value} {d0 : DataW H} {p : List MemPlace} (hv : Value.okWide Tryd.prog W .any base 197 v0) (h : DataW.Trod enc Tryd.prog W 0 (fun _ => true) true 197 v0 d0 p) :
    ∃ (l : List (Int × Int)) (a : Option Addr) (c : Nat), v0 = .slice a l.length c ∧ Signs W a l ∧ l.length ≤ 9223372036854775807 ∧ (a = none → c = 0) := by
  obtain ⟨a0, len, cap, rfl⟩ := okWide_slice Tryd.underlying197 hv
  obtain ⟨fuel, hf⟩ := h
  rcases open_slice_pairs Tryd.underlying197 Tryd.underlying216 cellsSign rfl rfl cellsIntS cellsIntS hf with ⟨hcs, _⟩ | ⟨a, len', cap', m, n, V0, V1, D0, D1, P0, P1, hcs, _, hl, hm, hmm, _, hcell⟩
  · simp [Value.cells] at hcs
    obtain ⟨rfl, rfl, rfl⟩ := hcs
    exact ⟨[], none, 0, rfl, fun j hj => absurd hj (Nat.not_lt_zero j), by simp, fun _ => rfl⟩
  · simp [Value.cells] at hcs
    obtain ⟨rfl, rfl, rfl⟩ := hcs
    have hlm : len ≤ m := by rw [hmm]; split <;> omega
    have key : ∀ i, i < len → ∃ q : Int × Int, V0 i = .int .i64 q.1 ∧ V1 i = .int .i64 q.2 := fun i hi => by
      obtain ⟨_, _, h1, h2⟩ := hcell i (by omega)
      obtain ⟨x, hx, _, _⟩ := DataW.trod_int Tryd.underlying3 h1
      obtain ⟨y, hy, _, _⟩ := DataW.trod_int Tryd.underlying3 h2
      exact ⟨(x, y), by simpa using hx, by simpa using hy⟩
    obtain ⟨F, hF⟩ : ∃ F : Nat → Int × Int, ∀ i, i < len → V0 i = .int .i64 (F i).1 ∧ V1 i = .int .i64 (F i).2 :=
      ⟨fun i => if h : i < len then (key i h).choose else (0, 0), fun i hi => by simp only [dif_pos hi]; exact (key i hi).choose_spec⟩
    clear key
    refine ⟨(List.range len).map F, some a, cap, by simp, ?_, by simp; unfold maxLen at hm; omega, fun h => by cases h⟩
    intro j hj
    have hj2 : j < len := by simpa using hj
    obtain ⟨c0, c1, _, _⟩ := hcell j (by omega)
    have hk := hF j hj2
    obtain ⟨b, off, sp⟩ := a
    have hsp : sp = none := by
      obtain ⟨c00, _⟩ := hcell 0 (by omega)
      have h1 : W.cell? ⟨b, off, sp⟩ = some (V0 0) := by simpa [Addr.add] using c00
      exact cell_spot h1
    subst hsp
    rw [addS_none] at c0 c1
    have hg : ((List.range len).map F).getD j (0, 0) = F j := by
      rw [List.getD, List.getElem?_map, List.getElem?_range hj2]; rfl
    rw [hg]
    refine ⟨b, off, rfl, block_lt_of_cell c0, ?_, ?_⟩
    · rw [c0, hk.1]
    · rw [show off + j * 2 + 1 = off + (j * 2 + 1) by omega, c1, hk.2]
theorem arg_signs {base : Nat} {v0 : Value} {d0 : DataW H} {p : List MemPlace} (hv : Value.okWide Tryd.prog W .any base 197 v0) (h : DataW.Trod enc Tryd.prog W 0 (fun _ => true) true 197 v0 d0 p) :
    ∃ (l : List (Int × Int)) (a : Option Addr) (c : Nat), v0 = .slice a l.length c ∧ Signs W a l ∧ l.length ≤ 9223372036854775807 := by
  obtain ⟨l, a, c, h1, h2, h3, _⟩ := arg_signs0 hv h
  exact ⟨l, a, c, h1, h2, h3⟩
theorem arg_sign {base : Nat} {v0 : Value} {d0 : DataW H} {p : List MemPlace} (hv : Value.okWide Tryd.prog W .any base 216 v0) (h : DataW.Trod enc Tryd.prog W 0 (fun _ => true) true 216 v0 d0 p) :
    ∃ (x y : Int), v0 = .agg #[.int .i64 x, .int .i64 y] := by
  obtain ⟨a0, a1, y0, y1, n, rfl, rfl, rfl, h0, h1⟩ := open_agg2 Tryd.underlying216 (by kernel_rfl) cellsSign hv h
  obtain ⟨x, hx, _, _⟩ := DataW.trod_int Tryd.underlying3 h0
  obtain ⟨y, hy, _, _⟩ := DataW.trod_int Tryd.underlying3 h1
  obtain rfl : a0 = .int .i64 x := by simpa using hx
  obtain rfl : a1 = .int .i64 y := by simpa using hy
  exact ⟨x, y, rfl⟩
end
end Go.Proofs.YtdafcjjlkjngmaaDoor
set_option linter.unusedVariables false
set_option linter.unusedSimpArgs false
namespace Go.Proofs.YtdafcjjlkjngmaaDoor
open Go.ChangeShapes Go.WideShapes Go.ChangeAt Go.RowKit Go.Deep Go.Joins
/-- Bytes lie in memory. -/
def U8sIn (w : World) (a : Option Addr) (l : List Int) : Prop :=
  ∀ i, i < l.length → ∃ b off, a = some ⟨b, off, none⟩ ∧ b < w.heap.size ∧ w.cell? ⟨b, off + i, none⟩ = some (.int .u8 (l.getD i 0)) ∧ 0 ≤ l.getD i 0 ∧ l.getD i 0 ≤ 255
theorem U8sIn.at {w w' : World} {a : Option Addr} {l : List Int} (h : U8sIn w a l) (hb : Below w.heap.size w w') (i : Nat) (hi : i < l.length) : ∃ b off, a = some ⟨b, off, none⟩ ∧ b < w.heap.size ∧ w'.cell? ⟨b, off + i, none⟩ = some (.int .u8 (l.getD i 0)) ∧ 0 ≤ l.getD i 0 ∧ l.getD i 0 ≤ 255 := by
  obtain ⟨b, off, e, hlt, h1, h2⟩ := h i hi
  exact ⟨b, off, e, hlt, (hb.cell (p := ⟨b, off + i, none⟩) hlt).trans h1, h2⟩
theorem u8_bounds {x : Int} (h : (Lit.int .u8 x).wf = true) : 0 ≤ x ∧ x ≤ 255 := by
  simp [Lit.wf, IntKind.min, IntKind.max, IntKind.signed, IntKind.bits] at h
  omega
theorem cell_spot8 {w : World} {b off : Nat} {sp : Option Nat} {x : Int} (h : w.cell? ⟨b, off, sp⟩ = some (.int .u8 x)) : sp = none := by
  cases sp with
  | none => rfl
  | some k =>
    exfalso
    unfold World.cell? at h
    split at h <;> simp_all
section
variable {H : Type} {enc : TypeId × Value → H} {W : World}
set_option maxRecDepth 100000 in
theorem cellsU8A : Tryd.prog.cellsOf 5 = 1 := by kernel_rfl
set_option maxRecDepth 100000 in
theorem arg_u8s {base : Nat} {v0 : Value} {d0 : DataW H} {p : List MemPlace} (hv : Value.okWide Tryd.prog W .any base 39 v0) (h : DataW.Trod enc Tryd.prog W 0 (fun _ => true) true 39 v0 d0 p) :
    ∃ (l : List Int) (a : Option Addr) (c : Nat), v0 = .slice a l.length c ∧ U8sIn W a l ∧ l.length ≤ 9223372036854775807 := by
  obtain ⟨a0, len, cap, rfl⟩ := okWide_slice Tryd.underlying39 hv
  obtain ⟨fuel, hf⟩ := h
  rcases open_slice Tryd.underlying39 hf with ⟨hcs, _⟩ | ⟨a, len', cap', m, n, D, Pl, hcs, _, hl, hm, hmm, _, hx⟩
  · simp [Value.cells] at hcs
    obtain ⟨rfl, rfl, rfl⟩ := hcs
    exact ⟨[], none, 0, rfl, fun j hj => absurd hj (Nat.not_lt_zero j), by simp⟩
  · simp [Value.cells] at hcs
    obtain ⟨rfl, rfl, rfl⟩ := hcs
    have hlm : len ≤ m := by rw [hmm]; split <;> omega
    have key : ∀ i, i < len → ∃ q : Int, W.cell? (a.add i) = some (.int .u8 q) ∧ 0 ≤ q ∧ q ≤ 255 := by
      intro i hi
      obtain ⟨cs', h1, h2⟩ := hx i (by omega)
      rw [cellsU8A] at h1
      obtain ⟨_, hlen, hcell⟩ := World.cells?_some h1
      obtain ⟨x0, hx0, _, wn⟩ := DataW.trod_int Tryd.underlying5 h2
      have e0 := hcell 0 (by omega)
      rw [add_add] at e0
      exact ⟨x0, by simpa [hx0] using e0, u8_bounds wn⟩
    obtain ⟨F, hF⟩ : ∃ F : Nat → Int, ∀ i, i < len → W.cell? (a.add i) = some (.int .u8 (F i)) ∧ 0 ≤ F i ∧ F i ≤ 255 :=
      ⟨fun i => if h : i < len then (key i h).choose else 0, fun i hi => by simp only [dif_pos hi]; exact (key i hi).choose_spec⟩
    clear key
    refine ⟨(List.range len).map F, some a, cap, by simp, ?_, by simp; unfold maxLen at hm; omega⟩
    intro j hj
    have hj2 : j < len := by simpa using hj
    obtain ⟨c0, c1⟩ := hF j hj2
    obtain ⟨b, off, sp⟩ := a
    have hsp : sp = none := by
      obtain ⟨c00, _⟩ := hF 0 (by omega)
      have h1 : W.cell? ⟨b, off, sp⟩ = some (.int .u8 (F 0)) := by simpa [Addr.add] using c00
      exact cell_spot8 h1
    subst hsp
    have hadd : (⟨b, off, none⟩ : Addr).add j = ⟨b, off + j, none⟩ := by unfold Addr.add; split <;> simp_all
    rw [hadd] at c0
    have hg : ((List.range len).map F).getD j 0 = F j := by
      rw [List.getD, List.getElem?_map, List.getElem?_range hj2]; rfl
    rw [hg]
    exact ⟨b, off, rfl, block_lt_of_cell c0, c0, c1⟩
end
end Go.Proofs.YtdafcjjlkjngmaaDoor
