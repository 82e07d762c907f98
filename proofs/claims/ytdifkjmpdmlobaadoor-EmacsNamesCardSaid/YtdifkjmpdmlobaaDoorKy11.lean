/-
  Keys: which key a name is of: the table's names, and the beginnings. No program is walked.
-/
import Derived.Test.YtdifkjmpdmlobaaDoorKy9
set_option linter.unusedVariables false
set_option linter.unusedSimpArgs false
namespace Go.Proofs.YtdifkjmpdmlobaaDoor
set_option maxRecDepth 100000
open Go.RowKit
/-- From a row on: which is of a name. -/
def kNFrom (l : List UInt8) (k : Nat) : Option KRow := (kTab.drop k).find? fun r => r.2.2.1 == l
theorem kNFrom_step (l : List UInt8) (k : Nat) (hk : k < 13) : kNFrom l k = if (kTab.getD k kr0).2.2.1 = l then some (kTab.getD k kr0) else kNFrom l (k + 1) := by
  unfold kNFrom
  have hk' : k < kTab.length := hk
  rw [List.drop_eq_getElem_cons hk', List.find?_cons]
  have e : kTab.getD k kr0 = kTab[k] := by rw [List.getD, List.getElem?_eq_getElem hk']; rfl
  rw [e]
  by_cases h : (kTab[k]).2.2.1 = l
  · rw [if_pos h, show ((kTab[k]).2.2.1 == l) = true by rw [h]; simp]
  · rw [if_neg h, show ((kTab[k]).2.2.1 == l) = false by simpa using h]
theorem kN_hit {l : List UInt8} {k : Nat} {r : KRow} (h : kNFrom l k = kNamed l) (hk : k < 13) (e : kTab.getD k kr0 = r) (h1 : r.2.2.1 = l) : kNamed l = some r := by
  rw [← h, kNFrom_step l k hk, e, if_pos h1]
theorem kN_miss {l : List UInt8} {k : Nat} {r : KRow} (h : kNFrom l k = kNamed l) (hk : k < 13) (e : kTab.getD k kr0 = r) (h1 : ¬ r.2.2.1 = l) : kNFrom l (k + 1) = kNamed l := by
  rw [← h, kNFrom_step l k hk, e, if_neg h1]
theorem kN_end {l : List UInt8} (h : kNFrom l 13 = kNamed l) : kNamed l = none := by rw [← h]; rfl
theorem pre_iff (l p : List UInt8) : Lib.hasPrefix l p = true ↔ p <+: l := by unfold Lib.hasPrefix; exact List.isPrefixOf_iff_prefix
theorem kyOf_named {l : List UInt8} {r : KRow} (h : kNamed l = some r) : kyOf l = (r.1, r.2.1, ⟨#[]⟩, false) := by unfold kyOf; rw [h]
theorem pre_no {l p : List UInt8} (h : Lib.hasPrefix l p = false) : ¬ p <+: l := fun h2 => by rw [(pre_iff l p).2 h2] at h; cases h
theorem kyOf_p {l : List UInt8} (h : kNamed l = none) (h1 : Lib.hasPrefix l [80, 45] = true) : kyOf l = psOf (l.drop 2) := by
  unfold kyOf; rw [h]; dsimp only; rw [if_pos ((pre_iff _ _).1 h1)]
theorem kyOf_mc {l : List UInt8} (h : kNamed l = none) (h1 : Lib.hasPrefix l [80, 45] = false) (h2 : Lib.hasPrefix l [77, 45, 67, 45] = true) : kyOf l = (3, ctOf (l.drop 2), ⟨#[]⟩, false) := by
  unfold kyOf; rw [h]; dsimp only; rw [if_neg (pre_no h1), if_pos ((pre_iff _ _).1 h2)]
theorem kyOf_m {l : List UInt8} (h : kNamed l = none) (h1 : Lib.hasPrefix l [80, 45] = false) (h2 : Lib.hasPrefix l [77, 45, 67, 45] = false) (h3 : Lib.hasPrefix l [77, 45] = true) : kyOf l = (3, sgOf (l.drop 2), ⟨#[]⟩, false) := by
  unfold kyOf; rw [h]; dsimp only; rw [if_neg (pre_no h1), if_neg (pre_no h2), if_pos ((pre_iff _ _).1 h3)]
theorem kyOf_c {l : List UInt8} (h : kNamed l = none) (h1 : Lib.hasPrefix l [80, 45] = false) (h2 : Lib.hasPrefix l [77, 45, 67, 45] = false) (h3 : Lib.hasPrefix l [77, 45] = false) (h4 : Lib.hasPrefix l [67, 45] = true) : kyOf l = (2, ctOf l, ⟨#[]⟩, false) := by
  unfold kyOf; rw [h]; dsimp only; rw [if_neg (pre_no h1), if_neg (pre_no h2), if_neg (pre_no h3), if_pos ((pre_iff _ _).1 h4)]
theorem kyOf_s {l : List UInt8} (h : kNamed l = none) (h1 : Lib.hasPrefix l [80, 45] = false) (h2 : Lib.hasPrefix l [77, 45, 67, 45] = false) (h3 : Lib.hasPrefix l [77, 45] = false) (h4 : Lib.hasPrefix l [67, 45] = false) : kyOf l = (1, sgOf l, ⟨#[]⟩, false) := by
  unfold kyOf; rw [h]; dsimp only; rw [if_neg (pre_no h1), if_neg (pre_no h2), if_neg (pre_no h3), if_neg (pre_no h4)]
/-- What stands behind two bytes. -/
def rest2 (s : ByteArray) : ByteArray := s.extract 2 s.size
theorem rest2_list (s : ByteArray) : (rest2 s).data.toList = s.data.toList.drop 2 := by
  unfold rest2; rw [ext_list, List.take_of_length_le]; rw [List.length_drop, list_size]; omega
theorem rest2_nil (s : ByteArray) (h : ¬ 2 < s.size) : rest2 s = ⟨#[]⟩ := by
  apply kzero; unfold rest2; rw [ByteArray.size_extract]; omega
/-- The reference's rule for which keys may be. -/
theorem kFind_iff (kind v : Int) : (kFind kind v).isSome = decide ((kind = 4 ∧ (v = 13 ∨ v = 10)) ∨ (5 ≤ kind ∧ kind ≤ 14 ∧ v = 0) ∨ (kind = 14 ∧ v = 1)) := by
  unfold kFind
  rw [Bool.eq_iff_iff, List.find?_isSome, decide_eq_true_iff]
  simp only [kTab, kIs, List.mem_cons, List.not_mem_nil, or_false, exists_eq_or_imp, exists_eq_left, Bool.and_eq_true, beq_iff_eq]
  omega
end Go.Proofs.YtdifkjmpdmlobaaDoor
