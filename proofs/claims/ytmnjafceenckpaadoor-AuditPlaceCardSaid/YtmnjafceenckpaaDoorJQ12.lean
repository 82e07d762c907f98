/-
  Joined: Ky8 Ky9 Ky10 Ky11 Ky12 Ky13 Ky14.
-/
import Derived.Test.YtmnjafceenckpaaDoorJQ02
import Derived.Test.YtmnjafceenckpaaDoorJQ11
import Derived.Laws.Strings2
import Derived.Laws.BytesArg
set_option linter.unusedVariables false
set_option linter.unusedSimpArgs false
set_option maxRecDepth 100000
set_option linter.unusedVariables false
set_option linter.unusedSimpArgs false
namespace Go.Proofs.YtmnjafceenckpaaDoor
open Go.RowKit
def byR (k : Ky) : List UInt8 := if keyB k then byN k else []
def ByPost (k : Ky) (w : World) (e : Ending) (w' : World) : Prop := e = .returned (.string (mkS (byR k))) ∧ Below w.heap.size w w'
theorem byPost_no {k : Ky} {w w' : World} (h : keyB k = false) (hb : Below w.heap.size w w') : ByPost k w (.returned (.string ⟨#[]⟩)) w' := by
  unfold ByPost byR; rw [h]; exact ⟨rfl, hb⟩
theorem byPost_yes {k : Ky} {w w' : World} {s : ByteArray} (h : keyB k = true) (hs : s = mkS (byN k)) (hb : Below w.heap.size w w') : ByPost k w (.returned (.string s)) w' := by
  unfold ByPost byR; rw [h, hs]; exact ⟨rfl, hb⟩
theorem by_named (kind v : Int) (t : ByteArray) (c : Bool) (h1 : kind ≠ 1) (h2 : kind ≠ 2) (h3 : kind ≠ 3) (h15 : kind ≠ 15) : byN (kind, v, t, c) = (kRowOf kind v).2.2.2 := by
  unfold byN; dsimp only; rw [if_neg (by omega), if_neg h3, if_neg h15]
theorem txt_mk (l : List Int) : mkS (txt l).data.toList = txt l := mkS_of _
theorem by_12 (kind v : Int) (h : kind = 1 ∨ kind = 2) : mkS (byN (kind, v, ⟨#[]⟩, false)) = txt (oneI v) := by
  unfold byN; dsimp only; rw [if_pos h]
theorem by_3 (v : Int) : mkS (byN (3, v, ⟨#[]⟩, false)) = ⟨#[27]⟩ ++ txt (oneI v) := by
  unfold byN; dsimp only; rw [if_neg (by omega), if_pos rfl, show (⟨#[27]⟩ : ByteArray) = mkS [27] from rfl]
  conv => rhs; rw [← txt_mk]
  rw [mkS_app]; rfl
theorem by_15 (v : Int) (t : ByteArray) (c : Bool) : mkS (byN (15, v, t, c)) = ⟨#[27, 91, 50, 48, 48, 126]⟩ ++ t ++ ⟨#[27, 91, 50, 48, 49, 126]⟩ := by
  unfold byN; dsimp only; rw [if_neg (by omega), if_neg (by omega), if_pos rfl, show (⟨#[27, 91, 50, 48, 48, 126]⟩ : ByteArray) = mkS [27, 91, 50, 48, 48, 126] from rfl, show (⟨#[27, 91, 50, 48, 49, 126]⟩ : ByteArray) = mkS [27, 91, 50, 48, 49, 126] from rfl]
  conv => rhs; rw [← mkS_of t]
  rw [mkS_app, mkS_app]
theorem txt_one_len (v : Int) : (txt (oneI v)).size ≤ 4 := by rw [txt_size]; exact oneI_len v
theorem kTab_enter : ∀ r ∈ kTab, r.1 = 4 → r.2.1 = 13 ∨ r.2.1 = 10 := by decide
def vlI (k : Ky) : Int := if keyB k = true ∧ 0 ≤ vlN k then vlN k else 0
def vlB (k : Ky) : Bool := keyB k && decide (0 ≤ vlN k)
def VlPost (k : Ky) (w : World) (e : Ending) (w' : World) : Prop := e = .returned (.tuple #[.int .i64 (vlI k), .bool (vlB k)]) ∧ Below w.heap.size w w'
theorem vlPost_no {k : Ky} {w w' : World} (h : keyB k = false ∨ vlN k < 0) (hb : Below w.heap.size w w') : VlPost k w (.returned (.tuple #[.int .i64 0, .bool false])) w' := by
  unfold VlPost vlI vlB
  rcases h with h | h
  · rw [h]; exact ⟨rfl, hb⟩
  · rw [if_neg (fun x => by omega), decide_eq_false (by omega), Bool.and_false]; exact ⟨rfl, hb⟩
theorem vlPost_yes {k : Ky} {w w' : World} {v : Int} (h : keyB k = true) (hv : vlN k = v) (h0 : 0 ≤ v) (hb : Below w.heap.size w w') : VlPost k w (.returned (.tuple #[.int .i64 v, .bool true])) w' := by
  unfold VlPost vlI vlB
  rw [if_pos ⟨h, by omega⟩, h, decide_eq_true (by omega), hv]; exact ⟨rfl, hb⟩
end Go.Proofs.YtmnjafceenckpaaDoor
set_option linter.unusedVariables false
set_option linter.unusedSimpArgs false
namespace Go.Proofs.YtmnjafceenckpaaDoor
open Go.RowKit
theorem ext_list (s : ByteArray) (a b : Nat) : (s.extract a b).data.toList = (s.data.toList.drop a).take (b - a) := by
  have e : s = ByteArray.mk s.data.toList.toArray := by cases s; simp
  conv => lhs; rw [e]
  rw [ByteArray.extract_mk]
theorem list_size (s : ByteArray) : s.data.toList.length = s.size := Array.length_toList
theorem uh_or (l : List UInt8) : (uhE l = 0 ∧ 0 ≤ uhR l) ∨ (uhE l = 6 ∧ uhR l = 0) := by
  rcases uh_cases l with h | h
  · exact Or.inl ⟨h.2.1, by omega⟩
  · exact Or.inr ⟨h.2.1, h.2.2⟩
theorem sgOf_one (s : ByteArray) (h : s.size = 1) : sgOf s.data.toList = ((s[0]'(by omega)).toNat : Int) := by
  unfold sgOf
  rw [if_pos (by rw [list_size]; exact h)]
  obtain ⟨a⟩ := s
  obtain ⟨l⟩ := a
  match l, h with
  | [x], _ => rfl
theorem sgOf_no (s : ByteArray) (h1 : s.size ≠ 1) (h : s.size < 3) : sgOf s.data.toList = -1 := by
  unfold sgOf
  rw [if_neg (by rw [list_size]; exact h1), if_pos (Or.inl (by rw [list_size]; exact h))]
theorem head_get (s : ByteArray) (h : 0 < s.size) : s.data.toList.headD 0 = s[0] := by
  obtain ⟨a⟩ := s
  obtain ⟨l⟩ := a
  match l, h with
  | x :: _, _ => rfl
theorem sgOf_no2 (s : ByteArray) (h3 : 3 ≤ s.size) (h : ¬ ((s[0]'(by omega)).toNat : Int) = 60) : sgOf s.data.toList = -1 := by
  unfold sgOf
  rw [if_neg (by rw [list_size]; omega), if_pos (Or.inr (by rw [head_get s (by omega)]; intro e; apply h; rw [e]; rfl))]
theorem sgOf_hex (s : ByteArray) (h3 : 3 ≤ s.size) (h : ((s[0]'(by omega)).toNat : Int) = 60) : sgOf s.data.toList = if uhE (s.extract 1 (s.size - 1)).data.toList = 0 then uhR (s.extract 1 (s.size - 1)).data.toList else -1 := by
  unfold sgOf
  have h60 : s.data.toList.headD 0 = 60 := by
    rw [head_get s (by omega)]
    have : (s[0]'(by omega)).toNat = 60 := by omega
    exact UInt8.toNat_inj.1 this
  rw [if_neg (by rw [list_size]; omega), if_neg (by rw [list_size, h60]; intro hh; rcases hh with hh | hh; omega; exact hh rfl), list_size, ext_list]
  rfl
theorem ctFrom_hit (l : List UInt8) (k : Nat) (hk : k < 32) (h : ctN (k : Int) = l) : ctFrom l (32 - k) k = k := by
  rw [show 32 - k = (31 - k) + 1 by omega, ctFrom, if_pos h]
theorem ctFrom_miss (l : List UInt8) (k : Nat) (hk : k < 32) (h : ¬ ctN (k : Int) = l) : ctFrom l (32 - k) k = ctFrom l (32 - (k + 1)) (k + 1) := by
  rw [show 32 - k = (31 - k) + 1 by omega, ctFrom, if_neg h, show 31 - k = 32 - (k + 1) by omega]
theorem ctFrom_end (l : List UInt8) : ctFrom l (32 - 32) 32 = -1 := rfl
theorem mkS_eq {l : List UInt8} {s : ByteArray} (h : mkS l = s) : l = s.data.toList := by subst h; simp [mkS]
theorem last_suffix (l : List UInt8) : Lib.hasSuffix l [33] = decide (l.getLast? = some 33) := by
  unfold Lib.hasSuffix
  by_cases h : l.getLast? = some 33
  · rw [decide_eq_true h, List.isSuffixOf_iff_suffix]
    obtain ⟨r, rfl⟩ := List.getLast?_eq_some_iff.1 h
    exact List.suffix_append _ _
  · rw [decide_eq_false h]
    cases hs : [33].isSuffixOf l with
    | false => rfl
    | true =>
      obtain ⟨r, rfl⟩ := List.isSuffixOf_iff_suffix.1 hs
      simp at h
def cutS (s : ByteArray) : ByteArray := mkS (psCut s.data.toList).1
def cutB (s : ByteArray) : Bool := (psCut s.data.toList).2
end Go.Proofs.YtmnjafceenckpaaDoor
set_option linter.unusedVariables false
set_option linter.unusedSimpArgs false
namespace Go.Proofs.YtmnjafceenckpaaDoor
open Go.RowKit
def uRow (L : List Int) : Array Value := (L.map (Value.int .u8)).toArray
theorem uRow_at (L : List Int) (i : Nat) (h : i < L.length) : (uRow L)[i]? = some (.int .u8 (L.getD i 0)) := by
  rw [uRow, List.getElem?_toArray, List.getElem?_map, List.getElem?_eq_getElem h, List.getD, List.getElem?_eq_getElem h]; rfl
theorem uRow_set (L : List Int) (i : Nat) (x : Int) : (uRow L).setIfInBounds i (.int .u8 x) = uRow (L.set i x) := by
  apply Array.ext'; simp [uRow, List.map_set]
theorem made_u8 (n : Nat) : madeCells #[.int .u8 0] (n * 1) = uRow (List.replicate n 0) := by
  apply Array.ext'
  rw [toList_madeCells_one]; simp [uRow]
theorem u_cell {w : World} {g k : Nat} {L : List Int} {t : TypeId} {f : Nat × Nat} (h : w.heap[g]? = some (.cells (uRow L) t f)) (hk : k < L.length) :
    w.cell? ⟨g, k, none⟩ = some (.int .u8 (L.getD k 0)) := by
  rw [cell_of_row _ _ _ _ _ _ h, uRow_at L k hk]
def uL (t : List UInt8) : List Int := t.map fun b => (b.toNat : Int)
theorem txt_uL (t : List UInt8) : txt (uL t) = mkS t := by
  unfold txt uL mkS
  rw [List.map_map]
  have : ((fun n : Int => n.toNat.toUInt8) ∘ fun b : UInt8 => (b.toNat : Int)) = id := by funext b; simp
  rw [this, List.map_id]
/-- The room for a paste's bytes, so many of them read. -/
def psL (t : List UInt8) (n : Nat) : List Int := uL t ++ List.replicate (n - t.length) 0
theorem psL_len (t : List UInt8) (n : Nat) (h : t.length ≤ n) : (psL t n).length = n := by simp [psL, uL]; omega
theorem psL_set (t : List UInt8) (n : Nat) (b : UInt8) (h : t.length < n) : (psL t n).set t.length (b.toNat : Int) = psL (t ++ [b]) n := by
  have hl : (uL t).length = t.length := by simp [uL]
  unfold psL
  rw [List.set_append_right _ _ (by omega), hl, Nat.sub_self]
  obtain ⟨m, hm⟩ : ∃ m, n - t.length = m + 1 := ⟨n - t.length - 1, by omega⟩
  have hm2 : n - (t ++ [b]).length = m := by simp; omega
  rw [hm, hm2, List.replicate_succ, List.set_cons_zero]
  simp [uL]
theorem psL_full (t : List UInt8) (n : Nat) (h : t.length = n) : psL t n = uL t := by unfold psL; rw [h, Nat.sub_self]; simp
theorem bp_step (l : List UInt8) (n k : Nat) (h : k < n) (he : uhE ((l.drop (2 * k)).take 2) = 0) : bpOf l (n - k) k = (bpOf l (n - (k + 1)) (k + 1)).map fun r => (uhR ((l.drop (2 * k)).take 2)).toNat.toUInt8 :: r := by
  rw [show n - k = (n - (k + 1)) + 1 by omega, bpOf, if_pos he]
theorem bp_stop (l : List UInt8) (n k : Nat) (h : k < n) (he : ¬ uhE ((l.drop (2 * k)).take 2) = 0) : bpOf l (n - k) k = none := by
  rw [show n - k = (n - (k + 1)) + 1 by omega, bpOf, if_neg he]
theorem bp_done (l : List UInt8) (n : Nat) : bpOf l (n - n) n = some [] := by rw [Nat.sub_self]; rfl
theorem ps_none {l : List UInt8} (h : bpOf (psCut l).1 ((psCut l).1.length / 2) 0 = none) : psOf l = k0 := by unfold psOf; rw [h]
theorem ps_some {l t : List UInt8} (h : bpOf (psCut l).1 ((psCut l).1.length / 2) 0 = some t) : psOf l = (15, 0, mkS t, (psCut l).2) := by unfold psOf; rw [h]
theorem cutS_list (s : ByteArray) : (cutS s).data.toList = (psCut s.data.toList).1 := by simp [cutS, mkS]
theorem cutS_size (s : ByteArray) : (cutS s).size ≤ s.size := by
  rw [← list_size, cutS_list, ← list_size]
  unfold psCut; split
  · simp
  · simp
def psN2 (s : ByteArray) : Nat := (cutS s).size / 2
theorem ps_none2 {s : ByteArray} (h : bpOf (cutS s).data.toList (psN2 s) 0 = none) : psOf s.data.toList = k0 := by
  apply ps_none; rw [← cutS_list, list_size]; exact h
theorem ps_some2 {s : ByteArray} {t : List UInt8} (h : bpOf (cutS s).data.toList (psN2 s) 0 = some t) : psOf s.data.toList = (15, 0, mkS t, cutB s) := by
  apply ps_some; rw [← cutS_list, list_size]; exact h
theorem u8_wrap {b : Int} (h : 0 ≤ b) : IntKind.u8.wrap b = ((b.toNat.toUInt8).toNat : Int) := by
  rw [show IntKind.u8.wrap b = b % 256 by first | rfl | (simp [IntKind.wrap]; done) | (unfold IntKind.wrap; simp [IntKind.bits, IntKind.signed]; omega)]
  simp
  omega
theorem u8_list {w : World} {g n : Nat} {t : List UInt8} {ty : TypeId} {f : Nat × Nat} (h : w.heap[g]? = some (.cells (uRow (psL t n)) ty f)) (hl : t.length = n) :
    ∀ dst, Tryd.prog.underlying dst = some .string → (convert 54 dst (.slice (some ⟨g, 0, none⟩) n n)).run Tryd.prog w = .ok (.string (mkS t)) w := by
  rw [psL_full t n hl] at h
  have hu : (uL t).length = n := by simp [uL]; exact hl
  have := conv_lit (w := w) (g := g) (k := n) (c := n) (uL t) hu.symm (fun i hi => by rw [Nat.zero_add]; exact u_cell h (by omega))
  rwa [txt_uL] at this
end Go.Proofs.YtmnjafceenckpaaDoor
set_option linter.unusedVariables false
set_option linter.unusedSimpArgs false
namespace Go.Proofs.YtmnjafceenckpaaDoor
open Go.RowKit
/-- From a row on: which is of a name. -/
def kNFrom (l : List UInt8) (k : Nat) : Option KRow := (kTab.drop k).find? fun r => r.2.2.1 == l
theorem kNFrom_step (l : List UInt8) (k : Nat) (hk : k < 13) : kNFrom l k = if (kTab.getD k kr0).2.2.1 = l then some (kTab.getD k kr0) else kNFrom l (k + 1) := by
  unfold kNFrom
  have hk' : k < kTab.length := hk
  rw [List.drop_eq_getElem_cons hk', List.find?_cons]
  have e : kTab.getD k kr0 = kTab[k] := by rw [List.getD, List.getElem?_eq_getElem hk']; rfl
  rw [e]
  by_cases h : (kTab[k]).2.2.1 = l
  · rw [if_pos h, show ((kTab[k]).2.2.1 == l) = true by rw [h]; simp]
  · rw [if_neg h, show ((kTab[k]).2.2.1 == l) = false by simpa using h]
theorem kN_hit {l : List UInt8} {k : Nat} {r : KRow} (h : kNFrom l k = kNamed l) (hk : k < 13) (e : kTab.getD k kr0 = r) (h1 : r.2.2.1 = l) : kNamed l = some r := by
  rw [← h, kNFrom_step l k hk, e, if_pos h1]
theorem kN_miss {l : List UInt8} {k : Nat} {r : KRow} (h : kNFrom l k = kNamed l) (hk : k < 13) (e : kTab.getD k kr0 = r) (h1 : ¬ r.2.2.1 = l) : kNFrom l (k + 1) = kNamed l := by
  rw [← h, kNFrom_step l k hk, e, if_neg h1]
theorem kN_end {l : List UInt8} (h : kNFrom l 13 = kNamed l) : kNamed l = none := by rw [← h]; rfl
theorem pre_iff (l p : List UInt8) : Lib.hasPrefix l p = true ↔ p <+: l := by unfold Lib.hasPrefix; exact List.isPrefixOf_iff_prefix
theorem kyOf_named {l : List UInt8} {r : KRow} (h : kNamed l = some r) : kyOf l = (r.1, r.2.1, ⟨#[]⟩, false) := by unfold kyOf; rw [h]
theorem pre_no {l p : List UInt8} (h : Lib.hasPrefix l p = false) : ¬ p <+: l := fun h2 => by rw [(pre_iff l p).2 h2] at h; cases h
theorem kyOf_p {l : List UInt8} (h : kNamed l = none) (h1 : Lib.hasPrefix l [80, 45] = true) : kyOf l = psOf (l.drop 2) := by
  unfold kyOf; rw [h]; dsimp only; rw [if_pos ((pre_iff _ _).1 h1)]
theorem kyOf_mc {l : List UInt8} (h : kNamed l = none) (h1 : Lib.hasPrefix l [80, 45] = false) (h2 : Lib.hasPrefix l [77, 45, 67, 45] = true) : kyOf l = (3, ctOf (l.drop 2), ⟨#[]⟩, false) := by
  unfold kyOf; rw [h]; dsimp only; rw [if_neg (pre_no h1), if_pos ((pre_iff _ _).1 h2)]
theorem kyOf_m {l : List UInt8} (h : kNamed l = none) (h1 : Lib.hasPrefix l [80, 45] = false) (h2 : Lib.hasPrefix l [77, 45, 67, 45] = false) (h3 : Lib.hasPrefix l [77, 45] = true) : kyOf l = (3, sgOf (l.drop 2), ⟨#[]⟩, false) := by
  unfold kyOf; rw [h]; dsimp only; rw [if_neg (pre_no h1), if_neg (pre_no h2), if_pos ((pre_iff _ _).1 h3)]
theorem kyOf_c {l : List UInt8} (h : kNamed l = none) (h1 : Lib.hasPrefix l [80, 45] = false) (h2 : Lib.hasPrefix l [77, 45, 67, 45] = false) (h3 : Lib.hasPrefix l [77, 45] = false) (h4 : Lib.hasPrefix l [67, 45] = true) : kyOf l = (2, ctOf l, ⟨#[]⟩, false) := by
  unfold kyOf; rw [h]; dsimp only; rw [if_neg (pre_no h1), if_neg (pre_no h2), if_neg (pre_no h3), if_pos ((pre_iff _ _).1 h4)]
theorem kyOf_s {l : List UInt8} (h : kNamed l = none) (h1 : Lib.hasPrefix l [80, 45] = false) (h2 : Lib.hasPrefix l [77, 45, 67, 45] = false) (h3 : Lib.hasPrefix l [77, 45] = false) (h4 : Lib.hasPrefix l [67, 45] = false) : kyOf l = (1, sgOf l, ⟨#[]⟩, false) := by
  unfold kyOf; rw [h]; dsimp only; rw [if_neg (pre_no h1), if_neg (pre_no h2), if_neg (pre_no h3), if_neg (pre_no h4)]
/-- What stands behind two bytes. -/
def rest2 (s : ByteArray) : ByteArray := s.extract 2 s.size
theorem rest2_list (s : ByteArray) : (rest2 s).data.toList = s.data.toList.drop 2 := by
  unfold rest2; rw [ext_list, List.take_of_length_le]; rw [List.length_drop, list_size]; omega
theorem rest2_nil (s : ByteArray) (h : ¬ 2 < s.size) : rest2 s = ⟨#[]⟩ := by
  apply kzero; unfold rest2; rw [ByteArray.size_extract]; omega
/-- The reference's rule for which keys may be. -/
theorem kFind_iff (kind v : Int) : (kFind kind v).isSome = decide ((kind = 4 ∧ (v = 13 ∨ v = 10)) ∨ (5 ≤ kind ∧ kind ≤ 14 ∧ v = 0) ∨ (kind = 14 ∧ v = 1)) := by
  unfold kFind
  rw [Bool.eq_iff_iff, List.find?_isSome, decide_eq_true_iff]
  simp only [kTab, kIs, List.mem_cons, List.not_mem_nil, or_false, exists_eq_or_imp, exists_eq_left, Bool.and_eq_true, beq_iff_eq]
  omega
end Go.Proofs.YtmnjafceenckpaaDoor
set_option linter.unusedVariables false
set_option linter.unusedSimpArgs false
namespace Go.Proofs.YtmnjafceenckpaaDoor
open Go.RowKit
theorem may_other2 (kind v : Int) (h1 : kind ≠ 1) (h2 : kind ≠ 2) (h3 : kind ≠ 3) : kmB kind v = decide ((kind = 4 ∧ (v = 13 ∨ v = 10)) ∨ (5 ≤ kind ∧ kind ≤ 14 ∧ v = 0) ∨ (kind = 14 ∧ v = 1)) := by
  rw [may_other kind v h1 h2 h3, kFind_iff]
theorem rm4 (v : Int) : kmB 4 v = (decide (v = 10) || decide (v = 13)) := by
  rw [may_other2 _ _ (by decide) (by decide) (by decide), Bool.eq_iff_iff, decide_eq_true_iff]; simp; try omega
theorem rm14 (v : Int) : kmB 14 v = (decide (v = 0) || decide (v = 1)) := by
  rw [may_other2 _ _ (by decide) (by decide) (by decide), Bool.eq_iff_iff, decide_eq_true_iff]; simp; try omega
theorem rmo (kind v : Int) (h1 : kind ≠ 1) (h2 : kind ≠ 2) (h3 : kind ≠ 3) (h4 : kind ≠ 4) (h14 : kind ≠ 14) : kmB kind v = (decide (5 ≤ kind) && decide (kind ≤ 13) && decide (v = 0)) := by
  rw [may_other2 _ _ h1 h2 h3, Bool.eq_iff_iff, decide_eq_true_iff]; simp; try omega
end Go.Proofs.YtmnjafceenckpaaDoor
set_option linter.unusedVariables false
set_option linter.unusedSimpArgs false
namespace Go.Proofs.YtmnjafceenckpaaDoor
open Go.RowKit
theorem conv1 (v : Int) (w : World) (o : Obj) : ∀ dst, Tryd.prog.underlying dst = some .string → (convert 54 dst (.slice (some ⟨w.heap.size + 1, 0, none⟩) 1 1)).run Tryd.prog ((w.alloc o).alloc (Obj.cells #[.int .u8 v] 5)) = .ok (.string (txt [v])) ((w.alloc o).alloc (Obj.cells #[.int .u8 v] 5)) := by
  have h := conv_new (w.alloc o) [v] 1 rfl
  rwa [show (w.alloc o).heap.size = w.heap.size + 1 by simp] at h
theorem conv2 (u v : Int) (w : World) (o : Obj) : ∀ dst, Tryd.prog.underlying dst = some .string → (convert 54 dst (.slice (some ⟨w.heap.size + 1, 0, none⟩) 2 2)).run Tryd.prog ((w.alloc o).alloc (Obj.cells #[.int .u8 u, .int .u8 v] 5)) = .ok (.string (txt [u, v])) ((w.alloc o).alloc (Obj.cells #[.int .u8 u, .int .u8 v] 5)) := by
  have h := conv_new (w.alloc o) [u, v] 2 rfl
  rwa [show (w.alloc o).heap.size = w.heap.size + 1 by simp] at h
/-- What a value is named by the reference. -/
def svN (v : Int) : List UInt8 := if 32 ≤ v then sgN v else ctN v
theorem kTab_row : ∀ r ∈ kTab, kRowOf r.1 r.2.1 = r := by decide
end Go.Proofs.YtmnjafceenckpaaDoor
set_option linter.unusedVariables false
set_option linter.unusedSimpArgs false
namespace Go.Proofs.YtmnjafceenckpaaDoor
open Go.RowKit
theorem kpre_any (s : ByteArray) (p : List UInt8) (b : Bool) (h : Lib.hasPrefix s.data.toList p = b) (w : World) : Calls Tryd.prog 39 #[.string s, .string (mkS p)] w fun e w' => e = .returned (.bool b) ∧ w = w' :=
  (Tryd.strings_HasPrefix s (mkS p) w).mono fun e w' hh => ⟨by rw [hh.1, ← h], hh.2.symm⟩
end Go.Proofs.YtmnjafceenckpaaDoor
