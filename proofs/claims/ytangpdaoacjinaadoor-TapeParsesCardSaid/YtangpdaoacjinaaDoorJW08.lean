/-
  Joined: Ky10 Ky11 Ky12 Ky13 Ky14 Ky15 Ky16 Ky17 ArgS ArgU8 Bj0.
-/
import Derived.Test.YtangpdaoacjinaaDoorJW01
import Derived.Test.YtangpdaoacjinaaDoorJW02
import Derived.Test.YtangpdaoacjinaaDoorJW06
import Derived.Test.YtangpdaoacjinaaDoorJW07
import Derived.Laws.BytesArg
import Derived.Deep.RegionHeld3
import Derived.Deep.SlicePairs
import Derived.ChangeArms
import Derived.Lib.LaidTab
import Derived.Lib.LaidU8
import Derived.Lib.SmallJoins
import Derived.Test.YtangpdaoacjinaaDoorShelf
import Derived.Shelf.Strings.Builder2
set_option linter.unusedVariables false
set_option linter.unusedSimpArgs false
set_option maxRecDepth 100000
set_option linter.unusedVariables false
set_option linter.unusedSimpArgs false
namespace Go.Proofs.YtangpdaoacjinaaDoor
open Go.RowKit
def uRow (L : List Int) : Array Value := (L.map (Value.int .u8)).toArray
theorem uRow_at (L : List Int) (i : Nat) (h : i < L.length) : (uRow L)[i]? = some (.int .u8 (L.getD i 0)) := by
  rw [uRow, List.getElem?_toArray, List.getElem?_map, List.getElem?_eq_getElem h, List.getD, List.getElem?_eq_getElem h]; rfl
theorem uRow_set (L : List Int) (i : Nat) (x : Int) : (uRow L).setIfInBounds i (.int .u8 x) = uRow (L.set i x) := by
  apply Array.ext'; simp [uRow, List.map_set]
theorem made_u8 (n : Nat) : madeCells #[.int .u8 0] (n * 1) = uRow (List.replicate n 0) := by
  apply Array.ext'
  rw [toList_madeCells_one]; simp [uRow]
theorem u_cell {w : World} {g k : Nat} {L : List Int} {t : TypeId} {f : Nat × Nat} (h : w.heap[g]? = some (.cells (uRow L) t f)) (hk : k < L.length) :
    w.cell? ⟨g, k, none⟩ = some (.int .u8 (L.getD k 0)) := by
  rw [cell_of_row _ _ _ _ _ _ h, uRow_at L k hk]
def uL (t : List UInt8) : List Int := t.map fun b => (b.toNat : Int)
theorem txt_uL (t : List UInt8) : txt (uL t) = mkS t := by
  unfold txt uL mkS
  rw [List.map_map]
  have : ((fun n : Int => n.toNat.toUInt8) ∘ fun b : UInt8 => (b.toNat : Int)) = id := by funext b; simp
  rw [this, List.map_id]
/-- The room for a paste's bytes, so many of them read. -/
def psL (t : List UInt8) (n : Nat) : List Int := uL t ++ List.replicate (n - t.length) 0
theorem psL_len (t : List UInt8) (n : Nat) (h : t.length ≤ n) : (psL t n).length = n := by simp [psL, uL]; omega
theorem psL_set (t : List UInt8) (n : Nat) (b : UInt8) (h : t.length < n) : (psL t n).set t.length (b.toNat : Int) = psL (t ++ [b]) n := by
  have hl : (uL t).length = t.length := by simp [uL]
  unfold psL
  rw [List.set_append_right _ _ (by omega), hl, Nat.sub_self]
  obtain ⟨m, hm⟩ : ∃ m, n - t.length = m + 1 := ⟨n - t.length - 1, by omega⟩
  have hm2 : n - (t ++ [b]).length = m := by simp; omega
  rw [hm, hm2, List.replicate_succ, List.set_cons_zero]
  simp [uL]
theorem psL_full (t : List UInt8) (n : Nat) (h : t.length = n) : psL t n = uL t := by unfold psL; rw [h, Nat.sub_self]; simp
theorem bp_step (l : List UInt8) (n k : Nat) (h : k < n) (he : uhE ((l.drop (2 * k)).take 2) = 0) : bpOf l (n - k) k = (bpOf l (n - (k + 1)) (k + 1)).map fun r => (uhR ((l.drop (2 * k)).take 2)).toNat.toUInt8 :: r := by
  rw [show n - k = (n - (k + 1)) + 1 by omega, bpOf, if_pos he]
theorem bp_stop (l : List UInt8) (n k : Nat) (h : k < n) (he : ¬ uhE ((l.drop (2 * k)).take 2) = 0) : bpOf l (n - k) k = none := by
  rw [show n - k = (n - (k + 1)) + 1 by omega, bpOf, if_neg he]
theorem bp_done (l : List UInt8) (n : Nat) : bpOf l (n - n) n = some [] := by rw [Nat.sub_self]; rfl
theorem ps_none {l : List UInt8} (h : bpOf (psCut l).1 ((psCut l).1.length / 2) 0 = none) : psOf l = k0 := by unfold psOf; rw [h]
theorem ps_some {l t : List UInt8} (h : bpOf (psCut l).1 ((psCut l).1.length / 2) 0 = some t) : psOf l = (15, 0, mkS t, (psCut l).2) := by unfold psOf; rw [h]
theorem cutS_list (s : ByteArray) : (cutS s).data.toList = (psCut s.data.toList).1 := by simp [cutS, mkS]
theorem cutS_size (s : ByteArray) : (cutS s).size ≤ s.size := by
  rw [← list_size, cutS_list, ← list_size]
  unfold psCut; split
  · simp
  · simp
def psN2 (s : ByteArray) : Nat := (cutS s).size / 2
theorem ps_none2 {s : ByteArray} (h : bpOf (cutS s).data.toList (psN2 s) 0 = none) : psOf s.data.toList = k0 := by
  apply ps_none; rw [← cutS_list, list_size]; exact h
theorem ps_some2 {s : ByteArray} {t : List UInt8} (h : bpOf (cutS s).data.toList (psN2 s) 0 = some t) : psOf s.data.toList = (15, 0, mkS t, cutB s) := by
  apply ps_some; rw [← cutS_list, list_size]; exact h
theorem u8_wrap {b : Int} (h : 0 ≤ b) : IntKind.u8.wrap b = ((b.toNat.toUInt8).toNat : Int) := by
  rw [show IntKind.u8.wrap b = b % 256 by first | rfl | (simp [IntKind.wrap]; done) | (unfold IntKind.wrap; simp [IntKind.bits, IntKind.signed]; omega)]
  simp
  omega
theorem u8_list {w : World} {g n : Nat} {t : List UInt8} {ty : TypeId} {f : Nat × Nat} (h : w.heap[g]? = some (.cells (uRow (psL t n)) ty f)) (hl : t.length = n) :
    ∀ dst, Tryd.prog.underlying dst = some .string → (convert 97 dst (.slice (some ⟨g, 0, none⟩) n n)).run Tryd.prog w = .ok (.string (mkS t)) w := by
  rw [psL_full t n hl] at h
  have hu : (uL t).length = n := by simp [uL]; exact hl
  have := conv_lit (w := w) (g := g) (k := n) (c := n) (uL t) hu.symm (fun i hi => by rw [Nat.zero_add]; exact u_cell h (by omega))
  rwa [txt_uL] at this
set_option maxHeartbeats 4000000 in
set_option maxRecDepth 100000 in
theorem kpsOf_any (s : ByteArray) (w : World) (hs : s.size ≤ 900000) : Calls Tryd.prog 293 #[.string s] w fun e w' => e = .returned (kyV (psOf s.data.toList)) ∧ Below w.heap.size w w' := by
  have C := fun w => (kcut_any s w hs).mono fun e w' h => (⟨h.1, h.2.symm⟩ : e = .returned (.tuple #[.string (cutS s), .bool (cutB s)]) ∧ w = w')
  have HN := fun h => ps_none2 (s := s) h
  have HS := fun t h => ps_some2 (s := s) (t := t) h
  have hDs := cutS_size s
  have hn : psN2 s = (cutS s).size / 2 := rfl
  generalize cutS s = D at *
  generalize cutB s = cb at *
  generalize psN2 s = n at *
  generalize psOf s.data.toList = R at *
  have B0 := below_alloc w (.cells #[.int .i64 0, .int .i64 0, .string ⟨#[]⟩, .bool false] 171)
  have hq := heap_alloc_new w (.cells #[.int .i64 0, .int .i64 0, .string ⟨#[]⟩, .bool false] 171)
  obtain ⟨W0, hW0⟩ : ∃ W0, w.alloc (.cells #[.int .i64 0, .int .i64 0, .string ⟨#[]⟩, .bool false] 171) = W0 := ⟨_, rfl⟩
  rw [hW0] at B0 hq
  replace hq := Lib.hid hq
  obtain ⟨i0, hi, hz0, hz1, hz2⟩ := info_parts infoByte
  have hmk := make_rowN (P := Tryd.prog) 97 5 i0 _ Tryd.underlying97 hi hz0 n (by rw [hz2]; omega) (by omega)
  rw [hz1] at hmk
  have hmade : madeCells (Value.int .u8 0).cells (n * 1) = uRow (psL [] n) := by rw [show (Value.int .u8 0).cells = #[.int .u8 0] from rfl, made_u8]; simp [psL, uL]
  rw [hmade] at hmk
  have hquo : (n : Int) = ((D.size : Int) / 2) := by omega
  have hmk2 : ∀ w : World, (Instr.makeSlice 97 (.int .i64 ((D.size : Int) / 2)) (.int .i64 ((D.size : Int) / 2))).run Tryd.prog w = .ok (.slice (some ⟨w.heap.size, 0, none⟩) n n) (w.alloc (.cells (uRow (psL [] n)) 5)) := by rw [← hquo]; exact hmk
  clear hmk hquo hmade
  have h2n : 2 * n ≤ D.size := by omega
  clear hn
  replace C := Lib.hid C; replace HN := Lib.hid HN; replace HS := Lib.hid HS
  go_enter Tryd.func293, Tryd.ntmps293
  go_upto_region 1 with fail
  clear hW0
  go_wp2_with (go_at_call 316; refine (C.out _).mono ?_; rintro e w2 ⟨rfl, rfl⟩)
  go_loopw [20] (fun iv wr => ∃ (k : Nat) (t : List UInt8), t.length = k ∧ k ≤ n ∧ iv = .int .i64 (k : Int) ∧ wr.heap[W0.heap.size]? = some (.cells (uRow (psL t n)) 5 (0, 0)) ∧ Hid (bpOf D.data.toList n 0 = (bpOf D.data.toList (n - k) k).map (t ++ ·)) ∧ Below W0.heap.size W0 wr) (fun iv _ => n - (intOf iv).toNat)
  case atStart => exact ⟨0, [], rfl, Nat.zero_le _, rfl, heap_alloc_new _ _, Lib.hid (by simp), below_alloc _ _⟩
  case round =>
    obtain ⟨k, t, hlen, hk, rfl, hown, HE, hb⟩ := hrel
    have hsz := hb.size
    have q := blk_below hq.out hb
    have hDi : (D.size : Int) ≤ 900000 := by omega
    by_cases hlt : k < n
    · have hk1 : (k : Int) < n := by omega
      have hk0 : (0 : Int) ≤ k := by omega
      have h2k : 2 * k + 2 ≤ D.size := by omega
      have U := fun w => kunhex (D.extract (2 * k) (2 * k + 2)) w (by rw [ByteArray.size_extract]; omega)
      rw [ext_list, show 2 * k + 2 - 2 * k = 2 by omega] at U
      have hsz1 := psL_len t n (by omega)
      have s1 := u_cell hown (k := k) (by rw [hsz1]; exact hlt)
      have f1 := fun i => frozen_of_row wr W0.heap.size i _ _ hown
      have hor := uh_or ((D.data.toList.drop (2 * k)).take 2)
      by_cases he : uhE ((D.data.toList.drop (2 * k)).take 2) = 0
      · have hst := bp_step D.data.toList n k hlt he
        have h0 : 0 ≤ uhR ((D.data.toList.drop (2 * k)).take 2) := by rcases hor with h | h; exact h.2; rw [h.1] at he; cases he
        rw [he] at U
        have hset := psL_set t n (uhR ((D.data.toList.drop (2 * k)).take 2)).toNat.toUInt8 (by omega)
        have huw := u8_wrap h0
        rw [hlen] at hset
        generalize uhR ((D.data.toList.drop (2 * k)).take 2) = ur at *
        replace U := Lib.hid U
        clear hor he
        generalize (psL t n).getD k 0 = q0 at *
        replace hset := Lib.hid hset; replace hst := Lib.hid hst; replace hsz1 := Lib.hid hsz1; replace hlen := Lib.hid hlen; replace huw := Lib.hid huw
        go_wp2_with (go_at_call 57; refine (U.out _).mono ?_; rintro e w3 ⟨rfl, hb3⟩; have hown3 := blk_below hown hb3; have s3 := u_cell hown3 (k := k) (by rw [hsz1.out]; exact hlt); have f3 := fun i => frozen_of_row w3 W0.heap.size i _ _ hown3)
        go_roundw
        case rel => exact ⟨k + 1, t ++ [ur.toNat.toUInt8], by simp [hlen.out], by omega, by go_num, by rw [← hset.out, ← huw.out, ← uRow_set]; exact blk_set hown3 _ _, Lib.hid (by rw [HE.out, hst.out, Option.map_map]; congr 1; funext r; simp), (hb.trans (hb3.mono hsz)).setCell (Nat.le_refl _) _⟩
        case measure => (simp [intOf]; try omega)
      · have hst := bp_stop D.data.toList n k hlt he
        have hR := HN.out (by rw [HE.out, hst]; rfl)
        have h6 : uhE ((D.data.toList.drop (2 * k)).take 2) = 6 := by rcases hor with h | h; exact absurd h.1 he; exact h.1
        rw [h6] at U
        generalize uhR ((D.data.toList.drop (2 * k)).take 2) = ur at *
        replace U := Lib.hid U
        have hRk : Hid (kyV R = .agg #[.int .i64 0, .int .i64 0, .string ⟨#[]⟩, .bool false]) := Lib.hid (by rw [hR]; rfl)
        clear hor he hst hR h6 s1 f1 hown
        have NB := Lib.hid (seqB B0 hb)
        go_wp2_with (go_at_call 57; refine (U.out _).mono ?_; rintro e w3 ⟨rfl, hb3⟩; have q3 := blk_below q hb3; have zf := fun i => frozen_of_row _ w.heap.size i _ _ q3; have zz := fun i => cell_of_row _ _ i _ _ _ q3; have z0 := zz 0; have z1 := zz 1; have z2 := zz 2; have z3 := zz 3; dsimp at z0 z1 z2 z3; clear zz; have NF := Lib.hid (four_below w3 w w.heap.size (.int .i64 0) (.int .i64 0) (.string ⟨#[]⟩) (.bool false) (Nat.le_refl _) (seqB NB.out hb3)); have hfin := Lib.hid (four_set q3 (.int .i64 0) (.int .i64 0) (.string ⟨#[]⟩) (.bool false)))
        generalize hWF : World.setCell _ _ _ = WF
        have hqf : WF.heap[w.heap.size]? = some (.cells #[.int .i64 0, .int .i64 0, .string ⟨#[]⟩, .bool false] 171 (0, 0)) := by rw [← hWF]; exact hfin.out
        have hN : Below w.heap.size w WF := by rw [← hWF]; exact NF.out
        have y := fun i => cell_of_row _ _ i _ _ _ hqf
        have y0 := y 0; have y1 := y 1; have y2 := y 2; have y3 := y 3
        dsimp at y0 y1 y2 y3
        clear y hqf hWF
        refine bodyPost_ret (v := .agg #[.int .i64 0, .int .i64 0, .string ⟨#[]⟩, .bool false]) (by simp [results, Tryd.results293, go_sem, y0, y1, y2, y3]) rfl ?_
        rw [hRk.out]
        exact ⟨rfl, hN⟩
    · obtain rfl : k = n := by omega
      have hR := HS.out t (by rw [HE.out, bp_done]; simp)
      have hcv := u8_list hown hlen
      have hRk : Hid (kyV R = .agg #[.int .i64 15, .int .i64 0, .string (mkS t), .bool cb]) := Lib.hid (by rw [hR]; rfl)
      generalize mkS t = u at *
      have zf := fun i => frozen_of_row _ w.heap.size i _ _ q
      have zz := fun i => cell_of_row _ _ i _ _ _ q
      have z0 := zz 0; have z1 := zz 1; have z2 := zz 2; have z3 := zz 3
      dsimp at z0 z1 z2 z3
      have NF := Lib.hid (four_below wr w w.heap.size (.int .i64 15) (.int .i64 0) (.string u) (.bool cb) (Nat.le_refl _) (seqB B0 hb))
      have hfin := Lib.hid (four_set q (.int .i64 15) (.int .i64 0) (.string u) (.bool cb))
      clear zz q hown hR HE
      go_wp2_with fail
      generalize hWF : World.setCell _ _ _ = WF
      have hqf : WF.heap[w.heap.size]? = some (.cells #[.int .i64 15, .int .i64 0, .string u, .bool cb] 171 (0, 0)) := by rw [← hWF]; exact hfin.out
      have hN : Below w.heap.size w WF := by rw [← hWF]; exact NF.out
      have y := fun i => cell_of_row _ _ i _ _ _ hqf
      have y0 := y 0; have y1 := y 1; have y2 := y 2; have y3 := y 3
      dsimp at y0 y1 y2 y3
      clear y hqf hWF
      refine bodyPost_ret (v := .agg #[.int .i64 15, .int .i64 0, .string u, .bool cb]) (by simp [results, Tryd.results293, go_sem, y0, y1, y2, y3]) rfl ?_
      rw [hRk.out]
      exact ⟨rfl, hN⟩
end Go.Proofs.YtangpdaoacjinaaDoor
set_option linter.unusedVariables false
set_option linter.unusedSimpArgs false
namespace Go.Proofs.YtangpdaoacjinaaDoor
open Go.RowKit
/-- From a row on: which is of a name. -/
def kNFrom (l : List UInt8) (k : Nat) : Option KRow := (kTab.drop k).find? fun r => r.2.2.1 == l
theorem kNFrom_step (l : List UInt8) (k : Nat) (hk : k < 13) : kNFrom l k = if (kTab.getD k kr0).2.2.1 = l then some (kTab.getD k kr0) else kNFrom l (k + 1) := by
  unfold kNFrom
  have hk' : k < kTab.length := hk
  rw [List.drop_eq_getElem_cons hk', List.find?_cons]
  have e : kTab.getD k kr0 = kTab[k] := by rw [List.getD, List.getElem?_eq_getElem hk']; rfl
  rw [e]
  by_cases h : (kTab[k]).2.2.1 = l
  · rw [if_pos h, show ((kTab[k]).2.2.1 == l) = true by rw [h]; simp]
  · rw [if_neg h, show ((kTab[k]).2.2.1 == l) = false by simpa using h]
theorem kN_hit {l : List UInt8} {k : Nat} {r : KRow} (h : kNFrom l k = kNamed l) (hk : k < 13) (e : kTab.getD k kr0 = r) (h1 : r.2.2.1 = l) : kNamed l = some r := by
  rw [← h, kNFrom_step l k hk, e, if_pos h1]
theorem kN_miss {l : List UInt8} {k : Nat} {r : KRow} (h : kNFrom l k = kNamed l) (hk : k < 13) (e : kTab.getD k kr0 = r) (h1 : ¬ r.2.2.1 = l) : kNFrom l (k + 1) = kNamed l := by
  rw [← h, kNFrom_step l k hk, e, if_neg h1]
theorem kN_end {l : List UInt8} (h : kNFrom l 13 = kNamed l) : kNamed l = none := by rw [← h]; rfl
theorem pre_iff (l p : List UInt8) : Lib.hasPrefix l p = true ↔ p <+: l := by unfold Lib.hasPrefix; exact List.isPrefixOf_iff_prefix
theorem kyOf_named {l : List UInt8} {r : KRow} (h : kNamed l = some r) : kyOf l = (r.1, r.2.1, ⟨#[]⟩, false) := by unfold kyOf; rw [h]
theorem pre_no {l p : List UInt8} (h : Lib.hasPrefix l p = false) : ¬ p <+: l := fun h2 => by rw [(pre_iff l p).2 h2] at h; cases h
theorem kyOf_p {l : List UInt8} (h : kNamed l = none) (h1 : Lib.hasPrefix l [80, 45] = true) : kyOf l = psOf (l.drop 2) := by
  unfold kyOf; rw [h]; dsimp only; rw [if_pos ((pre_iff _ _).1 h1)]
theorem kyOf_mc {l : List UInt8} (h : kNamed l = none) (h1 : Lib.hasPrefix l [80, 45] = false) (h2 : Lib.hasPrefix l [77, 45, 67, 45] = true) : kyOf l = (3, ctOf (l.drop 2), ⟨#[]⟩, false) := by
  unfold kyOf; rw [h]; dsimp only; rw [if_neg (pre_no h1), if_pos ((pre_iff _ _).1 h2)]
theorem kyOf_m {l : List UInt8} (h : kNamed l = none) (h1 : Lib.hasPrefix l [80, 45] = false) (h2 : Lib.hasPrefix l [77, 45, 67, 45] = false) (h3 : Lib.hasPrefix l [77, 45] = true) : kyOf l = (3, sgOf (l.drop 2), ⟨#[]⟩, false) := by
  unfold kyOf; rw [h]; dsimp only; rw [if_neg (pre_no h1), if_neg (pre_no h2), if_pos ((pre_iff _ _).1 h3)]
theorem kyOf_c {l : List UInt8} (h : kNamed l = none) (h1 : Lib.hasPrefix l [80, 45] = false) (h2 : Lib.hasPrefix l [77, 45, 67, 45] = false) (h3 : Lib.hasPrefix l [77, 45] = false) (h4 : Lib.hasPrefix l [67, 45] = true) : kyOf l = (2, ctOf l, ⟨#[]⟩, false) := by
  unfold kyOf; rw [h]; dsimp only; rw [if_neg (pre_no h1), if_neg (pre_no h2), if_neg (pre_no h3), if_pos ((pre_iff _ _).1 h4)]
theorem kyOf_s {l : List UInt8} (h : kNamed l = none) (h1 : Lib.hasPrefix l [80, 45] = false) (h2 : Lib.hasPrefix l [77, 45, 67, 45] = false) (h3 : Lib.hasPrefix l [77, 45] = false) (h4 : Lib.hasPrefix l [67, 45] = false) : kyOf l = (1, sgOf l, ⟨#[]⟩, false) := by
  unfold kyOf; rw [h]; dsimp only; rw [if_neg (pre_no h1), if_neg (pre_no h2), if_neg (pre_no h3), if_neg (pre_no h4)]
/-- What stands behind two bytes. -/
def rest2 (s : ByteArray) : ByteArray := s.extract 2 s.size
theorem rest2_list (s : ByteArray) : (rest2 s).data.toList = s.data.toList.drop 2 := by
  unfold rest2; rw [ext_list, List.take_of_length_le]; rw [List.length_drop, list_size]; omega
theorem rest2_nil (s : ByteArray) (h : ¬ 2 < s.size) : rest2 s = ⟨#[]⟩ := by
  apply kzero; unfold rest2; rw [ByteArray.size_extract]; omega
/-- The reference's rule for which keys may be. -/
theorem kFind_iff (kind v : Int) : (kFind kind v).isSome = decide ((kind = 4 ∧ (v = 13 ∨ v = 10)) ∨ (5 ≤ kind ∧ kind ≤ 14 ∧ v = 0) ∨ (kind = 14 ∧ v = 1)) := by
  unfold kFind
  rw [Bool.eq_iff_iff, List.find?_isSome, decide_eq_true_iff]
  simp only [kTab, kIs, List.mem_cons, List.not_mem_nil, or_false, exists_eq_or_imp, exists_eq_left, Bool.and_eq_true, beq_iff_eq]
  omega
end Go.Proofs.YtangpdaoacjinaaDoor
set_option linter.unusedVariables false
set_option linter.unusedSimpArgs false
namespace Go.Proofs.YtangpdaoacjinaaDoor
open Go.RowKit
theorem may_other2 (kind v : Int) (h1 : kind ≠ 1) (h2 : kind ≠ 2) (h3 : kind ≠ 3) : kmB kind v = decide ((kind = 4 ∧ (v = 13 ∨ v = 10)) ∨ (5 ≤ kind ∧ kind ≤ 14 ∧ v = 0) ∨ (kind = 14 ∧ v = 1)) := by
  rw [may_other kind v h1 h2 h3, kFind_iff]
theorem rm4 (v : Int) : kmB 4 v = (decide (v = 10) || decide (v = 13)) := by
  rw [may_other2 _ _ (by decide) (by decide) (by decide), Bool.eq_iff_iff, decide_eq_true_iff]; simp; try omega
theorem rm14 (v : Int) : kmB 14 v = (decide (v = 0) || decide (v = 1)) := by
  rw [may_other2 _ _ (by decide) (by decide) (by decide), Bool.eq_iff_iff, decide_eq_true_iff]; simp; try omega
theorem rmo (kind v : Int) (h1 : kind ≠ 1) (h2 : kind ≠ 2) (h3 : kind ≠ 3) (h4 : kind ≠ 4) (h14 : kind ≠ 14) : kmB kind v = (decide (5 ≤ kind) && decide (kind ≤ 13) && decide (v = 0)) := by
  rw [may_other2 _ _ h1 h2 h3, Bool.eq_iff_iff, decide_eq_true_iff]; simp; try omega
end Go.Proofs.YtangpdaoacjinaaDoor
set_option linter.unusedVariables false
set_option linter.unusedSimpArgs false
namespace Go.Proofs.YtangpdaoacjinaaDoor
open Go.RowKit
theorem rhex1 (v : Int) (w : World) (h0 : 0 ≤ v) (h1 : v ≤ 9223372036854775807) : Calls Tryd.prog 58 #[.int .i64 v, .int .i64 1] w fun e w' => e = .returned (.string (mkS (hexN v 1))) ∧ w = w' :=
  hex_ref 16 v 1 w h0 h1 (by omega) (by omega) (by omega) (by omega)
theorem rhex2 (v : Int) (w : World) (h0 : 0 ≤ v) (h1 : v ≤ 9223372036854775807) : Calls Tryd.prog 58 #[.int .i64 v, .int .i64 2] w fun e w' => e = .returned (.string (mkS (hexN v 2))) ∧ w = w' :=
  hex_ref 16 v 2 w h0 h1 (by omega) (by omega) (by omega) (by omega)
theorem conv1 (v : Int) (w : World) (o : Obj) : ∀ dst, Tryd.prog.underlying dst = some .string → (convert 97 dst (.slice (some ⟨w.heap.size + 1, 0, none⟩) 1 1)).run Tryd.prog ((w.alloc o).alloc (Obj.cells #[.int .u8 v] 5)) = .ok (.string (txt [v])) ((w.alloc o).alloc (Obj.cells #[.int .u8 v] 5)) := by
  have h := conv_new (w.alloc o) [v] 1 rfl
  rwa [show (w.alloc o).heap.size = w.heap.size + 1 by simp] at h
theorem conv2 (u v : Int) (w : World) (o : Obj) : ∀ dst, Tryd.prog.underlying dst = some .string → (convert 97 dst (.slice (some ⟨w.heap.size + 1, 0, none⟩) 2 2)).run Tryd.prog ((w.alloc o).alloc (Obj.cells #[.int .u8 u, .int .u8 v] 5)) = .ok (.string (txt [u, v])) ((w.alloc o).alloc (Obj.cells #[.int .u8 u, .int .u8 v] 5)) := by
  have h := conv_new (w.alloc o) [u, v] 2 rfl
  rwa [show (w.alloc o).heap.size = w.heap.size + 1 by simp] at h
/-- What a value is named by the reference. -/
def svN (v : Int) : List UInt8 := if 32 ≤ v then sgN v else ctN v
theorem kTab_row : ∀ r ∈ kTab, kRowOf r.1 r.2.1 = r := by decide
end Go.Proofs.YtangpdaoacjinaaDoor
set_option linter.unusedVariables false
set_option linter.unusedSimpArgs false
namespace Go.Proofs.YtangpdaoacjinaaDoor
open Go.RowKit
theorem kpre_any (s : ByteArray) (p : List UInt8) (b : Bool) (h : Lib.hasPrefix s.data.toList p = b) (w : World) : Calls Tryd.prog 56 #[.string s, .string (mkS p)] w fun e w' => e = .returned (.bool b) ∧ w = w' :=
  (Tryd.strings_HasPrefix s (mkS p) w).mono fun e w' hh => ⟨by rw [hh.1, ← h], hh.2.symm⟩
theorem kpsOf_t (s : ByteArray) (k : Ky) (h : psOf s.data.toList = k) (w : World) (hs : s.size ≤ 900000) : Calls Tryd.prog 293 #[.string s] w fun e w' => e = .returned (.agg #[.int .i64 k.1, .int .i64 k.2.1, .string k.2.2.1, .bool k.2.2.2]) ∧ Below w.heap.size w w' := by
  subst h; exact kpsOf_any s w hs
set_option maxHeartbeats 8000000 in
set_option maxRecDepth 100000 in
theorem kkeyOf_any (s : ByteArray) (w : World) (hK : KT w) (hs : s.size ≤ 900000) : Calls Tryd.prog 242 #[.string s] w fun e w' => e = .returned (kyV (kyOf s.data.toList)) ∧ Below w.heap.size w w' := by
  have B0 := below_alloc w (.cells #[.int .i64 0, .int .i64 0, .string ⟨#[]⟩, .bool false] 171)
  have hq := heap_alloc_new w (.cells #[.int .i64 0, .int .i64 0, .string ⟨#[]⟩, .bool false] 171)
  obtain ⟨W0, hW0⟩ : ∃ W0, w.alloc (.cells #[.int .i64 0, .int .i64 0, .string ⟨#[]⟩, .bool false] 171) = W0 := ⟨_, rfl⟩
  rw [hW0] at B0 hq
  have hld := Lib.hid (hK.below B0)
  replace hq := Lib.hid hq
  obtain ⟨R, hR⟩ : ∃ R, kyOf s.data.toList = R := ⟨_, rfl⟩
  have HR := Lib.hid hR
  rw [hR]
  clear hK hR
  go_enter Tryd.func242, Tryd.ntmps242
  go_upto_region 1 with fail
  clear hW0
  go_wp2_with (with_reducible refine wpList_load_kt hld.out ?_)
  clear hld
  go_loopw [7] (fun iv wr => ∃ k : Nat, k ≤ 13 ∧ iv = .int .i64 (k : Int) ∧ Hid (kNFrom s.data.toList k = kNamed s.data.toList) ∧ Below W0.heap.size W0 wr) (fun iv _ => 13 - (intOf iv).toNat)
  case atStart => exact ⟨0, by omega, rfl, Lib.hid rfl, Below.refl _ _⟩
  case round =>
    obtain ⟨k, hk, rfl, HE, hb⟩ := hrel
    have hsz := hb.size
    have q := blk_below hq.out hb
    have NB := Lib.hid (seqB B0 hb)
    by_cases hlt : k < 13
    · have hk0 : (0 : Int) ≤ k := by omega
      have hk1 : (k : Int) < 13 := by omega
      have hix := fun w => kIdx k hlt w
      obtain ⟨r, hr⟩ : ∃ r, kTab.getD k kr0 = r := ⟨_, rfl⟩
      rw [hr] at hix
      obtain ⟨a, b, c, d⟩ := r
      rw [rowV_eq] at hix
      have B1 := below_alloc wr (.cells #[.int .i64 a, .int .i64 b, .string ⟨c.toArray⟩, .string ⟨d.toArray⟩] 334)
      by_cases he : mkS c = s
      · have HN := kN_hit HE.out hlt hr (mkS_eq he)
        have HF : Hid (kyV R = .agg #[.int .i64 a, .int .i64 b, .string ⟨#[]⟩, .bool false]) := Lib.hid (by rw [← HR.out, kyOf_named HN]; rfl)
        have q1 := blk_below q B1
        have zf := fun i => frozen_of_row _ w.heap.size i _ _ q1
        have zz := fun i => cell_of_row _ _ i _ _ _ q1
        have z0 := zz 0; have z1 := zz 1; have z2 := zz 2; have z3 := zz 3
        dsimp at z0 z1 z2 z3
        have NF := Lib.hid (four_below _ w w.heap.size (.int .i64 a) (.int .i64 b) (.string ⟨#[]⟩) (.bool false) (Nat.le_refl _) (seqB NB.out B1))
        have hfin := Lib.hid (four_set q1 (.int .i64 a) (.int .i64 b) (.string ⟨#[]⟩) (.bool false))
        have he' : (⟨c.toArray⟩ : ByteArray) = s := he
        have hse : ((⟨c.toArray⟩ : ByteArray).toList == s.toList) = true := by rw [he']; simp
        have hse2 : (⟨c.toArray⟩ : ByteArray).toList = s.toList := by rw [he']
        clear zz q q1 HE HN he he'
        go_wp2
        generalize hWF : World.setCell _ _ _ = WF
        have hqf : WF.heap[w.heap.size]? = some (.cells #[.int .i64 a, .int .i64 b, .string ⟨#[]⟩, .bool false] 171 (0, 0)) := by rw [← hWF]; exact hfin.out
        have hN : Below w.heap.size w WF := by rw [← hWF]; exact NF.out
        have y := fun i => cell_of_row _ _ i _ _ _ hqf
        have y0 := y 0; have y1 := y 1; have y2 := y 2; have y3 := y 3
        dsimp at y0 y1 y2 y3
        clear y hqf hWF
        refine bodyPost_ret (v := .agg #[.int .i64 a, .int .i64 b, .string ⟨#[]⟩, .bool false]) (by simp [results, Tryd.results242, go_sem, y0, y1, y2, y3]) rfl ?_
        rw [HF.out]
        exact ⟨rfl, hN⟩
      · have HF := Lib.hid (kN_miss HE.out hlt hr (fun h => he (by rw [show c = s.data.toList from h, mkS_of])))
        obtain ⟨s1, s2, s3⟩ := kstr_ne (show ¬ (⟨c.toArray⟩ : ByteArray) = s from he)
        rw [show (⟨c.toArray⟩ : ByteArray).toList = c by rw [ByteArray.toList_eq]] at s1 s2 s3
        clear HE hr q he
        go_wp2
        go_roundw
        case rel => exact ⟨k + 1, by omega, by go_num, HF, hb.trans (B1.mono hsz)⟩
        case measure => (simp [intOf]; try omega)
    · obtain rfl : k = 13 := by omega
      have HN := kN_end HE.out
      clear HE
      obtain ⟨p1, hp1⟩ : ∃ b, Lib.hasPrefix s.data.toList [80, 45] = b := ⟨_, rfl⟩
      obtain ⟨p2, hp2⟩ : ∃ b, Lib.hasPrefix s.data.toList [77, 45, 67, 45] = b := ⟨_, rfl⟩
      obtain ⟨p3, hp3⟩ : ∃ b, Lib.hasPrefix s.data.toList [77, 45] = b := ⟨_, rfl⟩
      obtain ⟨p4, hp4⟩ : ∃ b, Lib.hasPrefix s.data.toList [67, 45] = b := ⟨_, rfl⟩
      have P1 := Lib.hid (kpre_any s _ _ hp1)
      have P2 := Lib.hid (kpre_any s _ _ hp2)
      have P3 := Lib.hid (kpre_any s _ _ hp3)
      have P4 := Lib.hid (kpre_any s _ _ hp4)
      by_cases h2 : 2 < s.size
      · have h2i : (2 : Int) < s.size := by omega
        have hrest := rest2_list s
        have hrs : (s.extract 2 s.size).size ≤ 900000 := by rw [ByteArray.size_extract]; omega
        cases p1 with
        | true =>
          have RS := kyOf_p HN hp1
          rw [← hrest] at RS
          obtain ⟨pk, hpk⟩ : ∃ pk, psOf (s.extract 2 s.size : ByteArray).data.toList = pk := ⟨_, rfl⟩
          have C := Lib.hid fun w => kpsOf_t _ _ hpk w hrs
          have HF : Hid (kyV R = .agg #[.int .i64 pk.1, .int .i64 pk.2.1, .string pk.2.2.1, .bool pk.2.2.2]) := Lib.hid (by rw [← HR.out, RS]; unfold rest2 at *; rw [hpk]; rfl)
          clear RS hpk
          clear HN hrest hrs
          clear hp1 hp2 hp3 hp4
          go_wp2_with (first | (go_at_call 56; (first | (with_reducible refine (P1.out _).mono ?_) | (with_reducible refine (P2.out _).mono ?_) | (with_reducible refine (P3.out _).mono ?_) | (with_reducible refine (P4.out _).mono ?_)); rintro e w2 ⟨rfl, rfl⟩) | (go_at_call 293; refine (C.out _).mono ?_; rintro e w3 ⟨rfl, hb3⟩; have q3 := blk_below q hb3; have NF := Lib.hid (four_below w3 w w.heap.size (.int .i64 pk.1) (.int .i64 pk.2.1) (.string pk.2.2.1) (.bool pk.2.2.2) (Nat.le_refl _) (seqB NB.out hb3)); have hfin := Lib.hid (four_set q3 (.int .i64 pk.1) (.int .i64 pk.2.1) (.string pk.2.2.1) (.bool pk.2.2.2)); have zf := fun i => frozen_of_row _ w.heap.size i _ _ q3; have zz := fun i => cell_of_row _ _ i _ _ _ q3; have z0 := zz 0; have z1 := zz 1; have z2 := zz 2; have z3 := zz 3; dsimp at z0 z1 z2 z3; clear zz q3))
          generalize hWF : World.setCell _ _ _ = WF
          have hqf : WF.heap[w.heap.size]? = some (.cells #[.int .i64 pk.1, .int .i64 pk.2.1, .string pk.2.2.1, .bool pk.2.2.2] 171 (0, 0)) := by rw [← hWF]; exact hfin.out
          have hN : Below w.heap.size w WF := by rw [← hWF]; exact NF.out
          have y := fun i => cell_of_row _ _ i _ _ _ hqf
          have y0 := y 0; have y1 := y 1; have y2 := y 2; have y3 := y 3
          dsimp at y0 y1 y2 y3
          clear y hqf hWF
          refine bodyPost_ret (v := .agg #[.int .i64 pk.1, .int .i64 pk.2.1, .string pk.2.2.1, .bool pk.2.2.2]) (by simp [results, Tryd.results242, go_sem, y0, y1, y2, y3]) rfl ?_
          rw [HF.out]
          exact ⟨rfl, hN⟩
        | false =>
          cases p2 with
          | true =>
            have RS := kyOf_mc HN hp1 hp2
            rw [← hrest] at RS
            unfold rest2 at RS
            have C := fun w => kctOf_any (s.extract 2 s.size) w
            generalize ctOf (s.extract 2 s.size : ByteArray).data.toList = v at *
            have HF : Hid (kyV R = .agg #[.int .i64 3, .int .i64 v, .string ⟨#[]⟩, .bool false]) := Lib.hid (by rw [← HR.out, RS]; rfl)
            replace C := Lib.hid C
            clear RS
            clear HN hrest hrs
            clear hp1 hp2 hp3 hp4
            go_wp2_with (first | (go_at_call 56; (first | (with_reducible refine (P1.out _).mono ?_) | (with_reducible refine (P2.out _).mono ?_) | (with_reducible refine (P3.out _).mono ?_) | (with_reducible refine (P4.out _).mono ?_)); rintro e w2 ⟨rfl, rfl⟩) | (go_at_call 294; refine (C.out _).mono ?_; rintro e w3 ⟨rfl, hb3⟩; have q3 := blk_below q hb3; have NF := Lib.hid (four_below w3 w w.heap.size (.int .i64 3) (.int .i64 v) (.string ⟨#[]⟩) (.bool false) (Nat.le_refl _) (seqB NB.out hb3)); have hfin := Lib.hid (four_set q3 (.int .i64 3) (.int .i64 v) (.string ⟨#[]⟩) (.bool false)); have zf := fun i => frozen_of_row _ w.heap.size i _ _ q3; have zz := fun i => cell_of_row _ _ i _ _ _ q3; have z0 := zz 0; have z1 := zz 1; have z2 := zz 2; have z3 := zz 3; dsimp at z0 z1 z2 z3; clear zz q3))
            generalize hWF : World.setCell _ _ _ = WF
            have hqf : WF.heap[w.heap.size]? = some (.cells #[.int .i64 3, .int .i64 v, .string ⟨#[]⟩, .bool false] 171 (0, 0)) := by rw [← hWF]; exact hfin.out
            have hN : Below w.heap.size w WF := by rw [← hWF]; exact NF.out
            have y := fun i => cell_of_row _ _ i _ _ _ hqf
            have y0 := y 0; have y1 := y 1; have y2 := y 2; have y3 := y 3
            dsimp at y0 y1 y2 y3
            clear y hqf hWF
            refine bodyPost_ret (v := .agg #[.int .i64 3, .int .i64 v, .string ⟨#[]⟩, .bool false]) (by simp [results, Tryd.results242, go_sem, y0, y1, y2, y3]) rfl ?_
            rw [HF.out]
            exact ⟨rfl, hN⟩
          | false =>
            cases p3 with
            | true =>
              have RS := kyOf_m HN hp1 hp2 hp3
              rw [← hrest] at RS
              unfold rest2 at RS
              have C := fun w => ksgOf_any (s.extract 2 s.size) w hrs
              generalize sgOf (s.extract 2 s.size : ByteArray).data.toList = v at *
              have HF : Hid (kyV R = .agg #[.int .i64 3, .int .i64 v, .string ⟨#[]⟩, .bool false]) := Lib.hid (by rw [← HR.out, RS]; rfl)
              replace C := Lib.hid C
              clear RS
              clear HN hrest hrs
              clear hp1 hp2 hp3 hp4
              go_wp2_with (first | (go_at_call 56; (first | (with_reducible refine (P1.out _).mono ?_) | (with_reducible refine (P2.out _).mono ?_) | (with_reducible refine (P3.out _).mono ?_) | (with_reducible refine (P4.out _).mono ?_)); rintro e w2 ⟨rfl, rfl⟩) | (go_at_call 295; refine (C.out _).mono ?_; rintro e w3 ⟨rfl, hb3⟩; have q3 := blk_below q hb3; have NF := Lib.hid (four_below w3 w w.heap.size (.int .i64 3) (.int .i64 v) (.string ⟨#[]⟩) (.bool false) (Nat.le_refl _) (seqB NB.out hb3)); have hfin := Lib.hid (four_set q3 (.int .i64 3) (.int .i64 v) (.string ⟨#[]⟩) (.bool false)); have zf := fun i => frozen_of_row _ w.heap.size i _ _ q3; have zz := fun i => cell_of_row _ _ i _ _ _ q3; have z0 := zz 0; have z1 := zz 1; have z2 := zz 2; have z3 := zz 3; dsimp at z0 z1 z2 z3; clear zz q3))
              generalize hWF : World.setCell _ _ _ = WF
              have hqf : WF.heap[w.heap.size]? = some (.cells #[.int .i64 3, .int .i64 v, .string ⟨#[]⟩, .bool false] 171 (0, 0)) := by rw [← hWF]; exact hfin.out
              have hN : Below w.heap.size w WF := by rw [← hWF]; exact NF.out
              have y := fun i => cell_of_row _ _ i _ _ _ hqf
              have y0 := y 0; have y1 := y 1; have y2 := y 2; have y3 := y 3
              dsimp at y0 y1 y2 y3
              clear y hqf hWF
              refine bodyPost_ret (v := .agg #[.int .i64 3, .int .i64 v, .string ⟨#[]⟩, .bool false]) (by simp [results, Tryd.results242, go_sem, y0, y1, y2, y3]) rfl ?_
              rw [HF.out]
              exact ⟨rfl, hN⟩
            | false =>
              cases p4 with
              | true =>
                have RS := kyOf_c HN hp1 hp2 hp3 hp4
                have C := fun w => kctOf_any (s) w
                generalize ctOf (s : ByteArray).data.toList = v at *
                have HF : Hid (kyV R = .agg #[.int .i64 2, .int .i64 v, .string ⟨#[]⟩, .bool false]) := Lib.hid (by rw [← HR.out, RS]; rfl)
                replace C := Lib.hid C
                clear RS
                clear HN hrest hrs
                clear hp1 hp2 hp3 hp4
                go_wp2_with (first | (go_at_call 56; (first | (with_reducible refine (P1.out _).mono ?_) | (with_reducible refine (P2.out _).mono ?_) | (with_reducible refine (P3.out _).mono ?_) | (with_reducible refine (P4.out _).mono ?_)); rintro e w2 ⟨rfl, rfl⟩) | (go_at_call 294; refine (C.out _).mono ?_; rintro e w3 ⟨rfl, hb3⟩; have q3 := blk_below q hb3; have NF := Lib.hid (four_below w3 w w.heap.size (.int .i64 2) (.int .i64 v) (.string ⟨#[]⟩) (.bool false) (Nat.le_refl _) (seqB NB.out hb3)); have hfin := Lib.hid (four_set q3 (.int .i64 2) (.int .i64 v) (.string ⟨#[]⟩) (.bool false)); have zf := fun i => frozen_of_row _ w.heap.size i _ _ q3; have zz := fun i => cell_of_row _ _ i _ _ _ q3; have z0 := zz 0; have z1 := zz 1; have z2 := zz 2; have z3 := zz 3; dsimp at z0 z1 z2 z3; clear zz q3))
                generalize hWF : World.setCell _ _ _ = WF
                have hqf : WF.heap[w.heap.size]? = some (.cells #[.int .i64 2, .int .i64 v, .string ⟨#[]⟩, .bool false] 171 (0, 0)) := by rw [← hWF]; exact hfin.out
                have hN : Below w.heap.size w WF := by rw [← hWF]; exact NF.out
                have y := fun i => cell_of_row _ _ i _ _ _ hqf
                have y0 := y 0; have y1 := y 1; have y2 := y 2; have y3 := y 3
                dsimp at y0 y1 y2 y3
                clear y hqf hWF
                refine bodyPost_ret (v := .agg #[.int .i64 2, .int .i64 v, .string ⟨#[]⟩, .bool false]) (by simp [results, Tryd.results242, go_sem, y0, y1, y2, y3]) rfl ?_
                rw [HF.out]
                exact ⟨rfl, hN⟩
              | false =>
                have RS := kyOf_s HN hp1 hp2 hp3 hp4
                have C := fun w => ksgOf_any (s) w hs
                generalize sgOf (s : ByteArray).data.toList = v at *
                have HF : Hid (kyV R = .agg #[.int .i64 1, .int .i64 v, .string ⟨#[]⟩, .bool false]) := Lib.hid (by rw [← HR.out, RS]; rfl)
                replace C := Lib.hid C
                clear RS
                clear HN hrest hrs
                clear hp1 hp2 hp3 hp4
                go_wp2_with (first | (go_at_call 56; (first | (with_reducible refine (P1.out _).mono ?_) | (with_reducible refine (P2.out _).mono ?_) | (with_reducible refine (P3.out _).mono ?_) | (with_reducible refine (P4.out _).mono ?_)); rintro e w2 ⟨rfl, rfl⟩) | (go_at_call 295; refine (C.out _).mono ?_; rintro e w3 ⟨rfl, hb3⟩; have q3 := blk_below q hb3; have NF := Lib.hid (four_below w3 w w.heap.size (.int .i64 1) (.int .i64 v) (.string ⟨#[]⟩) (.bool false) (Nat.le_refl _) (seqB NB.out hb3)); have hfin := Lib.hid (four_set q3 (.int .i64 1) (.int .i64 v) (.string ⟨#[]⟩) (.bool false)); have zf := fun i => frozen_of_row _ w.heap.size i _ _ q3; have zz := fun i => cell_of_row _ _ i _ _ _ q3; have z0 := zz 0; have z1 := zz 1; have z2 := zz 2; have z3 := zz 3; dsimp at z0 z1 z2 z3; clear zz q3))
                generalize hWF : World.setCell _ _ _ = WF
                have hqf : WF.heap[w.heap.size]? = some (.cells #[.int .i64 1, .int .i64 v, .string ⟨#[]⟩, .bool false] 171 (0, 0)) := by rw [← hWF]; exact hfin.out
                have hN : Below w.heap.size w WF := by rw [← hWF]; exact NF.out
                have y := fun i => cell_of_row _ _ i _ _ _ hqf
                have y0 := y 0; have y1 := y 1; have y2 := y 2; have y3 := y 3
                dsimp at y0 y1 y2 y3
                clear y hqf hWF
                refine bodyPost_ret (v := .agg #[.int .i64 1, .int .i64 v, .string ⟨#[]⟩, .bool false]) (by simp [results, Tryd.results242, go_sem, y0, y1, y2, y3]) rfl ?_
                rw [HF.out]
                exact ⟨rfl, hN⟩
      · have h2i : ¬ (2 : Int) < s.size := by omega
        have hrest := rest2_list s
        rw [rest2_nil s h2] at hrest
        have hrs : (⟨#[]⟩ : ByteArray).size ≤ 900000 := by decide
        cases p1 with
        | true =>
          have RS := kyOf_p HN hp1
          rw [← hrest] at RS
          obtain ⟨pk, hpk⟩ : ∃ pk, psOf (⟨#[]⟩ : ByteArray).data.toList = pk := ⟨_, rfl⟩
          have C := Lib.hid fun w => kpsOf_t _ _ hpk w hrs
          have HF : Hid (kyV R = .agg #[.int .i64 pk.1, .int .i64 pk.2.1, .string pk.2.2.1, .bool pk.2.2.2]) := Lib.hid (by rw [← HR.out, RS, hpk]; rfl)
          clear RS hpk
          clear HN hrest hrs
          clear hp1 hp2 hp3 hp4
          go_wp2_with (first | (go_at_call 56; (first | (with_reducible refine (P1.out _).mono ?_) | (with_reducible refine (P2.out _).mono ?_) | (with_reducible refine (P3.out _).mono ?_) | (with_reducible refine (P4.out _).mono ?_)); rintro e w2 ⟨rfl, rfl⟩) | (go_at_call 293; refine (C.out _).mono ?_; rintro e w3 ⟨rfl, hb3⟩; have q3 := blk_below q hb3; have NF := Lib.hid (four_below w3 w w.heap.size (.int .i64 pk.1) (.int .i64 pk.2.1) (.string pk.2.2.1) (.bool pk.2.2.2) (Nat.le_refl _) (seqB NB.out hb3)); have hfin := Lib.hid (four_set q3 (.int .i64 pk.1) (.int .i64 pk.2.1) (.string pk.2.2.1) (.bool pk.2.2.2)); have zf := fun i => frozen_of_row _ w.heap.size i _ _ q3; have zz := fun i => cell_of_row _ _ i _ _ _ q3; have z0 := zz 0; have z1 := zz 1; have z2 := zz 2; have z3 := zz 3; dsimp at z0 z1 z2 z3; clear zz q3))
          generalize hWF : World.setCell _ _ _ = WF
          have hqf : WF.heap[w.heap.size]? = some (.cells #[.int .i64 pk.1, .int .i64 pk.2.1, .string pk.2.2.1, .bool pk.2.2.2] 171 (0, 0)) := by rw [← hWF]; exact hfin.out
          have hN : Below w.heap.size w WF := by rw [← hWF]; exact NF.out
          have y := fun i => cell_of_row _ _ i _ _ _ hqf
          have y0 := y 0; have y1 := y 1; have y2 := y 2; have y3 := y 3
          dsimp at y0 y1 y2 y3
          clear y hqf hWF
          refine bodyPost_ret (v := .agg #[.int .i64 pk.1, .int .i64 pk.2.1, .string pk.2.2.1, .bool pk.2.2.2]) (by simp [results, Tryd.results242, go_sem, y0, y1, y2, y3]) rfl ?_
          rw [HF.out]
          exact ⟨rfl, hN⟩
        | false =>
          cases p2 with
          | true =>
            have RS := kyOf_mc HN hp1 hp2
            rw [← hrest] at RS
            have C := fun w => kctOf_any (⟨#[]⟩) w
            generalize ctOf (⟨#[]⟩ : ByteArray).data.toList = v at *
            have HF : Hid (kyV R = .agg #[.int .i64 3, .int .i64 v, .string ⟨#[]⟩, .bool false]) := Lib.hid (by rw [← HR.out, RS]; rfl)
            replace C := Lib.hid C
            clear RS
            clear HN hrest hrs
            clear hp1 hp2 hp3 hp4
            go_wp2_with (first | (go_at_call 56; (first | (with_reducible refine (P1.out _).mono ?_) | (with_reducible refine (P2.out _).mono ?_) | (with_reducible refine (P3.out _).mono ?_) | (with_reducible refine (P4.out _).mono ?_)); rintro e w2 ⟨rfl, rfl⟩) | (go_at_call 294; refine (C.out _).mono ?_; rintro e w3 ⟨rfl, hb3⟩; have q3 := blk_below q hb3; have NF := Lib.hid (four_below w3 w w.heap.size (.int .i64 3) (.int .i64 v) (.string ⟨#[]⟩) (.bool false) (Nat.le_refl _) (seqB NB.out hb3)); have hfin := Lib.hid (four_set q3 (.int .i64 3) (.int .i64 v) (.string ⟨#[]⟩) (.bool false)); have zf := fun i => frozen_of_row _ w.heap.size i _ _ q3; have zz := fun i => cell_of_row _ _ i _ _ _ q3; have z0 := zz 0; have z1 := zz 1; have z2 := zz 2; have z3 := zz 3; dsimp at z0 z1 z2 z3; clear zz q3))
            generalize hWF : World.setCell _ _ _ = WF
            have hqf : WF.heap[w.heap.size]? = some (.cells #[.int .i64 3, .int .i64 v, .string ⟨#[]⟩, .bool false] 171 (0, 0)) := by rw [← hWF]; exact hfin.out
            have hN : Below w.heap.size w WF := by rw [← hWF]; exact NF.out
            have y := fun i => cell_of_row _ _ i _ _ _ hqf
            have y0 := y 0; have y1 := y 1; have y2 := y 2; have y3 := y 3
            dsimp at y0 y1 y2 y3
            clear y hqf hWF
            refine bodyPost_ret (v := .agg #[.int .i64 3, .int .i64 v, .string ⟨#[]⟩, .bool false]) (by simp [results, Tryd.results242, go_sem, y0, y1, y2, y3]) rfl ?_
            rw [HF.out]
            exact ⟨rfl, hN⟩
          | false =>
            cases p3 with
            | true =>
              have RS := kyOf_m HN hp1 hp2 hp3
              rw [← hrest] at RS
              have C := fun w => ksgOf_any (⟨#[]⟩) w hrs
              generalize sgOf (⟨#[]⟩ : ByteArray).data.toList = v at *
              have HF : Hid (kyV R = .agg #[.int .i64 3, .int .i64 v, .string ⟨#[]⟩, .bool false]) := Lib.hid (by rw [← HR.out, RS]; rfl)
              replace C := Lib.hid C
              clear RS
              clear HN hrest hrs
              clear hp1 hp2 hp3 hp4
              go_wp2_with (first | (go_at_call 56; (first | (with_reducible refine (P1.out _).mono ?_) | (with_reducible refine (P2.out _).mono ?_) | (with_reducible refine (P3.out _).mono ?_) | (with_reducible refine (P4.out _).mono ?_)); rintro e w2 ⟨rfl, rfl⟩) | (go_at_call 295; refine (C.out _).mono ?_; rintro e w3 ⟨rfl, hb3⟩; have q3 := blk_below q hb3; have NF := Lib.hid (four_below w3 w w.heap.size (.int .i64 3) (.int .i64 v) (.string ⟨#[]⟩) (.bool false) (Nat.le_refl _) (seqB NB.out hb3)); have hfin := Lib.hid (four_set q3 (.int .i64 3) (.int .i64 v) (.string ⟨#[]⟩) (.bool false)); have zf := fun i => frozen_of_row _ w.heap.size i _ _ q3; have zz := fun i => cell_of_row _ _ i _ _ _ q3; have z0 := zz 0; have z1 := zz 1; have z2 := zz 2; have z3 := zz 3; dsimp at z0 z1 z2 z3; clear zz q3))
              generalize hWF : World.setCell _ _ _ = WF
              have hqf : WF.heap[w.heap.size]? = some (.cells #[.int .i64 3, .int .i64 v, .string ⟨#[]⟩, .bool false] 171 (0, 0)) := by rw [← hWF]; exact hfin.out
              have hN : Below w.heap.size w WF := by rw [← hWF]; exact NF.out
              have y := fun i => cell_of_row _ _ i _ _ _ hqf
              have y0 := y 0; have y1 := y 1; have y2 := y 2; have y3 := y 3
              dsimp at y0 y1 y2 y3
              clear y hqf hWF
              refine bodyPost_ret (v := .agg #[.int .i64 3, .int .i64 v, .string ⟨#[]⟩, .bool false]) (by simp [results, Tryd.results242, go_sem, y0, y1, y2, y3]) rfl ?_
              rw [HF.out]
              exact ⟨rfl, hN⟩
            | false =>
              cases p4 with
              | true =>
                have RS := kyOf_c HN hp1 hp2 hp3 hp4
                have C := fun w => kctOf_any (s) w
                generalize ctOf (s : ByteArray).data.toList = v at *
                have HF : Hid (kyV R = .agg #[.int .i64 2, .int .i64 v, .string ⟨#[]⟩, .bool false]) := Lib.hid (by rw [← HR.out, RS]; rfl)
                replace C := Lib.hid C
                clear RS
                clear HN hrest hrs
                clear hp1 hp2 hp3 hp4
                go_wp2_with (first | (go_at_call 56; (first | (with_reducible refine (P1.out _).mono ?_) | (with_reducible refine (P2.out _).mono ?_) | (with_reducible refine (P3.out _).mono ?_) | (with_reducible refine (P4.out _).mono ?_)); rintro e w2 ⟨rfl, rfl⟩) | (go_at_call 294; refine (C.out _).mono ?_; rintro e w3 ⟨rfl, hb3⟩; have q3 := blk_below q hb3; have NF := Lib.hid (four_below w3 w w.heap.size (.int .i64 2) (.int .i64 v) (.string ⟨#[]⟩) (.bool false) (Nat.le_refl _) (seqB NB.out hb3)); have hfin := Lib.hid (four_set q3 (.int .i64 2) (.int .i64 v) (.string ⟨#[]⟩) (.bool false)); have zf := fun i => frozen_of_row _ w.heap.size i _ _ q3; have zz := fun i => cell_of_row _ _ i _ _ _ q3; have z0 := zz 0; have z1 := zz 1; have z2 := zz 2; have z3 := zz 3; dsimp at z0 z1 z2 z3; clear zz q3))
                generalize hWF : World.setCell _ _ _ = WF
                have hqf : WF.heap[w.heap.size]? = some (.cells #[.int .i64 2, .int .i64 v, .string ⟨#[]⟩, .bool false] 171 (0, 0)) := by rw [← hWF]; exact hfin.out
                have hN : Below w.heap.size w WF := by rw [← hWF]; exact NF.out
                have y := fun i => cell_of_row _ _ i _ _ _ hqf
                have y0 := y 0; have y1 := y 1; have y2 := y 2; have y3 := y 3
                dsimp at y0 y1 y2 y3
                clear y hqf hWF
                refine bodyPost_ret (v := .agg #[.int .i64 2, .int .i64 v, .string ⟨#[]⟩, .bool false]) (by simp [results, Tryd.results242, go_sem, y0, y1, y2, y3]) rfl ?_
                rw [HF.out]
                exact ⟨rfl, hN⟩
              | false =>
                have RS := kyOf_s HN hp1 hp2 hp3 hp4
                have C := fun w => ksgOf_any (s) w hs
                generalize sgOf (s : ByteArray).data.toList = v at *
                have HF : Hid (kyV R = .agg #[.int .i64 1, .int .i64 v, .string ⟨#[]⟩, .bool false]) := Lib.hid (by rw [← HR.out, RS]; rfl)
                replace C := Lib.hid C
                clear RS
                clear HN hrest hrs
                clear hp1 hp2 hp3 hp4
                go_wp2_with (first | (go_at_call 56; (first | (with_reducible refine (P1.out _).mono ?_) | (with_reducible refine (P2.out _).mono ?_) | (with_reducible refine (P3.out _).mono ?_) | (with_reducible refine (P4.out _).mono ?_)); rintro e w2 ⟨rfl, rfl⟩) | (go_at_call 295; refine (C.out _).mono ?_; rintro e w3 ⟨rfl, hb3⟩; have q3 := blk_below q hb3; have NF := Lib.hid (four_below w3 w w.heap.size (.int .i64 1) (.int .i64 v) (.string ⟨#[]⟩) (.bool false) (Nat.le_refl _) (seqB NB.out hb3)); have hfin := Lib.hid (four_set q3 (.int .i64 1) (.int .i64 v) (.string ⟨#[]⟩) (.bool false)); have zf := fun i => frozen_of_row _ w.heap.size i _ _ q3; have zz := fun i => cell_of_row _ _ i _ _ _ q3; have z0 := zz 0; have z1 := zz 1; have z2 := zz 2; have z3 := zz 3; dsimp at z0 z1 z2 z3; clear zz q3))
                generalize hWF : World.setCell _ _ _ = WF
                have hqf : WF.heap[w.heap.size]? = some (.cells #[.int .i64 1, .int .i64 v, .string ⟨#[]⟩, .bool false] 171 (0, 0)) := by rw [← hWF]; exact hfin.out
                have hN : Below w.heap.size w WF := by rw [← hWF]; exact NF.out
                have y := fun i => cell_of_row _ _ i _ _ _ hqf
                have y0 := y 0; have y1 := y 1; have y2 := y 2; have y3 := y 3
                dsimp at y0 y1 y2 y3
                clear y hqf hWF
                refine bodyPost_ret (v := .agg #[.int .i64 1, .int .i64 v, .string ⟨#[]⟩, .bool false]) (by simp [results, Tryd.results242, go_sem, y0, y1, y2, y3]) rfl ?_
                rw [HF.out]
                exact ⟨rfl, hN⟩
end Go.Proofs.YtangpdaoacjinaaDoor
set_option linter.unusedVariables false
set_option linter.unusedSimpArgs false
namespace Go.Proofs.YtangpdaoacjinaaDoor
open Go.RowKit
def PrPost (l : List UInt8) (w : World) (e : Ending) (w' : World) : Prop := e = .returned (.tuple #[kyV (prK l), .int .i64 (prE l)]) ∧ Below w.heap.size w w'
theorem kname_t (k : Ky) (w : World) (hK : KT w) (nm : ByteArray) (er : Int) (h1 : mkS (nmR k) = nm) (h2 : ckE k = er) : Calls Tryd.prog 231 #[.agg #[.int .i64 k.1, .int .i64 k.2.1, .string k.2.2.1, .bool k.2.2.2]] w fun e w' => e = .returned (.tuple #[.string nm, .int .i64 er]) ∧ Below w.heap.size w w' := by
  subst h1; subst h2; exact kname_any k w hK
theorem kkeyOf_t (s : ByteArray) (w : World) (hK : KT w) (hs : s.size ≤ 900000) (k : Ky) (h : kyOf s.data.toList = k) : Calls Tryd.prog 242 #[.string s] w fun e w' => e = .returned (.agg #[.int .i64 k.1, .int .i64 k.2.1, .string k.2.2.1, .bool k.2.2.2]) ∧ Below w.heap.size w w' := by
  subst h; exact kkeyOf_any s w hK hs
theorem pr_no {l : List UInt8} {w w' : World} (h : prOk l = false) (hb : Below w.heap.size w w') : PrPost l w (.returned (.tuple #[.agg #[.int .i64 0, .int .i64 0, .string ⟨#[]⟩, .bool false], .int .i64 6])) w' := by
  unfold PrPost prK prE; rw [h]; exact ⟨rfl, hb⟩
theorem pr_yes {l : List UInt8} {w w' : World} {k : Ky} (h : prOk l = true) (hk : kyOf l = k) (hb : Below w.heap.size w w') : PrPost l w (.returned (.tuple #[.agg #[.int .i64 k.1, .int .i64 k.2.1, .string k.2.2.1, .bool k.2.2.2], .int .i64 0])) w' := by
  unfold PrPost prK prE; rw [h, if_pos rfl, if_pos rfl, hk]; exact ⟨rfl, hb⟩
set_option maxHeartbeats 8000000 in
set_option maxRecDepth 100000 in
theorem kparse_any (s : ByteArray) (w : World) (hK : KT w) (hs : s.size ≤ 900000) : Calls Tryd.prog 169 #[.string s] w (PrPost s.data.toList w) := by
  have B0 := below_alloc w (.cells #[.int .i64 0, .int .i64 0, .string ⟨#[]⟩, .bool false] 171)
  have hq := heap_alloc_new w (.cells #[.int .i64 0, .int .i64 0, .string ⟨#[]⟩, .bool false] 171)
  obtain ⟨W0, hW0⟩ : ∃ W0, w.alloc (.cells #[.int .i64 0, .int .i64 0, .string ⟨#[]⟩, .bool false] 171) = W0 := ⟨_, rfl⟩
  rw [hW0] at B0 hq
  have HK := Lib.hid (hK.below B0)
  replace hq := Lib.hid hq
  obtain ⟨k, hk⟩ : ∃ k, kyOf s.data.toList = k := ⟨_, rfl⟩
  have KO := Lib.hid fun w hK => kkeyOf_t s w hK hs k hk
  clear hK
  have HN := fun h w' hb => pr_no (l := s.data.toList) (w := w) (w' := w') h hb
  have HY := fun h w' hb => pr_yes (l := s.data.toList) (w := w) (w' := w') h hk hb
  have ho : prOk s.data.toList = (keyB k && nmN k == s.data.toList) := by unfold prOk; rw [hk]
  rw [ho] at HN HY
  clear ho
  have NM := fun w hK nm er h1 h2 => kname_t k w hK nm er h1 h2
  cases hok : keyB k with
  | false =>
    have NM := Lib.hid fun w hK => NM w hK ⟨#[]⟩ 2 (by unfold nmR; rw [hok]; rfl) (ckE_no hok)
    have HP := Lib.hid (HN (by rw [hok]; rfl))
    clear HN HY hk hok
    go_enter Tryd.func169, Tryd.ntmps169
    go_upto_region 1 with fail
    clear hW0
    go_wp2_with (first
      | (go_at_call 242; refine (KO.out _ HK.out).mono ?_; rintro e w2 ⟨rfl, hb2⟩; have B2 := below_alloc w2 (.cells #[.int .i64 k.1, .int .i64 k.2.1, .string k.2.2.1, .bool k.2.2.2] 171); have hk2 := Lib.hid (heap_alloc_new w2 (.cells #[.int .i64 k.1, .int .i64 k.2.1, .string k.2.2.1, .bool k.2.2.2] 171)); have N2 := Lib.hid (seqB hb2 B2); have HK2 := Lib.hid (HK.out.below N2.out))
      | (go_at_call 231; refine (NM.out _ HK2.out).mono ?_; rintro e w3 ⟨rfl, hb3⟩; have N3 := Lib.hid (seqB N2.out hb3); have q3 := blk_below hq.out N3.out; have hk3 := blk_below hk2.out hb3; have yy := fun i => cell_of_row _ _ i _ _ _ hk3; have y0 := yy 0; have y1 := yy 1; have y2 := yy 2; have y3 := yy 3; dsimp at y0 y1 y2 y3; have zf := fun i => frozen_of_row _ w.heap.size i _ _ q3; have zz := fun i => cell_of_row _ _ i _ _ _ q3; have z0 := zz 0; have z1 := zz 1; have z2 := zz 2; have z3 := zz 3; dsimp at z0 z1 z2 z3; have NF := Lib.hid (four_below w3 w w.heap.size (.int .i64 0) (.int .i64 0) (.string ⟨#[]⟩) (.bool false) (Nat.le_refl _) (seqB B0 N3.out)); have hfin := Lib.hid (four_set q3 (.int .i64 0) (.int .i64 0) (.string ⟨#[]⟩) (.bool false)); clear zz yy q3 hk3))
    generalize hWF : World.setCell _ _ _ = WF
    have hqf : WF.heap[w.heap.size]? = some (.cells #[.int .i64 0, .int .i64 0, .string ⟨#[]⟩, .bool false] 171 (0, 0)) := by rw [← hWF]; exact hfin.out
    have hN : Below w.heap.size w WF := by rw [← hWF]; exact NF.out
    clear y0 y1 y2 y3
    have y := fun i => cell_of_row _ _ i _ _ _ hqf
    have y0 := y 0; have y1 := y 1; have y2 := y 2; have y3 := y 3
    dsimp at y0 y1 y2 y3
    clear y hqf hWF
    refine bodyPost_ret (v := .tuple #[.agg #[.int .i64 0, .int .i64 0, .string ⟨#[]⟩, .bool false], .int .i64 6]) (by simp [results, Tryd.results169, go_sem, y0, y1, y2, y3]) rfl ?_
    exact HP.out _ hN
  | true =>
    have NM := fun w hK => NM w hK (mkS (nmN k)) 0 (by unfold nmR; rw [hok]; rfl) (ckE_yes hok)
    by_cases he : mkS (nmN k) = s
    · have HP := Lib.hid (HY (by rw [hok, mkS_eq he]; simp))
      rw [he] at NM
      replace NM := Lib.hid NM
      clear HN HY hk hok he
      go_enter Tryd.func169, Tryd.ntmps169
      go_upto_region 1 with fail
      clear hW0
      go_wp2_with (first
        | (go_at_call 242; refine (KO.out _ HK.out).mono ?_; rintro e w2 ⟨rfl, hb2⟩; have B2 := below_alloc w2 (.cells #[.int .i64 k.1, .int .i64 k.2.1, .string k.2.2.1, .bool k.2.2.2] 171); have hk2 := Lib.hid (heap_alloc_new w2 (.cells #[.int .i64 k.1, .int .i64 k.2.1, .string k.2.2.1, .bool k.2.2.2] 171)); have N2 := Lib.hid (seqB hb2 B2); have HK2 := Lib.hid (HK.out.below N2.out))
        | (go_at_call 231; refine (NM.out _ HK2.out).mono ?_; rintro e w3 ⟨rfl, hb3⟩; have N3 := Lib.hid (seqB N2.out hb3); have q3 := blk_below hq.out N3.out; have hk3 := blk_below hk2.out hb3; have yy := fun i => cell_of_row _ _ i _ _ _ hk3; have y0 := yy 0; have y1 := yy 1; have y2 := yy 2; have y3 := yy 3; dsimp at y0 y1 y2 y3; have zf := fun i => frozen_of_row _ w.heap.size i _ _ q3; have zz := fun i => cell_of_row _ _ i _ _ _ q3; have z0 := zz 0; have z1 := zz 1; have z2 := zz 2; have z3 := zz 3; dsimp at z0 z1 z2 z3; have NF := Lib.hid (four_below w3 w w.heap.size (.int .i64 k.1) (.int .i64 k.2.1) (.string k.2.2.1) (.bool k.2.2.2) (Nat.le_refl _) (seqB B0 N3.out)); have hfin := Lib.hid (four_set q3 (.int .i64 k.1) (.int .i64 k.2.1) (.string k.2.2.1) (.bool k.2.2.2)); clear zz yy q3 hk3))
      generalize hWF : World.setCell _ _ _ = WF
      have hqf : WF.heap[w.heap.size]? = some (.cells #[.int .i64 k.1, .int .i64 k.2.1, .string k.2.2.1, .bool k.2.2.2] 171 (0, 0)) := by rw [← hWF]; exact hfin.out
      have hN : Below w.heap.size w WF := by rw [← hWF]; exact NF.out
      clear y0 y1 y2 y3
      have y := fun i => cell_of_row _ _ i _ _ _ hqf
      have y0 := y 0; have y1 := y 1; have y2 := y 2; have y3 := y 3
      dsimp at y0 y1 y2 y3
      clear y hqf hWF
      refine bodyPost_ret (v := .tuple #[.agg #[.int .i64 k.1, .int .i64 k.2.1, .string k.2.2.1, .bool k.2.2.2], .int .i64 0]) (by simp [results, Tryd.results169, go_sem, y0, y1, y2, y3]) rfl ?_
      exact HP.out _ hN
    · have HP := Lib.hid (HN (by rw [hok]; simp; intro h; exact he (by rw [h, mkS_of])))
      obtain ⟨s1, s2, s3⟩ := kstr_ne he
      generalize mkS (nmN k) = u at *
      replace NM := Lib.hid NM
      clear HN HY hk hok he
      go_enter Tryd.func169, Tryd.ntmps169
      go_upto_region 1 with fail
      clear hW0
      go_wp2_with (first
        | (go_at_call 242; refine (KO.out _ HK.out).mono ?_; rintro e w2 ⟨rfl, hb2⟩; have B2 := below_alloc w2 (.cells #[.int .i64 k.1, .int .i64 k.2.1, .string k.2.2.1, .bool k.2.2.2] 171); have hk2 := Lib.hid (heap_alloc_new w2 (.cells #[.int .i64 k.1, .int .i64 k.2.1, .string k.2.2.1, .bool k.2.2.2] 171)); have N2 := Lib.hid (seqB hb2 B2); have HK2 := Lib.hid (HK.out.below N2.out))
        | (go_at_call 231; refine (NM.out _ HK2.out).mono ?_; rintro e w3 ⟨rfl, hb3⟩; have N3 := Lib.hid (seqB N2.out hb3); have q3 := blk_below hq.out N3.out; have hk3 := blk_below hk2.out hb3; have yy := fun i => cell_of_row _ _ i _ _ _ hk3; have y0 := yy 0; have y1 := yy 1; have y2 := yy 2; have y3 := yy 3; dsimp at y0 y1 y2 y3; have zf := fun i => frozen_of_row _ w.heap.size i _ _ q3; have zz := fun i => cell_of_row _ _ i _ _ _ q3; have z0 := zz 0; have z1 := zz 1; have z2 := zz 2; have z3 := zz 3; dsimp at z0 z1 z2 z3; have NF := Lib.hid (four_below w3 w w.heap.size (.int .i64 0) (.int .i64 0) (.string ⟨#[]⟩) (.bool false) (Nat.le_refl _) (seqB B0 N3.out)); have hfin := Lib.hid (four_set q3 (.int .i64 0) (.int .i64 0) (.string ⟨#[]⟩) (.bool false)); clear zz yy q3 hk3))
      generalize hWF : World.setCell _ _ _ = WF
      have hqf : WF.heap[w.heap.size]? = some (.cells #[.int .i64 0, .int .i64 0, .string ⟨#[]⟩, .bool false] 171 (0, 0)) := by rw [← hWF]; exact hfin.out
      have hN : Below w.heap.size w WF := by rw [← hWF]; exact NF.out
      clear y0 y1 y2 y3
      have y := fun i => cell_of_row _ _ i _ _ _ hqf
      have y0 := y 0; have y1 := y 1; have y2 := y 2; have y3 := y 3
      dsimp at y0 y1 y2 y3
      clear y hqf hWF
      refine bodyPost_ret (v := .tuple #[.agg #[.int .i64 0, .int .i64 0, .string ⟨#[]⟩, .bool false], .int .i64 6]) (by simp [results, Tryd.results169, go_sem, y0, y1, y2, y3]) rfl ?_
      exact HP.out _ hN
end Go.Proofs.YtangpdaoacjinaaDoor
set_option linter.unusedVariables false
set_option linter.unusedSimpArgs false
namespace Go.Proofs.YtangpdaoacjinaaDoor
open Go.RowKit
theorem ktoL_ne {a b : ByteArray} (h : ¬ a = b) : ¬ a.toList = b.toList := by
  rw [ByteArray.toList_eq, ByteArray.toList_eq]; intro e; exact h (ByteArray.ext (Array.ext' e))
set_option maxHeartbeats 1000000 in
theorem eqKey (a b : Int) (t : ByteArray) (c : Bool) (a' b' : Int) (t' : ByteArray) (c' : Bool) (w : World) : (binOp .eql 171 (.agg #[.int .i64 a, .int .i64 b, .string t, .bool c]) (.agg #[.int .i64 a', .int .i64 b', .string t', .bool c'])).run Tryd.prog w = .ok (.bool (decide (((a, b, t, c) : Ky) = (a', b', t', c')))) w := by
  by_cases h1 : a = a'
  · by_cases h2 : b = b'
    · by_cases h3 : t = t'
      · by_cases h4 : c = c'
        · subst h1; subst h2; subst h3; subst h4
          simp [go_sem]
        · simp [go_sem, h1, h2, h3, h4]
      · simp [go_sem, h1, h2, h3, ktoL_ne h3]
    · simp [go_sem, h1, h2]
  · simp [go_sem, h1]
theorem eqKey_same (a b : Int) (t : ByteArray) (c : Bool) (w : World) : (binOp .eql 171 (.agg #[.int .i64 a, .int .i64 b, .string t, .bool c]) (.agg #[.int .i64 a, .int .i64 b, .string t, .bool c])).run Tryd.prog w = .ok (.bool true) w := by
  rw [eqKey, decide_eq_true rfl]
theorem ka_name (w : World) (hK : KT w) : Calls Tryd.prog 231 #[.agg #[.int .i64 3, .int .i64 102, .string ⟨#[]⟩, .bool false]] w fun e w' => e = .returned (.tuple #[.string ⟨#[77, 45, 102]⟩, .int .i64 0]) ∧ Below w.heap.size w w' :=
  kname_t (3, 102, ⟨#[]⟩, false) w hK _ _ (by decide) (by decide)
theorem ka_parse (w : World) (hK : KT w) : Calls Tryd.prog 169 #[.string ⟨#[80, 45, 48, 48, 70, 70, 33]⟩] w fun e w' => e = .returned (.tuple #[.agg #[.int .i64 15, .int .i64 0, .string ⟨#[0, 255]⟩, .bool true], .int .i64 0]) ∧ Below w.heap.size w w' := by
  have h := kparse_any ⟨#[80, 45, 48, 48, 70, 70, 33]⟩ w hK (by decide)
  unfold PrPost at h
  have e : (⟨#[80, 45, 48, 48, 70, 70, 33]⟩ : ByteArray).data.toList = nmN (15, 0, ⟨#[0, 255]⟩, true) := by decide
  have p := parse_name (15, 0, ⟨#[0, 255]⟩, true) (by decide)
  rw [e, p.1, p.2] at h
  exact h
theorem ka_value (w : World) (hK : KT w) : Calls Tryd.prog 193 #[.agg #[.int .i64 5, .int .i64 0, .string ⟨#[]⟩, .bool false]] w fun e w' => e = .returned (.tuple #[.int .i64 27, .bool true]) ∧ Below w.heap.size w w' := by
  have h := kvalue_any (5, 0, ⟨#[]⟩, false) w hK
  unfold VlPost at h
  rw [show vlI (5, 0, ⟨#[]⟩, false) = 27 by decide, show vlB (5, 0, ⟨#[]⟩, false) = true by decide] at h
  exact h
theorem ka_check (w : World) (hK : KT w) : Calls Tryd.prog 238 #[.agg #[.int .i64 0, .int .i64 0, .string ⟨#[]⟩, .bool false]] w fun e w' => e = .returned (.int .i64 2) ∧ Below w.heap.size w w' := by
  have h := kcheck_any (0, 0, ⟨#[]⟩, false) w hK
  rw [show ckE (0, 0, ⟨#[]⟩, false) = 2 by decide] at h
  exact h
end Go.Proofs.YtangpdaoacjinaaDoor
set_option linter.unusedVariables false
set_option linter.unusedSimpArgs false
namespace Go.Proofs.YtangpdaoacjinaaDoor
open Go.RowKit
theorem kparse_t (s : ByteArray) (w : World) (hK : KT w) (hs : s.size ≤ 900000) (k : Ky) (er : Int) (h1 : prK s.data.toList = k) (h2 : prE s.data.toList = er) : Calls Tryd.prog 169 #[.string s] w fun e w' => e = .returned (.tuple #[.agg #[.int .i64 k.1, .int .i64 k.2.1, .string k.2.2.1, .bool k.2.2.2], .int .i64 er]) ∧ Below w.heap.size w w' := by
  subst h1; subst h2; exact kparse_any s w hK hs
end Go.Proofs.YtangpdaoacjinaaDoor
set_option linter.unusedVariables false
set_option linter.unusedSimpArgs false
namespace Go.Proofs.YtangpdaoacjinaaDoor
open Go.ChangeShapes Go.WideShapes Go.ChangeAt Go.RowKit Go.Deep Go.Joins
section
variable {H : Type} {enc : TypeId × Value → H} {W : World}
theorem addS_none (b off k : Nat) : (⟨b, off, none⟩ : Addr).add k = ⟨b, off + k, none⟩ := by unfold Addr.add; split <;> simp_all
set_option maxRecDepth 100000 in
theorem cellsIntS : Tryd.prog.cellsOf 3 = 1 := by kernel_rfl
set_option maxRecDepth 100000 in
theorem cellsSign : Tryd.prog.cellsOf 68 = 2 := by kernel_rfl
set_option maxRecDepth 100000 in
theorem arg_signs0 {base : Nat} {v0 : Value} {d0 : DataW H} {p : List MemPlace} (hv : Value.okWide Tryd.prog W .any base 50 v0) (h : DataW.Trod enc Tryd.prog W 0 (fun _ => true) true 50 v0 d0 p) :
    ∃ (l : List (Int × Int)) (a : Option Addr) (c : Nat), v0 = .slice a l.length c ∧ Signs W a l ∧ l.length ≤ 9223372036854775807 ∧ (a = none → c = 0) := by
  obtain ⟨a0, len, cap, rfl⟩ := okWide_slice Tryd.underlying50 hv
  obtain ⟨fuel, hf⟩ := h
  rcases open_slice_pairs Tryd.underlying50 Tryd.underlying68 cellsSign rfl rfl cellsIntS cellsIntS hf with ⟨hcs, _⟩ | ⟨a, len', cap', m, n, V0, V1, D0, D1, P0, P1, hcs, _, hl, hm, hmm, _, hcell⟩
  · simp [Value.cells] at hcs
    obtain ⟨rfl, rfl, rfl⟩ := hcs
    exact ⟨[], none, 0, rfl, fun j hj => absurd hj (Nat.not_lt_zero j), by simp, fun _ => rfl⟩
  · simp [Value.cells] at hcs
    obtain ⟨rfl, rfl, rfl⟩ := hcs
    have hlm : len ≤ m := by rw [hmm]; split <;> omega
    have key : ∀ i, i < len → ∃ q : Int × Int, V0 i = .int .i64 q.1 ∧ V1 i = .int .i64 q.2 := fun i hi => by
      obtain ⟨_, _, h1, h2⟩ := hcell i (by omega)
      obtain ⟨x, hx, _, _⟩ := DataW.trod_int Tryd.underlying3 h1
      obtain ⟨y, hy, _, _⟩ := DataW.trod_int Tryd.underlying3 h2
      exact ⟨(x, y), by simpa using hx, by simpa using hy⟩
    obtain ⟨F, hF⟩ : ∃ F : Nat → Int × Int, ∀ i, i < len → V0 i = .int .i64 (F i).1 ∧ V1 i = .int .i64 (F i).2 :=
      ⟨fun i => if h : i < len then (key i h).choose else (0, 0), fun i hi => by simp only [dif_pos hi]; exact (key i hi).choose_spec⟩
    clear key
    refine ⟨(List.range len).map F, some a, cap, by simp, ?_, by simp; unfold maxLen at hm; omega, fun h => by cases h⟩
    intro j hj
    have hj2 : j < len := by simpa using hj
    obtain ⟨c0, c1, _, _⟩ := hcell j (by omega)
    have hk := hF j hj2
    obtain ⟨b, off, sp⟩ := a
    have hsp : sp = none := by
      obtain ⟨c00, _⟩ := hcell 0 (by omega)
      have h1 : W.cell? ⟨b, off, sp⟩ = some (V0 0) := by simpa [Addr.add] using c00
      exact cell_spot h1
    subst hsp
    rw [addS_none] at c0 c1
    have hg : ((List.range len).map F).getD j (0, 0) = F j := by
      rw [List.getD, List.getElem?_map, List.getElem?_range hj2]; rfl
    rw [hg]
    refine ⟨b, off, rfl, block_lt_of_cell c0, ?_, ?_⟩
    · rw [c0, hk.1]
    · rw [show off + j * 2 + 1 = off + (j * 2 + 1) by omega, c1, hk.2]
theorem arg_signs {base : Nat} {v0 : Value} {d0 : DataW H} {p : List MemPlace} (hv : Value.okWide Tryd.prog W .any base 50 v0) (h : DataW.Trod enc Tryd.prog W 0 (fun _ => true) true 50 v0 d0 p) :
    ∃ (l : List (Int × Int)) (a : Option Addr) (c : Nat), v0 = .slice a l.length c ∧ Signs W a l ∧ l.length ≤ 9223372036854775807 := by
  obtain ⟨l, a, c, h1, h2, h3, _⟩ := arg_signs0 hv h
  exact ⟨l, a, c, h1, h2, h3⟩
theorem arg_sign {base : Nat} {v0 : Value} {d0 : DataW H} {p : List MemPlace} (hv : Value.okWide Tryd.prog W .any base 68 v0) (h : DataW.Trod enc Tryd.prog W 0 (fun _ => true) true 68 v0 d0 p) :
    ∃ (x y : Int), v0 = .agg #[.int .i64 x, .int .i64 y] := by
  obtain ⟨a0, a1, y0, y1, n, rfl, rfl, rfl, h0, h1⟩ := open_agg2 Tryd.underlying68 (by kernel_rfl) cellsSign hv h
  obtain ⟨x, hx, _, _⟩ := DataW.trod_int Tryd.underlying3 h0
  obtain ⟨y, hy, _, _⟩ := DataW.trod_int Tryd.underlying3 h1
  obtain rfl : a0 = .int .i64 x := by simpa using hx
  obtain rfl : a1 = .int .i64 y := by simpa using hy
  exact ⟨x, y, rfl⟩
end
end Go.Proofs.YtangpdaoacjinaaDoor
set_option linter.unusedVariables false
set_option linter.unusedSimpArgs false
namespace Go.Proofs.YtangpdaoacjinaaDoor
open Go.ChangeShapes Go.WideShapes Go.ChangeAt Go.RowKit Go.Deep Go.Joins
/-- Bytes lie in memory. -/
def U8sIn (w : World) (a : Option Addr) (l : List Int) : Prop :=
  ∀ i, i < l.length → ∃ b off, a = some ⟨b, off, none⟩ ∧ b < w.heap.size ∧ w.cell? ⟨b, off + i, none⟩ = some (.int .u8 (l.getD i 0)) ∧ 0 ≤ l.getD i 0 ∧ l.getD i 0 ≤ 255
theorem U8sIn.at {w w' : World} {a : Option Addr} {l : List Int} (h : U8sIn w a l) (hb : Below w.heap.size w w') (i : Nat) (hi : i < l.length) : ∃ b off, a = some ⟨b, off, none⟩ ∧ b < w.heap.size ∧ w'.cell? ⟨b, off + i, none⟩ = some (.int .u8 (l.getD i 0)) ∧ 0 ≤ l.getD i 0 ∧ l.getD i 0 ≤ 255 := by
  obtain ⟨b, off, e, hlt, h1, h2⟩ := h i hi
  exact ⟨b, off, e, hlt, (hb.cell (p := ⟨b, off + i, none⟩) hlt).trans h1, h2⟩
theorem u8_bounds {x : Int} (h : (Lit.int .u8 x).wf = true) : 0 ≤ x ∧ x ≤ 255 := by
  simp [Lit.wf, IntKind.min, IntKind.max, IntKind.signed, IntKind.bits] at h
  omega
theorem cell_spot8 {w : World} {b off : Nat} {sp : Option Nat} {x : Int} (h : w.cell? ⟨b, off, sp⟩ = some (.int .u8 x)) : sp = none := by
  cases sp with
  | none => rfl
  | some k =>
    exfalso
    unfold World.cell? at h
    split at h <;> simp_all
section
variable {H : Type} {enc : TypeId × Value → H} {W : World}
set_option maxRecDepth 100000 in
theorem cellsU8A : Tryd.prog.cellsOf 5 = 1 := by kernel_rfl
set_option maxRecDepth 100000 in
theorem arg_u8s {base : Nat} {v0 : Value} {d0 : DataW H} {p : List MemPlace} (hv : Value.okWide Tryd.prog W .any base 97 v0) (h : DataW.Trod enc Tryd.prog W 0 (fun _ => true) true 97 v0 d0 p) :
    ∃ (l : List Int) (a : Option Addr) (c : Nat), v0 = .slice a l.length c ∧ U8sIn W a l ∧ l.length ≤ 9223372036854775807 := by
  obtain ⟨a0, len, cap, rfl⟩ := okWide_slice Tryd.underlying97 hv
  obtain ⟨fuel, hf⟩ := h
  rcases open_slice Tryd.underlying97 hf with ⟨hcs, _⟩ | ⟨a, len', cap', m, n, D, Pl, hcs, _, hl, hm, hmm, _, hx⟩
  · simp [Value.cells] at hcs
    obtain ⟨rfl, rfl, rfl⟩ := hcs
    exact ⟨[], none, 0, rfl, fun j hj => absurd hj (Nat.not_lt_zero j), by simp⟩
  · simp [Value.cells] at hcs
    obtain ⟨rfl, rfl, rfl⟩ := hcs
    have hlm : len ≤ m := by rw [hmm]; split <;> omega
    have key : ∀ i, i < len → ∃ q : Int, W.cell? (a.add i) = some (.int .u8 q) ∧ 0 ≤ q ∧ q ≤ 255 := by
      intro i hi
      obtain ⟨cs', h1, h2⟩ := hx i (by omega)
      rw [cellsU8A] at h1
      obtain ⟨_, hlen, hcell⟩ := World.cells?_some h1
      obtain ⟨x0, hx0, _, wn⟩ := DataW.trod_int Tryd.underlying5 h2
      have e0 := hcell 0 (by omega)
      rw [add_add] at e0
      exact ⟨x0, by simpa [hx0] using e0, u8_bounds wn⟩
    obtain ⟨F, hF⟩ : ∃ F : Nat → Int, ∀ i, i < len → W.cell? (a.add i) = some (.int .u8 (F i)) ∧ 0 ≤ F i ∧ F i ≤ 255 :=
      ⟨fun i => if h : i < len then (key i h).choose else 0, fun i hi => by simp only [dif_pos hi]; exact (key i hi).choose_spec⟩
    clear key
    refine ⟨(List.range len).map F, some a, cap, by simp, ?_, by simp; unfold maxLen at hm; omega⟩
    intro j hj
    have hj2 : j < len := by simpa using hj
    obtain ⟨c0, c1⟩ := hF j hj2
    obtain ⟨b, off, sp⟩ := a
    have hsp : sp = none := by
      obtain ⟨c00, _⟩ := hF 0 (by omega)
      have h1 : W.cell? ⟨b, off, sp⟩ = some (.int .u8 (F 0)) := by simpa [Addr.add] using c00
      exact cell_spot8 h1
    subst hsp
    have hadd : (⟨b, off, none⟩ : Addr).add j = ⟨b, off + j, none⟩ := by unfold Addr.add; split <;> simp_all
    rw [hadd] at c0
    have hg : ((List.range len).map F).getD j 0 = F j := by
      rw [List.getD, List.getElem?_map, List.getElem?_range hj2]; rfl
    rw [hg]
    exact ⟨b, off, rfl, block_lt_of_cell c0, c0, c1⟩
end
end Go.Proofs.YtangpdaoacjinaaDoor
set_option linter.unusedVariables false
set_option linter.unusedSimpArgs false
namespace Go.Proofs.YtangpdaoacjinaaDoor
open Go.RowKit
/-- Strings lie in memory. -/
def StI (w : World) (a : Option Addr) (E : List ByteArray) : Prop := ∀ i, i < E.length → ∃ b off, a = some ⟨b, off, none⟩ ∧ b < w.heap.size ∧ w.cell? ⟨b, off + i, none⟩ = some (.string (E.getD i ⟨#[]⟩))
theorem StI.below {w w' : World} {a : Option Addr} {E : List ByteArray} (h : StI w a E) (hb : Below w.heap.size w w') : StI w' a E := fun i hi => by
  obtain ⟨b, off, e, hlt, h1⟩ := h i hi
  exact ⟨b, off, e, Nat.lt_of_lt_of_le hlt hb.size, (hb.cell (p := ⟨b, off + i, none⟩) hlt).trans h1⟩
def bysL (s : ByteArray) : List UInt8 := s.data.toList
theorem bys_len (s : ByteArray) : (bysL s).length = s.size := by unfold bysL; rw [Array.length_toList]; rfl
/-- The first k texts, with sep between. -/
def joK (sep : ByteArray) (E : List ByteArray) : Nat → List UInt8
  | 0 => []
  | 1 => bysL (E.getD 0 ⟨#[]⟩)
  | k + 2 => joK sep E (k + 1) ++ bysL sep ++ bysL (E.getD (k + 1) ⟨#[]⟩)
theorem joK_len (sep : ByteArray) (E : List ByteArray) (M : Nat) (hs : sep.size ≤ M) (hE : ∀ i, (E.getD i ⟨#[]⟩).size ≤ M) : ∀ k, (joK sep E k).length ≤ 2 * k * M
  | 0 => Nat.zero_le _
  | 1 => by
    have := hE 0
    show (bysL _).length ≤ _
    have e : (bysL (E.getD 0 ⟨#[]⟩)).length = (E.getD 0 ⟨#[]⟩).size := bys_len _
    rw [e]; omega
  | k + 2 => by
    have h1 := joK_len sep E M hs hE (k + 1)
    have h2 := hE (k + 1)
    have e1 : (bysL (E.getD (k + 1) ⟨#[]⟩)).length = (E.getD (k + 1) ⟨#[]⟩).size := bys_len _
    have e2 : (bysL sep).length = sep.size := bys_len _
    show (joK sep E (k + 1) ++ bysL sep ++ bysL (E.getD (k + 1) ⟨#[]⟩)).length ≤ _
    rw [List.length_append, List.length_append, e1, e2]
    have : 2 * (k + 2) * M = 2 * (k + 1) * M + M + M := by rw [show 2 * (k + 2) = 2 * (k + 1) + 1 + 1 by omega, Nat.add_mul, Nat.add_mul]; omega
    omega
theorem bgrow_fresh (B b n : Nat) (w : World) (hB : B ≤ b) (hbk : w.heap[b]? = some (.cells #[.pointer none, .slice none 0 0] 99 (0, 0))) (hBw : B ≤ w.heap.size) (h0 : 0 < n) (hn : n ≤ 281474976710656) :
    Calls Tryd.prog 117 #[.pointer (some ⟨b, 0, none⟩), .int .i64 (n : Int)] w fun e w' => e = .returned (.tuple #[]) ∧ BldAt B b (.pointer (some ⟨b, 0, none⟩)) [] w' ∧ Below B w w' := by
  have C := Lib.hid (bcheck_fresh b w (by rw [Lib.cell_of_heap hbk]; rfl) (by simp [World.shape?, hbk]) (Lib.frozen_of_heap hbk 0))
  have hbk1 := blk_set hbk 0 (.pointer (some ⟨b, 0, none⟩))
  have hb1 : Below B w (w.setCell ⟨b, 0, none⟩ (.pointer (some ⟨b, 0, none⟩))) := (Below.refl B w).setCell (p := ⟨b, 0, none⟩) hB _
  obtain ⟨w1, hw1⟩ : ∃ v, w.setCell ⟨b, 0, none⟩ (.pointer (some ⟨b, 0, none⟩)) = v := ⟨_, rfl⟩
  rw [hw1] at C hbk1 hb1
  have c1 : w1.cell? ⟨b, 1, none⟩ = some (.slice none 0 0) := cell_of_row _ _ 1 _ _ _ hbk1
  have hni : (0 : Int) < (n : Int) := by omega
  have HBK := Lib.hid hbk1
  have HB1 := Lib.hid hb1
  have GR := Lib.hid fun (w' : World) (h : w'.heap[b]? = some (.cells #[.pointer (some ⟨b, 0, none⟩), .slice none 0 0] 99 (0, 0))) (hBw : B ≤ w'.heap.size) => Tryd.Builder_grow_fresh B b n w' hB h hBw hn
  clear hbk hbk1 hb1 hw1
  go_enter Tryd.func117, Tryd.ntmps117
  go_wp2_with (go_at_call 110; refine C.out.mono ?_; rintro e w2 ⟨rfl, rfl⟩)
  go_quiet (fail)
  have BD : Below w2.heap.size w2 (w2.drewN nq) := drewN_below (Below.refl w2.heap.size w2) nq
  have BD2 : Below B w2 (w2.drewN nq) := drewN_below (Below.refl B w2) nq
  have GR2 := Lib.hid (GR.out (w2.drewN nq) (blk_below HBK.out BD) (Nat.le_trans (Nat.le_trans hBw HB1.out.size) BD.size))
  have HD := Lib.hid (HB1.out.trans BD2)
  clear BD BD2
  generalize w2.drewN nq = W at *
  go_wp2_with (go_at_call 175; refine GR2.out.mono ?_; rintro e w3 ⟨rfl, hI, hb⟩; have HI := Lib.hid hI; have HB3 := Lib.hid hb; clear hI hb)
  go_end0
  exact ⟨rfl, HI.out, HD.out.trans HB3.out⟩
end Go.Proofs.YtangpdaoacjinaaDoor
