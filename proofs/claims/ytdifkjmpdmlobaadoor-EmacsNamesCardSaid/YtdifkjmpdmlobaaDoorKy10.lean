/-
  Keys: which paste's digits a text is.
-/
import Derived.Test.YtdifkjmpdmlobaaDoorKy9
import Derived.Laws.BytesArg
set_option linter.unusedVariables false
set_option linter.unusedSimpArgs false
namespace Go.Proofs.YtdifkjmpdmlobaaDoor
set_option maxRecDepth 100000
open Go.RowKit
def uRow (L : List Int) : Array Value := (L.map (Value.int .u8)).toArray
theorem uRow_at (L : List Int) (i : Nat) (h : i < L.length) : (uRow L)[i]? = some (.int .u8 (L.getD i 0)) := by
  rw [uRow, List.getElem?_toArray, List.getElem?_map, List.getElem?_eq_getElem h, List.getD, List.getElem?_eq_getElem h]; rfl
theorem uRow_set (L : List Int) (i : Nat) (x : Int) : (uRow L).setIfInBounds i (.int .u8 x) = uRow (L.set i x) := by
  apply Array.ext'; simp [uRow, List.map_set]
theorem made_u8 (n : Nat) : madeCells #[.int .u8 0] (n * 1) = uRow (List.replicate n 0) := by
  apply Array.ext'
  rw [toList_madeCells_one]; simp [uRow]
theorem u_cell {w : World} {g k : Nat} {L : List Int} {t : TypeId} {f : Nat × Nat} (h : w.heap[g]? = some (.cells (uRow L) t f)) (hk : k < L.length) :
    w.cell? ⟨g, k, none⟩ = some (.int .u8 (L.getD k 0)) := by
  rw [cell_of_row _ _ _ _ _ _ h, uRow_at L k hk]
def uL (t : List UInt8) : List Int := t.map fun b => (b.toNat : Int)
theorem txt_uL (t : List UInt8) : txt (uL t) = mkS t := by
  unfold txt uL mkS
  rw [List.map_map]
  have : ((fun n : Int => n.toNat.toUInt8) ∘ fun b : UInt8 => (b.toNat : Int)) = id := by funext b; simp
  rw [this, List.map_id]
/-- The room for a paste's bytes, so many of them read. -/
def psL (t : List UInt8) (n : Nat) : List Int := uL t ++ List.replicate (n - t.length) 0
theorem psL_len (t : List UInt8) (n : Nat) (h : t.length ≤ n) : (psL t n).length = n := by simp [psL, uL]; omega
theorem psL_set (t : List UInt8) (n : Nat) (b : UInt8) (h : t.length < n) : (psL t n).set t.length (b.toNat : Int) = psL (t ++ [b]) n := by
  have hl : (uL t).length = t.length := by simp [uL]
  unfold psL
  rw [List.set_append_right _ _ (by omega), hl, Nat.sub_self]
  obtain ⟨m, hm⟩ : ∃ m, n - t.length = m + 1 := ⟨n - t.length - 1, by omega⟩
  have hm2 : n - (t ++ [b]).length = m := by simp; omega
  rw [hm, hm2, List.replicate_succ, List.set_cons_zero]
  simp [uL]
theorem psL_full (t : List UInt8) (n : Nat) (h : t.length = n) : psL t n = uL t := by unfold psL; rw [h, Nat.sub_self]; simp
theorem bp_step (l : List UInt8) (n k : Nat) (h : k < n) (he : uhE ((l.drop (2 * k)).take 2) = 0) : bpOf l (n - k) k = (bpOf l (n - (k + 1)) (k + 1)).map fun r => (uhR ((l.drop (2 * k)).take 2)).toNat.toUInt8 :: r := by
  rw [show n - k = (n - (k + 1)) + 1 by omega, bpOf, if_pos he]
theorem bp_stop (l : List UInt8) (n k : Nat) (h : k < n) (he : ¬ uhE ((l.drop (2 * k)).take 2) = 0) : bpOf l (n - k) k = none := by
  rw [show n - k = (n - (k + 1)) + 1 by omega, bpOf, if_neg he]
theorem bp_done (l : List UInt8) (n : Nat) : bpOf l (n - n) n = some [] := by rw [Nat.sub_self]; rfl
theorem ps_none {l : List UInt8} (h : bpOf (psCut l).1 ((psCut l).1.length / 2) 0 = none) : psOf l = k0 := by unfold psOf; rw [h]
theorem ps_some {l t : List UInt8} (h : bpOf (psCut l).1 ((psCut l).1.length / 2) 0 = some t) : psOf l = (15, 0, mkS t, (psCut l).2) := by unfold psOf; rw [h]
theorem cutS_list (s : ByteArray) : (cutS s).data.toList = (psCut s.data.toList).1 := by simp [cutS, mkS]
theorem cutS_size (s : ByteArray) : (cutS s).size ≤ s.size := by
  rw [← list_size, cutS_list, ← list_size]
  unfold psCut; split
  · simp
  · simp
def psN2 (s : ByteArray) : Nat := (cutS s).size / 2
theorem ps_none2 {s : ByteArray} (h : bpOf (cutS s).data.toList (psN2 s) 0 = none) : psOf s.data.toList = k0 := by
  apply ps_none; rw [← cutS_list, list_size]; exact h
theorem ps_some2 {s : ByteArray} {t : List UInt8} (h : bpOf (cutS s).data.toList (psN2 s) 0 = some t) : psOf s.data.toList = (15, 0, mkS t, cutB s) := by
  apply ps_some; rw [← cutS_list, list_size]; exact h
theorem u8_wrap {b : Int} (h : 0 ≤ b) : IntKind.u8.wrap b = ((b.toNat.toUInt8).toNat : Int) := by
  rw [show IntKind.u8.wrap b = b % 256 by first | rfl | (simp [IntKind.wrap]; done) | (unfold IntKind.wrap; simp [IntKind.bits, IntKind.signed]; omega)]
  simp
  omega
theorem u8_list {w : World} {g n : Nat} {t : List UInt8} {ty : TypeId} {f : Nat × Nat} (h : w.heap[g]? = some (.cells (uRow (psL t n)) ty f)) (hl : t.length = n) :
    ∀ dst, Tryd.prog.underlying dst = some .string → (convert 148 dst (.slice (some ⟨g, 0, none⟩) n n)).run Tryd.prog w = .ok (.string (mkS t)) w := by
  rw [psL_full t n hl] at h
  have hu : (uL t).length = n := by simp [uL]; exact hl
  have := conv_lit (w := w) (g := g) (k := n) (c := n) (uL t) hu.symm (fun i hi => by rw [Nat.zero_add]; exact u_cell h (by omega))
  rwa [txt_uL] at this
set_option maxHeartbeats 4000000 in
set_option maxRecDepth 100000 in
theorem kpsOf_any (s : ByteArray) (w : World) (hs : s.size ≤ 900000) : Calls Tryd.prog 125 #[.string s] w fun e w' => e = .returned (kyV (psOf s.data.toList)) ∧ Below w.heap.size w w' := by
  have C := fun w => (kcut_any s w hs).mono fun e w' h => (⟨h.1, h.2.symm⟩ : e = .returned (.tuple #[.string (cutS s), .bool (cutB s)]) ∧ w = w')
  have HN := fun h => ps_none2 (s := s) h
  have HS := fun t h => ps_some2 (s := s) (t := t) h
  have hDs := cutS_size s
  have hn : psN2 s = (cutS s).size / 2 := rfl
  generalize cutS s = D at *
  generalize cutB s = cb at *
  generalize psN2 s = n at *
  generalize psOf s.data.toList = R at *
  have B0 := below_alloc w (.cells #[.int .i64 0, .int .i64 0, .string ⟨#[]⟩, .bool false] 107)
  have hq := heap_alloc_new w (.cells #[.int .i64 0, .int .i64 0, .string ⟨#[]⟩, .bool false] 107)
  obtain ⟨W0, hW0⟩ : ∃ W0, w.alloc (.cells #[.int .i64 0, .int .i64 0, .string ⟨#[]⟩, .bool false] 107) = W0 := ⟨_, rfl⟩
  rw [hW0] at B0 hq
  replace hq := Lib.hid hq
  obtain ⟨i0, hi, hz0, hz1, hz2⟩ := info_parts infoByte
  have hmk := make_rowN (P := Tryd.prog) 148 5 i0 _ Tryd.underlying148 hi hz0 n (by rw [hz2]; omega) (by omega)
  rw [hz1] at hmk
  have hmade : madeCells (Value.int .u8 0).cells (n * 1) = uRow (psL [] n) := by rw [show (Value.int .u8 0).cells = #[.int .u8 0] from rfl, made_u8]; simp [psL, uL]
  rw [hmade] at hmk
  have hquo : (n : Int) = ((D.size : Int) / 2) := by omega
  have hmk2 : ∀ w : World, (Instr.makeSlice 148 (.int .i64 ((D.size : Int) / 2)) (.int .i64 ((D.size : Int) / 2))).run Tryd.prog w = .ok (.slice (some ⟨w.heap.size, 0, none⟩) n n) (w.alloc (.cells (uRow (psL [] n)) 5)) := by rw [← hquo]; exact hmk
  clear hmk hquo hmade
  have h2n : 2 * n ≤ D.size := by omega
  clear hn
  replace C := Lib.hid C; replace HN := Lib.hid HN; replace HS := Lib.hid HS
  go_enter Tryd.func125, Tryd.ntmps125
  go_upto_region 1 with fail
  clear hW0
  go_wp2_with (go_at_call 137; refine (C.out _).mono ?_; rintro e w2 ⟨rfl, rfl⟩)
  go_loopw [20] (fun iv wr => ∃ (k : Nat) (t : List UInt8), t.length = k ∧ k ≤ n ∧ iv = .int .i64 (k : Int) ∧ wr.heap[W0.heap.size]? = some (.cells (uRow (psL t n)) 5 (0, 0)) ∧ Hid (bpOf D.data.toList n 0 = (bpOf D.data.toList (n - k) k).map (t ++ ·)) ∧ Below W0.heap.size W0 wr) (fun iv _ => n - (intOf iv).toNat)
  case atStart => exact ⟨0, [], rfl, Nat.zero_le _, rfl, heap_alloc_new _ _, Lib.hid (by simp), below_alloc _ _⟩
  case round =>
    obtain ⟨k, t, hlen, hk, rfl, hown, HE, hb⟩ := hrel
    have hsz := hb.size
    have q := blk_below hq.out hb
    have hDi : (D.size : Int) ≤ 900000 := by omega
    by_cases hlt : k < n
    · have hk1 : (k : Int) < n := by omega
      have hk0 : (0 : Int) ≤ k := by omega
      have h2k : 2 * k + 2 ≤ D.size := by omega
      have U := fun w => kunhex (D.extract (2 * k) (2 * k + 2)) w (by rw [ByteArray.size_extract]; omega)
      rw [ext_list, show 2 * k + 2 - 2 * k = 2 by omega] at U
      have hsz1 := psL_len t n (by omega)
      have s1 := u_cell hown (k := k) (by rw [hsz1]; exact hlt)
      have f1 := fun i => frozen_of_row wr W0.heap.size i _ _ hown
      have hor := uh_or ((D.data.toList.drop (2 * k)).take 2)
      by_cases he : uhE ((D.data.toList.drop (2 * k)).take 2) = 0
      · have hst := bp_step D.data.toList n k hlt he
        have h0 : 0 ≤ uhR ((D.data.toList.drop (2 * k)).take 2) := by rcases hor with h | h; exact h.2; rw [h.1] at he; cases he
        rw [he] at U
        have hset := psL_set t n (uhR ((D.data.toList.drop (2 * k)).take 2)).toNat.toUInt8 (by omega)
        have huw := u8_wrap h0
        rw [hlen] at hset
        generalize uhR ((D.data.toList.drop (2 * k)).take 2) = ur at *
        replace U := Lib.hid U
        clear hor he
        generalize (psL t n).getD k 0 = q0 at *
        replace hset := Lib.hid hset; replace hst := Lib.hid hst; replace hsz1 := Lib.hid hsz1; replace hlen := Lib.hid hlen; replace huw := Lib.hid huw
        go_wp2_with (go_at_call 138; refine (U.out _).mono ?_; rintro e w3 ⟨rfl, hb3⟩; have hown3 := blk_below hown hb3; have s3 := u_cell hown3 (k := k) (by rw [hsz1.out]; exact hlt); have f3 := fun i => frozen_of_row w3 W0.heap.size i _ _ hown3)
        go_roundw
        case rel => exact ⟨k + 1, t ++ [ur.toNat.toUInt8], by simp [hlen.out], by omega, by go_num, by rw [← hset.out, ← huw.out, ← uRow_set]; exact blk_set hown3 _ _, Lib.hid (by rw [HE.out, hst.out, Option.map_map]; congr 1; funext r; simp), (hb.trans (hb3.mono hsz)).setCell (Nat.le_refl _) _⟩
        case measure => (simp [intOf]; try omega)
      · have hst := bp_stop D.data.toList n k hlt he
        have hR := HN.out (by rw [HE.out, hst]; rfl)
        have h6 : uhE ((D.data.toList.drop (2 * k)).take 2) = 6 := by rcases hor with h | h; exact absurd h.1 he; exact h.1
        rw [h6] at U
        generalize uhR ((D.data.toList.drop (2 * k)).take 2) = ur at *
        replace U := Lib.hid U
        have hRk : Hid (kyV R = .agg #[.int .i64 0, .int .i64 0, .string ⟨#[]⟩, .bool false]) := Lib.hid (by rw [hR]; rfl)
        clear hor he hst hR h6 s1 f1 hown
        have NB := Lib.hid (seqB B0 hb)
        go_wp2_with (go_at_call 138; refine (U.out _).mono ?_; rintro e w3 ⟨rfl, hb3⟩; have q3 := blk_below q hb3; have zf := fun i => frozen_of_row _ w.heap.size i _ _ q3; have zz := fun i => cell_of_row _ _ i _ _ _ q3; have z0 := zz 0; have z1 := zz 1; have z2 := zz 2; have z3 := zz 3; dsimp at z0 z1 z2 z3; clear zz; have NF := Lib.hid (four_below w3 w w.heap.size (.int .i64 0) (.int .i64 0) (.string ⟨#[]⟩) (.bool false) (Nat.le_refl _) (seqB NB.out hb3)); have hfin := Lib.hid (four_set q3 (.int .i64 0) (.int .i64 0) (.string ⟨#[]⟩) (.bool false)))
        generalize hWF : World.setCell _ _ _ = WF
        have hqf : WF.heap[w.heap.size]? = some (.cells #[.int .i64 0, .int .i64 0, .string ⟨#[]⟩, .bool false] 107 (0, 0)) := by rw [← hWF]; exact hfin.out
        have hN : Below w.heap.size w WF := by rw [← hWF]; exact NF.out
        have y := fun i => cell_of_row _ _ i _ _ _ hqf
        have y0 := y 0; have y1 := y 1; have y2 := y 2; have y3 := y 3
        dsimp at y0 y1 y2 y3
        clear y hqf hWF
        refine bodyPost_ret (v := .agg #[.int .i64 0, .int .i64 0, .string ⟨#[]⟩, .bool false]) (by simp [results, Tryd.results125, go_sem, y0, y1, y2, y3]) rfl ?_
        rw [hRk.out]
        exact ⟨rfl, hN⟩
    · obtain rfl : k = n := by omega
      have hR := HS.out t (by rw [HE.out, bp_done]; simp)
      have hcv := u8_list hown hlen
      have hRk : Hid (kyV R = .agg #[.int .i64 15, .int .i64 0, .string (mkS t), .bool cb]) := Lib.hid (by rw [hR]; rfl)
      generalize mkS t = u at *
      have zf := fun i => frozen_of_row _ w.heap.size i _ _ q
      have zz := fun i => cell_of_row _ _ i _ _ _ q
      have z0 := zz 0; have z1 := zz 1; have z2 := zz 2; have z3 := zz 3
      dsimp at z0 z1 z2 z3
      have NF := Lib.hid (four_below wr w w.heap.size (.int .i64 15) (.int .i64 0) (.string u) (.bool cb) (Nat.le_refl _) (seqB B0 hb))
      have hfin := Lib.hid (four_set q (.int .i64 15) (.int .i64 0) (.string u) (.bool cb))
      clear zz q hown hR HE
      go_wp2_with fail
      generalize hWF : World.setCell _ _ _ = WF
      have hqf : WF.heap[w.heap.size]? = some (.cells #[.int .i64 15, .int .i64 0, .string u, .bool cb] 107 (0, 0)) := by rw [← hWF]; exact hfin.out
      have hN : Below w.heap.size w WF := by rw [← hWF]; exact NF.out
      have y := fun i => cell_of_row _ _ i _ _ _ hqf
      have y0 := y 0; have y1 := y 1; have y2 := y 2; have y3 := y 3
      dsimp at y0 y1 y2 y3
      clear y hqf hWF
      refine bodyPost_ret (v := .agg #[.int .i64 15, .int .i64 0, .string u, .bool cb]) (by simp [results, Tryd.results125, go_sem, y0, y1, y2, y3]) rfl ?_
      rw [hRk.out]
      exact ⟨rfl, hN⟩
end Go.Proofs.YtdifkjmpdmlobaaDoor
