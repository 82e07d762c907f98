/-
  Joined: R7 R8 R19 R20 R21.
-/
import Derived.Test.YtcdecnmhogmhaaaDoorJ07
import Derived.Test.YtcdecnmhogmhaaaDoorJ08
import Derived.Test.YtcdecnmhogmhaaaDoorJ09
import Derived.Test.YtcdecnmhogmhaaaDoorJ11
import Derived.Laws.CopyOwn
set_option linter.unusedVariables false
set_option linter.unusedSimpArgs false
namespace Go.Proofs.YtcdecnmhogmhaaaDoor
set_option maxRecDepth 100000
open Go.RowKit
theorem run_copy_wide {P : Program} (w : World) (dT sT ty elem : TypeId) (g o dLen dCap : Nat) (a : Addr) (sLen sCap : Nat) (cur : Array Value) (t : TypeId) (cs : List Value) (size n : Nat)
    (hu : P.underlying dT = some (.slice elem)) (hs : (P.info? elem).map (·.size) = some size)
    (hg : w.heap[g]? = some (.cells cur t (0, 0))) (hn : n = Nat.min sLen dLen) (hl : cs.length = n * size)
    (hsrc : ∀ j v, cs[j]? = some v → w.cell? (a.add j) = some v) (hfit : o + cs.length ≤ cur.size) (h1 : ∀ v ∈ cs, v.oneCell' = true) :
    (Builtin.copy_ #[dT, sT] ty #[.slice (some ⟨g, o, none⟩) dLen dCap, .slice (some a) sLen sCap]).run P w =
      .ok (goInt n) (w.setRow g (cur.toList.take o ++ cs ++ cur.toList.drop (o + cs.length)).toArray) := by
  have hld := run_loadCells_list (P := P) w a cs hsrc
  have hst := run_storeCells_at P g o t cs 0 cur w hg (by simpa using hfit) h1
  cases hq : P.info? elem with
  | none => simp [hq] at hs
  | some i =>
    have hi : i.size = size := by simpa [hq] using hs
    rw [hl] at hld
    simp [Builtin.copy_, run_underlying hu, Builtin.lenOf, Builtin.firstCells, sizeOf, typeInfo, hq, hi, ← hn, hld, hst]
theorem wpList_copy_wide {P : Program} {w : World} {ops : Array Oper} {rest : List Oper} {o : Oper} {a : Act} {Q : Exit → Act → World → Prop} (hgd : o.guard = none) (d s : Operand) (dT sT : TypeId)
    (ho : o.op = .call { callee := .builtin .copy, args := #[d, s], argTypes := #[dT, sT] }) (elem : TypeId) (size : Nat) (hu : P.underlying dT = some (.slice elem)) (hsz : (P.info? elem).map (·.size) = some size)
    (g off dLen dCap : Nat) (ad : Addr) (sLen sCap : Nat) (hd : a.eval d = .slice (some ⟨g, off, none⟩) dLen dCap) (hs : a.eval s = .slice (some ad) sLen sCap)
    (cur : Array Value) (t : TypeId) (hg : w.heap[g]? = some (.cells cur t (0, 0))) (cs : List Value) (n : Nat) (hn : n = Nat.min sLen dLen) (hl : cs.length = n * size)
    (hsrc : ∀ j v, cs[j]? = some v → w.cell? (ad.add j) = some v) (hfit : off + cs.length ≤ cur.size) (h1 : ∀ v ∈ cs, v.oneCell' = true)
    (h : wpList P ops Q rest (a.put o.dst (goInt n)) (w.setRow g (cur.toList.take off ++ (cs ++ cur.toList.drop (off + cs.length))).toArray)) : wpList P ops Q (o :: rest) a w := by
  refine wpList_plain hgd fun K hK => ?_
  have hrun := run_copy_wide (P := P) w dT sT o.type elem g off dLen dCap ad sLen sCap cur t cs size n hu hsz hg hn hl hsrc hfit h1
  unfold Oper.wp
  simp [execOp, ho, resolve, invoke, builtin, hd, hs, hrun, Result.andThen]
  exact hK _ _ h
/-- .. from nil. -/
theorem wpList_copy_nil {P : Program} {w : World} {ops : Array Oper} {rest : List Oper} {o : Oper} {a : Act} {Q : Exit → Act → World → Prop} (hgd : o.guard = none) (d s : Operand) (dT sT : TypeId)
    (ho : o.op = .call { callee := .builtin .copy, args := #[d, s], argTypes := #[dT, sT] }) (elem : TypeId) (hu : P.underlying dT = some (.slice elem)) (hsz : ((P.info? elem).map (·.size)).isSome = true)
    (ad : Addr) (dLen dCap : Nat) (hd : a.eval d = .slice (some ad) dLen dCap) (hs : a.eval s = .slice none 0 0)
    (h : wpList P ops Q rest (a.put o.dst (goInt 0)) w) : wpList P ops Q (o :: rest) a w := by
  refine wpList_plain hgd fun K hK => ?_
  have hrun := run_copy_nil (P := P) w dT sT o.type elem ad dLen dCap hu hsz
  unfold Oper.wp
  simp [execOp, ho, resolve, invoke, builtin, hd, hs, hrun, Result.andThen]
  exact hK _ _ h
end Go.Proofs.YtcdecnmhogmhaaaDoor
set_option linter.unusedVariables false
set_option linter.unusedSimpArgs false
namespace Go.Proofs.YtcdecnmhogmhaaaDoor
open Go.RowKit
theorem pfiller_any (n : Int) (w : World) :
    Calls Tryd.prog 115 #[.int .i64 n] w fun e w' => e = .returned (.func (.func 154) #[] #[.pointer (some ⟨w.heap.size, 0, none⟩)]) ∧ w' = w.alloc (.cells #[.int .i64 n] 3) := by
  go_enter Tryd.func115, Tryd.ntmps115
  go_wp2
  go_ret
  exact ⟨rfl, rfl⟩
/-- The row of n cells when those before k are filled. -/
def flK (L : List Cl) (n k : Nat) : List Cl := fillN L (k - L.length) ++ List.replicate (n - k) cl0
theorem flK_len (L : List Cl) (n k : Nat) (h1 : L.length ≤ k) (h2 : k ≤ n) : (flK L n k).length = n := by
  unfold flK; rw [List.length_append, fillN_len, List.length_replicate]; omega
theorem flK_set (L : List Cl) (n k : Nat) (h1 : L.length ≤ k) (h2 : k < n) : (flK L n k).set k clB = flK L n (k + 1) := by
  have e : (fillN L (k - L.length)).length = k := by rw [fillN_len]; omega
  unfold flK
  rw [List.set_append_right _ _ (by rw [e]; exact Nat.le_refl _), e, Nat.sub_self, show k + 1 - L.length = (k - L.length) + 1 by omega, fillN_succ, List.append_assoc]
  congr 1
  obtain ⟨m, hm⟩ : ∃ m, n - k = m + 1 := ⟨n - k - 1, by omega⟩
  rw [hm, show n - (k + 1) = m by omega]; rfl
theorem flK_copy (L : List Cl) (n : Nat) (h : L.length ≤ n) : ((cRow (List.replicate n cl0)).toList.take 0 ++ (cCells L ++ (cRow (List.replicate n cl0)).toList.drop (0 + (cCells L).length))).toArray = cRow (flK L n L.length) := by
  unfold flK fillN cRow
  rw [List.take_zero, List.nil_append, Nat.zero_add, cCells_len, Nat.sub_self, List.replicate_zero, List.append_nil, cCells_append]
  congr 2
  have key : ∀ a b : Nat, (cCells (List.replicate (a + b) cl0)).drop (a * 5) = cCells (List.replicate b cl0) := by
    intro a
    induction a with
    | zero => intro b; simp
    | succ a ih =>
      intro b
      rw [show a + 1 + b = (a + b) + 1 by omega, List.replicate_succ, show (a + 1) * 5 = a * 5 + 5 by omega]
      show (([Value.int .i64 0, .int .i64 0, .int .i64 0, .int .i64 0, .int .i64 0] ++ cCells (List.replicate (a + b) cl0)).drop (a * 5 + 5)) = _
      rw [Nat.add_comm, ← List.drop_drop]
      exact ih b
  have := key L.length (n - L.length)
  rwa [show L.length + (n - L.length) = n by omega] at this
theorem flK_end (L : List Cl) (n : Nat) : flK L n n = fillN L (n - L.length) := by unfold flK; rw [Nat.sub_self, List.replicate_zero, List.append_nil]
set_option maxHeartbeats 8000000 in
theorem pfiller1_any (L : List Cl) (n p : Nat) (a : Option Addr) (c : Nat) (w : World) (hn : n ≤ 1000) (hl : L.length ≤ n) (ha : CellsIn w a L) (h0 : a = none → c = 0) (hp : p < w.heap.size) (hc : w.cell? ⟨p, 0, none⟩ = some (.int .i64 n)) :
    Calls Tryd.prog 154 #[.slice a L.length c, .pointer (some ⟨p, 0, none⟩)] w fun e w' => e = .returned (.slice (some ⟨w.heap.size, 0, none⟩) n n) ∧ w'.heap[w.heap.size]? = some (.cells (cRow (fillN L (n - L.length))) 51 (0, 0)) ∧ Below w.heap.size w w' := by
  obtain ⟨i0, hi, hz0, hz1, hz2⟩ := info_parts infoCell
  have hsz : (Tryd.prog.info? 51).map (·.size) = some 5 := by rw [hi]; simp [hz1]
  have hmk := make_rowN (P := Tryd.prog) 36 51 i0 _ Tryd.underlying36 hi hz0 n (by rw [hz2]; omega) (by omega)
  rw [hz1] at hmk
  have hmade : madeCells (Value.agg #[.int .i64 0, .int .i64 0, .int .i64 0, .int .i64 0, .int .i64 0]).cells (n * 5) = cRow (List.replicate n cl0) := by rw [show (Value.agg #[.int .i64 0, .int .i64 0, .int .i64 0, .int .i64 0, .int .i64 0]).cells = #[.int .i64 0, .int .i64 0, .int .i64 0, .int .i64 0, .int .i64 0] from rfl, made_cells]
  rw [hmade] at hmk
  have hnil : a = none → L = [] := fun h => by
    cases L with
    | nil => rfl
    | cons x L => obtain ⟨_, _, e, _⟩ := ha 0 (by simp); rw [h] at e; cases e
  have N0 := below_alloc w (.cells (cRow (List.replicate n cl0)) 51)
  have HB := Lib.hid (heap_alloc_new w (.cells (cRow (List.replicate n cl0)) 51))
  have HA := Lib.hid (ha.below N0)
  have hcopy := Lib.hid (flK_copy L n hl)
  have HS := Lib.hid hsz
  have hsize : (cRow (List.replicate n cl0)).size = n * 5 := by rw [cRow, List.size_toArray, cCells_len, List.length_replicate]
  clear ha hmade hsz
  have hq := fun o => (World.cell?_alloc_lt w o (⟨p, 0, none⟩ : Addr) hp).trans hc
  cases a with
  | none =>
    obtain rfl := hnil rfl
    obtain rfl := h0 rfl
    have HG : Hid ((w.alloc (.cells (cRow (List.replicate n cl0)) 51)).heap[w.heap.size]? = some (.cells (cRow (flK [] n ([] : List Cl).length)) 51 (0, 0))) := Lib.hid (by
      have e : flK [] n ([] : List Cl).length = List.replicate n cl0 := rfl
      rw [e]; exact HB.out)
    have NB := N0
    have hrun := run_copy_nil (P := Tryd.prog) (w.alloc (.cells (cRow (List.replicate n cl0)) 51)) 36 36 3 51 ⟨w.heap.size, 0, none⟩ n n Tryd.underlying36 (by rw [HS.out]; rfl)
    clear hnil h0 HA hcopy hsize
    go_enter Tryd.func154, Tryd.ntmps154
    go_wp2
    go_loopw [5] (fun iv wr => ∃ k : Nat, ([] : List Cl).length ≤ k ∧ k ≤ n ∧ iv = .int .i64 (k : Int) ∧ Hid (wr.heap[w.heap.size]? = some (.cells (cRow (flK [] n k)) 51 (0, 0))) ∧ Below w.heap.size w wr) (fun iv _ => n - (intOf iv).toNat)
    case atStart => exact ⟨0, Nat.le_refl _, Nat.zero_le _, rfl, HG, NB⟩
    case round =>
      obtain ⟨k, hk0, hk, rfl, hG, hbl⟩ := hrel
      have hcr := (hbl.cell (p := ⟨p, 0, none⟩) hp).trans hc
      by_cases hlt : k < n
      · have hk1 : (k : Int) < n := by omega
        have hk2 : (0 : Int) ≤ k := by omega
        have hlen := flK_len [] n k hk0 hk
        have hset := flK_set [] n k hk0 hlt
        have hset2 := cRow_set (flK [] n k) k clB (by omega)
        have hcc := cl_cells hG.out (k := k) (by omega)
        have z0 := hcc.1; have z1 := hcc.2.1; have z2 := hcc.2.2.1; have z3 := hcc.2.2.2.1; have z4 := hcc.2.2.2.2
        have y0 := fun i => frozen_of_row wr w.heap.size i _ _ hG.out
        have Hset := Lib.hid hset; have Hset2 := Lib.hid hset2
        generalize (flK [] n k).getD k cl0 = q at *
        clear hset hset2 hcc hlen
        go_wp2
        go_roundw
        case rel => exact ⟨k + 1, by omega, by omega, by go_num, Lib.hid (by rw [← Hset.out, ← Hset2.out]; exact blk_set (blk_set (blk_set (blk_set (blk_set hG.out _ _) _ _) _ _) _ _) _ _), ((((hbl.setCell (Nat.le_refl _) _).setCell (Nat.le_refl _) _).setCell (Nat.le_refl _) _).setCell (Nat.le_refl _) _).setCell (Nat.le_refl _) _⟩
        case measure => (simp [intOf]; try omega)
      · obtain rfl : k = n := by omega
        have HF := hG.out
        rw [flK_end] at HF
        have HF2 := Lib.hid HF
        clear HF
        go_wp2
        go_ret
        exact ⟨rfl, HF2.out, hbl⟩
  | some ad =>
    clear hnil h0
    have hrun := run_copy_wide (P := Tryd.prog) (w.alloc (.cells (cRow (List.replicate n cl0)) 51)) 36 36 3 51 w.heap.size 0 n n ad L.length c (cRow (List.replicate n cl0)) 51 (cCells L) 5 L.length Tryd.underlying36 HS.out HB.out (show L.length = min L.length n by omega) (cCells_len L) (cells_news HA.out) (by rw [cCells_len, hsize]; omega) (cCells_one L)
    rw [List.append_assoc, hcopy.out] at hrun
    have HG := Lib.hid (setRow_heap _ w.heap.size _ (cRow (flK L n L.length)) 51 (0, 0) HB.out)
    have NB := below_setRow N0 (Nat.le_refl _) (cRow (flK L n L.length))
    generalize World.setRow _ _ _ = W1 at *
    go_enter Tryd.func154, Tryd.ntmps154
    go_wp2
    go_loopw [5] (fun iv wr => ∃ k : Nat, L.length ≤ k ∧ k ≤ n ∧ iv = .int .i64 (k : Int) ∧ Hid (wr.heap[w.heap.size]? = some (.cells (cRow (flK L n k)) 51 (0, 0))) ∧ Below w.heap.size w wr) (fun iv _ => n - (intOf iv).toNat)
    case atStart => exact ⟨L.length, Nat.le_refl _, hl, rfl, HG, NB⟩
    case round =>
      obtain ⟨k, hk0, hk, rfl, hG, hbl⟩ := hrel
      have hcr := (hbl.cell (p := ⟨p, 0, none⟩) hp).trans hc
      by_cases hlt : k < n
      · have hk1 : (k : Int) < n := by omega
        have hk2 : (0 : Int) ≤ k := by omega
        have hlen := flK_len L n k hk0 hk
        have hset := flK_set L n k hk0 hlt
        have hset2 := cRow_set (flK L n k) k clB (by omega)
        have hcc := cl_cells hG.out (k := k) (by omega)
        have z0 := hcc.1; have z1 := hcc.2.1; have z2 := hcc.2.2.1; have z3 := hcc.2.2.2.1; have z4 := hcc.2.2.2.2
        have y0 := fun i => frozen_of_row wr w.heap.size i _ _ hG.out
        have Hset := Lib.hid hset; have Hset2 := Lib.hid hset2
        generalize (flK L n k).getD k cl0 = q at *
        clear hset hset2 hcc hlen
        go_wp2
        go_roundw
        case rel => exact ⟨k + 1, by omega, by omega, by go_num, Lib.hid (by rw [← Hset.out, ← Hset2.out]; exact blk_set (blk_set (blk_set (blk_set (blk_set hG.out _ _) _ _) _ _) _ _) _ _), ((((hbl.setCell (Nat.le_refl _) _).setCell (Nat.le_refl _) _).setCell (Nat.le_refl _) _).setCell (Nat.le_refl _) _).setCell (Nat.le_refl _) _⟩
        case measure => (simp [intOf]; try omega)
      · obtain rfl : k = n := by omega
        have HF := hG.out
        rw [flK_end] at HF
        have HF2 := Lib.hid HF
        clear HF
        go_wp2
        go_ret
        exact ⟨rfl, HF2.out, hbl⟩
end Go.Proofs.YtcdecnmhogmhaaaDoor
set_option linter.unusedVariables false
set_option linter.unusedSimpArgs false
namespace Go.Proofs.YtcdecnmhogmhaaaDoor
open Go.RowKit
/-- Rows filled up with blanks, so many of them. -/
def filR (Ls : List (List Cl)) (wd n : Nat) : List (List Cl) := (List.range n).map fun (i : Nat) => fillN (Ls.getD i []) (wd - (Ls.getD i []).length)
theorem filR_len (Ls : List (List Cl)) (wd n : Nat) : (filR Ls wd n).length = n := by unfold filR; rw [List.length_map, List.length_range]
theorem filR_at (Ls : List (List Cl)) (wd n i : Nat) (h : i < n) : (filR Ls wd n).getD i [] = fillN (Ls.getD i []) (wd - (Ls.getD i []).length) := by
  unfold filR; rw [List.getD, List.getElem?_map, List.getElem?_range h]; rfl
/-- The row's cells when k rows are there. -/
def filV (wd n : Nat) (hs : List Nat) : List Value := hs.map (fun h => Value.slice (some ⟨h, 0, none⟩) wd wd) ++ List.replicate (n - hs.length) (.slice none 0 0)
/-- A screen's rows under way. -/
structure FilM (w : World) (B g wd n k : Nat) (Ls : List (List Cl)) (hs : List Nat) : Prop where
  blk : w.heap[g]? = some (.cells (filV wd n hs).toArray 36 (0, 0))
  len : hs.length = k
  rows : ∀ i, i < k → ∃ h, hs[i]? = some h ∧ B ≤ h ∧ w.heap[h]? = some (.cells (cRow (fillN (Ls.getD i []) (wd - (Ls.getD i []).length))) 51 (0, 0))
theorem FilM.below {w w' : World} {B g wd n k : Nat} {Ls : List (List Cl)} {hs : List Nat} (h : FilM w B g wd n k Ls hs) (hb : Below w.heap.size w w') : FilM w' B g wd n k Ls hs :=
  ⟨blk_below h.blk hb, h.len, fun i hi => by
    obtain ⟨x, h1, h2, h3⟩ := h.rows i hi
    exact ⟨x, h1, h2, blk_below h3 hb⟩⟩
theorem filV_set (wd n h : Nat) (hs : List Nat) (hk : hs.length < n) : (filV wd n hs).toArray.setIfInBounds hs.length (.slice (some ⟨h, 0, none⟩) wd wd) = (filV wd n (hs ++ [h])).toArray := by
  unfold filV
  rw [List.setIfInBounds_toArray]
  congr 1
  obtain ⟨m, hm⟩ : ∃ m, n - hs.length = m + 1 := ⟨n - hs.length - 1, by omega⟩
  have e : (hs.map fun h => Value.slice (some ⟨h, 0, none⟩) wd wd).length = hs.length := List.length_map _
  rw [List.set_append_right _ _ (by rw [e]; exact Nat.le_refl _), e, Nat.sub_self, hm, show n - (hs ++ [h]).length = m by simp; omega, List.replicate_succ]
  simp
theorem FilM.step {w : World} {B g wd n k h : Nat} {Ls : List (List Cl)} {hs : List Nat} (hM : FilM w B g wd n k Ls hs) (hk : k < n) (hB : B ≤ h) (hr : w.heap[h]? = some (.cells (cRow (fillN (Ls.getD k []) (wd - (Ls.getD k []).length))) 51 (0, 0))) :
    FilM (w.setCell ⟨g, k, none⟩ (.slice (some ⟨h, 0, none⟩) wd wd)) B g wd n (k + 1) Ls (hs ++ [h]) := by
  have hne : ∀ {x : Nat} {cs : Array Value}, w.heap[x]? = some (.cells cs 51 (0, 0)) → x ≠ g := fun hx e => by
    rw [e, hM.blk] at hx; simp at hx
  refine ⟨?_, by simp [hM.len], fun i hi => ?_⟩
  · have := blk_set hM.blk k (.slice (some ⟨h, 0, none⟩) wd wd)
    rwa [← hM.len, filV_set wd n h hs (by rw [hM.len]; exact hk), hM.len] at this
  · rcases Nat.lt_or_ge i k with hi' | hi'
    · obtain ⟨x, h1, h2, h3⟩ := hM.rows i hi'
      exact ⟨x, by rw [List.getElem?_append_left (by rw [hM.len]; exact hi')]; exact h1, h2, (Below.heap_setCell _ _ _ _ (hne h3)).trans h3⟩
    · obtain rfl : i = k := by omega
      exact ⟨h, by rw [← hM.len, List.getElem?_append_right (Nat.le_refl _), Nat.sub_self]; rfl, hB, (Below.heap_setCell _ _ _ _ (hne hr)).trans hr⟩
theorem filV_nil (wd n : Nat) : madeCells (Value.slice none 0 0).cells (n * 1) = (filV wd n []).toArray := by
  unfold filV
  apply Array.ext
  · simp [madeCells, Value.cells]
  · intro i h1 h2
    simp [madeCells, Value.cells]
    rw [show i % 1 = 0 by omega]; rfl
theorem FilM.cells {w : World} {B g wd n k : Nat} {Ls : List (List Cl)} {hs : List Nat} (hM : FilM w B g wd n k Ls hs) (hk : k < n) : w.cell? ⟨g, k, none⟩ = some (.slice none 0 0) ∧ w.frozen? ⟨g, k, none⟩ = false := by
  refine ⟨?_, frozen_of_row w g k _ _ hM.blk⟩
  rw [cell_of_row _ _ _ _ _ _ hM.blk, List.getElem?_toArray]
  unfold filV
  rw [List.getElem?_append_right (by rw [List.length_map, hM.len]; exact Nat.le_refl _), List.length_map, hM.len, Nat.sub_self]
  obtain ⟨m, hm⟩ : ∃ m, n - k = m + 1 := ⟨n - k - 1, by omega⟩
  rw [hm]; rfl
/-- A screen's five cells stored. -/
theorem scr_set {w : World} {r : Nat} {u0 u1 u2 u3 u4 : Value} (h : w.heap[r]? = some (.cells #[u0, u1, u2, u3, u4] 28 (0, 0))) (a b : Int) (v : Value) (c d : Int) :
    (((((w.setCell ⟨r, 0, none⟩ (.int .i64 a)).setCell ⟨r, 1, none⟩ (.int .i64 b)).setCell ⟨r, 2, none⟩ v).setCell ⟨r, 3, none⟩ (.int .i64 c)).setCell ⟨r, 4, none⟩ (.int .i64 d)).heap[r]? = some (.cells #[.int .i64 a, .int .i64 b, v, .int .i64 c, .int .i64 d] 28 (0, 0)) := by
  have := blk_set (blk_set (blk_set (blk_set (blk_set h 0 (.int .i64 a)) 1 (.int .i64 b)) 2 v) 3 (.int .i64 c)) 4 (.int .i64 d)
  simpa using this
theorem scr_set_below (w w0 : World) (r : Nat) (v0 v1 v2 v3 v4 : Value) {B : Nat} (hr : B ≤ r) (h : Below B w0 w) : Below B w0 (((((w.setCell ⟨r, 0, none⟩ v0).setCell ⟨r, 1, none⟩ v1).setCell ⟨r, 2, none⟩ v2).setCell ⟨r, 3, none⟩ v3).setCell ⟨r, 4, none⟩ v4) :=
  ((((h.setCell hr v0).setCell hr v1).setCell hr v2).setCell hr v3).setCell hr v4
theorem CellsIn.far {w : World} {a : Option Addr} {l : List Cl} (h : CellsIn w a l) {p : Addr} (hp : ∀ b off, a = some ⟨b, off, none⟩ → b ≠ p.block) (u : Value) : CellsIn (w.setCell p u) a l := fun i hi => by
  obtain ⟨b, off, e, hlt, h1, h2, h3, h4, h5⟩ := h i hi
  have c := fun o => World.cell?_of_block (w := w) (w' := w.setCell p u) (a := ⟨b, o, none⟩) (Below.heap_setCell _ _ _ _ (hp b off e))
  exact ⟨b, off, e, by simpa [World.setCell] using hlt, (c _).trans h1, (c _).trans h2, (c _).trans h3, (c _).trans h4, (c _).trans h5⟩
/-- Rows of a screen, each in a block of its own kind. -/
def RowsB (w : World) (g : Nat) (l : List (List Cl)) : Prop :=
  (∃ cs, w.heap[g]? = some (.cells cs 36 (0, 0))) ∧ ∀ i, i < l.length → ∃ h rc, w.cell? ⟨g, i, none⟩ = some (.slice (some ⟨h, 0, none⟩) (l.getD i []).length rc) ∧ w.heap[h]? = some (.cells (cRow (l.getD i [])) 51 (0, 0))
theorem RowsB.rows {w : World} {g : Nat} {l : List (List Cl)} (h : RowsB w g l) : RowsC w (some ⟨g, 0, none⟩) l := fun i hi => by
  obtain ⟨⟨cs, hc⟩, h'⟩ := h
  obtain ⟨x, rc, h1, h2⟩ := h' i hi
  exact ⟨g, 0, _, rc, rfl, blk_lt hc, by rw [Nat.zero_add]; exact h1, cells_of_blk h2, fun e => by cases e⟩
theorem RowsB.set {w : World} {g : Nat} {l : List (List Cl)} (h : RowsB w g l) {p : Addr} {cs : Array Value} {T : TypeId} {fr : Nat × Nat} (hp : w.heap[p.block]? = some (.cells cs T fr)) (h1 : T ≠ 36) (h2 : T ≠ 51) (u : Value) : RowsB (w.setCell p u) g l := by
  obtain ⟨⟨c0, hc⟩, h'⟩ := h
  have ng : g ≠ p.block := fun e => by rw [← e, hc] at hp; simp at hp; exact h1 hp.2.1.symm
  refine ⟨⟨c0, blk_far hc ng u⟩, fun i hi => ?_⟩
  obtain ⟨x, rc, g1, g2⟩ := h' i hi
  have nx : x ≠ p.block := fun e => by rw [← e, g2] at hp; simp at hp; exact h2 hp.2.1.symm
  exact ⟨x, rc, (World.cell?_of_block (w := w) (w' := w.setCell p u) (a := ⟨g, i, none⟩) (Below.heap_setCell _ _ _ _ ng)).trans g1, blk_far g2 nx u⟩
theorem RowsB.below {w w' : World} {g : Nat} {l : List (List Cl)} (h : RowsB w g l) (hb : Below w.heap.size w w') : RowsB w' g l := by
  obtain ⟨⟨c0, hc⟩, h'⟩ := h
  refine ⟨⟨c0, blk_below hc hb⟩, fun i hi => ?_⟩
  obtain ⟨x, rc, g1, g2⟩ := h' i hi
  exact ⟨x, rc, (hb.cell (p := ⟨g, i, none⟩) (blk_lt hc)).trans g1, blk_below g2 hb⟩
theorem FilM.done {w : World} {B g wd n : Nat} {Ls : List (List Cl)} {hs : List Nat} (hM : FilM w B g wd n n Ls hs) (hL : ∀ i, (Ls.getD i []).length ≤ wd) : RowsB w g (filR Ls wd n) := by
  refine ⟨⟨_, hM.blk⟩, fun i hi => ?_⟩
  rw [filR_len] at hi
  obtain ⟨h, h1, h2, h3⟩ := hM.rows i hi
  rw [filR_at Ls wd n i hi]
  have hl : (fillN (Ls.getD i []) (wd - (Ls.getD i []).length)).length = wd := by rw [fillN_len]; have := hL i; omega
  refine ⟨h, wd, ?_, h3⟩
  rw [hl, cell_of_row _ _ _ _ _ _ hM.blk, List.getElem?_toArray]
  unfold filV
  rw [List.getElem?_append_left (by rw [List.length_map, hM.len]; exact hi), List.getElem?_map, h1]; rfl
set_option maxHeartbeats 8000000 in
theorem pfill_any (Ls : List (List Cl)) (a : Option Addr) (c wd n : Nat) (w : World) (hwd : wd ≤ 1000) (hn : n ≤ 1000) (hl : Ls.length ≤ 100001) (hL : ∀ i, (Ls.getD i []).length ≤ wd) (ha : RowsC w a Ls) :
    Calls Tryd.prog 68 #[.slice a Ls.length c, .int .i64 wd, .int .i64 n] w fun e w' => ∃ g, e = .returned (.agg #[.int .i64 wd, .int .i64 n, .slice (some ⟨g, 0, none⟩) n n, .int .i64 0, .int .i64 0]) ∧ w.heap.size ≤ g ∧ RowsB w' g (filR Ls wd n) ∧ Below w.heap.size w w' := by
  obtain ⟨i1, hj, hy0, hy1, hy2⟩ := info_parts infoCS
  have hmk := make_rowN (P := Tryd.prog) 26 36 i1 _ Tryd.underlying26 hj hy0 n (by rw [hy2]; omega) (by omega)
  rw [hy1, filV_nil wd n] at hmk
  have HA := Lib.hid ha
  clear ha
  go_enter Tryd.func68, Tryd.ntmps68
  go_wp2_with (go_at_call 115; refine (pfiller_any _ _).mono ?_; rintro e w1 ⟨rfl, rfl⟩)
  have q0 := heap_alloc_new w (.cells #[.int .i64 0, .int .i64 0, .slice none 0 0, .int .i64 0, .int .i64 0] 28)
  have z0 : (w.alloc (.cells #[.int .i64 0, .int .i64 0, .slice none 0 0, .int .i64 0, .int .i64 0] 28)).heap.size = w.heap.size + 1 := by simp
  have N0 := below_alloc w (.cells #[.int .i64 0, .int .i64 0, .slice none 0 0, .int .i64 0, .int .i64 0] 28)
  generalize w.alloc (.cells #[.int .i64 0, .int .i64 0, .slice none 0 0, .int .i64 0, .int .i64 0] 28) = W0 at *
  have q1 := heap_alloc_new W0 (.cells #[.int .i64 wd] 3)
  rw [z0] at q1
  replace q0 := blk_alloc q0 (.cells #[.int .i64 wd] 3)
  have z1 : (W0.alloc (.cells #[.int .i64 wd] 3)).heap.size = w.heap.size + 1 + 1 := by simp [z0]
  have N1 := N0.alloc N0.size (.cells #[.int .i64 wd] 3)
  generalize W0.alloc (.cells #[.int .i64 wd] 3) = W1 at *
  have q2 := heap_alloc_new W1 (.cells (filV wd n []).toArray 36)
  rw [z1] at q2
  replace q0 := blk_alloc q0 (.cells (filV wd n []).toArray 36)
  replace q1 := blk_alloc q1 (.cells (filV wd n []).toArray 36)
  have z2 : (W1.alloc (.cells (filV wd n []).toArray 36)).heap.size = w.heap.size + 1 + 1 + 1 := by simp [z1]
  have N2 := N1.alloc N1.size (.cells (filV wd n []).toArray 36)
  generalize W1.alloc (.cells (filV wd n []).toArray 36) = W2 at *
  have q3 := heap_alloc_new W2 (.cells #[.int .i64 wd, .int .i64 n, .slice (some ⟨w.heap.size + 1 + 1, 0, none⟩) n n, .int .i64 0, .int .i64 0] 28)
  rw [z2] at q3
  replace q0 := blk_alloc q0 (.cells #[.int .i64 wd, .int .i64 n, .slice (some ⟨w.heap.size + 1 + 1, 0, none⟩) n n, .int .i64 0, .int .i64 0] 28)
  replace q1 := blk_alloc q1 (.cells #[.int .i64 wd, .int .i64 n, .slice (some ⟨w.heap.size + 1 + 1, 0, none⟩) n n, .int .i64 0, .int .i64 0] 28)
  replace q2 := blk_alloc q2 (.cells #[.int .i64 wd, .int .i64 n, .slice (some ⟨w.heap.size + 1 + 1, 0, none⟩) n n, .int .i64 0, .int .i64 0] 28)
  have z3 : (W2.alloc (.cells #[.int .i64 wd, .int .i64 n, .slice (some ⟨w.heap.size + 1 + 1, 0, none⟩) n n, .int .i64 0, .int .i64 0] 28)).heap.size = w.heap.size + 1 + 1 + 1 + 1 := by simp [z2]
  have N3 := N2.alloc N2.size (.cells #[.int .i64 wd, .int .i64 n, .slice (some ⟨w.heap.size + 1 + 1, 0, none⟩) n n, .int .i64 0, .int .i64 0] 28)
  generalize W2.alloc (.cells #[.int .i64 wd, .int .i64 n, .slice (some ⟨w.heap.size + 1 + 1, 0, none⟩) n n, .int .i64 0, .int .i64 0] 28) = W3 at *
  have hwr : w.heap.size < w.heap.size + 1 := by omega
  replace q0 := Lib.hid q0; replace q1 := Lib.hid q1; replace q3 := Lib.hid q3
  have F0 := Lib.hid (show FilM W3 w.heap.size (w.heap.size + 1 + 1) wd n 0 Ls [] from ⟨q2, rfl, fun i hi => absurd hi (by omega)⟩)
  clear q2 N0 N1 N2 z0 z1 z2 z3 hmk
  go_loopw [20] (fun iv wr => ∃ (k : Nat) (hs : List Nat), k ≤ n ∧ iv = .int .i64 (k : Int) ∧ Hid (FilM wr w.heap.size (w.heap.size + 1 + 1) wd n k Ls hs) ∧ Hid (wr.heap[w.heap.size]? = some (.cells #[.int .i64 0, .int .i64 0, .slice none 0 0, .int .i64 0, .int .i64 0] 28 (0, 0))) ∧
    Hid (wr.heap[w.heap.size + 1]? = some (.cells #[.int .i64 wd] 3 (0, 0))) ∧ Hid (wr.heap[w.heap.size + 1 + 1 + 1]? = some (.cells #[.int .i64 wd, .int .i64 n, .slice (some ⟨w.heap.size + 1 + 1, 0, none⟩) n n, .int .i64 0, .int .i64 0] 28 (0, 0))) ∧ Below w.heap.size w wr) (fun iv _ => n - (intOf iv).toNat)
  case atStart => exact ⟨0, [], Nat.zero_le _, rfl, F0, q0, q1, q3, N3⟩
  case round =>
    obtain ⟨k, hs, hk, rfl, hF, h0, h1, h3, hbl⟩ := hrel
    have hsz := blk_lt h3.out
    by_cases hlt : k < n
    · have hk1 : (k : Int) < n := by omega
      have hk0 : (0 : Int) ≤ k := by omega
      have c1 : wr.cell? ⟨w.heap.size + 1, 0, none⟩ = some (.int .i64 wd) := by rw [cell_of_row _ _ _ _ _ _ h1.out]; rfl
      have c3 : wr.cell? ⟨w.heap.size + 1 + 1 + 1, 2, none⟩ = some (.slice (some ⟨w.heap.size + 1 + 1, 0, none⟩) n n) := by rw [cell_of_row _ _ _ _ _ _ h3.out]; rfl
      obtain ⟨f1, f2⟩ := hF.out.cells hlt
      have hn1 : w.heap.size + 1 + 1 ≠ w.heap.size + 1 + 1 + 1 := by omega
      have hn2 : w.heap.size + 1 + 1 < wr.heap.size := by omega
      have hn0 : w.heap.size ≠ w.heap.size + 1 + 1 := by omega
      have hn3 : w.heap.size + 1 ≠ w.heap.size + 1 + 1 := by omega
      have hBg : w.heap.size ≤ w.heap.size + 1 + 1 := by omega
      have hn4 : w.heap.size + 1 + 1 + 1 ≠ w.heap.size + 1 + 1 := by omega
      generalize hS : w.heap.size + 1 + 1 + 1 = sb at *
      generalize hG : w.heap.size + 1 + 1 = g at *
      generalize hP : w.heap.size + 1 = pb at *
      by_cases hi : k < Ls.length
      · obtain ⟨bb, off, ra, rc, rfl, hbb, hr, hci, hcn⟩ := (HA.out.below hbl) k hi
        have hi1 : (k : Int) < Ls.length := by omega
        have hgb : g ≠ bb := by have := HA.out k hi; obtain ⟨b', o', _, _, e', hb', _⟩ := this; injection e' with e'; injection e' with e'; omega
        have hLk := hL k
        have hRk : Hid (Ls.getD k [] = Ls.getD k []) := Lib.hid rfl
        generalize hR0 : Ls.getD k [] = R at hr hci hLk
        have HR0 := Lib.hid hR0
        clear hR0 hRk
        have PF := Lib.hid (pfiller1_any R wd pb ra rc wr.drew hwd hLk (show CellsIn wr.drew ra _ from hci) hcn (by show pb < wr.heap.size; omega) (show wr.drew.cell? _ = _ from c1))
        go_wp2
        go_region_held3 (fun w' => w'.cell? ⟨sb, 2, none⟩ = some (.slice (some ⟨g, 0, none⟩) n n) ∧ w'.cell? ⟨bb, off + k, none⟩ = some (.slice ra R.length rc)) (first | exact ⟨c3, hr⟩ | exact ⟨e1, e2⟩ | exact ⟨(World.cell?_setCell_far _ _ _ _ hn1).trans e1, (World.cell?_setCell_far _ _ _ _ hgb).trans e2⟩ | go_keep)
          (first | (go_at_call 154; refine PF.out.mono ?_; rintro e w5 ⟨rfl, hb5, N5⟩; have e1 := (N5.cell (p := ⟨sb, 2, none⟩) (by show sb < wr.heap.size; exact hsz)).trans c3; have e2 := (N5.cell (p := ⟨bb, off + k, none⟩) (by show bb < wr.heap.size; exact hbb)).trans hr; have e3 := (N5.cell (p := ⟨g, k, none⟩) (by show g < wr.heap.size; exact hn2)).trans f1; have e4 := (World.frozen?_of_block (w := wr.drew) (w' := w5) (a := ⟨g, k, none⟩) (N5.block g hn2)).trans f2))
        have N6 : Below wr.heap.size wr w5 := ⟨N5.os, N5.tape, N5.output, N5.size, N5.block⟩
        have F6 := Lib.hid ((hF.out.below N6).step (h := wr.heap.size) hlt hbl.size (by rw [HR0.out]; exact hb5))
        have h06 := Lib.hid (blk_far (p := ⟨g, k, none⟩) (blk_below h0.out N6) hn0 (.slice (some ⟨wr.heap.size, 0, none⟩) wd wd))
        have h16 := Lib.hid (blk_far (p := ⟨g, k, none⟩) (blk_below h1.out N6) hn3 (.slice (some ⟨wr.heap.size, 0, none⟩) wd wd))
        have h36 := Lib.hid (blk_far (p := ⟨g, k, none⟩) (blk_below h3.out N6) hn4 (.slice (some ⟨wr.heap.size, 0, none⟩) wd wd))
        have N7 := (hbl.trans (N6.mono hbl.size)).setCell (p := ⟨g, k, none⟩) hBg (.slice (some ⟨wr.heap.size, 0, none⟩) wd wd)
        clear N5 hb5 e1 e3 e4
        go_wp2
        go_roundw
        case rel => exact ⟨k + 1, _, by omega, by go_num, F6, h06, h16, h36, N7⟩
        case measure => first | (simp [intOf]; omega) | (simp; omega)
      · have hi1 : ¬ (k : Int) < Ls.length := by omega
        have hz : Ls.getD k [] = [] := by rw [List.getD, List.getElem?_eq_none (by omega)]; rfl
        have hz0 : (Ls.getD k []).length = 0 := by rw [hz]; rfl
        have PF := pfiller1_any (Ls.getD k []) wd pb none 0 wr.drew hwd (hL k) (fun i hi => absurd hi (by rw [hz0]; omega)) (fun _ => rfl) (by show pb < wr.heap.size; omega) (show wr.drew.cell? _ = _ from c1)
        rw [hz0] at PF
        replace PF := Lib.hid PF
        have HZ := Lib.hid hz0
        clear hz hz0
        go_wp2
        go_region_held3 (fun w' => w'.cell? ⟨sb, 2, none⟩ = some (.slice (some ⟨g, 0, none⟩) n n)) (first | exact c3 | exact e1 | exact (World.cell?_setCell_far _ _ _ _ hn1).trans e1 | go_keep)
          (first | (go_at_call 154; refine PF.out.mono ?_; rintro e w5 ⟨rfl, hb5, N5⟩; have e1 := (N5.cell (p := ⟨sb, 2, none⟩) (by show sb < wr.heap.size; exact hsz)).trans c3; have e3 := (N5.cell (p := ⟨g, k, none⟩) (by show g < wr.heap.size; exact hn2)).trans f1; have e4 := (World.frozen?_of_block (w := wr.drew) (w' := w5) (a := ⟨g, k, none⟩) (N5.block g hn2)).trans f2))
        have N6 : Below wr.heap.size wr w5 := ⟨N5.os, N5.tape, N5.output, N5.size, N5.block⟩
        have F6 := Lib.hid ((hF.out.below N6).step (h := wr.heap.size) hlt hbl.size (by rw [HZ.out]; exact hb5))
        have h06 := Lib.hid (blk_far (p := ⟨g, k, none⟩) (blk_below h0.out N6) hn0 (.slice (some ⟨wr.heap.size, 0, none⟩) wd wd))
        have h16 := Lib.hid (blk_far (p := ⟨g, k, none⟩) (blk_below h1.out N6) hn3 (.slice (some ⟨wr.heap.size, 0, none⟩) wd wd))
        have h36 := Lib.hid (blk_far (p := ⟨g, k, none⟩) (blk_below h3.out N6) hn4 (.slice (some ⟨wr.heap.size, 0, none⟩) wd wd))
        have N7 := (hbl.trans (N6.mono hbl.size)).setCell (p := ⟨g, k, none⟩) hBg (.slice (some ⟨wr.heap.size, 0, none⟩) wd wd)
        clear N5 hb5 e1 e3 e4
        go_wp2
        go_roundw
        case rel => exact ⟨k + 1, _, by omega, by go_num, F6, h06, h16, h36, N7⟩
        case measure => first | (simp [intOf]; omega) | (simp; omega)
    · obtain rfl : k = n := by omega
      have hk1 : ¬ (k : Int) < k := by omega
      have b3 := fun i => cell_of_row _ _ i _ _ _ h3.out
      have s0 : wr.cell? ⟨w.heap.size + 1 + 1 + 1, 0, none⟩ = some (.int .i64 wd) := by rw [b3]; rfl
      have s1 : wr.cell? ⟨w.heap.size + 1 + 1 + 1, 1, none⟩ = some (.int .i64 k) := by rw [b3]; rfl
      have s2 : wr.cell? ⟨w.heap.size + 1 + 1 + 1, 2, none⟩ = some (.slice (some ⟨w.heap.size + 1 + 1, 0, none⟩) k k) := by rw [b3]; rfl
      have s3 : wr.cell? ⟨w.heap.size + 1 + 1 + 1, 3, none⟩ = some (.int .i64 0) := by rw [b3]; rfl
      have s4 : wr.cell? ⟨w.heap.size + 1 + 1 + 1, 4, none⟩ = some (.int .i64 0) := by rw [b3]; rfl
      have b0 := fun i => cell_of_row _ _ i _ _ _ h0.out
      have r0 : wr.cell? ⟨w.heap.size, 0, none⟩ = some (.int .i64 0) := by rw [b0]; rfl
      have r1 : wr.cell? ⟨w.heap.size, 1, none⟩ = some (.int .i64 0) := by rw [b0]; rfl
      have r2 : wr.cell? ⟨w.heap.size, 2, none⟩ = some (.slice none 0 0) := by rw [b0]; rfl
      have r3 : wr.cell? ⟨w.heap.size, 3, none⟩ = some (.int .i64 0) := by rw [b0]; rfl
      have r4 : wr.cell? ⟨w.heap.size, 4, none⟩ = some (.int .i64 0) := by rw [b0]; rfl
      have rf := fun i => frozen_of_row _ w.heap.size i _ _ h0.out
      clear b0 b3
      have HF := Lib.hid (hF.out.done hL)
      have hrn : w.heap.size ≠ w.heap.size + 1 + 1 := by omega
      have hfin := scr_set h0.out wd k (.slice (some ⟨w.heap.size + 1 + 1, 0, none⟩) k k) 0 0
      have NF := scr_set_below wr w w.heap.size (.int .i64 wd) (.int .i64 k) (.slice (some ⟨w.heap.size + 1 + 1, 0, none⟩) k k) (.int .i64 0) (.int .i64 0) (Nat.le_refl _) hbl
      have HRF := Lib.hid (RowsB.set (RowsB.set (RowsB.set (RowsB.set (RowsB.set HF.out (p := ⟨w.heap.size, 0, none⟩) h0.out (by decide) (by decide) (.int .i64 wd)) (p := ⟨w.heap.size, 1, none⟩) (blk_set h0.out _ _) (by decide) (by decide) (.int .i64 k)) (p := ⟨w.heap.size, 2, none⟩) (blk_set (blk_set h0.out _ _) _ _) (by decide) (by decide) (.slice (some ⟨w.heap.size + 1 + 1, 0, none⟩) k k)) (p := ⟨w.heap.size, 3, none⟩) (blk_set (blk_set (blk_set h0.out _ _) _ _) _ _) (by decide) (by decide) (.int .i64 0)) (p := ⟨w.heap.size, 4, none⟩) (blk_set (blk_set (blk_set (blk_set h0.out _ _) _ _) _ _) _ _) (by decide) (by decide) (.int .i64 0))
      go_wp2
      generalize (((((wr.setCell _ _).setCell _ _).setCell _ _).setCell _ _).setCell _ _) = WF at *
      exact bodyPost_ret (v := .agg #[.int .i64 wd, .int .i64 k, .slice (some ⟨w.heap.size + 1 + 1, 0, none⟩) k k, .int .i64 0, .int .i64 0]) (by
        have y := fun i => cell_of_row _ _ i _ _ _ hfin
        have y0 : WF.cell? ⟨w.heap.size, 0, none⟩ = some (.int .i64 wd) := by rw [y]; rfl
        have y1 : WF.cell? ⟨w.heap.size, 1, none⟩ = some (.int .i64 k) := by rw [y]; rfl
        have y2 : WF.cell? ⟨w.heap.size, 2, none⟩ = some (.slice (some ⟨w.heap.size + 1 + 1, 0, none⟩) k k) := by rw [y]; rfl
        have y3 : WF.cell? ⟨w.heap.size, 3, none⟩ = some (.int .i64 0) := by rw [y]; rfl
        have y4 : WF.cell? ⟨w.heap.size, 4, none⟩ = some (.int .i64 0) := by rw [y]; rfl
        simp [results, Tryd.results68, go_sem, y0, y1, y2, y3, y4]) rfl ⟨_, rfl, by omega, HRF.out, NF⟩
end Go.Proofs.YtcdecnmhogmhaaaDoor
set_option linter.unusedVariables false
set_option linter.unusedSimpArgs false
namespace Go.Proofs.YtcdecnmhogmhaaaDoor
open Go.RowKit
theorem sp_nonneg (L : List Cl) (w : Int) : ∀ k j, j < k → 0 ≤ ((spS L w k).1.getD j (0, 0)).1 ∧ 0 ≤ ((spS L w k).1.getD j (0, 0)).2
  | 0, j, h => absurd h (by omega)
  | k + 1, j, h => by
    have hl := spS_len L w k
    have hr := spS_rng L w k
    by_cases hj : j < k
    · rw [sp_keep L w k j hj]; exact sp_nonneg L w k j hj
    · obtain rfl : j = k := by omega
      rw [sp_step]
      have e : ∀ x, ((spS L w j).1 ++ [x]).getD j (0, 0) = x := fun x => by
        have := getD_end (spS L w j).1 x (0, 0); rwa [hl] at this
      split
      · rw [e]
        rcases Nat.eq_zero_or_pos j with h0 | h0
        · subst h0; simp [spS]
        · exact sp_nonneg L w j (j - 1) (by omega)
      · split
        · rw [e]; exact ⟨by show 0 ≤ (spS L w j).2.1 + 1; omega, Int.le_refl _⟩
        · rw [e]; exact ⟨hr.1, hr.2.2.1⟩
/-- A place is a row that is there, and a column. -/
theorem spAll_rng (L : List Cl) (w : Int) (j : Nat) (hj : j ≤ L.length) : ∃ r c : Nat, (spAll L w).getD j (0, 0) = ((r : Int), (c : Int)) ∧ r < (lyRows L w).length := by
  have hr := spS_rng L w L.length
  have he := spAll_end L w
  have hlr := lyRows_len L w
  by_cases h : j < L.length
  · obtain ⟨h1, h2⟩ := sp_nonneg L w L.length j h
    have h3 := sp_low L w L.length j h
    rw [spAll_at L w L.length j h (Nat.le_refl _)]
    generalize (spS L w L.length).1.getD j (0, 0) = p at *
    obtain ⟨p1, p2⟩ := p
    simp only at h1 h2 h3
    refine ⟨p1.toNat, p2.toNat, by rw [Int.toNat_of_nonneg h1, Int.toNat_of_nonneg h2], ?_⟩
    rw [hlr, he]
    split
    · show p1.toNat < ((spS L w L.length).2.1 + 1).toNat + 1; omega
    · omega
  · obtain rfl : j = L.length := by omega
    rw [hlr, he]
    split
    · refine ⟨((spS L w L.length).2.1 + 1).toNat, 0, ?_, by simp⟩
      rw [Int.toNat_of_nonneg (by omega)]; rfl
    · refine ⟨(spS L w L.length).2.1.toNat, (spS L w L.length).2.2.toNat, ?_, by simp⟩
      rw [Int.toNat_of_nonneg hr.1, Int.toNat_of_nonneg hr.2.2.1]
theorem lyRows_le (L : List Cl) (w : Int) : (lyRows L w).length ≤ L.length + 2 := by
  have hr := spS_rng L w L.length
  rw [lyRows_len, spAll_end]
  split
  · show ((spS L w L.length).2.1 + 1).toNat + 1 ≤ _; omega
  · omega
theorem RowsC.cut {w : World} {b off : Nat} {l : List (List Cl)} (h : RowsC w (some ⟨b, off, none⟩) l) (t m : Nat) : RowsC w (some ⟨b, off + t, none⟩) ((l.drop t).take m) := fun i hi => by
  have hi2 : i < m ∧ t + i < l.length := by simp at hi; omega
  obtain ⟨b', off', ra, rc, e, hlt, h1, h2, h3⟩ := h (t + i) hi2.2
  obtain ⟨rfl, rfl⟩ : b = b' ∧ off = off' := by simpa using e
  have hg : ((l.drop t).take m).getD i [] = l.getD (t + i) [] := by
    simp only [List.getD, List.getElem?_take, if_pos hi2.1, List.getElem?_drop]
  refine ⟨b, off + t, ra, rc, rfl, hlt, ?_, ?_, h3⟩
  · rw [hg, ← h1]; congr 2; omega
  · rw [hg]; exact h2
/-- The rows that are shown, filled up. -/
theorem filR_cut (L : List Cl) (w t h : Nat) : filR (((lyRows L w).drop t).take (min (t + h) (lyRows L w).length - t)) w h = scR L w t h := by
  unfold filR scR
  apply List.map_congr_left
  intro i hi
  have hi : i < h := List.mem_range.1 hi
  have e : (((lyRows L w).drop t).take (min (t + h) (lyRows L w).length - t)).getD i [] = rwS L w ((t + i : Nat) : Int) L.length := by
    by_cases hlt : t + i < (lyRows L w).length
    · simp only [List.getD, List.getElem?_take, List.getElem?_drop]
      rw [if_pos (by omega), ← lyRows_at L w (t + i) hlt]; rfl
    · rw [lyRows_more (t + i) (by omega)]
      simp only [List.getD, List.getElem?_take, List.getElem?_drop]
      rw [if_neg (by omega)]; rfl
  rw [e]
theorem cut_len (L : List Cl) (w t h : Nat) (i : Nat) (hw : 1 ≤ w) (hL : layB L = true) : ((((lyRows L w).drop t).take (min (t + h) (lyRows L w).length - t)).getD i []).length ≤ w := by
  rcases hg : (((lyRows L w).drop t).take (min (t + h) (lyRows L w).length - t))[i]? with _ | r
  · rw [List.getD, hg]; exact Nat.zero_le _
  · rw [List.getD, hg]
    have hm := List.mem_of_getElem? hg
    have := (lyRows_ok (L := L) (w := w) (by omega) hL).1 r (List.mem_of_mem_drop (List.mem_of_mem_take hm))
    show r.length ≤ w
    omega
theorem first_ref (L : List Cl) (i : Int) (a : Option Addr) (c : Nat) (w : World) (hl : L.length ≤ 1000000) (ha : CellsIn w a L) :
    Calls Tryd.prog 70 #[.slice a L.length c, .int .i64 i] w fun e w' => e = .returned (.int .i64 (fstM L i)) ∧ Below w.heap.size w w' := by
  have HA := Lib.hid ha
  clear ha
  go_enter Tryd.func70, Tryd.ntmps70
  go_wp2
  go_loopw [5] (fun iv wr => ∃ k : Nat, k ≤ L.length ∧ iv = .int .i64 (k : Int) ∧ Hid (∀ j, j < k → (L.getD j cl0).2.2.1 < i) ∧ Below w.heap.size w wr) (fun iv _ => L.length - (intOf iv).toNat)
  case atStart => exact ⟨0, Nat.zero_le _, rfl, Lib.hid (fun j hj => absurd hj (by omega)), Below.refl _ _⟩
  case round =>
    obtain ⟨k, hk, rfl, hall, hbl⟩ := hrel
    by_cases hlt : k < L.length
    · obtain ⟨b1, o1, rfl, hb1, c1, c2, c3, c4, c5⟩ := (HA.out.below hbl) k hlt
      have hk1 : (k : Int) < L.length := by omega
      have hk0 : (0 : Int) ≤ k := by omega
      have hat := fun h1 => fstM_at (L := L) (i := i) hlt h1 hall.out
      have hyes := fun (h : (L.getD k cl0).2.2.1 < i) => (fun j (hj : j < k + 1) => (by
        rcases Nat.lt_succ_iff_lt_or_eq.1 hj with h' | rfl
        · exact hall.out j h'
        · exact h : (L.getD j cl0).2.2.1 < i))
      by_cases h : (L.getD k cl0).2.2.1 < i
      · have HY := Lib.hid (hyes h)
        clear hyes hat
        generalize (L.getD k cl0).2.2.1 = o at *
        go_wp2
        go_roundw
        case rel => exact ⟨k + 1, by omega, by go_num, HY, hbl⟩
        case measure => first | (simp [intOf]; omega) | (simp; omega)
      · have HY := Lib.hid (hat (by omega))
        clear hyes hat
        have hge : i ≤ (L.getD k cl0).2.2.1 := by omega
        generalize (L.getD k cl0).2.2.1 = o at *
        go_wp2
        go_ret
        exact ⟨by rw [HY.out]; rfl, hbl⟩
    · obtain rfl : k = L.length := by omega
      have hk1 : ¬ (L.length : Int) < L.length := by omega
      have HY := Lib.hid (fstM_none hall.out)
      go_wp2
      go_ret
      exact ⟨by rw [HY.out]; rfl, hbl⟩
end Go.Proofs.YtcdecnmhogmhaaaDoor
set_option linter.unusedVariables false
set_option linter.unusedSimpArgs false
namespace Go.Proofs.YtcdecnmhogmhaaaDoor
open Go.RowKit
theorem own_cells_cap {w : World} {B : Nat} {v : Value} {L : List Cl} (h : ownC w B v L) : ∃ a c, v = .slice a L.length c ∧ CellsIn w a L ∧ L.length ≤ c := by
  obtain ⟨a, c, rfl, h1⟩ := cells_of_own h
  refine ⟨a, c, rfl, h1, ?_⟩
  rcases h.2 with ⟨h0, h2⟩ | ⟨g, cap, cur, h0, _, _, hn, _⟩
  · omega
  · rw [(Value.slice.inj h0).2.2]; exact hn
theorem vw_le (p l : List (Int × Int)) : (vwOf p l).length ≤ 30 * (p.length + l.length) := by
  unfold vwOf
  have h1 := vwG_le p ofP p.length
  have h2 := vwG_le l ofL l.length
  rw [List.length_append]; omega
theorem sideB_yes (n : Nat) (h1 : 1 ≤ n) (h2 : n ≤ 1000) : sideB (n : Int) = true := by unfold sideB; rw [decide_eq_true (by omega), decide_eq_true (by omega)]; rfl
theorem topN_le (t r h : Nat) (hr : r < t) : topN t r h ≤ r ∧ topN t r h ≤ t ∧ (1 ≤ h → r - topN t r h < h) := by
  unfold topN; split <;> omega
set_option maxHeartbeats 8000000 in
theorem scr_range (p l : List (Int × Int)) (a b : Option Addr) (c d : Nat) (at_ wd h : Int) (w : World) (hl : l.length ≤ 1000) (hbad : at_ < 0 ∨ (l.length : Int) < at_ ∨ sideB wd = false ∨ sideB h = false) :
    Calls Tryd.prog 14 #[.slice a p.length c, .slice b l.length d, .int .i64 at_, .int .i64 wd, .int .i64 h] w fun e w' => e = .returned (.tuple #[.agg #[.int .i64 0, .int .i64 0, .slice none 0 0, .int .i64 0, .int .i64 0], .int .i64 3]) ∧ Below w.heap.size w w' := by
  have N0 := below_alloc w (.cells #[.int .i64 0, .int .i64 0, .slice none 0 0, .int .i64 0, .int .i64 0] 28)
  by_cases h1 : at_ < 0
  · go_enter Tryd.func14, Tryd.ntmps14
    go_wp2
    exact bodyPost_ret (v := .tuple #[.agg #[.int .i64 0, .int .i64 0, .slice none 0 0, .int .i64 0, .int .i64 0], .int .i64 3]) (by simp [results, Tryd.results14, go_sem]) rfl ⟨rfl, N0⟩
  · by_cases h2 : (l.length : Int) < at_
    · go_enter Tryd.func14, Tryd.ntmps14
      go_wp2
      exact bodyPost_ret (v := .tuple #[.agg #[.int .i64 0, .int .i64 0, .slice none 0 0, .int .i64 0, .int .i64 0], .int .i64 3]) (by simp [results, Tryd.results14, go_sem]) rfl ⟨rfl, N0⟩
    · rcases hw : sideB wd with _ | _
      · go_enter Tryd.func14, Tryd.ntmps14
        go_wp2_with (go_at_call 64; refine (side_any _ _).mono ?_; rintro e w1 ⟨rfl, rfl⟩)
        exact bodyPost_ret (v := .tuple #[.agg #[.int .i64 0, .int .i64 0, .slice none 0 0, .int .i64 0, .int .i64 0], .int .i64 3]) (by simp [results, Tryd.results14, go_sem]) rfl ⟨rfl, N0⟩
      · have hh : sideB h = false := by
          rcases hbad with e | e | e | e
          · exact absurd e h1
          · exact absurd e h2
          · rw [hw] at e; cases e
          · exact e
        go_enter Tryd.func14, Tryd.ntmps14
        go_wp2_with (go_at_call 64; refine (side_any _ _).mono ?_; rintro e w1 ⟨rfl, rfl⟩)
        exact bodyPost_ret (v := .tuple #[.agg #[.int .i64 0, .int .i64 0, .slice none 0 0, .int .i64 0, .int .i64 0], .int .i64 3]) (by simp [results, Tryd.results14, go_sem]) rfl ⟨rfl, N0⟩
set_option maxHeartbeats 8000000 in
theorem scr_arg (p l : List (Int × Int)) (a b : Option Addr) (c d at_ wd h : Nat) (w : World) (hp : p.length ≤ 1000) (hl : l.length ≤ 1000) (ha : Signs w a p) (hb : Signs w b l) (hat : at_ ≤ l.length) (hw1 : 1 ≤ wd) (hw2 : wd ≤ 1000) (hh1 : 1 ≤ h) (hh2 : h ≤ 1000) (hS : (sgC p && sgC l) = false) :
    Calls Tryd.prog 14 #[.slice a p.length c, .slice b l.length d, .int .i64 at_, .int .i64 wd, .int .i64 h] w fun e w' => e = .returned (.tuple #[.agg #[.int .i64 0, .int .i64 0, .slice none 0 0, .int .i64 0, .int .i64 0], .int .i64 2]) ∧ Below w.heap.size w w' := by
  have N0 := below_alloc w (.cells #[.int .i64 0, .int .i64 0, .slice none 0 0, .int .i64 0, .int .i64 0] 28)
  have HA := Lib.hid (ha.below N0); have HB := Lib.hid (hb.below N0)
  have q0 := heap_alloc_new w (.cells #[.int .i64 0, .int .i64 0, .slice none 0 0, .int .i64 0, .int .i64 0] 28)
  have hlt : w.heap.size < (w.alloc (.cells #[.int .i64 0, .int .i64 0, .slice none 0 0, .int .i64 0, .int .i64 0] 28)).heap.size := by simp
  have hsw := sideB_yes wd hw1 hw2
  have hsh := sideB_yes h hh1 hh2
  have h1 : ¬ (at_ : Int) < 0 := by omega
  have h2 : ¬ (l.length : Int) < (at_ : Int) := by omega
  have V := Lib.hid (vof_no p l a b c d _ hp hl HA.out HB.out hS)
  clear ha hb
  go_enter Tryd.func14, Tryd.ntmps14
  go_wp2_with (first
    | (go_at_call 64; refine (side_any _ _).mono ?_; rintro e w1 ⟨rfl, rfl⟩)
    | (go_at_call 65; refine V.out.mono ?_; rintro e w2 ⟨rfl, hb2⟩; have q2 := blk_below q0 hb2; have z := fun i => cell_of_row _ _ i _ _ _ q2; have z0 := z 0; have z1 := z 1; have z2 := z 2; have z3 := z 3; have z4 := z 4; have zf := fun i => frozen_of_row _ w.heap.size i _ _ q2; clear z))
  have N2 := scr_set_below w2 w w.heap.size (.int .i64 0) (.int .i64 0) (.slice none 0 0) (.int .i64 0) (.int .i64 0) (Nat.le_refl _) (N0.trans (hb2.mono (by simp)))
  have hfin := scr_set q2 0 0 (.slice none 0 0) 0 0
  generalize (((((w2.setCell _ _).setCell _ _).setCell _ _).setCell _ _).setCell _ _) = WF at *
  exact bodyPost_ret (v := .tuple #[.agg #[.int .i64 0, .int .i64 0, .slice none 0 0, .int .i64 0, .int .i64 0], .int .i64 2]) (by
    have y := fun i => cell_of_row _ _ i _ _ _ hfin
    have y0 : WF.cell? ⟨w.heap.size, 0, none⟩ = some (.int .i64 0) := by rw [y]; rfl
    have y1 : WF.cell? ⟨w.heap.size, 1, none⟩ = some (.int .i64 0) := by rw [y]; rfl
    have y2 : WF.cell? ⟨w.heap.size, 2, none⟩ = some (.slice none 0 0) := by rw [y]; rfl
    have y3 : WF.cell? ⟨w.heap.size, 3, none⟩ = some (.int .i64 0) := by rw [y]; rfl
    have y4 : WF.cell? ⟨w.heap.size, 4, none⟩ = some (.int .i64 0) := by rw [y]; rfl
    simp [results, Tryd.results14, go_sem, y0, y1, y2, y3, y4]) rfl ⟨rfl, N2⟩
end Go.Proofs.YtcdecnmhogmhaaaDoor
