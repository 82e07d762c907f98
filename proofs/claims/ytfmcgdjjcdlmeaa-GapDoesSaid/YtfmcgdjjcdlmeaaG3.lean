/-
  Gap buffers: the gap is made so great.
-/
import Derived.Test.YtfmcgdjjcdlmeaaG2
import Derived.Laws.CopyOwn
import Derived.BigRegion
set_option linter.unusedVariables false
set_option linter.unusedSimpArgs false
namespace Go.Proofs.Ytfmcgdjjcdlmeaa
set_option maxRecDepth 100000
open Go.RowKit
theorem run_copy_w {P : Program} (w : World) (dT sT ty elem : TypeId) (g o dLen dCap : Nat) (a : Addr) (sLen sCap : Nat) (cur : Array Value) (t : TypeId) (cs : List Value) (size n : Nat)
    (hu : P.underlying dT = some (.slice elem)) (hs : (P.info? elem).map (·.size) = some size)
    (hg : w.heap[g]? = some (.cells cur t (0, 0))) (hn : n = Nat.min sLen dLen) (hl : cs.length = n * size)
    (hsrc : ∀ j v, cs[j]? = some v → w.cell? (a.add j) = some v) (hfit : o + cs.length ≤ cur.size) (h1 : ∀ v ∈ cs, v.oneCell' = true) :
    (Builtin.copy_ #[dT, sT] ty #[.slice (some ⟨g, o, none⟩) dLen dCap, .slice (some a) sLen sCap]).run P w =
      .ok (goInt n) (w.setRow g (cur.toList.take o ++ cs ++ cur.toList.drop (o + cs.length)).toArray) := by
  have hld := run_loadCells_list (P := P) w a cs hsrc
  have hst := run_storeCells_at P g o t cs 0 cur w hg (by simpa using hfit) h1
  cases hq : P.info? elem with
  | none => simp [hq] at hs
  | some i =>
    have hi : i.size = size := by simpa [hq] using hs
    rw [hl] at hld
    simp [Builtin.copy_, run_underlying hu, Builtin.lenOf, Builtin.firstCells, sizeOf, typeInfo, hq, hi, ← hn, hld, hst]
theorem run_copy_none {P : Program} (w : World) (dT sT ty elem : TypeId) (s : Option Addr) (sLen sCap : Nat) (hu : P.underlying dT = some (.slice elem)) (hs : ((P.info? elem).map (·.size)).isSome = true) :
    (Builtin.copy_ #[dT, sT] ty #[.slice none 0 0, .slice s sLen sCap]).run P w = .ok (goInt 0) w := by
  cases hq : P.info? elem with
  | none => simp [hq] at hs
  | some i => cases s <;> simp [Builtin.copy_, run_underlying hu, Builtin.lenOf, Builtin.firstCells, sizeOf, typeInfo, hq, loadCells, loadCellsFrom]
/-- A row's cells. -/
def sC (L : List Sn) : List Value := L.flatMap fun p => [Value.int .i64 p.1, Value.int .i64 p.2]
theorem sRow_sC (L : List Sn) : sRow L = (sC L).toArray := rfl
theorem sC_len (L : List Sn) : (sC L).length = L.length * 2 := by
  unfold sC; induction L with
  | nil => rfl
  | cons x R ih => simp only [List.flatMap_cons, List.length_append, List.length_cons, List.length_nil, ih]; omega
theorem sC_append (A B : List Sn) : sC (A ++ B) = sC A ++ sC B := by simp [sC]
theorem sC_take (L : List Sn) (k : Nat) : (sC L).take (k * 2) = sC (L.take k) := by
  induction L generalizing k with
  | nil => simp [sC]
  | cons x L ih =>
    cases k with
    | zero => simp [sC]
    | succ k =>
      have h := ih k
      rw [show (k + 1) * 2 = k * 2 + 1 + 1 by omega]
      show Value.int .i64 x.1 :: Value.int .i64 x.2 :: (sC L).take (k * 2) = _
      rw [h]; rfl
theorem sC_drop (L : List Sn) (k : Nat) : (sC L).drop (k * 2) = sC (L.drop k) := by
  induction L generalizing k with
  | nil => simp [sC]
  | cons x L ih =>
    cases k with
    | zero => simp [sC]
    | succ k =>
      have h := ih k
      rw [show (k + 1) * 2 = k * 2 + 1 + 1 by omega]
      show (sC L).drop (k * 2) = _
      rw [h]; rfl
theorem sC_cell (L : List Sn) : ∀ v ∈ sC L, v.oneCell' = true := by
  intro v hv
  unfold sC at hv
  rw [List.mem_flatMap] at hv
  obtain ⟨p, _, hp⟩ := hv
  simp at hp
  rcases hp with rfl | rfl <;> rfl
/-- What a copy makes of a row. -/
def cpL (D : List Sn) (o : Nat) (L : List Sn) : List Sn := D.take o ++ L ++ D.drop (o + L.length)
theorem cp_row (D : List Sn) (o : Nat) (L : List Sn) : ((sRow D).toList.take (o * 2) ++ sC L ++ (sRow D).toList.drop (o * 2 + (sC L).length)).toArray = sRow (cpL D o L) := by
  rw [sRow_sC, sRow_sC, sC_len, show o * 2 + L.length * 2 = (o + L.length) * 2 by omega]
  congr 1
  rw [sC_take, sC_drop]; unfold cpL; rw [sC_append, sC_append]
theorem cpL_len (D : List Sn) (o : Nat) (L : List Sn) (h : o + L.length ≤ D.length) : (cpL D o L).length = D.length := by
  unfold cpL; simp only [List.length_append, List.length_take, List.length_drop]; omega
theorem infoSz : (Try.prog.info? 43).map (·.size) = some 2 := by kernel_rfl
theorem addG (b off k : Nat) : (⟨b, off, none⟩ : Addr).add k = ⟨b, off + k, none⟩ := by unfold Addr.add; split <;> simp_all
/-- A copy into a row of signs, out of a slice that came in. -/
theorem copy_signs {w : World} (ty : TypeId) {g : Nat} {D : List Sn} {o dl dc : Nat} {ad : Addr} {l : List Sn} {sc : Nat} (hg : w.heap[g]? = some (.cells (sRow D) 43 (0, 0))) (hs : Signs w (some ad) l) (hfit : o + dl ≤ D.length) (hn : l.length ≤ dl) :
    (Builtin.copy_ #[28, 28] ty #[.slice (some ⟨g, o * 2, none⟩) dl dc, .slice (some ad) l.length sc]).run Try.prog w = .ok (goInt l.length) (w.setRow g (sRow (cpL D o l))) := by
  have hmin : l.length = Nat.min l.length dl := (Nat.min_eq_left hn).symm
  have h := run_copy_w (P := Try.prog) w 28 28 ty 43 g (o * 2) dl dc ad l.length sc (sRow D) 43 (sC l) 2 l.length Try.underlying28 infoSz hg hmin (sC_len l) (fun j v hv => by
    have hj : j < l.length * 2 := by have := (List.getElem?_eq_some_iff.1 hv).1; rwa [sC_len] at this
    obtain ⟨b, off, e, _, c1, c2⟩ := hs (j / 2) (by omega)
    obtain rfl : ad = ⟨b, off, none⟩ := by injection e
    have hr := sRow_at l (j / 2) (by omega)
    rw [addG]
    rcases Nat.mod_two_eq_zero_or_one j with hm | hm
    · have e2 : j / 2 * 2 = j := by omega
      rw [e2] at c1 hr
      rw [c1, ← hr.1]; exact hv
    · have e2 : j / 2 * 2 + 1 = j := by omega
      rw [e2] at hr
      rw [show off + j / 2 * 2 + 1 = off + j by omega] at c2
      rw [c2, ← hr.2]; exact hv) (by rw [sC_len, sRow_sC, List.size_toArray, sC_len]; omega) (sC_cell l)
  rw [cp_row] at h
  exact h
theorem signs_of_row {w : World} {r x n : Nat} {S : List Sn} {t : TypeId} {f : Nat × Nat} (h : w.heap[r]? = some (.cells (sRow S) t f)) (hx : x + n ≤ S.length) : Signs w (some ⟨r, x * 2, none⟩) ((S.drop x).take n) := fun i hi => by
  have hl : ((S.drop x).take n).length = n := by rw [List.length_take, List.length_drop]; omega
  rw [hl] at hi
  have hc := sg_cells h (k := x + i) (by omega)
  have hg : ((S.drop x).take n).getD i (0, 0) = S.getD (x + i) (0, 0) := by
    simp only [List.getD, List.getElem?_take, if_pos hi, List.getElem?_drop]
  rw [hg]
  exact ⟨r, x * 2, rfl, blk_lt h, by rw [show x * 2 + i * 2 = (x + i) * 2 by omega]; exact hc.1, by rw [show x * 2 + i * 2 + 1 = (x + i) * 2 + 1 by omega]; exact hc.2⟩
/-- A copy out of a room (the same one or another): n signs from x on, to o on. -/
theorem copy_room {w : World} (ty : TypeId) {g r : Nat} {D S : List Sn} {o x dl dc n sc : Nat} (hg : w.heap[g]? = some (.cells (sRow D) 43 (0, 0))) {f : Nat × Nat} {t : TypeId} (hr : w.heap[r]? = some (.cells (sRow S) t f)) (hfit : o + dl ≤ D.length) (hx : x + n ≤ S.length) (hn : n ≤ dl) :
    (Builtin.copy_ #[28, 28] ty #[.slice (some ⟨g, o * 2, none⟩) dl dc, .slice (some ⟨r, x * 2, none⟩) n sc]).run Try.prog w = .ok (goInt n) (w.setRow g (sRow (cpL D o ((S.drop x).take n)))) := by
  have hl : ((S.drop x).take n).length = n := by rw [List.length_take, List.length_drop]; omega
  have h := copy_signs (w := w) ty (o := o) (dl := dl) (dc := dc) (sc := sc) hg (signs_of_row hr hx) hfit (by rw [hl]; exact hn)
  rw [hl] at h
  exact h
end Go.Proofs.Ytfmcgdjjcdlmeaa
