/-
  Joined: G1 G2 G3 G4 G5 G6 G7 G8 G20 OfW ArgB.
-/
import Derived.Test.YtgpcflpeddnfcaaDoorJO01
import Derived.Test.YtgpcflpeddnfcaaDoorJO03
import Derived.Test.YtgpcflpeddnfcaaDoorJO04
import Derived.Test.YtgpcflpeddnfcaaDoorJO05
import Derived.Laws.CopyOwn
import Derived.BigRegion
import Derived.Deep.RegionHeld3
import Derived.Deep.SlicePairs
import Derived.ChangeArms
import Derived.Lib.LaidTab
import Derived.Lib.LaidU8
import Derived.Lib.SmallJoins
set_option linter.unusedVariables false
set_option linter.unusedSimpArgs false
set_option maxRecDepth 100000
set_option linter.unusedVariables false
set_option linter.unusedSimpArgs false
namespace Go.Proofs.YtgpcflpeddnfcaaDoor
open Go.RowKit
end Go.Proofs.YtgpcflpeddnfcaaDoor
set_option linter.unusedVariables false
set_option linter.unusedSimpArgs false
namespace Go.Proofs.YtgpcflpeddnfcaaDoor
open Go.RowKit
def gmE (l : List Sn) (M stay : Int) : Int := if sgC l = true then (if M - stay < l.length then 8 else 0) else 2
end Go.Proofs.YtgpcflpeddnfcaaDoor
set_option linter.unusedVariables false
set_option linter.unusedSimpArgs false
namespace Go.Proofs.YtgpcflpeddnfcaaDoor
open Go.RowKit
theorem run_copy_w {P : Program} (w : World) (dT sT ty elem : TypeId) (g o dLen dCap : Nat) (a : Addr) (sLen sCap : Nat) (cur : Array Value) (t : TypeId) (cs : List Value) (size n : Nat)
    (hu : P.underlying dT = some (.slice elem)) (hs : (P.info? elem).map (·.size) = some size)
    (hg : w.heap[g]? = some (.cells cur t (0, 0))) (hn : n = Nat.min sLen dLen) (hl : cs.length = n * size)
    (hsrc : ∀ j v, cs[j]? = some v → w.cell? (a.add j) = some v) (hfit : o + cs.length ≤ cur.size) (h1 : ∀ v ∈ cs, v.oneCell' = true) :
    (Builtin.copy_ #[dT, sT] ty #[.slice (some ⟨g, o, none⟩) dLen dCap, .slice (some a) sLen sCap]).run P w =
      .ok (goInt n) (w.setRow g (cur.toList.take o ++ cs ++ cur.toList.drop (o + cs.length)).toArray) := by
  have hld := run_loadCells_list (P := P) w a cs hsrc
  have hst := run_storeCells_at P g o t cs 0 cur w hg (by simpa using hfit) h1
  cases hq : P.info? elem with
  | none => simp [hq] at hs
  | some i =>
    have hi : i.size = size := by simpa [hq] using hs
    rw [hl] at hld
    simp [Builtin.copy_, run_underlying hu, Builtin.lenOf, Builtin.firstCells, sizeOf, typeInfo, hq, hi, ← hn, hld, hst]
theorem run_copy_none {P : Program} (w : World) (dT sT ty elem : TypeId) (s : Option Addr) (sLen sCap : Nat) (hu : P.underlying dT = some (.slice elem)) (hs : ((P.info? elem).map (·.size)).isSome = true) :
    (Builtin.copy_ #[dT, sT] ty #[.slice none 0 0, .slice s sLen sCap]).run P w = .ok (goInt 0) w := by
  cases hq : P.info? elem with
  | none => simp [hq] at hs
  | some i => cases s <;> simp [Builtin.copy_, run_underlying hu, Builtin.lenOf, Builtin.firstCells, sizeOf, typeInfo, hq, loadCells, loadCellsFrom]
/-- A row's cells. -/
def sC (L : List Sn) : List Value := L.flatMap fun p => [Value.int .i64 p.1, Value.int .i64 p.2]
theorem sRow_sC (L : List Sn) : sRow L = (sC L).toArray := rfl
theorem sC_len (L : List Sn) : (sC L).length = L.length * 2 := by
  unfold sC; induction L with
  | nil => rfl
  | cons x R ih => simp only [List.flatMap_cons, List.length_append, List.length_cons, List.length_nil, ih]; omega
theorem sC_append (A B : List Sn) : sC (A ++ B) = sC A ++ sC B := by simp [sC]
theorem sC_take (L : List Sn) (k : Nat) : (sC L).take (k * 2) = sC (L.take k) := by
  induction L generalizing k with
  | nil => simp [sC]
  | cons x L ih =>
    cases k with
    | zero => simp [sC]
    | succ k =>
      have h := ih k
      rw [show (k + 1) * 2 = k * 2 + 1 + 1 by omega]
      show Value.int .i64 x.1 :: Value.int .i64 x.2 :: (sC L).take (k * 2) = _
      rw [h]; rfl
theorem sC_drop (L : List Sn) (k : Nat) : (sC L).drop (k * 2) = sC (L.drop k) := by
  induction L generalizing k with
  | nil => simp [sC]
  | cons x L ih =>
    cases k with
    | zero => simp [sC]
    | succ k =>
      have h := ih k
      rw [show (k + 1) * 2 = k * 2 + 1 + 1 by omega]
      show (sC L).drop (k * 2) = _
      rw [h]; rfl
theorem sC_cell (L : List Sn) : ∀ v ∈ sC L, v.oneCell' = true := by
  intro v hv
  unfold sC at hv
  rw [List.mem_flatMap] at hv
  obtain ⟨p, _, hp⟩ := hv
  simp at hp
  rcases hp with rfl | rfl <;> rfl
/-- What a copy makes of a row. -/
def cpL (D : List Sn) (o : Nat) (L : List Sn) : List Sn := D.take o ++ L ++ D.drop (o + L.length)
theorem cp_row (D : List Sn) (o : Nat) (L : List Sn) : ((sRow D).toList.take (o * 2) ++ sC L ++ (sRow D).toList.drop (o * 2 + (sC L).length)).toArray = sRow (cpL D o L) := by
  rw [sRow_sC, sRow_sC, sC_len, show o * 2 + L.length * 2 = (o + L.length) * 2 by omega]
  congr 1
  rw [sC_take, sC_drop]; unfold cpL; rw [sC_append, sC_append]
theorem cpL_len (D : List Sn) (o : Nat) (L : List Sn) (h : o + L.length ≤ D.length) : (cpL D o L).length = D.length := by
  unfold cpL; simp only [List.length_append, List.length_take, List.length_drop]; omega
theorem infoSz : (Tryd.prog.info? 70).map (·.size) = some 2 := by kernel_rfl
theorem addG (b off k : Nat) : (⟨b, off, none⟩ : Addr).add k = ⟨b, off + k, none⟩ := by unfold Addr.add; split <;> simp_all
/-- A copy into a row of signs, out of a slice that came in. -/
theorem copy_signs {w : World} (ty : TypeId) {g : Nat} {D : List Sn} {o dl dc : Nat} {ad : Addr} {l : List Sn} {sc : Nat} (hg : w.heap[g]? = some (.cells (sRow D) 70 (0, 0))) (hs : Signs w (some ad) l) (hfit : o + dl ≤ D.length) (hn : l.length ≤ dl) :
    (Builtin.copy_ #[28, 28] ty #[.slice (some ⟨g, o * 2, none⟩) dl dc, .slice (some ad) l.length sc]).run Tryd.prog w = .ok (goInt l.length) (w.setRow g (sRow (cpL D o l))) := by
  have hmin : l.length = Nat.min l.length dl := (Nat.min_eq_left hn).symm
  have h := run_copy_w (P := Tryd.prog) w 28 28 ty 70 g (o * 2) dl dc ad l.length sc (sRow D) 70 (sC l) 2 l.length Tryd.underlying28 infoSz hg hmin (sC_len l) (fun j v hv => by
    have hj : j < l.length * 2 := by have := (List.getElem?_eq_some_iff.1 hv).1; rwa [sC_len] at this
    obtain ⟨b, off, e, _, c1, c2⟩ := hs (j / 2) (by omega)
    obtain rfl : ad = ⟨b, off, none⟩ := by injection e
    have hr := sRow_at l (j / 2) (by omega)
    rw [addG]
    rcases Nat.mod_two_eq_zero_or_one j with hm | hm
    · have e2 : j / 2 * 2 = j := by omega
      rw [e2] at c1 hr
      rw [c1, ← hr.1]; exact hv
    · have e2 : j / 2 * 2 + 1 = j := by omega
      rw [e2] at hr
      rw [show off + j / 2 * 2 + 1 = off + j by omega] at c2
      rw [c2, ← hr.2]; exact hv) (by rw [sC_len, sRow_sC, List.size_toArray, sC_len]; omega) (sC_cell l)
  rw [cp_row] at h
  exact h
theorem signs_of_row {w : World} {r x n : Nat} {S : List Sn} {t : TypeId} {f : Nat × Nat} (h : w.heap[r]? = some (.cells (sRow S) t f)) (hx : x + n ≤ S.length) : Signs w (some ⟨r, x * 2, none⟩) ((S.drop x).take n) := fun i hi => by
  have hl : ((S.drop x).take n).length = n := by rw [List.length_take, List.length_drop]; omega
  rw [hl] at hi
  have hc := sg_cells h (k := x + i) (by omega)
  have hg : ((S.drop x).take n).getD i (0, 0) = S.getD (x + i) (0, 0) := by
    simp only [List.getD, List.getElem?_take, if_pos hi, List.getElem?_drop]
  rw [hg]
  exact ⟨r, x * 2, rfl, blk_lt h, by rw [show x * 2 + i * 2 = (x + i) * 2 by omega]; exact hc.1, by rw [show x * 2 + i * 2 + 1 = (x + i) * 2 + 1 by omega]; exact hc.2⟩
/-- A copy out of a room (the same one or another): n signs from x on, to o on. -/
theorem copy_room {w : World} (ty : TypeId) {g r : Nat} {D S : List Sn} {o x dl dc n sc : Nat} (hg : w.heap[g]? = some (.cells (sRow D) 70 (0, 0))) {f : Nat × Nat} {t : TypeId} (hr : w.heap[r]? = some (.cells (sRow S) t f)) (hfit : o + dl ≤ D.length) (hx : x + n ≤ S.length) (hn : n ≤ dl) :
    (Builtin.copy_ #[28, 28] ty #[.slice (some ⟨g, o * 2, none⟩) dl dc, .slice (some ⟨r, x * 2, none⟩) n sc]).run Tryd.prog w = .ok (goInt n) (w.setRow g (sRow (cpL D o ((S.drop x).take n)))) := by
  have hl : ((S.drop x).take n).length = n := by rw [List.length_take, List.length_drop]; omega
  have h := copy_signs (w := w) ty (o := o) (dl := dl) (dc := dc) (sc := sc) hg (signs_of_row hr hx) hfit (by rw [hl]; exact hn)
  rw [hl] at h
  exact h
end Go.Proofs.YtgpcflpeddnfcaaDoor
set_option linter.unusedVariables false
set_option linter.unusedSimpArgs false
namespace Go.Proofs.YtgpcflpeddnfcaaDoor
open Go.RowKit
/-- The widened room. -/
def gwdL (R : List Sn) (a e W : Nat) : List Sn := R.take a ++ List.replicate (W - a - (R.length - e)) (0, 0) ++ R.drop e
theorem gwdL_len (R : List Sn) (a e W : Nat) (h1 : a ≤ e) (h2 : e ≤ R.length) (hW : a + (R.length - e) ≤ W) : (gwdL R a e W).length = W := by
  unfold gwdL; simp only [List.length_append, List.length_take, List.length_drop, List.length_replicate]; omega
theorem gwdL_gs (R : List Sn) (a e W : Nat) (h1 : a ≤ e) (h2 : e ≤ R.length) (hW : a + (R.length - e) ≤ W) : gsL (gwdL R a e W) a (W - (R.length - e)) = gsL R a e := by
  unfold gsL gwdL
  have ha : (R.take a).length = a := by rw [List.length_take]; omega
  congr 1
  · rw [List.append_assoc, List.take_append_of_le_length (by omega), List.take_of_length_le (by omega)]
  · rw [List.drop_append, List.drop_of_length_le (by rw [List.length_append, ha, List.length_replicate]; omega), List.nil_append, List.length_append, ha, List.length_replicate, show W - (R.length - e) - (a + (W - a - (R.length - e))) = 0 by omega, List.drop_zero]
theorem wd_cp1 (R : List Sn) (a W : Nat) (h1 : a ≤ R.length) (hW : a ≤ W) : cpL (List.replicate W (0, 0)) 0 ((R.drop 0).take a) = R.take a ++ List.replicate (W - a) (0, 0) := by
  have ha : (R.take a).length = a := by rw [List.length_take]; omega
  unfold cpL
  rw [List.take_zero, List.nil_append, List.drop_zero, ha, Nat.zero_add, List.drop_replicate]
theorem wd_cp2 (R : List Sn) (a e W : Nat) (h1 : a ≤ e) (h2 : e ≤ R.length) (hW : a + (R.length - e) ≤ W) : cpL (R.take a ++ List.replicate (W - a) (0, 0)) (W - (R.length - e)) ((R.drop e).take (R.length - e)) = gwdL R a e W := by
  have ha : (R.take a).length = a := by rw [List.length_take]; omega
  have hd : ((R.drop e).take (R.length - e)) = R.drop e := List.take_of_length_le (by rw [List.length_drop]; exact Nat.le_refl _)
  unfold cpL gwdL
  rw [hd]
  have e1 : (R.take a ++ List.replicate (W - a) (0, 0)).take (W - (R.length - e)) = R.take a ++ List.replicate (W - a - (R.length - e)) ((0, 0) : Sn) := by
    rw [List.take_append, List.take_of_length_le (by omega), ha, List.take_replicate]
    congr 2; omega
  have e2 : (R.take a ++ List.replicate (W - a) ((0, 0) : Sn)).drop (W - (R.length - e) + (R.drop e).length) = [] := by
    apply List.drop_of_length_le
    rw [List.length_append, ha, List.length_replicate, List.length_drop]; omega
  rw [e1, e2, List.append_nil]
end Go.Proofs.YtgpcflpeddnfcaaDoor
set_option linter.unusedVariables false
set_option linter.unusedSimpArgs false
namespace Go.Proofs.YtgpcflpeddnfcaaDoor
open Go.RowKit
end Go.Proofs.YtgpcflpeddnfcaaDoor
set_option linter.unusedVariables false
set_option linter.unusedSimpArgs false
namespace Go.Proofs.YtgpcflpeddnfcaaDoor
open Go.RowKit
theorem gsL_take (R : List Sn) (a e : Nat) (h1 : a ≤ e) (h2 : e ≤ R.length) : (gsL R a e).take a = R.take a ∧ (gsL R a e).drop a = R.drop e := by
  have ha : (R.take a).length = a := by rw [List.length_take]; omega
  unfold gsL
  constructor
  · rw [List.take_append_of_le_length (by omega), List.take_of_length_le (by omega)]
  · rw [List.drop_append, List.drop_of_length_le (by omega), ha, Nat.sub_self, List.drop_zero, List.nil_append]
theorem in_gs (R : List Sn) (a e : Nat) (l : List Sn) (h1 : a ≤ e) (h2 : e ≤ R.length) (hl : l.length ≤ e - a) : gsL (cpL R a l) (a + l.length) e = (gsL R a e).take a ++ l ++ (gsL R a e).drop a := by
  have ha : (R.take a).length = a := by rw [List.length_take]; omega
  rw [(gsL_take R a e h1 h2).1, (gsL_take R a e h1 h2).2]
  unfold gsL cpL
  have hal : (R.take a ++ l).length = a + l.length := by rw [List.length_append, ha]
  congr 1
  · rw [List.take_append_of_le_length (by omega), List.take_of_length_le (by omega)]
  · rw [List.drop_append, List.drop_of_length_le (by omega), List.nil_append, hal, List.drop_drop]; congr 1; omega
theorem run_copy_zero {P : Program} (w : World) (dT sT ty elem : TypeId) (d s : Option Addr) (dl dc sc : Nat) (hu : P.underlying dT = some (.slice elem)) (hs : ((P.info? elem).map (·.size)).isSome = true) :
    (Builtin.copy_ #[dT, sT] ty #[.slice d dl dc, .slice s 0 sc]).run P w = .ok (goInt 0) w := by
  cases hq : P.info? elem with
  | none => simp [hq] at hs
  | some i => cases s <;> cases d <;> simp [Builtin.copy_, run_underlying hu, Builtin.lenOf, Builtin.firstCells, sizeOf, typeInfo, hq, loadCells, loadCellsFrom, storeCells]
theorem Kept.weaken {p : Nat} {v : Value} {w w' : World} (h : Kept p (.slice none 0 0) w w') : Kept p v w w' := ⟨h.os, h.tape, h.output, h.size, fun k hk hp _ => h.block k hk hp (by simp [Value.ownBlock])⟩
theorem Signs.kept {p : Nat} {v : Value} {w w' : World} {b : Option Addr} {l : List Sn} (h : Signs w b l) (hk : Kept p v w w') (hb : ∀ ad, b = some ad → ad.block ≠ p ∧ some ad.block ≠ v.ownBlock) : Signs w' b l := fun i hi => by
  obtain ⟨bl, off, e, hlt, h1, h2⟩ := h i hi
  have ⟨n1, n2⟩ := hb _ e
  have hbk := hk.block bl hlt n1 n2
  exact ⟨bl, off, e, Nat.lt_of_lt_of_le hlt hk.size, (World.cell?_of_block (w := w) (a := ⟨bl, off + i * 2, none⟩) hbk).trans h1, (World.cell?_of_block (w := w) (a := ⟨bl, off + i * 2 + 1, none⟩) hbk).trans h2⟩
theorem Signs.kept0 {p : Nat} {v : Value} {w w' : World} {b : Option Addr} {l : List Sn} (h : Signs w b l) (hk : Kept p v w w') (hb : l ≠ [] → ∀ ad, b = some ad → ad.block ≠ p ∧ some ad.block ≠ v.ownBlock) : Signs w' b l := by
  by_cases hl : l = []
  · subst hl; exact fun i hi => absurd hi (Nat.not_lt_zero i)
  · exact h.kept hk (hb hl)
end Go.Proofs.YtgpcflpeddnfcaaDoor
set_option linter.unusedVariables false
set_option linter.unusedSimpArgs false
namespace Go.Proofs.YtgpcflpeddnfcaaDoor
open Go.RowKit
/-- A slice of signs of a call's own. -/
def OwnSn (B : Nat) (v : Value) (L : List Sn) (w : World) : Prop :=
  (v = .slice none 0 0 ∧ L = []) ∨ ∃ g, v = .slice (some ⟨g, 0, none⟩) L.length L.length ∧ B ≤ g ∧ w.heap[g]? = some (.cells (sRow L) 70 (0, 0))
theorem OwnSn.below {B : Nat} {v : Value} {L : List Sn} {w w' : World} (h : OwnSn B v L w) (hb : Below w.heap.size w w') : OwnSn B v L w' := by
  rcases h with h | ⟨g, h1, h2, h3⟩
  · exact Or.inl h
  · exact Or.inr ⟨g, h1, h2, blk_below h3 hb⟩
theorem OwnSn.signs {B : Nat} {v : Value} {L : List Sn} {w : World} (h : OwnSn B v L w) : ∃ ad, v = .slice ad L.length L.length ∧ Signs w ad L ∧ (∀ x, ad = some x → B ≤ x.block) := by
  rcases h with ⟨rfl, rfl⟩ | ⟨g, rfl, h2, h3⟩
  · exact ⟨none, rfl, fun j hj => absurd hj (Nat.not_lt_zero j), fun x hx => by cases hx⟩
  · exact ⟨_, rfl, signs_of_blk h3, fun x hx => by cases hx; exact h2⟩
theorem al_cp (R : List Sn) (a e n : Nat) (h1 : a ≤ e) (h2 : e ≤ R.length) (hn : n = R.length - (e - a)) : cpL (R.take a ++ List.replicate (n - a) (0, 0)) a ((R.drop e).take (R.length - e)) = gsL R a e := by
  have ha : (R.take a).length = a := by rw [List.length_take]; omega
  have hd : ((R.drop e).take (R.length - e)) = R.drop e := List.take_of_length_le (by rw [List.length_drop]; exact Nat.le_refl _)
  unfold cpL gsL
  have e2 : (R.take a ++ List.replicate (n - a) ((0, 0) : Sn)).drop (a + (R.drop e).length) = [] := by
    apply List.drop_of_length_le
    rw [List.length_append, ha, List.length_replicate, List.length_drop]; omega
  rw [hd, List.take_append_of_le_length (by omega), List.take_of_length_le (by omega), e2, List.append_nil]
end Go.Proofs.YtgpcflpeddnfcaaDoor
set_option linter.unusedVariables false
set_option linter.unusedSimpArgs false
namespace Go.Proofs.YtgpcflpeddnfcaaDoor
open Go.RowKit
def gtV (L : List Sn) (i : Int) : Sn := if 0 ≤ i then L.getD i.toNat (0, 0) else (0, 0)
def gtB (L : List Sn) (i : Int) : Bool := decide (0 ≤ i ∧ i < L.length)
theorem gs_lo (R : List Sn) (a e j : Nat) (h1 : a ≤ e) (h2 : e ≤ R.length) (hj : j < a) : (gsL R a e).getD j (0, 0) = R.getD j (0, 0) := by
  have ha : (R.take a).length = a := by rw [List.length_take]; omega
  unfold gsL
  rw [List.getD, List.getElem?_append_left (by omega), List.getElem?_take, if_pos hj]; rfl
theorem gs_hi (R : List Sn) (a e j : Nat) (h1 : a ≤ e) (h2 : e ≤ R.length) (hj : ¬ j < a) : (gsL R a e).getD j (0, 0) = R.getD (e + j - a) (0, 0) := by
  have ha : (R.take a).length = a := by rw [List.length_take]; omega
  unfold gsL
  rw [List.getD, List.getElem?_append_right (by omega), ha, List.getElem?_drop, show e + (j - a) = e + j - a by omega]; rfl
theorem two_set {w : World} {b : Nat} {x0 x1 : Value} {T : TypeId} {f : Nat × Nat} (h : w.heap[b]? = some (.cells #[x0, x1] T f)) (v0 v1 : Value) :
    ((w.setCell ⟨b, 0, none⟩ v0).setCell ⟨b, 1, none⟩ v1).heap[b]? = some (.cells #[v0, v1] T f) := blk_set (blk_set h 0 _) 1 _
theorem two_below (w w0 : World) (b : Nat) (v0 v1 : Value) (hb : w0.heap.size ≤ b) (h : Below w0.heap.size w0 w) :
    Below w0.heap.size w0 ((w.setCell ⟨b, 0, none⟩ v0).setCell ⟨b, 1, none⟩ v1) :=
  (h.setCell (p := ⟨b, 0, none⟩) hb v0).setCell (p := ⟨b, 1, none⟩) hb v1
end Go.Proofs.YtgpcflpeddnfcaaDoor
set_option linter.unusedVariables false
set_option linter.unusedSimpArgs false
namespace Go.Proofs.YtgpcflpeddnfcaaDoor
open Go.RowKit
/-- A line that a call made. -/
def LnNew (w : World) (L : List Sn) (N : Nat) (at_ : Int) (e : Ending) (w' : World) : Prop :=
  ∃ a c, e = .returned (.agg #[.slice a N c, .int .i64 at_]) ∧ L.length = N ∧ SlS (fun k => w.heap.size ≤ k ∧ k < w'.heap.size) w' a L c ∧ Below w.heap.size w w'
/-- Behind a draw and an append the box of a line reads as before. -/
theorem cell_grown {w w' : World} {p : Addr} {v : Value} {r : Option Nat} (h : w.cell? p = some v) (hg : w.drew.grownBy w' r) (hne : some p.block ≠ r) : w'.cell? p = some v := hg.cell (w := w.drew) h hne
theorem ows_ne {w : World} {B : Nat} {v : Value} {L : List Sn} (h : OwS w B v L) (b : Nat) (hb : b < B) : some b ≠ v.ownBlock := fun e => by
  have := (h.lt b e.symm).1; omega
theorem far2 {w : World} {p q i j k : Nat} {u v : Value} (h : p ≠ q) : ((w.setCell ⟨p, i, none⟩ u).setCell ⟨p, j, none⟩ v).cell? ⟨q, k, none⟩ = w.cell? ⟨q, k, none⟩ := by
  unfold World.cell?
  rw [Below.heap_setCell _ _ _ _ (Ne.symm h), Below.heap_setCell _ _ _ _ (Ne.symm h)]
set_option maxHeartbeats 4000000 in
theorem rins_any (S : Nat → Prop) (L l : List Sn) (a b : Option Addr) (c d m n at_ : Nat) (w : World) (hm : L.length = m) (hl : l.length = n) (hL : m ≤ 90000) (hn : n ≤ 1000) (hat : at_ ≤ m) (ha : SlS S w a L c) (hb : SlS S w b l d) :
    Calls Tryd.prog 88 #[.agg #[.slice a m c, .int .i64 (at_ : Int)], .slice b n d] w (LnNew w (L.take at_ ++ l ++ L.drop at_) (m + n) ((at_ : Int) + (n : Int))) := by
  subst hm
  have N0 := below_alloc w (.cells #[.slice a L.length c, .int .i64 (at_ : Int)] 30)
  have q0 := heap_alloc_new w (.cells #[.slice a L.length c, .int .i64 (at_ : Int)] 30)
  obtain ⟨W, hW⟩ : ∃ W, w.alloc (.cells #[.slice a L.length c, .int .i64 (at_ : Int)] 30) = W := ⟨_, rfl⟩
  rw [hW] at N0 q0
  have N1 := seqB N0 (below_alloc W (.cells #[.slice none 0 0, .int .i64 0] 30))
  have q1 := blk_below q0 (below_alloc W (.cells #[.slice none 0 0, .int .i64 0] 30))
  have r1 := heap_alloc_new W (.cells #[.slice none 0 0, .int .i64 0] 30)
  obtain ⟨W1, hW1⟩ : ∃ W1, W.alloc (.cells #[.slice none 0 0, .int .i64 0] 30) = W1 := ⟨_, rfl⟩
  rw [hW1] at N1 q1 r1
  have hsW : Hid (W.heap.size = w.heap.size + 1 ∧ W1.heap.size = w.heap.size + 2) := Lib.hid (by rw [← hW1, ← hW]; simp)
  have hle := ha.le
  obtain ⟨A1, hA1⟩ : ∃ x : Option Addr, (if c = 0 then a else a.map (·.add (0 * 2))) = x := ⟨_, rfl⟩
  obtain ⟨A2, hA2⟩ : ∃ x : Option Addr, (if c = at_ then a else a.map (·.add (at_ * 2))) = x := ⟨_, rfl⟩
  obtain ⟨s1, l1⟩ := (ha.below N1).sub 0 at_ (Nat.zero_le _) hat
  obtain ⟨s2, l2⟩ := (ha.below N1).sub at_ L.length hat (Nat.le_refl _)
  rw [hA1] at s1; rw [hA2] at s2
  rw [List.drop_zero, Nat.sub_zero] at s1 l1
  rw [Nat.sub_zero] at s1
  have l2' : (L.drop at_).length = L.length - at_ := List.length_drop
  rw [List.take_of_length_le (by omega)] at s2
  have hcut1 : ∀ w : World, (Instr.slice 28 (.slice a L.length c) none (some (.int .i64 (at_ : Int))) none).run Tryd.prog w = .ok (.slice A1 at_ c) w := fun w => by
    rw [run_cutH w a L.length c at_ (by omega), hA1]
  have hcut2 : ∀ w : World, (Instr.slice 28 (.slice a L.length c) (some (.int .i64 (at_ : Int))) none none).run Tryd.prog w = .ok (.slice A2 (L.length - at_) (c - at_)) w := fun w => by
    rw [run_cutL w a L.length c at_ (by omega), hA2]
  have JN := Lib.hid (joinS_ref S (L.take at_) l A1 b c d at_ n W1 l1 hl (by omega) (by omega) s1 (hb.below N1))
  have HS2 := Lib.hid s2
  have HL2 := Lib.hid l2'
  have HL1 := Lib.hid (by rw [List.length_append, l1, hl] : (L.take at_ ++ l).length = at_ + n)
  have zz := fun i => cell_of_row _ _ i _ _ _ q1
  have z0 := zz 0; have z1 := zz 1
  have yf := fun i => frozen_of_row _ W.heap.size i _ _ r1
  dsimp at z0 z1
  have R1 := Lib.hid r1
  have Q1 := Lib.hid q1
  have hH : Hid (w.heap.size < W1.heap.size) := Lib.hid (by have := hsW.out; omega)
  clear hA1 hA2 s1 s2 l1 l2 l2' hb ha q0 q1 r1 zz N0
  go_enter Tryd.func88, Tryd.ntmps88
  go_upto_region 1 with fail
  clear hW
  have hWne : Hid (W.heap.size ≠ w.heap.size) := Lib.hid (by have := hsW.out; omega)
  have hwr : IntKind.i64.wrap ((at_ : Int) + (n : Int)) = (at_ : Int) + (n : Int) := by rw [IntKind.wrap_i64]; omega
  go_upto_region 2 with (go_at_call 131; refine JN.out.mono ?_; rintro x w2 ⟨ad2, c2, rfl, o2, b2⟩; have O2 := Lib.hid o2; have N2 := seqB N1 b2; have z02 := (b2.cell (p := ⟨w.heap.size, 0, none⟩) hH.out).trans z0; have z12 := (b2.cell (p := ⟨w.heap.size, 1, none⟩) hH.out).trans z1; have R2 := Lib.hid (blk_below R1.out b2); have S2 := Lib.hid (HS2.out.below b2); have B2 := Lib.hid b2; clear o2 b2 JN z0 z1 R1 HS2)
  go_region_held3 (fun w' => w'.cell? ⟨w.heap.size, 0, none⟩ = some (.slice a L.length c) ∧ w'.cell? ⟨w.heap.size, 1, none⟩ = some (.int .i64 (at_ : Int))) (first | exact ⟨z02, z12⟩ | exact ⟨z05, z15⟩ | exact ⟨(far2 hWne.out).trans z05, (far2 hWne.out).trans z15⟩ | go_keep)
    (first
      | (refine step_app_signs (by rfl) _ _ (by rfl) W1.heap.size (.slice ad2 (at_ + n) c2) (at_ + n) (L.take at_ ++ l) (by rfl) HL1.out O2.out.drew A2 (L.length - at_) (c - at_) (L.drop at_) (by rfl) HL2.out S2.out.s S2.out.nl ?c3 ?c4 ?_
         case c3 => omega
         case c4 => exact B2.out.size
         intro ad5 c5 w5 o5 g5
         have z05 := cell_grown z02 g5 (ows_ne O2.out _ hH.out)
         have z15 := cell_grown z12 g5 (ows_ne O2.out _ hH.out)
         have O5 := Lib.hid o5
         have N5 := Lib.hid (N2.drew.grown g5 N2.size (fun j hj => by have := (O2.out.lt j hj).1; have := hH.out; omega))
         have R5 : Hid (w5.heap[W.heap.size]? = some (.cells #[.slice none 0 0, .int .i64 0] 30 (0, 0))) := Lib.hid ((g5.block W.heap.size (blk_lt R2.out) (ows_ne O2.out _ (by have := hsW.out; omega))).trans R2.out)
         have yy := fun i => cell_of_row _ _ i _ _ _ R5.out
         have y0 := yy 0; have y1 := yy 1
         have yf5 := fun i => frozen_of_row _ W.heap.size i _ _ R5.out
         dsimp at y0 y1
         clear o5 g5 yy))
  go_wp2
  clear hcut1 hcut2 y0 y1 z02 z12 z05 z15
  generalize hWF : World.setCell _ _ _ = WF
  have hN : Below w.heap.size w WF := by rw [← hWF]; exact two_below _ w W.heap.size _ _ (by have := hsW.out; omega) N5.out
  have hqf : WF.heap[W.heap.size]? = some (.cells #[.slice ad5 (at_ + n + (L.length - at_)) c5, .int .i64 ((at_ : Int) + (n : Int))] 30 (0, 0)) := by rw [← hWF]; exact two_set R5.out _ _
  have hO : OwS WF W1.heap.size (.slice ad5 (at_ + n + (L.length - at_)) c5) (L.take at_ ++ l ++ L.drop at_) := by
    rw [← hWF]; unfold OwS
    exact own_set (own_set O5.out (own_ne_kind O5.out R5.out (by decide)) _) (own_ne_kind O5.out R5.out (by decide)) _
  have y := fun i => cell_of_row _ _ i _ _ _ hqf
  have y0 := y 0; have y1 := y 1
  dsimp at y0 y1
  clear y hqf hWF yf yf5
  refine bodyPost_ret (v := .agg #[.slice ad5 (at_ + n + (L.length - at_)) c5, .int .i64 ((at_ : Int) + (n : Int))]) (by simp [results, Tryd.results88, go_sem, y0, y1]) rfl ?_
  have hlen : (L.take at_ ++ l ++ L.drop at_).length = at_ + n + (L.length - at_) := by rw [List.length_append, HL1.out, HL2.out]
  have he : at_ + n + (L.length - at_) = L.length + n := by omega
  obtain ⟨a', c', e', hs⟩ := hO.sl
  rw [hlen] at e'
  obtain ⟨rfl, rfl⟩ : ad5 = a' ∧ c5 = c' := by simpa using e'
  exact ⟨ad5, c5, by rw [he], by rw [hlen, he], hs.mono (fun k hk => ⟨by have := hH.out; omega, hk.2⟩), hN⟩
end Go.Proofs.YtgpcflpeddnfcaaDoor
set_option linter.unusedVariables false
set_option linter.unusedSimpArgs false
namespace Go.Proofs.YtgpcflpeddnfcaaDoor
open Go.RowKit
def wrL (l : List (Int × Int)) (u : Int) : List (Int × Int) := l.map fun p => (p.1, u)
set_option maxHeartbeats 4000000 in
theorem withr_any (l : List (Int × Int)) (u : Int) (a : Option Addr) (c : Nat) (w : World) (hl : l.length ≤ 100000) (hs : Signs w a l) :
    Calls Tryd.prog 25 #[.slice a l.length c, .int .i64 u] w fun e w' => ∃ x, e = .returned x ∧ OwS w' w.heap.size x (wrL l u) ∧ Below w.heap.size w w' := by
  have HS := Lib.hid hs; clear hs
  go_enter Tryd.func25, Tryd.ntmps25
  go_wp2
  go_loopw [5, 6] (fun ov iv wr => ∃ k : Nat, k ≤ l.length ∧ iv = .int .i64 (k : Int) ∧ Hid (OwS wr w.heap.size ov (wrL (l.take k) u)) ∧ Hid (Below w.heap.size w wr)) (fun _ iv _ => l.length - (intOf iv).toNat)
  case atStart => exact ⟨0, Nat.zero_le _, rfl, Lib.hid (World.ownsRow_nil _ _ _ _), Lib.hid (Below.refl _ _)⟩
  case round =>
    obtain ⟨k, hk, rfl, hO, hb⟩ := hrel
    by_cases hlt : k < l.length
    · obtain ⟨b, off, rfl, hblk, c1, c2⟩ := (HS.out.below hb.out) k hlt
      have hk1 : (k : Int) < l.length := by omega
      have hk0 : (0 : Int) ≤ k := by omega
      have hnext : wrL (l.take (k + 1)) u = wrL (l.take k) u ++ [((l.getD k (0, 0)).1, u)] := by
        unfold wrL
        rw [List.take_add_one, List.getElem?_eq_getElem hlt, List.map_append]
        simp [List.getD, List.getElem?_eq_getElem hlt]
      have hlen : (wrL (l.take k) u).length = k := by unfold wrL; simp; omega
      have Hn := Lib.hid hnext
      have Hl := Lib.hid hlen
      have BA := fun o => below_alloc wr o
      generalize (l.getD k (0, 0)).1 = v at *
      generalize wrL (l.take k) u = Y at *
      have O1 := Lib.hid (ows_keep hO.out (BA (.cells #[.int .i64 v, .int .i64 u] 70)))
      have N1 := Lib.hid (seqB hb.out (BA (.cells #[.int .i64 v, .int .i64 u] 70)))
      have S1 := Lib.hid (show Signs (wr.alloc (.cells #[.int .i64 v, .int .i64 u] 70)) (some ⟨wr.heap.size, 0, none⟩) [(v, u)] from signs_new wr [(v, u)] 70)
      obtain ⟨ay, cy, rfl⟩ := hO.out.form Hl.out
      clear hnext hlen hO hb BA
      go_wp2_with (at_builtin; refine wpList_app_signs rfl _ _ rfl w.heap.size _ k Y rfl Hl.out O1.out (some ⟨wr.heap.size, 0, none⟩) 1 1 [(v, u)] rfl rfl S1.out (fun e => (by cases e)) ?g3 ?g4 ?_)
      case g3 => omega
      case g4 => exact N1.out.size
      intro ad5 c5 w5 hown5 hgrow5
      have N5 := Lib.hid (N1.out.grown hgrow5 N1.out.size (fun j hj => (O1.out.lt j hj).1))
      have HO := Lib.hid hown5
      clear hown5 hgrow5
      go_wp2
      go_roundw
      case rel => exact ⟨k + 1, by omega, by go_num, Lib.hid (by rw [Hn.out]; exact HO.out), N5⟩
      case measure => (simp [intOf]; try omega)
    · obtain rfl : k = l.length := by omega
      rw [List.take_length] at hO
      have hkl : ¬ (l.length : Int) < (l.length : Int) := by omega
      go_wp2
      go_ret
      exact ⟨_, rfl, hO.out, hb.out⟩
end Go.Proofs.YtgpcflpeddnfcaaDoor
set_option linter.unusedVariables false
set_option linter.unusedSimpArgs false
namespace Go.Proofs.YtgpcflpeddnfcaaDoor
open Go.ChangeShapes Go.WideShapes Go.ChangeAt Go.RowKit Go.Deep Go.Joins
/-- A slice of bools lies in memory. -/
def BlsIn (w : World) (a : Option Addr) (l : List Bool) : Prop :=
  ∀ i, i < l.length → ∃ b off, a = some ⟨b, off, none⟩ ∧ b < w.heap.size ∧ w.cell? ⟨b, off + i, none⟩ = some (.bool (l.getD i false))
theorem BlsIn.below {w0 w' : World} {a : Option Addr} {l : List Bool} (h : BlsIn w0 a l) (hb : Below w0.heap.size w0 w') : BlsIn w' a l := fun i hi => by
  obtain ⟨b, off, e, hlt, h1⟩ := h i hi
  exact ⟨b, off, e, Nat.lt_of_lt_of_le hlt hb.size, (hb.cell (p := ⟨b, off + i, none⟩) hlt).trans h1⟩
section
variable {H : Type} {enc : TypeId × Value → H} {W : World}
theorem addB_none (b off k : Nat) : (⟨b, off, none⟩ : Addr).add k = ⟨b, off + k, none⟩ := by unfold Addr.add; split <;> simp_all
theorem cell_spotB {w : World} {b off : Nat} {sp : Option Nat} {x : Bool} (h : w.cell? ⟨b, off, sp⟩ = some (.bool x)) : sp = none := by
  cases sp with
  | none => rfl
  | some k =>
    exfalso
    unfold World.cell? at h
    simp at h
    split at h <;> simp_all
set_option maxRecDepth 100000 in
theorem cellsBoolB : Tryd.prog.cellsOf 4 = 1 := by kernel_rfl
set_option maxRecDepth 100000 in
theorem arg_bls {base : Nat} {v0 : Value} {d0 : DataW H} {p : List MemPlace} (hv : Value.okWide Tryd.prog W .any base 56 v0) (h : DataW.Trod enc Tryd.prog W 0 (fun _ => true) true 56 v0 d0 p) :
    ∃ (l : List Bool) (a : Option Addr) (c : Nat), v0 = .slice a l.length c ∧ BlsIn W a l ∧ l.length ≤ 9223372036854775807 := by
  obtain ⟨a0, len, cap, rfl⟩ := okWide_slice Tryd.underlying56 hv
  obtain ⟨fuel, hf⟩ := h
  rcases open_slice Tryd.underlying56 hf with ⟨hcs, _⟩ | ⟨a, len', cap', m, n, D, Pl, hcs, _, hl, hm, hmm, _, hx⟩
  · simp [Value.cells] at hcs
    obtain ⟨rfl, rfl, rfl⟩ := hcs
    exact ⟨[], none, 0, rfl, fun j hj => absurd hj (Nat.not_lt_zero j), by simp⟩
  · simp [Value.cells] at hcs
    obtain ⟨rfl, rfl, rfl⟩ := hcs
    have hlm : len ≤ m := by rw [hmm]; split <;> omega
    have key : ∀ i, i < len → ∃ q : Bool, W.cell? (a.add i) = some (.bool q) := by
      intro i hi
      obtain ⟨cs', h1, h2⟩ := hx i (by omega)
      rw [cellsBoolB] at h1
      obtain ⟨_, hlen, hcell⟩ := World.cells?_some h1
      obtain ⟨x0, hx0, _⟩ := DataW.trod_bool Tryd.underlying4 h2
      have e0 := hcell 0 (by omega)
      rw [add_add] at e0
      exact ⟨x0, by simpa [hx0] using e0⟩
    obtain ⟨F, hF⟩ : ∃ F : Nat → Bool, ∀ i, i < len → W.cell? (a.add i) = some (.bool (F i)) :=
      ⟨fun i => if h : i < len then (key i h).choose else false, fun i hi => by simp only [dif_pos hi]; exact (key i hi).choose_spec⟩
    clear key
    refine ⟨(List.range len).map F, some a, cap, by simp, ?_, by simp; unfold maxLen at hm; omega⟩
    intro j hj
    have hj2 : j < len := by simpa using hj
    have c0 := hF j hj2
    obtain ⟨b, off, sp⟩ := a
    have hsp : sp = none := by
      have c00 := hF 0 (by omega)
      have h1 : W.cell? ⟨b, off, sp⟩ = some (.bool (F 0)) := by simpa [Addr.add] using c00
      exact cell_spotB h1
    subst hsp
    rw [addB_none] at c0
    have hg : ((List.range len).map F).getD j false = F j := by
      rw [List.getD, List.getElem?_map, List.getElem?_range hj2]; rfl
    rw [hg]
    exact ⟨b, off, rfl, block_lt_of_cell c0, c0⟩
end
end Go.Proofs.YtgpcflpeddnfcaaDoor
