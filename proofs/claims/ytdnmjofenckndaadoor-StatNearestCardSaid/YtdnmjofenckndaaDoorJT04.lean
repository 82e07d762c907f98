/-
  Joined: Ki0 C9 C10 C11 C12 P1 P3 P4 Lo Sg3 Ki1 St1 St2.
-/
import Derived.Test.YtdnmjofenckndaaDoorJT01
import Derived.Test.YtdnmjofenckndaaDoorJT03
import Derived.Maps.OwnSet
import Derived.Maps.Views
import Derived.Lib.QuietBelow
import Derived.Laws.StructEq
import Derived.Lib.AppendZeros
import Derived.Lib.AppendZerosOnto
import Derived.Deep.Onto
import Derived.Deep.Cut
import Derived.Deep.CutRange
import Derived.Deep.CutBlock
import Derived.Deep.QuietTactic
import Derived.BigQuiet
set_option linter.unusedVariables false
set_option linter.unusedSimpArgs false
set_option maxRecDepth 100000
set_option linter.unusedVariables false
set_option linter.unusedSimpArgs false
namespace Go.Proofs.YtdnmjofenckndaaDoor
open Go.RowKit
def encA : Option Addr → DataW Unit
  | none => .nil
  | some ⟨b, o, none⟩ => .agg [.lit (.int .i64 b), .lit (.int .i64 o)]
  | some ⟨b, o, some k⟩ => .agg [.lit (.int .i64 b), .lit (.int .i64 o), .lit (.int .i64 k)]
def slD (a : Option Addr) (n c : Nat) : DataW Unit := .agg [encA a, .lit (.int .i64 n), .lit (.int .i64 c)]
def slR : Value → Option (DataW Unit × List MemPlace)
  | .slice a n c => some (slD a n c, [])
  | _ => none
theorem encA_inj {a b : Option Addr} (h : encA a = encA b) : a = b := by
  match a, b, h with
  | none, none, _ => rfl
  | none, some ⟨b, o, none⟩, h => cases h
  | none, some ⟨b, o, some k⟩, h => cases h
  | some ⟨b, o, none⟩, none, h => cases h
  | some ⟨b, o, some k⟩, none, h => cases h
  | some ⟨b, o, none⟩, some ⟨b', o', none⟩, h => simp [encA] at h; obtain ⟨h1, h2⟩ := h; obtain rfl : b = b' := (by omega); obtain rfl : o = o' := (by omega); rfl
  | some ⟨b, o, none⟩, some ⟨b', o', some k⟩, h => simp [encA] at h
  | some ⟨b, o, some k⟩, some ⟨b', o', none⟩, h => simp [encA] at h
  | some ⟨b, o, some k⟩, some ⟨b', o', some k'⟩, h => simp [encA] at h; obtain ⟨h1, h2, h3⟩ := h; obtain rfl : b = b' := (by omega); obtain rfl : o = o' := (by omega); obtain rfl : k = k' := (by omega); rfl
theorem slR_inj {v : Value} {a : Option Addr} {n c : Nat} {ps : List MemPlace} (h : slR v = some (slD a n c, ps)) : v = .slice a n c := by
  cases v with
  | slice a' n' c' =>
    simp only [slR, Option.some.injEq, Prod.mk.injEq] at h
    have h1 := h.1
    simp only [slD, DataW.agg.injEq, List.cons.injEq, DataW.lit.injEq, Lit.int.injEq, and_true, true_and] at h1
    obtain ⟨e1, e2, e3⟩ := h1
    rw [encA_inj e1, show n' = n by omega, show c' = c by omega]
  | _ => cases h
/-- A slice's value. -/
abbrev SlV := Option Addr × Nat × Nat
def slV (s : SlV) : Value := .slice s.1 s.2.1 s.2.2
def sl0 : SlV := (none, 0, 0)
theorem slR_v (s : SlV) : slR (slV s) = some (slD s.1 s.2.1 s.2.2, []) := rfl
/-- Block b is a map that has vs, by numbers from o on. -/
structure MapF (w : World) (b : Nat) (o : Int) (vs : List SlV) : Prop where
  ex : ∃ D : DataW Unit, w.ownsMap Tryd.prog 3 slR b vs.length D ∧ Maps.size D = vs.length ∧ (∀ i : Int, Maps.has D (.int .i64 i) = decide (o ≤ i ∧ i < o + vs.length)) ∧ ∀ j, j < vs.length → ∀ z, D.atKey (.int .i64 (o + j)) z = slD (vs.getD j sl0).1 (vs.getD j sl0).2.1 (vs.getD j sl0).2.2
  lo : 0 ≤ o
  hi : o + vs.length ≤ 1000000000
theorem keyI : Maps.Keyed Tryd.prog 3 := Maps.int_keyed Tryd.underlying3
theorem keyI_mk {i : Int} (h0 : 0 ≤ i) (h1 : i ≤ 1000000000) : keyOf Tryd.prog 3 (.int .i64 i) = some (.int .i64 i) := Maps.keyOf_int_mk Tryd.underlying3 (by simp [Lit.wf, IntKind.min, IntKind.max, IntKind.signed, IntKind.bits]; omega)
theorem zeroSl (w : World) : (zeroValue 22).run Tryd.prog w = .ok (.slice none 0 0) w := by kernel_rfl
theorem litI_key {i : Int} : WideAt.IsKeyLit (Lit.int .i64 i) := trivial
theorem litI_ne {i j : Int} (h : i ≠ j) : Lit.int .i64 i ≠ Lit.int .i64 j := fun e => h (by injection e)
theorem MapF.kept {w w' : World} {b : Nat} {o : Int} {vs : List SlV} (h : MapF w b o vs) {row : Option Nat} (hg : w.grownBy w' row) (hne : some b ≠ row) : MapF w' b o vs := by
  obtain ⟨D, h1, h2⟩ := h.ex
  exact ⟨⟨D, h1.kept hg hne, h2⟩, h.lo, h.hi⟩
theorem MapF.below {w w' : World} {b : Nat} {o : Int} {vs : List SlV} (h : MapF w b o vs) (hb : Below w.heap.size w w') : MapF w' b o vs := h.kept (row := none) ⟨hb.os, hb.tape, hb.output, hb.size, fun k hk _ => hb.block k hk⟩ (by simp)
theorem MapF.blk {w w' : World} {b : Nat} {o : Int} {vs : List SlV} (h : MapF w b o vs) (hk : w'.heap[b]? = w.heap[b]?) : MapF w' b o vs := by
  obtain ⟨D, ⟨es, clock, hb, F, hs, hD⟩, h2⟩ := h.ex
  exact ⟨⟨D, ⟨es, clock, hk.trans hb, F, hs, hD⟩, h2⟩, h.lo, h.hi⟩
theorem MapF.lt {w : World} {b : Nat} {o : Int} {vs : List SlV} (h : MapF w b o vs) : b < w.heap.size := by
  obtain ⟨D, h1, _⟩ := h.ex; exact h1.lt
theorem MapF.made (w : World) : MapF (w.alloc (.map #[] 0)) w.heap.size 0 [] :=
  ⟨⟨.map [], World.ownsMap_made w _ _ _, rfl, fun i => by rw [decide_eq_false (by simp)]; rfl, fun j hj => absurd hj (Nat.not_lt_zero j)⟩, by omega, by simp⟩
theorem MapF.len {w : World} {b : Nat} {o : Int} {vs : List SlV} (h : MapF w b o vs) (ty : TypeId) : (Builtin.len_ #[116] ty #[.map (some b)]).run Tryd.prog w = .ok (.int .i64 vs.length) w := by
  obtain ⟨D, h1, h2, _⟩ := h.ex
  rw [h1.len Tryd.underlying116 ty, h2]
theorem MapF.look {w : World} {b : Nat} {o : Int} {vs : List SlV} (h : MapF w b o vs) {j : Nat} (hj : j < vs.length) : (Instr.lookup 116 (.map (some b)) (.int .i64 (o + j)) false).run Tryd.prog w = .ok (slV (vs.getD j sl0)) w := by
  obtain ⟨D, h1, h2, h3, h4⟩ := h.ex
  have := h.lo; have := h.hi
  obtain ⟨v, ps, hrun, hv⟩ := h1.lookup keyI Tryd.underlying116 (zeroSl w) (show slR (.slice none 0 0) = some (slD none 0 0, []) from rfl) (keyI_mk (i := o + j) (by omega) (by omega))
  rw [h4 j hj] at hv
  rw [hrun, slR_inj hv]; rfl
theorem fit_size {w : World} {b n : Nat} {D : DataW Unit} (h : w.ownsMap Tryd.prog 3 slR b n D) {m : Nat} (hm : Maps.size D ≤ m) : w.ownsMap Tryd.prog 3 slR b m D := by
  obtain ⟨es, clock, hb, F, hs, rfl⟩ := h
  refine ⟨es, clock, hb, F, ?_, rfl⟩
  simpa [Maps.size, length_sorted] using hm
theorem getD_app1 (us : List SlV) (v : SlV) (j : Nat) : (us ++ [v]).getD j sl0 = if j < us.length then us.getD j sl0 else if j = us.length then v else sl0 := by
  rw [List.getD]
  split
  · rename_i h; rw [List.getElem?_append_left h, List.getD]
  · split
    · rename_i h; rw [h, List.getElem?_append_right (Nat.le_refl _), Nat.sub_self]; rfl
    · rw [List.getElem?_eq_none (by simp; omega)]; rfl
/-- A text comes by the next number. -/
theorem MapF.push {w : World} {b : Nat} {o : Int} {vs : List SlV} (h : MapF w b o vs) (v : SlV) (hn : o + vs.length + 1 ≤ 1000000000) : ∃ w', (Instr.mapUpdate 116 (.map (some b)) (.int .i64 (o + vs.length)) (slV v)).run Tryd.prog w = .ok () w' ∧ MapF w' b o (vs ++ [v]) ∧ w.grownBy w' (some b) := by
  obtain ⟨D, h1, h2, h3, h4⟩ := h.ex
  have hlo := h.lo; have hhi := h.hi
  obtain ⟨w', hrun, ho, hg⟩ := h1.update keyI Tryd.underlying116 (by unfold maxLen; omega) (keyI_mk (i := o + vs.length) (by omega) (by omega)) (slR_v v)
  have hT := h1.tidy keyI
  have hM := hT.isMap
  have hnot : Maps.has D (.int .i64 (o + vs.length)) = false := by rw [h3]; exact decide_eq_false (by omega)
  have hsz : Maps.size (D.put (.int .i64 (o + vs.length)) (slD v.1 v.2.1 v.2.2)) = vs.length + 1 := by rw [Maps.size_put hT, hnot, h2]; rfl
  refine ⟨w', hrun, ⟨⟨_, fit_size ho (by rw [hsz]; simp), by rw [hsz]; simp, fun i => ?_, fun j hj z => ?_⟩, hlo, by simp; omega⟩, hg⟩
  · rw [List.length_append, List.length_singleton]
    by_cases hi : i = o + vs.length
    · subst hi
      rw [Maps.has_put_same hM litI_key]
      exact (decide_eq_true (by omega)).symm
    · rw [Maps.has_put_other (litI_ne hi), h3, Bool.eq_iff_iff, decide_eq_true_eq, decide_eq_true_eq]
      omega
  · rw [List.length_append, List.length_singleton] at hj
    rw [getD_app1]
    by_cases hjl : j < vs.length
    · rw [if_pos hjl, Maps.atKey_put_other (litI_ne (by omega)), h4 j hjl]
    · obtain rfl : j = vs.length := by omega
      rw [if_neg hjl, if_pos rfl, Maps.atKey_put_same hM litI_key]
/-- A text comes in the newest one's place. -/
theorem MapF.last {w : World} {b : Nat} {o : Int} {us : List SlV} {u : SlV} (h : MapF w b o (us ++ [u])) (v : SlV) : ∃ w', (Instr.mapUpdate 116 (.map (some b)) (.int .i64 (o + us.length)) (slV v)).run Tryd.prog w = .ok () w' ∧ MapF w' b o (us ++ [v]) ∧ w.grownBy w' (some b) := by
  obtain ⟨D, h1, h2, h3, h4⟩ := h.ex
  have hlo := h.lo; have hhi := h.hi
  have hl : (us ++ [u]).length = us.length + 1 := by simp
  have hl2 : (us ++ [v]).length = us.length + 1 := by simp
  rw [hl] at h1 h2 h3 h4 hhi
  obtain ⟨w', hrun, ho, hg⟩ := h1.update keyI Tryd.underlying116 (by unfold maxLen; omega) (keyI_mk (i := o + us.length) (by omega) (by omega)) (slR_v v)
  have hT := h1.tidy keyI
  have hM := hT.isMap
  have hyes : Maps.has D (.int .i64 (o + us.length)) = true := by rw [h3]; exact decide_eq_true (by omega)
  have hsz : Maps.size (D.put (.int .i64 (o + us.length)) (slD v.1 v.2.1 v.2.2)) = us.length + 1 := by rw [Maps.size_put hT, hyes, h2]; rfl
  refine ⟨w', hrun, ⟨⟨_, fit_size ho (by rw [hsz, hl2]; exact Nat.le_refl _), by rw [hsz, hl2], fun i => ?_, fun j hj z => ?_⟩, hlo, by rw [hl2]; exact hhi⟩, hg⟩
  · rw [hl2]
    by_cases hi : i = o + us.length
    · subst hi
      rw [Maps.has_put_same hM litI_key]
      exact (decide_eq_true (by omega)).symm
    · rw [Maps.has_put_other (litI_ne hi), h3]
  · rw [hl2] at hj
    rw [getD_app1]
    by_cases hjl : j < us.length
    · rw [if_pos hjl, Maps.atKey_put_other (litI_ne (by omega)), h4 j (by omega), getD_app1, if_pos hjl]
    · obtain rfl : j = us.length := by omega
      rw [if_neg hjl, if_pos rfl, Maps.atKey_put_same hM litI_key]
/-- The oldest text goes. -/
theorem MapF.drop {w : World} {b : Nat} {o : Int} {us : List SlV} {u : SlV} (h : MapF w b o (u :: us)) (ty : TypeId) : ∃ w', (Builtin.delete_ #[116, 3] ty #[.map (some b), .int .i64 o]).run Tryd.prog w = .ok (.tuple #[]) w' ∧ MapF w' b (o + 1) us ∧ w.grownBy w' (some b) := by
  obtain ⟨D, h1, h2, h3, h4⟩ := h.ex
  have hlo := h.lo; have hhi := h.hi
  rw [List.length_cons] at h1 h2 h3 h4 hhi
  obtain ⟨w', hrun, ho, hg⟩ := h1.drop keyI Tryd.underlying116 (keyI_mk (i := o) (by omega) (by omega)) ty
  have hT := h1.tidy keyI
  have hyes : Maps.has D (.int .i64 o) = true := by rw [h3]; exact decide_eq_true (by omega)
  have hsz : Maps.size (D.del (.int .i64 o)) = us.length := by
    have := Maps.size_del (k := .int .i64 o) hT
    rw [hyes, h2] at this
    simpa using this
  refine ⟨w', hrun, ⟨⟨_, fit_size ho (by rw [hsz]; exact Nat.le_refl _), hsz, fun i => ?_, fun j hj z => ?_⟩, by omega, by omega⟩, hg.grown⟩
  · by_cases hi : i = o
    · subst hi
      rw [Maps.has_del_same]
      exact (decide_eq_false (by omega)).symm
    · rw [Maps.has_del_other (litI_ne hi), h3, Bool.eq_iff_iff, decide_eq_true_eq, decide_eq_true_eq]
      omega
  · have := h4 (j + 1) (by omega) z
    rw [Maps.atKey_del_other (litI_ne (by omega)), show o + 1 + (j : Int) = o + ((j + 1 : Nat) : Int) by omega, this]
    rfl
end Go.Proofs.YtdnmjofenckndaaDoor
set_option linter.unusedVariables false
set_option linter.unusedSimpArgs false
namespace Go.Proofs.YtdnmjofenckndaaDoor
open Go.RowKit
/-- One more of v's class. -/
def bump (f : Int → Int) (L : List Int) (v : Int) : List Int := L.set (f v).toNat (L.getD (f v).toNat 0 + 1)
def zer : List Int := List.replicate 13 0
/-- How many there are of each class. -/
def cnts (f : Int → Int) (l : List Int) : List Int := l.foldl (bump f) zer
theorem cnts_snoc (f : Int → Int) (l : List Int) (v : Int) : cnts f (l ++ [v]) = bump f (cnts f l) v := by simp [cnts]
theorem cnts_take (f : Int → Int) (l : List Int) (k : Nat) (h : k < l.length) : cnts f (l.take (k + 1)) = bump f (cnts f (l.take k)) (l.getD k 0) := by
  rw [List.take_succ_eq_append_getElem h, cnts_snoc, List.getD, List.getElem?_eq_getElem h]; rfl
theorem getD_set (L : List Int) (i j : Nat) (x : Int) : (L.set i x).getD j 0 = if i = j ∧ i < L.length then x else L.getD j 0 := by
  rw [List.getD, List.getD, List.getElem?_set]
  by_cases h : i = j
  · subst h
    by_cases h2 : i < L.length
    · simp [h2]
    · simp [h2]
  · simp [h]
theorem bump_le (f : Int → Int) (L : List Int) (v n : Int) (hn : 0 ≤ n) (h : L.length = 13 ∧ ∀ j, 0 ≤ L.getD j 0 ∧ L.getD j 0 ≤ n) : (bump f L v).length = 13 ∧ ∀ j, 0 ≤ (bump f L v).getD j 0 ∧ (bump f L v).getD j 0 ≤ n + 1 := by
  unfold bump
  refine ⟨by simp [h.1], fun j => ?_⟩
  rw [getD_set]
  have h1 := h.2 j; have h2 := h.2 (f v).toNat
  split <;> omega
theorem cnts_le (f : Int → Int) (l : List Int) : ∀ k, k ≤ l.length → (cnts f (l.take k)).length = 13 ∧ ∀ j, 0 ≤ (cnts f (l.take k)).getD j 0 ∧ (cnts f (l.take k)).getD j 0 ≤ k := by
  intro k
  induction k with
  | zero => intro _; refine ⟨rfl, fun j => ?_⟩
            have : cnts f (l.take 0) = zer := rfl
            rw [this]
            have : zer.getD j 0 = 0 := by
              unfold zer; rw [List.getD, List.getElem?_replicate]; split <;> rfl
            rw [this]; exact ⟨by omega, by omega⟩
  | succ k ih =>
    intro hk
    rw [cnts_take f l k hk]
    have := bump_le f _ (l.getD k 0) k (by omega) (ih (by omega))
    exact ⟨this.1, fun j => by have := this.2 j; omega⟩
theorem iRow_zer : iRow zer = #[.int .i64 0, .int .i64 0, .int .i64 0, .int .i64 0, .int .i64 0, .int .i64 0, .int .i64 0, .int .i64 0, .int .i64 0, .int .i64 0, .int .i64 0, .int .i64 0, .int .i64 0] := rfl
theorem below_setRow (w : World) (g : Nat) (cs : Array Value) : Below g w (w.setRow g cs) :=
  ⟨rfl, rfl, rfl, by simp, fun k hk => setRow_other _ _ _ _ (by omega)⟩
end Go.Proofs.YtdnmjofenckndaaDoor
set_option linter.unusedVariables false
set_option linter.unusedSimpArgs false
namespace Go.Proofs.YtdnmjofenckndaaDoor
open Go.RowKit Go.Sort
/-- Do they look alike? -/
def alk (x y : List Int) : Bool := x.length == y.length && (List.range x.length).all fun i => skel (x.getD i 0) == skel (y.getD i 0)
theorem alk_no {x y : List Int} {k : Nat} (hk : k < x.length) (h : (skel (x.getD k 0) != skel (y.getD k 0)) = true) : alk x y = false := by
  unfold alk
  have : ((List.range x.length).all fun i => skel (x.getD i 0) == skel (y.getD i 0)) = false := by
    rw [List.all_eq_false]; exact ⟨k, by simpa using hk, by simpa using h⟩
  rw [this, Bool.and_false]
theorem alk_yes {x y : List Int} (hl : x.length = y.length) (h : ∀ j, j < x.length → (skel (x.getD j 0) != skel (y.getD j 0)) = false) : alk x y = true := by
  unfold alk
  rw [Bool.and_eq_true]
  refine ⟨by simpa using hl, ?_⟩
  rw [List.all_eq_true]
  intro j hj
  have := h j (by simpa using hj)
  simpa using this
end Go.Proofs.YtdnmjofenckndaaDoor
set_option linter.unusedVariables false
set_option linter.unusedSimpArgs false
namespace Go.Proofs.YtdnmjofenckndaaDoor
open Go.RowKit
theorem cnt_awake : cnts cls [97, 19968, 8238, 7, -1] = [1, 1, 1, 0, 1, 0, 0, 1, 0, 0, 0, 0, 0] := by decide +kernel
theorem awake_facts : cls 97 = 1 ∧ cls 1072 = 3 ∧ skel 1072 = 97 ∧ wid 19968 = 2 ∧ dng 8203 = true ∧ dng 97 = false ∧ alk [1072] [97] = true := by decide +kernel
/-- The tables, and awake's counts at block B. -/
structure Awk (w : World) (B : Nat) : Prop where
  t : Tabs w
  b : B < w.heap.size
  c0 : w.cell? ⟨B, 0, none⟩ = some (.int .i64 1)
  c1 : w.cell? ⟨B, 1, none⟩ = some (.int .i64 1)
  c2 : w.cell? ⟨B, 2, none⟩ = some (.int .i64 1)
  c4 : w.cell? ⟨B, 4, none⟩ = some (.int .i64 1)
  c7 : w.cell? ⟨B, 7, none⟩ = some (.int .i64 1)
theorem Awk.below {w w' : World} {B : Nat} (h : Awk w B) (hb : Below w.heap.size w w') : Awk w' B :=
  ⟨h.t.below hb, Nat.lt_of_lt_of_le h.b hb.size, (hb.cell (p := ⟨B, 0, none⟩) h.b).trans h.c0, (hb.cell (p := ⟨B, 1, none⟩) h.b).trans h.c1, (hb.cell (p := ⟨B, 2, none⟩) h.b).trans h.c2, (hb.cell (p := ⟨B, 4, none⟩) h.b).trans h.c4, (hb.cell (p := ⟨B, 7, none⟩) h.b).trans h.c7⟩
theorem Awk.alloc {w : World} {B : Nat} (h : Awk w B) (o : Obj) : Awk (w.alloc o) B := h.below (below_alloc _ _)
end Go.Proofs.YtdnmjofenckndaaDoor
namespace Go.Proofs.YtdnmjofenckndaaDoor
open Go.RowKit
theorem look_idem_keys : ∀ j : Fin 51, skel (lks.getD (2 * j.val + 1) 0) = lks.getD (2 * j.val + 1) 0 ∧ cls (lks.getD (2 * j.val + 1) 0) = 1 := by decide +kernel
theorem skel_idem (v : Int) : skel (skel v) = skel v ∧ (skel v ≠ v → cls (skel v) = 1) := by
  cases h1 : (List.range 51).find? (hitL v) with
  | some j =>
    have ⟨hj, hp⟩ := find_some_lt h1
    have e : skel v = lks.getD (2 * j + 1) 0 := by unfold skel; rw [h1]
    have hk := look_idem_keys ⟨j, hj⟩
    rw [e]; exact ⟨hk.1, fun _ => hk.2⟩
  | none =>
    have e : skel v = v := by unfold skel; rw [h1]
    rw [e]; exact ⟨e, fun h => absurd rfl h⟩
end Go.Proofs.YtdnmjofenckndaaDoor
set_option linter.unusedVariables false
set_option linter.unusedSimpArgs false
namespace Go.Proofs.YtdnmjofenckndaaDoor
open Go.RowKit
/-- A value's kind. -/
def knd (v : Int) : Int := if v = 9 ∨ v = 10 ∨ v = 13 ∨ v = 32 then 0 else if 97 ≤ v ∧ v ≤ 122 ∨ 65 ≤ v ∧ v ≤ 90 ∨ 48 ≤ v ∧ v ≤ 57 ∨ v = 95 then 1 else if v < 128 then 2 else if cls v = 10 then 0 else if cls v = 1 ∨ cls v = 2 ∨ cls v = 3 then 1 else 2
theorem knd_rng (v : Int) : 0 ≤ knd v ∧ knd v ≤ 2 := by unfold knd; repeat' split
                                                        all_goals omega
theorem cls_lo (v : Int) (h : v < 128) : cls v ≠ 10 := by
  by_cases h0 : v < 0
  · have : cls v = 0 := by
      unfold cls rght
      rcases pnt_cases v with ⟨h1, h2⟩ | ⟨h1, h2⟩
      · omega
      rcases stry_cases v with ⟨h3, h4, h5⟩ | ⟨h3, h4⟩
      · omega
      rw [h1, h3]; rfl
    omega
  · have key : ∀ i : Fin 128, cls (i.val : Int) ≠ 10 := by decide +kernel
    have := key ⟨v.toNat, by omega⟩
    have e : ((v.toNat : Nat) : Int) = v := by omega
    simpa [e] using this
theorem knd_0 {v : Int} (h : v = 9 ∨ v = 10 ∨ v = 13 ∨ v = 32) : knd v = 0 := by unfold knd; rw [if_pos h]
theorem knd_1 {v : Int} (h0 : ¬ (v = 9 ∨ v = 10 ∨ v = 13 ∨ v = 32)) (h : 97 ≤ v ∧ v ≤ 122 ∨ 65 ≤ v ∧ v ≤ 90 ∨ 48 ≤ v ∧ v ≤ 57 ∨ v = 95) : knd v = 1 := by unfold knd; rw [if_neg h0, if_pos h]
theorem knd_2 {v : Int} (h0 : ¬ (v = 9 ∨ v = 10 ∨ v = 13 ∨ v = 32)) (h1 : ¬ (97 ≤ v ∧ v ≤ 122 ∨ 65 ≤ v ∧ v ≤ 90 ∨ 48 ≤ v ∧ v ≤ 57 ∨ v = 95)) (h : v < 128) : knd v = 2 := by unfold knd; rw [if_neg h0, if_neg h1, if_pos h]
theorem knd_far {v : Int} (h : 128 ≤ v) : knd v = if cls v = 10 then 0 else if cls v = 1 ∨ cls v = 2 ∨ cls v = 3 then 1 else 2 := by unfold knd; rw [if_neg (by omega), if_neg (by omega), if_neg (by omega)]
set_option maxRecDepth 100000 in
set_option maxHeartbeats 2000000 in
theorem kind_any (v : Int) (w : World) (hT : Tabs w) : Calls Tryd.prog 117 #[.int .i64 v] w fun e w' => e = .returned (.int .i64 (knd v)) ∧ Below w.heap.size w w' := by
  by_cases hv : v < 128
  · rcases (show v = 9 ∨ v = 10 ∨ v = 13 ∨ v = 32 ∨ v = 95 ∨ (97 ≤ v ∧ v ≤ 122) ∨ (65 ≤ v ∧ v ≤ 90) ∨ (48 ≤ v ∧ v ≤ 57) ∨ (v ≠ 9 ∧ v ≠ 10 ∧ v ≠ 13 ∧ v ≠ 32 ∧ v ≠ 95 ∧ (v < 48 ∨ 57 < v ∧ v < 65 ∨ 90 < v ∧ v < 97 ∨ 122 < v)) by omega) with rfl | rfl | rfl | rfl | rfl | ⟨h1, h2⟩ | ⟨h1, h2⟩ | ⟨h1, h2⟩ | ⟨n9, n10, n13, n32, n95, h⟩
    · have Hk : Hid (knd 9 = 0) := Lib.hid (knd_0 (by omega))
      go_enter Tryd.func117, Tryd.ntmps117
      go_wp2
      go_ret
      rw [Hk.out]; exact ⟨rfl, Below.refl _ _⟩
    · have Hk : Hid (knd 10 = 0) := Lib.hid (knd_0 (by omega))
      go_enter Tryd.func117, Tryd.ntmps117
      go_wp2
      go_ret
      rw [Hk.out]; exact ⟨rfl, Below.refl _ _⟩
    · have Hk : Hid (knd 13 = 0) := Lib.hid (knd_0 (by omega))
      go_enter Tryd.func117, Tryd.ntmps117
      go_wp2
      go_ret
      rw [Hk.out]; exact ⟨rfl, Below.refl _ _⟩
    · have Hk : Hid (knd 32 = 0) := Lib.hid (knd_0 (by omega))
      go_enter Tryd.func117, Tryd.ntmps117
      go_wp2
      go_ret
      rw [Hk.out]; exact ⟨rfl, Below.refl _ _⟩
    · have Hk : Hid (knd 95 = 1) := Lib.hid (knd_1 (by omega) (by omega))
      go_enter Tryd.func117, Tryd.ntmps117
      go_wp2
      go_ret
      rw [Hk.out]; exact ⟨rfl, Below.refl _ _⟩
    · have Hk : Hid (knd v = 1) := Lib.hid (knd_1 (by omega) (by omega))
      have e9 : (v == 9) = false := by rw [beq_eq_false_iff_ne]; omega
      have e10 : (v == 10) = false := by rw [beq_eq_false_iff_ne]; omega
      have e13 : (v == 13) = false := by rw [beq_eq_false_iff_ne]; omega
      have e32 : (v == 32) = false := by rw [beq_eq_false_iff_ne]; omega
      go_enter Tryd.func117, Tryd.ntmps117
      go_wp2
      go_ret
      rw [Hk.out]; exact ⟨rfl, Below.refl _ _⟩
    · have Hk : Hid (knd v = 1) := Lib.hid (knd_1 (by omega) (by omega))
      have e9 : (v == 9) = false := by rw [beq_eq_false_iff_ne]; omega
      have e10 : (v == 10) = false := by rw [beq_eq_false_iff_ne]; omega
      have e13 : (v == 13) = false := by rw [beq_eq_false_iff_ne]; omega
      have e32 : (v == 32) = false := by rw [beq_eq_false_iff_ne]; omega
      go_enter Tryd.func117, Tryd.ntmps117
      go_wp2
      go_ret
      rw [Hk.out]; exact ⟨rfl, Below.refl _ _⟩
    · have Hk : Hid (knd v = 1) := Lib.hid (knd_1 (by omega) (by omega))
      have e9 : (v == 9) = false := by rw [beq_eq_false_iff_ne]; omega
      have e10 : (v == 10) = false := by rw [beq_eq_false_iff_ne]; omega
      have e13 : (v == 13) = false := by rw [beq_eq_false_iff_ne]; omega
      have e32 : (v == 32) = false := by rw [beq_eq_false_iff_ne]; omega
      go_enter Tryd.func117, Tryd.ntmps117
      go_wp2
      go_ret
      rw [Hk.out]; exact ⟨rfl, Below.refl _ _⟩
    · have Hk : Hid (knd v = 2) := Lib.hid (knd_2 (by omega) (by omega) hv)
      have e9 : (v == 9) = false := by rw [beq_eq_false_iff_ne]; omega
      have e10 : (v == 10) = false := by rw [beq_eq_false_iff_ne]; omega
      have e13 : (v == 13) = false := by rw [beq_eq_false_iff_ne]; omega
      have e32 : (v == 32) = false := by rw [beq_eq_false_iff_ne]; omega
      have e95 : (v == 95) = false := by rw [beq_eq_false_iff_ne]; omega
      clear n9 n10 n13 n32 n95
      rcases h with h | ⟨h, h'⟩ | ⟨h, h'⟩ | h
      all_goals
        go_enter Tryd.func117, Tryd.ntmps117
        go_wp2
        go_ret
        rw [Hk.out]; exact ⟨rfl, Below.refl _ _⟩
  · have e9 : (v == 9) = false := by rw [beq_eq_false_iff_ne]; omega
    have e10 : (v == 10) = false := by rw [beq_eq_false_iff_ne]; omega
    have e13 : (v == 13) = false := by rw [beq_eq_false_iff_ne]; omega
    have e32 : (v == 32) = false := by rw [beq_eq_false_iff_ne]; omega
    have e95 : (v == 95) = false := by rw [beq_eq_false_iff_ne]; omega
    have O := fun w hT => of_any v w hT
    have hk := knd_far (v := v) (by omega)
    generalize cls v = c at *
    replace O := Lib.hid O
    have HT := Lib.hid hT; clear hT
    rcases (show c = 10 ∨ c = 1 ∨ c = 2 ∨ c = 3 ∨ (c ≠ 10 ∧ c ≠ 1 ∧ c ≠ 2 ∧ c ≠ 3) by omega) with rfl | rfl | rfl | rfl | ⟨n10, n1, n2, n3⟩
    · have Hk : Hid (knd v = 0) := Lib.hid (by rw [hk]; rfl)
      clear hk
      go_enter Tryd.func117, Tryd.ntmps117
      go_wp2_with (go_at_call 178; refine (O.out _ HT.out).mono ?_; rintro e w1 ⟨rfl, hb1⟩)
      go_ret
      rw [Hk.out]; exact ⟨rfl, hb1⟩
    · have Hk : Hid (knd v = 1) := Lib.hid (by rw [hk]; rfl)
      clear hk
      go_enter Tryd.func117, Tryd.ntmps117
      go_wp2_with (go_at_call 178; refine (O.out _ HT.out).mono ?_; rintro e w1 ⟨rfl, hb1⟩)
      go_ret
      rw [Hk.out]; exact ⟨rfl, hb1⟩
    · have Hk : Hid (knd v = 1) := Lib.hid (by rw [hk]; rfl)
      clear hk
      go_enter Tryd.func117, Tryd.ntmps117
      go_wp2_with (go_at_call 178; refine (O.out _ HT.out).mono ?_; rintro e w1 ⟨rfl, hb1⟩)
      go_ret
      rw [Hk.out]; exact ⟨rfl, hb1⟩
    · have Hk : Hid (knd v = 1) := Lib.hid (by rw [hk]; rfl)
      clear hk
      go_enter Tryd.func117, Tryd.ntmps117
      go_wp2_with (go_at_call 178; refine (O.out _ HT.out).mono ?_; rintro e w1 ⟨rfl, hb1⟩)
      go_ret
      rw [Hk.out]; exact ⟨rfl, hb1⟩
    · have Hk : Hid (knd v = 2) := Lib.hid (by rw [hk, if_neg n10, if_neg (by omega)])
      have c10 : (c == 10) = false := by rw [beq_eq_false_iff_ne]; omega
      have c1 : (c == 1) = false := by rw [beq_eq_false_iff_ne]; omega
      have c2 : (c == 2) = false := by rw [beq_eq_false_iff_ne]; omega
      have c3 : (c == 3) = false := by rw [beq_eq_false_iff_ne]; omega
      clear hk n10 n1 n2 n3
      go_enter Tryd.func117, Tryd.ntmps117
      go_wp2_with (go_at_call 178; refine (O.out _ HT.out).mono ?_; rintro e w1 ⟨rfl, hb1⟩)
      go_ret
      rw [Hk.out]; exact ⟨rfl, hb1⟩
end Go.Proofs.YtdnmjofenckndaaDoor
set_option linter.unusedVariables false
set_option linter.unusedSimpArgs false
namespace Go.Proofs.YtdnmjofenckndaaDoor
open Go.RowKit
/-- The kind at a place; -1: none. -/
def kAt (l : List (Int × Int)) (big : Bool) (i : Int) : Int := if i < 0 ∨ (l.length : Int) ≤ i then -1 else if big = true then min (knd (l.getD i.toNat (0, 0)).1) 1 else knd (l.getD i.toNat (0, 0)).1
theorem kAt_rng (l : List (Int × Int)) (big : Bool) (i : Int) : -1 ≤ kAt l big i ∧ kAt l big i ≤ 2 := by
  unfold kAt
  have := knd_rng (l.getD i.toNat (0, 0)).1
  repeat' split
  all_goals omega
/-- A closure's two blocks: the signs, and whether big kinds are asked for. -/
structure Kin (w : World) (p q : Nat) (a : Option Addr) (l : List (Int × Int)) (c : Nat) (big : Bool) : Prop where
  cp : w.cell? ⟨p, 0, none⟩ = some (.slice a l.length c)
  cq : w.cell? ⟨q, 0, none⟩ = some (.bool big)
  s : Signs w a l
  t : Tabs w
  pl : p < w.heap.size
  ql : q < w.heap.size
theorem Kin.below {w w' : World} {p q : Nat} {a : Option Addr} {l : List (Int × Int)} {c : Nat} {big : Bool} (h : Kin w p q a l c big) (hb : Below w.heap.size w w') : Kin w' p q a l c big :=
  ⟨(hb.cell (p := ⟨p, 0, none⟩) h.pl).trans h.cp, (hb.cell (p := ⟨q, 0, none⟩) h.ql).trans h.cq, h.s.below hb, h.t.below hb, Nat.lt_of_lt_of_le h.pl hb.size, Nat.lt_of_lt_of_le h.ql hb.size⟩
theorem kin_new {w : World} {a : Option Addr} {l : List (Int × Int)} (hT : Tabs w) (hs : Signs w a l) (c : Nat) (big : Bool) :
    Kin ((w.alloc (.cells #[.slice a l.length c] 22)).alloc (.cells #[.bool big] 4)) w.heap.size (w.heap.size + 1) a l c big := by
  have hb := seqB (below_alloc w (.cells #[.slice a l.length c] 22)) (below_alloc _ (.cells #[.bool big] 4))
  exact ⟨by simp, by simp, hs.below hb, hT.below hb, by simp; omega, by simp⟩
set_option maxRecDepth 100000 in
set_option maxHeartbeats 2000000 in
theorem kinder1_any (i : Int) (p q : Nat) (a : Option Addr) (l : List (Int × Int)) (c : Nat) (big : Bool) (w : World) (hl : l.length ≤ 9223372036854775807) (hK : Kin w p q a l c big) :
    Calls Tryd.prog 224 #[.int .i64 i, .pointer (some ⟨p, 0, none⟩), .pointer (some ⟨q, 0, none⟩)] w fun e w' => e = .returned (.int .i64 (kAt l big i)) ∧ Below w.heap.size w w' := by
  have hp := hK.cp
  have hq := hK.cq
  have hS := Lib.hid hK.s
  have hT := Lib.hid hK.t
  clear hK
  by_cases h0 : i < 0
  · have Hk : Hid (kAt l big i = -1) := Lib.hid (by unfold kAt; rw [if_pos (Or.inl h0)])
    go_enter Tryd.func224, Tryd.ntmps224
    go_wp2
    go_ret
    rw [Hk.out]; exact ⟨rfl, Below.refl _ _⟩
  · by_cases h1 : (l.length : Int) ≤ i
    · have Hk : Hid (kAt l big i = -1) := Lib.hid (by unfold kAt; rw [if_pos (Or.inr h1)])
      go_enter Tryd.func224, Tryd.ntmps224
      go_wp2
      go_ret
      rw [Hk.out]; exact ⟨rfl, Below.refl _ _⟩
    · obtain ⟨k, rfl⟩ := Int.eq_ofNat_of_zero_le (show 0 ≤ i by omega)
      obtain ⟨b, off, rfl, hb, c1, c2⟩ := hS.out k (by omega)
      have hk : kAt l big k = if big = true then min (knd (l.getD k (0, 0)).1) 1 else knd (l.getD k (0, 0)).1 := by
        unfold kAt; rw [if_neg (by omega), Int.toNat_natCast]
      have N := fun w hT => kind_any (l.getD k (0, 0)).1 w hT
      have hr := knd_rng (l.getD k (0, 0)).1
      have hlt : k < l.length := by omega
      generalize (l.getD k (0, 0)).1 = v at *
      generalize knd v = n at *
      replace N := Lib.hid N
      have hk1 : (k : Int) < l.length := by omega
      have hk0 : (0 : Int) ≤ k := by omega
      clear c2 h0 h1
      cases big
      · have Hk : Hid (kAt l false k = n) := Lib.hid (by rw [hk]; rfl)
        clear hk
        go_enter Tryd.func224, Tryd.ntmps224
        go_wp2_with (go_at_call 117; refine (N.out _ hT.out).mono ?_; rintro e w1 ⟨rfl, hb1⟩; have hq1 := (hb1.cell (p := ⟨q, 0, none⟩) (block_lt_of_cell hq)).trans hq)
        go_ret
        rw [Hk.out]; exact ⟨rfl, hb1⟩
      · have Hk : Hid (kAt l true k = min n 1) := Lib.hid (by rw [hk]; rfl)
        clear hk
        go_enter Tryd.func224, Tryd.ntmps224
        go_wp2_with (go_at_call 117; refine (N.out _ hT.out).mono ?_; rintro e w1 ⟨rfl, hb1⟩; have hq1 := (hb1.cell (p := ⟨q, 0, none⟩) (block_lt_of_cell hq)).trans hq)
        all_goals
          go_ret
          rw [Hk.out]; exact ⟨retI (by omega), hb1⟩
theorem kinder_any (a : Option Addr) (n c : Nat) (big : Bool) (w : World) :
    Calls Tryd.prog 163 #[.slice a n c, .bool big] w fun e w' => e = .returned (.func (.func 224) #[] #[.pointer (some ⟨w.heap.size, 0, none⟩), .pointer (some ⟨w.heap.size + 1, 0, none⟩)]) ∧ (w.alloc (.cells #[.slice a n c] 22)).alloc (.cells #[.bool big] 4) = w' := by
  go_enter Tryd.func163, Tryd.ntmps163
  go_wp2
  go_ret
  exact ⟨rfl, rfl⟩
/-- A place that is handed in. -/
def plc (n : Nat) (i : Int) : Int := min (max i 0) n
theorem plc_any (a : Option Addr) (n c : Nat) (i : Int) (w : World) (hn : n ≤ 9223372036854775807) :
    Calls Tryd.prog 164 #[.slice a n c, .int .i64 i] w fun e w' => e = .returned (.int .i64 (plc n i)) ∧ w = w' := by
  go_enter Tryd.func164, Tryd.ntmps164
  go_wp2
  all_goals
    go_ret
    exact ⟨retI (by unfold plc; omega), rfl⟩
end Go.Proofs.YtdnmjofenckndaaDoor
set_option linter.unusedVariables false
set_option linter.unusedSimpArgs false
namespace Go.Proofs.YtdnmjofenckndaaDoor
open Go.RowKit
theorem plc_cases (n : Nat) (i : Int) : ∃ m : Nat, plc n i = m ∧ m ≤ n := ⟨(plc n i).toNat, by unfold plc; omega, by unfold plc; omega⟩
def tNext (l : List (Int × Int)) (p : Int) : Bool := kAt l false (p - 1) == 1 && kAt l false p != 1
def tBack (l : List (Int × Int)) (p : Int) : Bool := kAt l false p == 1 && kAt l false (p - 1) != 1
def tRun (l : List (Int × Int)) (big : Bool) (p : Int) : Bool := kAt l big p != 0 && kAt l big p != kAt l big (p - 1)
def tEnd (l : List (Int × Int)) (big : Bool) (p : Int) : Bool := kAt l big p != 0 && kAt l big p != kAt l big (p + 1)
def nextM (l : List (Int × Int)) (i : Int) : Int := upF (tNext l) l.length (l.length - (plc l.length i).toNat - 1) (plc l.length i + 1)
def backM (l : List (Int × Int)) (i : Int) : Int := dnF (tBack l) 0 ((plc l.length i).toNat - 1) (plc l.length i - 1)
def startM (l : List (Int × Int)) (i : Int) (big : Bool) : Int := upF (tRun l big) l.length (l.length - (plc l.length i).toNat - 1) (plc l.length i + 1)
def prevM (l : List (Int × Int)) (i : Int) (big : Bool) : Int := dnF (tRun l big) 0 ((plc l.length i).toNat - 1) (plc l.length i - 1)
def endM (l : List (Int × Int)) (i : Int) (big : Bool) : Int := upF (tEnd l big) (plc l.length i) (l.length - (plc l.length i).toNat - 1) (plc l.length i + 1)
/-- The closure, at blocks p and q. -/
theorem kinder_kin (a : Option Addr) (l : List (Int × Int)) (c : Nat) (big : Bool) (w : World) (hT : Tabs w) (hs : Signs w a l) :
    Calls Tryd.prog 163 #[.slice a l.length c, .bool big] w fun e w' => e = .returned (.func (.func 224) #[] #[.pointer (some ⟨w.heap.size, 0, none⟩), .pointer (some ⟨w.heap.size + 1, 0, none⟩)]) ∧ Kin w' w.heap.size (w.heap.size + 1) a l c big ∧ Below w.heap.size w w' :=
  (kinder_any a l.length c big w).mono fun _ _ ⟨h1, h2⟩ => ⟨h1, by rw [← h2]; exact kin_new hT hs c big, by rw [← h2]; exact seqB (below_alloc w (.cells #[.slice a l.length c] 22)) (below_alloc _ (.cells #[.bool big] 4))⟩
set_option maxRecDepth 100000 in
set_option maxHeartbeats 2000000 in
theorem next_any (l : List (Int × Int)) (a : Option Addr) (c : Nat) (i : Int) (w : World) (hl : l.length ≤ 1000000000000000000) (hT : Tabs w) (hs : Signs w a l) :
    Calls Tryd.prog 85 #[.slice a l.length c, .int .i64 i] w fun e w' => e = .returned (.int .i64 (nextM l i)) ∧ Below w.heap.size w w' := by
  have K := kinder_kin a l c false w hT hs
  have W := fun w => plc_any a l.length c i w (by omega)
  have hn : nextM l i = upF (tNext l) l.length (l.length - (plc l.length i).toNat - 1) (plc l.length i + 1) := rfl
  obtain ⟨m, hm, hml⟩ := plc_cases l.length i
  rw [hm] at W hn
  rw [Int.toNat_natCast] at hn
  have Hn := Lib.hid hn
  replace K := Lib.hid K; replace W := Lib.hid W
  clear hn hm hT hs
  generalize nextM l i = R at *
  go_enter Tryd.func85, Tryd.ntmps85
  go_wp2_with (first
    | (go_at_call 163; refine (K.out).mono ?_; rintro e w0 ⟨rfl, hK, hb0⟩; have HK := Lib.hid hK; clear hK)
    | (go_at_call 164; refine (W.out _).mono ?_; rintro e w' ⟨rfl, rfl⟩))
  go_loopw [6] (fun pv wr => ∃ k : Nat, 1 ≤ k ∧ k ≤ l.length + 1 ∧ pv = .int .i64 (k : Int) ∧ Hid (R = upF (tNext l) l.length (l.length - k) (k : Int)) ∧ Hid (Kin wr w.heap.size (w.heap.size + 1) a l c false) ∧ Below w.heap.size w wr) (fun pv _ => l.length + 1 - (intOf pv).toNat)
  case atStart => exact ⟨m + 1, by omega, by omega, by go_num, Lib.hid (by rw [Hn.out, Nat.sub_sub]; rfl), HK, hb0⟩
  case round =>
    obtain ⟨k, hk1, hk2, rfl, hR, hK, hb⟩ := hrel
    by_cases hlt : k < l.length
    · have ht : tNext l k = (kAt l false ((k : Int) - 1) == 1 && kAt l false k != 1) := rfl
      have hlt2 : (k : Int) < l.length := by omega
      have C := Lib.hid fun i w1 hK => kinder1_any i w.heap.size (w.heap.size + 1) a l c false w1 (by omega) hK
      cases h1 : (kAt l false ((k : Int) - 1) == 1)
      · have HR : Hid (R = upF (tNext l) l.length (l.length - (k + 1)) ((k : Int) + 1)) := Lib.hid (by
          rw [hR.out, up_miss (by omega) (by rw [ht, h1]; rfl), Nat.sub_sub])
        clear ht
        go_wp2_with (first
          | (go_at_call 224; (with_reducible refine (C.out _ _ hK.out).mono ?_); rintro e w1 ⟨rfl, hb1⟩; have K1 := Lib.hid (hK.out.below hb1)))
        go_roundw
        case rel => exact ⟨k + 1, by omega, by omega, by go_num, HR, K1, hb.trans (hb1.mono hb.size)⟩
        case measure => simp [intOf]; omega
      · cases h2 : (kAt l false k != 1)
        · have HR : Hid (R = upF (tNext l) l.length (l.length - (k + 1)) ((k : Int) + 1)) := Lib.hid (by
            rw [hR.out, up_miss (by omega) (by rw [ht, h1, h2]; rfl), Nat.sub_sub])
          clear ht
          go_wp2_with (first
            | (go_at_call 224; (with_reducible refine (C.out _ _ hK.out).mono ?_); rintro e w1 ⟨rfl, hb1⟩; have K1 := Lib.hid (hK.out.below hb1))
            | (go_at_call 224; (with_reducible refine (C.out _ _ K1.out).mono ?_); rintro e w2 ⟨rfl, hb2⟩; have K2 := Lib.hid (K1.out.below hb2)))
          go_roundw
          case rel => exact ⟨k + 1, by omega, by omega, by go_num, HR, K2, hb.trans ((seqB hb1 hb2).mono hb.size)⟩
          case measure => simp [intOf]; omega
        · have HR : Hid (R = k) := Lib.hid (by
            rw [hR.out, up_hit (by omega) (by rw [ht, h1, h2]; rfl)])
          clear ht
          go_wp2_with (first
            | (go_at_call 224; (with_reducible refine (C.out _ _ hK.out).mono ?_); rintro e w1 ⟨rfl, hb1⟩; have K1 := Lib.hid (hK.out.below hb1))
            | (go_at_call 224; (with_reducible refine (C.out _ _ K1.out).mono ?_); rintro e w2 ⟨rfl, hb2⟩; have K2 := Lib.hid (K1.out.below hb2)))
          go_ret
          rw [HR.out]
          exact ⟨rfl, hb.trans ((seqB hb1 hb2).mono hb.size)⟩
    · have HR : Hid (R = l.length) := Lib.hid (by rw [hR.out, up_end (by omega)])
      go_wp2
      go_ret
      rw [HR.out]
      exact ⟨rfl, hb⟩
end Go.Proofs.YtdnmjofenckndaaDoor
set_option linter.unusedVariables false
set_option linter.unusedSimpArgs false
namespace Go.Proofs.YtdnmjofenckndaaDoor
open Go.RowKit
theorem lo_ref (a b : Int) (w : World) : Calls Tryd.prog 24 #[.int .i64 a, .int .i64 b] w fun x w' => x = .returned (.int .i64 (if a < b then a else b)) ∧ w = w' := by
  by_cases h : a < b
  · rw [if_pos h]
    go_enter Tryd.func24, Tryd.ntmps24
    go_wp2_with fail
    go_ret
    exact ⟨rfl, rfl⟩
  · rw [if_neg h]
    go_enter Tryd.func24, Tryd.ntmps24
    go_wp2_with fail
    go_ret
    exact ⟨rfl, rfl⟩
theorem hi_ref (a b : Int) (w : World) : Calls Tryd.prog 68 #[.int .i64 a, .int .i64 b] w fun x w' => x = .returned (.int .i64 (if b < a then a else b)) ∧ w = w' := by
  by_cases h : b < a
  · rw [if_pos h]
    go_enter Tryd.func68, Tryd.ntmps68
    go_wp2_with fail
    go_ret
    exact ⟨rfl, rfl⟩
  · rw [if_neg h]
    go_enter Tryd.func68, Tryd.ntmps68
    go_wp2_with fail
    go_ret
    exact ⟨rfl, rfl⟩
theorem place5_ref (a : Option Addr) (n c : Nat) (i : Int) (w : World) : Calls Tryd.prog 166 #[.slice a n c, .int .i64 i] w fun x w' => x = .returned (.int .i64 (plc n i)) ∧ w = w' := by
  have HI := hi_ref i 0
  obtain ⟨j, hj⟩ : ∃ j : Int, (if (0 : Int) < i then i else 0) = j := ⟨_, rfl⟩
  rw [hj] at HI
  have LO := lo_ref j n
  rw [show (if j < (n : Int) then j else (n : Int)) = plc n i by unfold plc; rw [← hj]; split <;> split at * <;> omega] at LO
  replace HI := Lib.hid HI; replace LO := Lib.hid LO
  clear hj
  go_enter Tryd.func166, Tryd.ntmps166
  go_wp2_with (first
    | (go_at_call 68; refine (HI.out _).mono ?_; rintro x w1 ⟨rfl, h1⟩; subst h1)
    | (go_at_call 24; refine (LO.out _).mono ?_; rintro x w2 ⟨rfl, h2⟩; subst h2))
  go_ret
  exact ⟨rfl, rfl⟩
theorem place16_ref (n : Nat) (i : Int) (w : World) : Calls Tryd.prog 25 #[.int .i64 (n : Int), .int .i64 i] w fun x w' => x = .returned (.int .i64 (plc n i)) ∧ w = w' := by
  have HI := hi_ref i 0
  obtain ⟨j, hj⟩ : ∃ j : Int, (if (0 : Int) < i then i else 0) = j := ⟨_, rfl⟩
  rw [hj] at HI
  have LO := lo_ref j n
  rw [show (if j < (n : Int) then j else (n : Int)) = plc n i by unfold plc; rw [← hj]; split <;> split at * <;> omega] at LO
  replace HI := Lib.hid HI; replace LO := Lib.hid LO
  clear hj
  go_enter Tryd.func25, Tryd.ntmps25
  go_wp2_with (first
    | (go_at_call 68; refine (HI.out _).mono ?_; rintro x w1 ⟨rfl, h1⟩; subst h1)
    | (go_at_call 24; refine (LO.out _).mono ?_; rintro x w2 ⟨rfl, h2⟩; subst h2))
  go_ret
  exact ⟨rfl, rfl⟩
end Go.Proofs.YtdnmjofenckndaaDoor
set_option linter.unusedVariables false
set_option linter.unusedSimpArgs false
namespace Go.Proofs.YtdnmjofenckndaaDoor
open Go.RowKit
theorem strange_any (v l : Int) (w : World) : Calls Tryd.prog 212 #[.agg #[.int .i64 v, .int .i64 l]] w fun e w' => e = .returned (.bool (decide (2 ≤ l))) ∧ Below w.heap.size w w' := by
  have hb := below_alloc w (.cells #[.int .i64 v, .int .i64 l] 39)
  go_enter Tryd.func212, Tryd.ntmps212
  go_wp2
  go_ret
  exact ⟨rfl, hb⟩
theorem own_row {w : World} {B : Nat} {v : Value} {l : List Int} (h : w.ownsRow B 3 1 v l.length (l.map (Value.int .i64))) : ∃ a cap, v = .slice a l.length cap ∧ Row w a l := by
  rcases h.2 with ⟨rfl, h0⟩ | ⟨g, cap, cur, rfl, _, hg, _⟩
  · exact ⟨none, 0, by rw [h0], fun j hj => by omega⟩
  · refine ⟨_, cap, rfl, fun j hj => ⟨g, 0, rfl, ?_, blk_lt hg⟩⟩
    have := h.cells (g := g) rfl j (.int .i64 (l.getD j 0)) (by simp [List.getElem?_eq_getElem hj, List.getD])
    have hadd : (⟨g, 0, none⟩ : Addr).add j = ⟨g, 0 + j, none⟩ := by unfold Addr.add; split <;> simp_all
    rw [← hadd]; exact this
theorem row_below {w w' : World} {a : Option Addr} {l : List Int} (h : Row w a l) (hb : Below w.heap.size w w') : Row w' a l := fun j hj => by
  obtain ⟨b, off, e, h1, h2⟩ := h j hj
  exact ⟨b, off, e, (hb.cell (p := ⟨b, off + j, none⟩) h2).trans h1, Nat.lt_of_lt_of_le h2 hb.size⟩
/-- A text's signs. -/
def sOf (u : Int) (s : ByteArray) : List (Int × Int) := (valsS s).map fun v => (v, u)
def ofL (l : List Int) (u : Int) (k : Nat) : List (Int × Int) := (l.take k).map (fun v => (v, u)) ++ List.replicate (l.length - k) (0, 0)
theorem ofL_len (l : List Int) (u : Int) (k : Nat) (h : k ≤ l.length) : (ofL l u k).length = l.length := by simp [ofL]; omega
set_option maxRecDepth 100000 in
set_option maxHeartbeats 1000000 in
theorem sof_any (u : Int) (s : ByteArray) (w : World) (hT : UT w) (hs : s.size ≤ 1000000) (hv : (valsS s).length ≤ 1000000) :
    Calls Tryd.prog 77 #[.int .i64 u, .string s] w fun e w' => ∃ g, e = .returned (.slice (some ⟨g, 0, none⟩) (sOf u s).length (sOf u s).length) ∧ w.heap.size ≤ g ∧ w'.heap[g]? = some (.cells (sRow (sOf u s)) 39 (0, 0)) ∧ Below w.heap.size w w' := by
  obtain ⟨i0, hi, hz0, hz1, hz2⟩ := info_parts infoSign
  have D := Lib.hid (decode_any s w hT hs)
  have hso : sOf u s = (valsS s).map fun v => (v, u) := rfl
  generalize valsS s = l at *
  rw [hso, List.length_map]
  clear hso
  have hmk := make_rowN (P := Tryd.prog) 22 39 i0 _ Tryd.underlying22 hi hz0 l.length (by rw [hz2]; omega) (by omega)
  rw [hz1] at hmk
  have hmade : madeCells (Value.agg #[.int .i64 0, .int .i64 0]).cells (l.length * 2) = sRow (ofL l u 0) := by rw [show (Value.agg #[.int .i64 0, .int .i64 0]).cells = #[.int .i64 0, .int .i64 0] from rfl, made_signs]; simp [ofL]
  rw [hmade] at hmk
  go_enter Tryd.func77, Tryd.ntmps77
  go_wp2_with (go_at_call 159; refine D.out.mono ?_; rintro e w1 ⟨v, rfl, hown, hb1⟩; obtain ⟨a, cap, rfl, hr⟩ := own_row hown; have HR := Lib.hid hr; clear hr hown)
  have hsz := hb1.size
  go_loopw [16] (fun iv wr => ∃ k : Nat, k ≤ l.length ∧ iv = .int .i64 (k : Int) ∧ wr.heap[w1.heap.size]? = some (.cells (sRow (ofL l u k)) 39 (0, 0)) ∧ Below w1.heap.size w1 wr) (fun iv _ => l.length - (intOf iv).toNat)
  case atStart => exact ⟨0, Nat.zero_le _, rfl, heap_alloc_new _ _, below_alloc _ _⟩
  case round =>
    obtain ⟨k, hk, rfl, hown, hb⟩ := hrel
    by_cases hlt : k < l.length
    · obtain ⟨b, off, rfl, c1, hblk⟩ := (row_below HR.out hb) k hlt
      have hk1 : (k : Int) < l.length := by omega
      have hk0 : (0 : Int) ≤ k := by omega
      have hnext := put_snoc l (fun v : Int => (v, u)) (0, 0) 0 k hlt
      have hlen := ofL_len l u k hk
      have s12 := sg_cells hown (k := k) (by rw [hlen]; exact hlt)
      have s1 := s12.1
      have s2 := s12.2
      have f12 := fun i => frozen_of_row wr w1.heap.size i _ _ hown
      generalize l.getD k 0 = x at *
      generalize (ofL l u k).getD k (0, 0) = q at *
      have Hset : Hid ((ofL l u k).set k (x, u) = ofL l u (k + 1)) := Lib.hid hnext
      have Hset2 := Lib.hid (sRow_set (ofL l u k) k (x, u) (by rw [hlen]; exact hlt))
      have Hlen := Lib.hid hlen
      clear hnext hlen s12
      go_wp2
      go_roundw
      case rel => exact ⟨k + 1, by omega, by go_num, by rw [← Hset.out, ← Hset2.out]; exact blk_set (blk_set hown _ _) _ _, (hb.setCell (Nat.le_refl _) _).setCell (Nat.le_refl _) _⟩
      case measure => simp [intOf]; omega
    · obtain rfl : k = l.length := by omega
      have hfin : ofL l u l.length = l.map fun v => (v, u) := by unfold ofL; rw [List.take_length, Nat.sub_self, List.replicate_zero, List.append_nil]
      rw [hfin] at hown
      clear hfin hmade
      go_wp2
      go_ret
      exact ⟨w1.heap.size, rfl, hsz, hown, seqB hb1 hb⟩
/-- The same signs? -/
def sgS (a b : List (Int × Int)) : Bool := decide (a = b)
set_option maxRecDepth 100000 in
set_option maxHeartbeats 1000000 in
theorem same1_any (v u x y : Int) (w : World) : Calls Tryd.prog 223 #[.agg #[.int .i64 v, .int .i64 u], .agg #[.int .i64 x, .int .i64 y]] w fun e w' => e = .returned (.bool (decide ((v, u) = (x, y)))) ∧ Below w.heap.size w w' := by
  have hb := seqB (below_alloc w (.cells #[.int .i64 v, .int .i64 u] 39)) (below_alloc _ (.cells #[.int .i64 x, .int .i64 y] 39))
  by_cases h1 : v = x
  · by_cases h2 : u = y
    · have e : Hid (decide ((v, u) = (x, y)) = true) := Lib.hid (by rw [h1, h2]; simp)
      have b1 : (v == x) = true := by rw [h1]; simp
      have b2 : (u == y) = true := by rw [h2]; simp
      rw [e.out]
      clear h1 h2 e
      go_enter Tryd.func223, Tryd.ntmps223
      go_wp2
      go_ret
      exact ⟨rfl, hb⟩
    · have e : Hid (decide ((v, u) = (x, y)) = false) := Lib.hid (by simp; intro _; exact h2)
      have b1 : (v == x) = true := by rw [h1]; simp
      have b2 : (u == y) = false := by simpa using h2
      rw [e.out]
      clear h1 h2 e
      go_enter Tryd.func223, Tryd.ntmps223
      go_wp2
      go_ret
      exact ⟨rfl, hb⟩
  · have e : Hid (decide ((v, u) = (x, y)) = false) := Lib.hid (by simp; intro h; exact absurd h h1)
    have b1 : (v == x) = false := by simpa using h1
    rw [e.out]
    clear h1 e
    go_enter Tryd.func223, Tryd.ntmps223
    go_wp2
    go_ret
    exact ⟨rfl, hb⟩
end Go.Proofs.YtdnmjofenckndaaDoor
set_option linter.unusedVariables false
set_option linter.unusedSimpArgs false
namespace Go.Proofs.YtdnmjofenckndaaDoor
open Go.RowKit
theorem OwS.mono {w : World} {B B' : Nat} {v : Value} {L : List (Int × Int)} (h : OwS w B v L) (hB : B' ≤ B) : OwS w B' v L := World.ownsRow.mono h hB
theorem ows_keep {w w' : World} {B : Nat} {v : Value} {L : List (Int × Int)} (h : OwS w B v L) (hb : Below w.heap.size w w') : OwS w' B v L := by
  refine World.ownsRow.kept h (row := none) ⟨hb.os, hb.tape, hb.output, hb.size, fun k hk _ => hb.block k hk⟩ ?_
  cases v.ownBlock <;> simp
theorem ows_nil (w : World) (B : Nat) : OwS w B (.slice none 0 0) [] := World.ownsRow_nil _ _ _ _
set_option maxHeartbeats 2000000 in
theorem clone_sg (l : List (Int × Int)) (a : Option Addr) (n c : Nat) (S : Nat → Prop) (w : World) (hn : l.length = n) (hl : n ≤ 100000) (hs : SlS S w a l c) :
    Calls Tryd.prog 92 #[.slice a n c] w fun e w' => ∃ b d, e = .returned (.slice b n d) ∧ OwS w' w.heap.size (.slice b n d) l ∧ Below w.heap.size w w' := by
  have q := fun (w : World) (a : Option Addr) (n c n' c' : Nat) => Lib.run_eql_slice_nil (P := Tryd.prog) w 22 39 a n c n' c' Tryd.underlying22
  cases a with
  | none =>
    have hc := hs.nl rfl
    have hl0 : l = [] := by
      cases l with
      | nil => rfl
      | cons x l => obtain ⟨_, _, e, _⟩ := hs.s 0 (by simp); cases e
    subst hl0
    obtain rfl : 0 = n := hn
    subst hc
    clear hs
    go_enter Tryd.func92, Tryd.ntmps92
    go_wp2
    go_ret
    exact ⟨none, 0, rfl, ows_nil _ _, Below.refl _ _⟩
  | some ad =>
    have N0 := below_alloc w (.cells #[] 39)
    have H0 := Lib.hid (ows_new w)
    have HA := Lib.hid (hs.below N0)
    have HN := Lib.hid hn
    have HB0 := Lib.hid N0
    clear hs hn N0
    obtain ⟨B, hB⟩ : ∃ B, w.heap.size = B := ⟨_, rfl⟩
    have HBq := Lib.hid hB
    rw [hB] at H0
    obtain ⟨W, hW⟩ : ∃ W, w.alloc (.cells #[] 39) = W := ⟨_, rfl⟩
    rw [hW] at H0 HA HB0
    go_enter Tryd.func92, Tryd.ntmps92
    go_wp2_with (at_builtin; refine wpList_app_signs rfl _ _ rfl B _ 0 [] rfl rfl H0.out (some ad) n c l rfl HN.out HA.out.s (fun e => (by cases e)) ?g3 ?g4 ?_)
    case g3 => omega
    case g4 => have := HB0.out.size; have := HBq.out; omega
    intro ad5 c5 w5 o5 g5
    have N5 := Lib.hid (HB0.out.grown g5 HB0.out.size (fun j hj => by simp [Value.ownBlock] at hj; have := HBq.out; omega))
    have HS := Lib.hid (show OwS w5 w.heap.size (.slice ad5 n c5) l by rw [HBq.out]; exact o5)
    clear o5 g5
    go_wp2
    go_ret
    exact ⟨ad5, c5, rfl, HS.out, N5.out⟩
set_option maxHeartbeats 2000000 in
theorem grow_sg (n : Nat) (w : World) (hn : 0 < n) (hl : n ≤ 100000) : Calls Tryd.prog 165 #[.slice none 0 0, .int .i64 (n : Int)] w fun e w' => ∃ b d, e = .returned (.slice b 0 d) ∧ OwS w' w.heap.size (.slice b 0 d) [] ∧ Below w.heap.size w w' := by
  obtain ⟨i0, hi, hz0, hz1, hz2⟩ := info_parts infoSign
  have h1 : ¬ ((n : Int) < 0) := by omega
  have h4 : (0 : Int) < (n : Int) := by omega
  obtain ⟨G, hG⟩ : ∃ G, grownCap w (0 + n) 0 39 = G := ⟨_, rfl⟩
  have hGn : 0 + n ≤ G := by rw [← hG]; exact grownCap_ge w _ _ _
  have hG63 : G ≤ maxLen := by rw [← hG]; exact grownCap_le_maxLen w (0 + n) 0 39 (by unfold maxLen; omega)
  obtain ⟨cs, hcs⟩ : ∃ cs, ([] : List Value).toArray ++ Builtin.zeroCells (Value.agg #[.int .i64 0, .int .i64 0]).cells n ++ Builtin.zeroCells (Value.agg #[.int .i64 0, .int .i64 0]).cells (grownCap w (0 + n) 0 39 - (0 + n)) = cs := ⟨_, rfl⟩
  have hsz : cs.size = G * 2 := by
    rw [← hcs, hG]
    simp only [Array.size_append, size_zeroCells, List.size_toArray, List.length_nil]
    have : (Value.agg #[.int .i64 0, .int .i64 0]).cells.size = 2 := rfl
    rw [this]
    omega
  have hrz : ∀ ty, (Builtin.append_ #[22, 3] ty #[.slice none 0 0, .int .i64 (n : Int)]).run Tryd.prog w = .ok (.slice (some ⟨w.heap.size, 0, none⟩) (0 + n) G) (w.drew.alloc (.cells cs 39)) := fun ty => by
    have h := Lib.run_append_grow_zeros (P := Tryd.prog) w 22 3 ty 39 i0 _ .i64 .i64 Tryd.underlying22 Tryd.underlying3 hi hz0 none 0 0 [] (run_firstCells_none w.drew i0.size 0 0 0) n hn (by omega) (by omega) (by omega) (by rw [hz2]; omega) (growslice_fits (by omega) (by rw [hz2]; omega))
    rw [hcs, hG] at h
    exact h
  have hnew := heap_alloc_new w.drew (.cells cs 39)
  have HB := Lib.hid ((Below.refl w.heap.size w).drew.trans (below_alloc w.drew (.cells cs 39)))
  have HO : Hid (OwS (w.drew.alloc (.cells cs 39)) w.heap.size (.slice (some ⟨w.heap.size, 0, none⟩) 0 G) []) := Lib.hid ⟨rfl, .inr ⟨w.heap.size, G, cs, rfl, Nat.le_refl _, hnew, Nat.zero_le _, hG63, hsz, rfl⟩⟩
  have hcut : ∀ w : World, (Instr.slice 22 (.slice (some ⟨w.heap.size, 0, none⟩) (0 + n) G) none (some (.int .i64 0)) none).run Tryd.prog w = .ok (.slice (some ⟨w.heap.size, 0, none⟩) 0 G) w := fun w => by
    have := run_cutH w (some ⟨w.heap.size, 0, none⟩) (0 + n) G 0 (by omega)
    rw [if_neg (by omega)] at this
    exact this
  clear hcs hsz hnew hG
  go_enter Tryd.func165, Tryd.ntmps165
  go_wp2_with (at_builtin; refine Lib.wpList_append_run _ rfl _ _ _ _ rfl _ _ rfl rfl _ _ (hrz _) ?_)
  all_goals (go_ret; exact ⟨_, _, rfl, HO.out, HB.out⟩)
set_option maxHeartbeats 4000000 in
theorem concat_sg (x y : List (Int × Int)) (A : Nat) (a1 a2 : Option Addr) (n1 n2 c1 c2 : Nat) (S : Nat → Prop) (w : World) (hA : w.heap[A]? = some (.cells #[.slice a1 n1 c1, .slice a2 n2 c2] 22 (0, 0))) (h1 : SlS S w a1 x c1) (h2 : SlS S w a2 y c2) (hx : x.length = n1) (hy : y.length = n2) (h0 : 0 < n1 + n2) (hl : n1 + n2 ≤ 100000) :
    Calls Tryd.prog 87 #[.slice (some ⟨A, 0, none⟩) 2 2] w fun e w' => ∃ b d, e = .returned (.slice b (n1 + n2) d) ∧ OwS w' w.heap.size (.slice b (n1 + n2) d) (x ++ y) ∧ Below w.heap.size w w' := by
  have yy := fun i => cell_of_row _ _ i _ _ _ hA
  have d0 := yy 0; have d1 := yy 1
  dsimp at d0 d1
  have HA := Lib.hid hA; have H1 := Lib.hid h1; have H2 := Lib.hid h2; have HX := Lib.hid hx; have HY := Lib.hid hy
  have GR := Lib.hid fun w => grow_sg (n1 + n2) w h0 hl
  clear yy hA h1 h2 hx hy
  go_enter Tryd.func87, Tryd.ntmps87
  go_wp2
  go_loopw [3, 11] (fun sv iv wr => w = wr ∧ ((sv = .int .i64 0 ∧ iv = .int .i64 0) ∨ (sv = .int .i64 (n1 : Int) ∧ iv = .int .i64 1) ∨ (sv = .int .i64 ((n1 + n2 : Nat) : Int) ∧ iv = .int .i64 2))) (fun _ iv _ => 2 - (intOf iv).toNat)
  case atStart => exact ⟨rfl, Or.inl ⟨rfl, rfl⟩⟩
  case round =>
    obtain ⟨rfl, ⟨rfl, rfl⟩ | ⟨rfl, rfl⟩ | ⟨rfl, rfl⟩⟩ := hrel
    · go_wp2
      go_roundw
      case rel => exact ⟨trivial, Or.inr (Or.inl ⟨rfl, rfl⟩)⟩
      case measure => simp [intOf]
    · go_wp2
      go_roundw
      case rel => exact ⟨trivial, Or.inr (Or.inr ⟨by simp, rfl⟩)⟩
      case measure => simp [intOf]
    · go_upto_region 11 with (go_at_call 165; refine (GR.out _).mono ?_; rintro e w1 ⟨b, d, rfl, ho, hb⟩; have O1 := Lib.hid ho; have B1 := Lib.hid hb; clear ho hb)
      go_loopw [6, 27] (fun sv iv wr => ∃ (b : Option Addr) (d : Nat), Hid (Below w.heap.size w wr) ∧ ((sv = .slice b 0 d ∧ iv = .int .i64 0 ∧ Hid (OwS wr w.heap.size (.slice b 0 d) [])) ∨ (sv = .slice b n1 d ∧ iv = .int .i64 1 ∧ Hid (OwS wr w.heap.size (.slice b n1 d) x)) ∨ (sv = .slice b (n1 + n2) d ∧ iv = .int .i64 2 ∧ Hid (OwS wr w.heap.size (.slice b (n1 + n2) d) (x ++ y))))) (fun _ iv _ => 2 - (intOf iv).toNat)
      case atStart => exact ⟨b, d, B1, Or.inl ⟨rfl, rfl, O1⟩⟩
      case round =>
        clear O1 B1
        obtain ⟨b, d, HB, ⟨rfl, rfl, HO⟩ | ⟨rfl, rfl, HO⟩ | ⟨rfl, rfl, HO⟩⟩ := hrel
        · have e0 := (HB.out.cell (p := ⟨A, 0, none⟩) (blk_lt HA.out)).trans d0
          have S1 := Lib.hid (H1.out.below HB.out)
          go_wp2_with (at_builtin; refine wpList_app_signs rfl _ _ rfl w.heap.size _ 0 [] rfl rfl HO.out a1 n1 c1 x rfl HX.out S1.out.s S1.out.nl ?g3 ?g4 ?_)
          case g3 => omega
          case g4 => exact HB.out.size
          intro ad5 c5 w5 o5 g5
          have N5 := Lib.hid (HB.out.grown g5 HB.out.size (fun j hj => (HO.out.lt j hj).1))
          have O5 := Lib.hid (show OwS w5 w.heap.size (.slice ad5 n1 c5) x by first | exact o5 | (rw [Nat.zero_add] at o5; exact o5))
          clear o5 g5
          go_wp2
          go_roundw
          case rel => exact ⟨ad5, c5, N5, Or.inr (Or.inl ⟨by first | rfl | simp, rfl, O5⟩)⟩
          case measure => simp [intOf]
        · have e1 := (HB.out.cell (p := ⟨A, 1, none⟩) (blk_lt HA.out)).trans d1
          have S2 := Lib.hid (H2.out.below HB.out)
          go_wp2_with (at_builtin; refine wpList_app_signs rfl _ _ rfl w.heap.size _ n1 x rfl HX.out HO.out a2 n2 c2 y rfl HY.out S2.out.s S2.out.nl ?g3 ?g4 ?_)
          case g3 => omega
          case g4 => exact HB.out.size
          intro ad5 c5 w5 o5 g5
          have N5 := Lib.hid (HB.out.grown g5 HB.out.size (fun j hj => (HO.out.lt j hj).1))
          have O5 := Lib.hid o5
          clear o5 g5
          go_wp2
          go_roundw
          case rel => exact ⟨ad5, c5, N5, Or.inr (Or.inr ⟨rfl, rfl, O5⟩)⟩
          case measure => simp [intOf]
        · go_wp2
          go_ret
          exact ⟨_, _, rfl, HO.out, HB.out⟩
end Go.Proofs.YtdnmjofenckndaaDoor
set_option linter.unusedVariables false
set_option linter.unusedSimpArgs false
namespace Go.Proofs.YtdnmjofenckndaaDoor
open Go.RowKit
def vL (L : List (Int × Int)) : List Int := L.map (·.1)
/-- Two lists under way. -/
structure UnS (S : Nat → Prop) (D : Nat) (wx : World) (a : Option Addr) (n c : Nat) (b : Option Addr) (m d : Nat) (L M : List (Int × Int)) : Prop where
  hn : L.length = n
  hm : M.length = m
  sa : SlS S wx a L c
  sb : SlS S wx b M d
  lv : lev (vL L) (vL M) = D
theorem UnS.below {S : Nat → Prop} {D : Nat} {w w' : World} {a : Option Addr} {n c : Nat} {b : Option Addr} {m d : Nat} {L M : List (Int × Int)} (h : UnS S D w a n c b m d L M) (hb : Below w.heap.size w w') : UnS S D w' a n c b m d L M :=
  ⟨h.hn, h.hm, h.sa.below hb, h.sb.below hb, h.lv⟩
theorem run_tail (w : World) (a : Option Addr) (n c : Nat) (h : 0 < n) : ∃ a' : Option Addr, (∀ w : World, (Instr.slice 22 (.slice a n c) (some (.int .i64 1)) none none).run Tryd.prog w = .ok (.slice a' (n - 1) (c - 1)) w) ∧ ∀ (S : Nat → Prop) (L : List (Int × Int)) (wx : World), L.length = n → SlS S wx a L c → SlS S wx a' L.tail (c - 1) ∧ L.tail.length = n - 1 := by
  refine ⟨_, fun w => run_cutL w a n c 1 (by omega), fun S L wx hL hs => ?_⟩
  have h1 := hs.sub 1 L.length (by omega) (Nat.le_refl _)
  rw [List.take_of_length_le (by rw [List.length_drop]; omega), List.drop_one] at h1
  exact ⟨h1.1, by rw [h1.2, hL]⟩
theorem run_init (w : World) (a : Option Addr) (n c : Nat) (h : 0 < n) (hc : n ≤ c) : ∃ a' : Option Addr, (∀ w : World, (Instr.slice 22 (.slice a n c) none (some (.int .i64 ((n : Int) - 1))) none).run Tryd.prog w = .ok (.slice a' (n - 1) c) w) ∧ ∀ (S : Nat → Prop) (L : List (Int × Int)) (wx : World), L.length = n → SlS S wx a L c → SlS S wx a' L.dropLast c ∧ L.dropLast.length = n - 1 := by
  refine ⟨(if c = 0 then a else a.map (·.add (0 * 2))), fun w => ?_, fun S L wx hL hs => ?_⟩
  · rw [show (n : Int) - 1 = ((n - 1 : Nat) : Int) by omega]
    exact run_cutH w a n c (n - 1) (by omega)
  · have h1 := hs.sub 0 (n - 1) (Nat.zero_le _) (by omega)
    rw [List.drop_zero, Nat.sub_zero, Nat.sub_zero] at h1
    have e : L.take (n - 1) = L.dropLast := by rw [List.dropLast_eq_take, hL]
    rw [e] at h1
    exact h1
theorem lev_tail (L M : List (Int × Int)) (hL : 0 < L.length) (hM : 0 < M.length) (h : (L.getD 0 (0, 0)).1 = (M.getD 0 (0, 0)).1) : lev (vL L.tail) (vL M.tail) = lev (vL L) (vL M) := by
  cases L with
  | nil => simp at hL
  | cons x L =>
    cases M with
    | nil => simp at hM
    | cons y M =>
      have e : x.1 = y.1 := h
      unfold vL
      rw [List.map_cons, List.map_cons, e, lev_same]; rfl
theorem lev_init (L M : List (Int × Int)) (hL : 0 < L.length) (hM : 0 < M.length) (h : (L.getD (L.length - 1) (0, 0)).1 = (M.getD (M.length - 1) (0, 0)).1) : lev (vL L.dropLast) (vL M.dropLast) = lev (vL L) (vL M) := by
  have hl : L ≠ [] := fun e => by rw [e] at hL; simp at hL
  have hm : M ≠ [] := fun e => by rw [e] at hM; simp at hM
  have e1 : vL L = vL L.dropLast ++ [(L.getLast hl).1] := by
    conv => lhs; rw [← List.dropLast_concat_getLast hl]
    unfold vL; simp
  have e2 : vL M = vL M.dropLast ++ [(M.getLast hm).1] := by
    conv => lhs; rw [← List.dropLast_concat_getLast hm]
    unfold vL; simp
  have e3 : (L.getLast hl).1 = (M.getLast hm).1 := by
    rw [List.getLast_eq_getElem, List.getLast_eq_getElem]
    rw [List.getD, List.getD, List.getElem?_eq_getElem (show L.length - 1 < L.length by omega), List.getElem?_eq_getElem (show M.length - 1 < M.length by omega)] at h
    exact h
  rw [e1, e2, e3, lev_suf]
def lenV : Value → Nat
  | .slice _ n _ => n
  | _ => 0
set_option maxHeartbeats 4000000 in
theorem unlike_any (S : Nat → Prop) (L M : List (Int × Int)) (a b : Option Addr) (n m c d : Nat) (w : World) (hn : L.length = n) (hm : M.length = m) (hl : n ≤ 1000000) (hl2 : m ≤ 8796093022208) (ha : SlS S w a L c) (hb : SlS S w b M d) :
    Calls Tryd.prog 151 #[.slice a n c, .slice b m d] w fun e w' => ∃ (a' b' : Option Addr) (n' m' c' d' : Nat) (L' M' : List (Int × Int)), e = .returned (.tuple #[.slice a' n' c', .slice b' m' d']) ∧ UnS S (lev (vL L) (vL M)) w' a' n' c' b' m' d' L' M' ∧ n' ≤ n ∧ m' ≤ m ∧ Below w.heap.size w w' := by
  have H0 : Hid (UnS S (lev (vL L) (vL M)) w a n c b m d L M) := Lib.hid ⟨hn, hm, ha, hb, rfl⟩
  clear ha hb hn hm
  generalize lev (vL L) (vL M) = D at *
  go_enter Tryd.func151, Tryd.ntmps151
  go_upto_block 0 with fail
  go_cut [0, 1] from 6 to 28 (fun s0 s1 wx => ∃ (a' b' : Option Addr) (n' m' c' d' : Nat) (L' M' : List (Int × Int)), s0 = .slice a' n' c' ∧ s1 = .slice b' m' d' ∧ n' ≤ n ∧ m' ≤ m ∧ Hid (UnS S D wx a' n' c' b' m' d' L' M') ∧ Hid (Below w.heap.size w wx))
  case first =>
    go_wp2_with fail
    go_loopw [0, 1] (fun av bv wr => ∃ (a' b' : Option Addr) (n' m' c' d' : Nat) (L' M' : List (Int × Int)), av = .slice a' n' c' ∧ bv = .slice b' m' d' ∧ n' ≤ n ∧ m' ≤ m ∧ Hid (UnS S D wr a' n' c' b' m' d' L' M') ∧ Hid (Below w.heap.size w wr)) (fun av _ _ => lenV av)
    case atStart => exact ⟨_, _, _, _, _, _, L, M, rfl, rfl, Nat.le_refl _, Nat.le_refl _, H0, Lib.hid (Below.refl _ _)⟩
    case round =>
      obtain ⟨a', b', n', m', c', d', L', M', rfl, rfl, h1, h2, HU, HB⟩ := hrel
      by_cases hz : 0 < n'
      rotate_left
      · have hz' : ¬ (0 : Int) < n' := by omega
        go_wp2_with fail
        go_quiet (fail)
        go_wp2_with fail
        go_meet
        exact ⟨_, _, _, _, _, _, L', M', rfl, rfl, h1, h2, Lib.hid (HU.out.below (drewN_below (Below.refl _ _) _)), Lib.hid (drewN_below HB.out _)⟩
      by_cases hz2 : 0 < m'
      rotate_left
      · have hz' : (0 : Int) < n' := by omega
        have hz2' : ¬ (0 : Int) < m' := by omega
        go_wp2_with fail
        go_quiet (fail)
        go_wp2_with fail
        go_meet
        exact ⟨_, _, _, _, _, _, L', M', rfl, rfl, h1, h2, Lib.hid (HU.out.below (drewN_below (Below.refl _ _) _)), Lib.hid (drewN_below HB.out _)⟩
      have hz' : (0 : Int) < n' := by omega
      have hz2' : (0 : Int) < m' := by omega
      have hLn := HU.out.hn
      have hMn := HU.out.hm
      obtain ⟨b1, o1, rfl, hb1, p1, _⟩ := HU.out.sa.s (0) (by omega)
      obtain ⟨b2, o2, rfl, hb2, p2, _⟩ := HU.out.sb.s (0) (by omega)
      have hle := HU.out.sa.le
      have hle2 := HU.out.sb.le
      rw [hLn] at hle
      rw [hMn] at hle2
      have hlev := lev_tail L' M' (by omega) (by omega)
      have e1 : o1 + 0 * 2 = o1 := by omega
      have e2 : o2 + 0 * 2 = o2 := by omega
      rw [e1] at p1
      rw [e2] at p2
      obtain ⟨a1, RA, SA⟩ := run_tail w (some ⟨b1, o1, none⟩) n' c' hz
      obtain ⟨a2, RB, SB⟩ := run_tail w (some ⟨b2, o2, none⟩) m' d' hz2
      have SA1 := Lib.hid (SA S L' wr hLn HU.out.sa)
      have SB1 := Lib.hid (SB S M' wr hMn HU.out.sb)
      obtain ⟨v, hv⟩ : ∃ v, (L'.getD 0 (0, 0)).1 = v := ⟨_, rfl⟩
      obtain ⟨u, hu⟩ : ∃ u, (M'.getD 0 (0, 0)).1 = u := ⟨_, rfl⟩
      rw [hv] at p1
      rw [hu] at p2
      rw [hv, hu] at hlev
      by_cases he : v = u
      rotate_left
      · have he2 : (v == u) = false := by simp [he]
        clear SA SB hv hu hlev hLn hMn RA RB
        go_wp2_with fail
        go_quiet (fail)
        go_wp2_with fail
        go_meet
        exact ⟨_, _, _, _, _, _, L', M', rfl, rfl, h1, h2, Lib.hid (HU.out.below (drewN_below (Below.refl _ _) _)), Lib.hid (drewN_below HB.out _)⟩
      · subst he
        have HL := Lib.hid (And.intro (hlev rfl) (And.intro hLn hMn))
        clear SA SB hv hu hlev hLn hMn
        go_wp2_with fail
        go_quiet (fail)
        go_wp2_with fail
        go_quiet (fail)
        go_wp2_with fail
        go_roundw
        case rel => exact ⟨a1, a2, (n' - 1), (m' - 1), (c' - 1), (d' - 1), L'.tail, M'.tail, by first | rfl | simp, by first | rfl | simp, by omega, by omega, Lib.hid (UnS.below ⟨SA1.out.2, SB1.out.2, SA1.out.1, SB1.out.1, by rw [HL.out.1]; exact HU.out.lv⟩ (drewN_below (drewN_below (Below.refl _ _) _) _)), Lib.hid (drewN_below (drewN_below HB.out _) _)⟩
        case measure => (simp [lenV]; omega)
  case rest =>
    obtain ⟨a5, b5, n5, m5, c5, d5, L5, M5, rfl, rfl, q1, q2, HU5, HB5⟩ := hcut
    clear H0
    go_wp2_with fail
    go_loopw [0, 1] (fun av bv wr => ∃ (a' b' : Option Addr) (n' m' c' d' : Nat) (L' M' : List (Int × Int)), av = .slice a' n' c' ∧ bv = .slice b' m' d' ∧ n' ≤ n ∧ m' ≤ m ∧ Hid (UnS S D wr a' n' c' b' m' d' L' M') ∧ Hid (Below w.heap.size w wr)) (fun av _ _ => lenV av)
    case atStart => exact ⟨_, _, _, _, _, _, L5, M5, rfl, rfl, q1, q2, HU5, HB5⟩
    case round =>
      obtain ⟨a', b', n', m', c', d', L', M', rfl, rfl, h1, h2, HU, HB⟩ := hrel
      by_cases hz : 0 < n'
      rotate_left
      · have hz' : ¬ (0 : Int) < n' := by omega
        go_wp2_with fail
        go_quiet (fail)
        go_wp2_with fail
        refine bodyPost_ret (results_tmp2 rfl _ _ _) rfl ?_
        exact ⟨_, _, _, _, _, _, L', M', rfl, HU.out.below (drewN_below (Below.refl _ _) _), h1, h2, drewN_below HB.out _⟩
      by_cases hz2 : 0 < m'
      rotate_left
      · have hz' : (0 : Int) < n' := by omega
        have hz2' : ¬ (0 : Int) < m' := by omega
        go_wp2_with fail
        go_quiet (fail)
        go_wp2_with fail
        refine bodyPost_ret (results_tmp2 rfl _ _ _) rfl ?_
        exact ⟨_, _, _, _, _, _, L', M', rfl, HU.out.below (drewN_below (Below.refl _ _) _), h1, h2, drewN_below HB.out _⟩
      have hz' : (0 : Int) < n' := by omega
      have hz2' : (0 : Int) < m' := by omega
      have hLn := HU.out.hn
      have hMn := HU.out.hm
      obtain ⟨b1, o1, rfl, hb1, p1, _⟩ := HU.out.sa.s (n' - 1) (by omega)
      obtain ⟨b2, o2, rfl, hb2, p2, _⟩ := HU.out.sb.s (m' - 1) (by omega)
      have hle := HU.out.sa.le
      have hle2 := HU.out.sb.le
      rw [hLn] at hle
      rw [hMn] at hle2
      have hlev := lev_init L' M' (by omega) (by omega)
      rw [hLn, hMn] at hlev
      obtain ⟨i, hi⟩ : ∃ i : Nat, n' - 1 = i := ⟨_, rfl⟩
      obtain ⟨j, hj⟩ : ∃ j : Nat, m' - 1 = j := ⟨_, rfl⟩
      rw [hi] at p1 hlev
      rw [hj] at p2 hlev
      have hi1 : (n' : Int) - 1 = (i : Int) := by omega
      have hj1 : (m' : Int) - 1 = (j : Int) := by omega
      have hi2 : IntKind.i64.wrap ((n' : Int) - 1) = (i : Int) := by rw [IntKind.wrap_i64]; omega
      have hj2 : IntKind.i64.wrap ((m' : Int) - 1) = (j : Int) := by rw [IntKind.wrap_i64]; omega
      have hiw : IntKind.i64.wrap (i : Int) = (i : Int) := by rw [IntKind.wrap_i64]; omega
      have hjw : IntKind.i64.wrap (j : Int) = (j : Int) := by rw [IntKind.wrap_i64]; omega
      have hi3 : (0 : Int) ≤ i := by omega
      have hi4 : (i : Int) < n' := by omega
      have hj3 : (0 : Int) ≤ j := by omega
      have hj4 : (j : Int) < m' := by omega
      obtain ⟨a1, RA, SA⟩ := run_init w (some ⟨b1, o1, none⟩) n' c' hz hle
      obtain ⟨a2, RB, SB⟩ := run_init w (some ⟨b2, o2, none⟩) m' d' hz2 hle2
      have SA1 := Lib.hid (SA S L' wr hLn HU.out.sa)
      have SB1 := Lib.hid (SB S M' wr hMn HU.out.sb)
      rw [hi] at RA SA1
      rw [hj] at RB SB1
      rw [hi1] at RA
      rw [hj1] at RB
      have HIJ := Lib.hid (And.intro hi hj)
      clear hi hj
      obtain ⟨v, hv⟩ : ∃ v, (L'.getD i (0, 0)).1 = v := ⟨_, rfl⟩
      obtain ⟨u, hu⟩ : ∃ u, (M'.getD j (0, 0)).1 = u := ⟨_, rfl⟩
      rw [hv] at p1
      rw [hu] at p2
      rw [hv, hu] at hlev
      by_cases he : v = u
      rotate_left
      · have he2 : (v == u) = false := by simp [he]
        clear SA SB hv hu hlev hLn hMn RA RB
        go_wp2_with fail
        go_quiet (fail)
        go_wp2_with fail
        refine bodyPost_ret (results_tmp2 rfl _ _ _) rfl ?_
        exact ⟨_, _, _, _, _, _, L', M', rfl, HU.out.below (drewN_below (Below.refl _ _) _), h1, h2, drewN_below HB.out _⟩
      · subst he
        have HL := Lib.hid (And.intro (hlev rfl) (And.intro hLn hMn))
        clear SA SB hv hu hlev hLn hMn
        go_wp2_with fail
        go_quiet (fail)
        go_wp2_with fail
        go_quiet (fail)
        go_wp2_with fail
        go_roundw
        case rel => exact ⟨a1, a2, i, j, c', d', L'.dropLast, M'.dropLast, by first | rfl | simp, by first | rfl | simp, by have := HIJ.out; omega, by have := HIJ.out; omega, Lib.hid (UnS.below ⟨SA1.out.2, SB1.out.2, SA1.out.1, SB1.out.1, by rw [HL.out.1]; exact HU.out.lv⟩ (drewN_below (drewN_below (Below.refl _ _) _) _)), Lib.hid (drewN_below (drewN_below HB.out _) _)⟩
        case measure => (simp [lenV]; have := HIJ.out; omega)
end Go.Proofs.YtdnmjofenckndaaDoor
set_option linter.unusedVariables false
set_option linter.unusedSimpArgs false
namespace Go.Proofs.YtdnmjofenckndaaDoor
open Go.RowKit
theorem hp_drewN (w : World) : ∀ n, (w.drewN n).heap = w.heap
  | 0 => rfl
  | n + 1 => hp_drewN w n
set_option maxHeartbeats 2000000 in
theorem step_any (p g N k : Nat) (R : List Int) (c : Int) (same : Bool) (x y r : Int) (w : World) (hp : w.heap[p]? = some (.cells #[.slice (some ⟨g, 0, none⟩) N N] 59 (0, 0))) (hg : w.heap[g]? = some (.cells (iRow R) 3 (0, 0))) (hN : R.length = N) (hk : 0 < k) (hkN : k < N) (hNb : N ≤ 20000000000000) (hx : R.getD k 0 = x) (hy : R.getD (k - 1) 0 = y) (hbx : 0 ≤ x ∧ x ≤ 20000000000000) (hby : 0 ≤ y ∧ y ≤ 20000000000000) (hc : 0 ≤ c ∧ c ≤ 20000000000000) (hr : min (c + (if same = true then 0 else 1)) (min (x + 1) (y + 1)) = r) :
    Calls Tryd.prog 209 #[.int .i64 (k : Int), .int .i64 c, .bool same, .pointer (some ⟨p, 0, none⟩)] w fun e w' => e = .returned (.int .i64 r) ∧ w'.heap = w.heap ∧ Below w.heap.size w w' := by
  have p0 := cell_of_row _ _ 0 _ _ _ hp
  dsimp at p0
  have c1 := i_cell hg (k := k) (by omega)
  have c2 := i_cell hg (k := k - 1) (by omega)
  rw [hx] at c1
  rw [hy] at c2
  obtain ⟨j, hj⟩ : ∃ j : Nat, k - 1 = j := ⟨_, rfl⟩
  rw [hj] at c2
  have hk1 : (0 : Int) ≤ k := by omega
  have hk2 : (k : Int) < N := by omega
  have hj1 : (k : Int) - 1 = (j : Int) := by omega
  have hj2 : IntKind.i64.wrap ((k : Int) - 1) = (j : Int) := by rw [IntKind.wrap_i64]; omega
  have hjw : IntKind.i64.wrap (j : Int) = (j : Int) := by rw [IntKind.wrap_i64]; omega
  have hj3 : (0 : Int) ≤ j := by omega
  have hj4 : (j : Int) < N := by omega
  have hxw : IntKind.i64.wrap (x + 1) = x + 1 := by rw [IntKind.wrap_i64]; omega
  have hyw : IntKind.i64.wrap (y + 1) = y + 1 := by rw [IntKind.wrap_i64]; omega
  have hcw : IntKind.i64.wrap (c + 1) = c + 1 := by rw [IntKind.wrap_i64]; omega
  clear hp hg hx hy hj
  cases same
  · have hr' : min (c + 1) (min (x + 1) (y + 1)) = r := hr
    have hr2 : min (min (c + 1) (x + 1)) (y + 1) = r := by omega
    clear hr
    go_enter Tryd.func209, Tryd.ntmps209
    go_wp2_with fail
    go_quiet (fail)
    go_wp2_with fail
    all_goals
      go_ret
      exact ⟨retI (by omega), hp_drewN _ _, drewN_below (Below.refl _ _) _⟩
  · have hr' : min c (min (x + 1) (y + 1)) = r := by rw [← hr]; simp
    have hr2 : min (min c (x + 1)) (y + 1) = r := by omega
    clear hr
    go_enter Tryd.func209, Tryd.ntmps209
    go_wp2_with fail
    go_quiet (fail)
    go_wp2_with fail
    all_goals
      go_ret
      exact ⟨retI (by omega), hp_drewN _ _, drewN_below (Below.refl _ _) _⟩
theorem stepper_any (g N : Nat) (w : World) : Calls Tryd.prog 152 #[.slice (some ⟨g, 0, none⟩) N N] w fun e w' => e = .returned (.func (.func 209) #[] #[.pointer (some ⟨w.heap.size, 0, none⟩)]) ∧ w.alloc (.cells #[.slice (some ⟨g, 0, none⟩) N N] 59) = w' := by
  go_enter Tryd.func152, Tryd.ntmps152
  go_wp2
  go_ret
  exact ⟨rfl, rfl⟩
/-- A row of the table, its first k places told anew. -/
def rwL (A B : List Int) (i k m : Nat) : List Int := (List.range (m + 1)).map fun j => (((if j < k then dpL A B (i + 1) j else dpL A B i j) : Nat) : Int)
theorem rw_len (A B : List Int) (i k m : Nat) : (rwL A B i k m).length = m + 1 := by unfold rwL; simp
theorem rw_at (A B : List Int) (i k m j : Nat) (hj : j ≤ m) : (rwL A B i k m).getD j 0 = (((if j < k then dpL A B (i + 1) j else dpL A B i j) : Nat) : Int) := by
  unfold rwL
  rw [List.getD, List.getElem?_map, List.getElem?_range (by omega)]; rfl
theorem ints_ext {l m : List Int} (h : l.length = m.length) (hh : ∀ j, j < l.length → l.getD j 0 = m.getD j 0) : l = m := by
  apply List.ext_getElem h
  intro j h1 h2
  have := hh j h1
  simpa [List.getD, List.getElem?_eq_getElem h1, List.getElem?_eq_getElem h2] using this
theorem getD_setI (R : List Int) (i j : Nat) (x : Int) (hi : i < R.length) : (R.set i x).getD j 0 = if i = j then x else R.getD j 0 := by
  rw [List.getD, List.getElem?_set]
  by_cases h : i = j
  · rw [if_pos h, if_pos h, if_pos hi]; rfl
  · rw [if_neg h, if_neg h]; rfl
theorem rw_next (A B : List Int) (i k m : Nat) (hk : k ≤ m) : (rwL A B i k m).set k ((dpL A B (i + 1) k : Nat) : Int) = rwL A B i (k + 1) m := by
  refine ints_ext (by rw [List.length_set, rw_len, rw_len]) (fun j hj => ?_)
  rw [List.length_set, rw_len] at hj
  rw [getD_setI _ _ _ _ (by rw [rw_len]; omega), rw_at _ _ _ _ _ _ (by omega), rw_at _ _ _ _ _ _ (by omega)]
  by_cases e : k = j
  · subst e; rw [if_pos rfl, if_pos (by omega)]
  · rw [if_neg e]
    by_cases h : j < k
    · rw [if_pos h, if_pos (by omega)]
    · rw [if_neg h, if_neg (by omega)]
theorem rw_full (A B : List Int) (i m : Nat) : rwL A B i (m + 1) m = rwL A B (i + 1) 0 m := by
  refine ints_ext (by rw [rw_len, rw_len]) (fun j hj => ?_)
  rw [rw_len] at hj
  rw [rw_at _ _ _ _ _ _ (by omega), rw_at _ _ _ _ _ _ (by omega), if_pos hj, if_neg (by omega)]
def inL (k m : Nat) : List Int := (List.range (m + 1)).map fun j => if j < k then (j : Int) else 0
theorem in_len (k m : Nat) : (inL k m).length = m + 1 := by unfold inL; simp
theorem in_at (k m j : Nat) (hj : j ≤ m) : (inL k m).getD j 0 = if j < k then (j : Int) else 0 := by
  unfold inL
  rw [List.getD, List.getElem?_map, List.getElem?_range (by omega)]; rfl
theorem in_next (k m : Nat) (hk : k ≤ m) : (inL k m).set k (k : Int) = inL (k + 1) m := by
  refine ints_ext (by rw [List.length_set, in_len, in_len]) (fun j hj => ?_)
  rw [List.length_set, in_len] at hj
  rw [getD_setI _ _ _ _ (by rw [in_len]; omega), in_at _ _ _ (by omega), in_at _ _ _ (by omega)]
  by_cases e : k = j
  · subst e; rw [if_pos rfl, if_pos (by omega)]
  · rw [if_neg e]
    by_cases h : j < k
    · rw [if_pos h, if_pos (by omega)]
    · rw [if_neg h, if_neg (by omega)]
theorem in_0 (m : Nat) : inL 0 m = List.replicate (m + 1) 0 := by
  refine ints_ext (by rw [in_len]; simp) (fun j hj => ?_)
  rw [in_len] at hj
  rw [in_at _ _ _ (by omega), if_neg (by omega), List.getD, List.getElem?_replicate, if_pos hj]; rfl
theorem in_full (A B : List Int) (m : Nat) (hm : B.length = m) : inL (m + 1) m = rwL A B 0 0 m := by
  refine ints_ext (by rw [in_len, rw_len]) (fun j hj => ?_)
  rw [in_len] at hj
  rw [in_at _ _ _ (by omega), rw_at _ _ _ _ _ _ (by omega), if_pos hj, if_neg (by omega), dp_0 _ _ _ (by omega)]
end Go.Proofs.YtdnmjofenckndaaDoor
