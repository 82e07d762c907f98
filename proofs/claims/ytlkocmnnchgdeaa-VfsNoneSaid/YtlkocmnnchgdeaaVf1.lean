/-
  vfs: maps of files.
-/
import Derived.Test.YtlkocmnnchgdeaaSg0
import Derived.Laws.OwnMore
import Derived.Laws.MakeOwn
import Derived.Deep.OwnRows
import Derived.OwnWalk
import Derived.Maps.OwnSet
import Derived.Maps.Views
set_option linter.unusedVariables false
set_option linter.unusedSimpArgs false
namespace Go.Proofs.Ytlkocmnnchgdeaa
set_option maxRecDepth 100000
open Go.RowKit
theorem vset {w : World} {g : Nat} {cs : Array Value} {t : TypeId} {f : Nat × Nat} (h : w.heap[g]? = some (.cells cs t f)) (i : Nat) (u : Value) : (w.setCell ⟨g, i, none⟩ u).heap[g]? = some (.cells (cs.setIfInBounds i u) t f) := by
  simp [World.setCell, Array.getElem?_modify, h]
theorem vlt {w : World} {g : Nat} {o : Obj} (h : w.heap[g]? = some o) : g < w.heap.size := by
  rcases Nat.lt_or_ge g w.heap.size with h1 | h1
  · exact h1
  · rw [Array.getElem?_eq_none h1] at h; cases h
theorem vbelow {w w' : World} {g : Nat} {o : Obj} (h : w.heap[g]? = some o) (hb : Below w.heap.size w w') : w'.heap[g]? = some o := (hb.block g (vlt h)).trans h
theorem vfar {w : World} {p q : Addr} (h : q.block ≠ p.block) (u : Value) : (w.setCell p u).cell? q = w.cell? q := by
  unfold World.cell?; rw [Below.heap_setCell w p u q.block h]
theorem vheap {w w' : World} {b : Nat} (h : w'.heap[b]? = w.heap[b]?) (i : Nat) : w'.cell? ⟨b, i, none⟩ = w.cell? ⟨b, i, none⟩ := by
  unfold World.cell?; rw [h]
def fR : Value → Option (DataW Unit × List MemPlace)
  | .agg cs => match cs.toList with
    | [.string s] => some (.lit (.string s.data.toList), [])
    | _ => none
  | _ => none
theorem fR_v (s : ByteArray) : fR (.agg #[.string s]) = some (.lit (.string s.data.toList), []) := rfl
theorem bytes_ext {s t : ByteArray} (h : s.data.toList = t.data.toList) : s = t := by
  cases s; cases t
  congr
  exact Array.toList_inj.1 h
theorem fR_inj {v : Value} {l : List UInt8} {ps : List MemPlace} (h : fR v = some (.lit (.string l), ps)) : ∃ s : ByteArray, v = .agg #[.string s] ∧ s.data.toList = l := by
  cases v with
  | agg cs =>
    obtain ⟨cl⟩ := cs
    match cl, h with
    | [.string s], h =>
      simp only [fR, Option.some.injEq, Prod.mk.injEq, DataW.lit.injEq, Lit.string.injEq] at h
      exact ⟨s, rfl, h.1⟩
    | [], h => simp [fR] at h
    | a :: b :: c, h => cases a <;> simp [fR] at h
    | [.agg _], h => simp [fR] at h
    | [.int _ _], h => simp [fR] at h
    | [.bool _], h => simp [fR] at h
    | [.slice _ _ _], h => simp [fR] at h
    | [x], h => cases x <;> first | (simp [fR] at h; done) | (simp [fR] at h; exact ⟨_, rfl, h.1⟩)
  | _ => simp [fR] at h
abbrev Fls := List UInt8 → Option ByteArray
def fput (f : Fls) (t : List UInt8) (s : ByteArray) : Fls := fun k => if k = t then some s else f k
/-- Block b is a map of files. -/
structure FlM (w : World) (b : Nat) (f : Fls) (n : Nat) : Prop where
  ex : ∃ D : DataW Unit, w.ownsMap Try.prog 9 fR b n D ∧ Maps.size D = n ∧ (∀ t, Maps.has D (.string t) = (f t).isSome) ∧ ∀ t s z, f t = some s → D.atKey (.string t) z = .lit (.string s.data.toList)
theorem keyV : Maps.Keyed Try.prog 9 := Maps.string_keyed Try.underlying9
theorem keyV_mk {s : ByteArray} (h : s.size ≤ maxLen) : keyOf Try.prog 9 (.string s) = some (.string s.data.toList) := by
  simp [keyOf, mapKey, Try.underlying9, h]
theorem zeroFl (w : World) : (zeroValue 55).run Try.prog w = .ok (.agg #[.string ⟨#[]⟩]) w := by kernel_rfl
theorem litV_key {t : List UInt8} : WideAt.IsKeyLit (Lit.string t) := trivial
theorem litV_ne {s t : List UInt8} (h : s ≠ t) : Lit.string s ≠ Lit.string t := fun e => h (by injection e)
section
variable {w w' : World} {b n : Nat} {f : Fls}
theorem FlM.blk (h : FlM w b f n) (hk : w'.heap[b]? = w.heap[b]?) : FlM w' b f n := by
  obtain ⟨D, ⟨es, clock, hb, F, hs, hD⟩, h2⟩ := h.ex
  exact ⟨⟨D, ⟨es, clock, hk.trans hb, F, hs, hD⟩, h2⟩⟩
theorem FlM.lt (h : FlM w b f n) : b < w.heap.size := by
  obtain ⟨D, h1, _⟩ := h.ex; exact h1.lt
theorem FlM.below (h : FlM w b f n) (hb : Below w.heap.size w w') : FlM w' b f n := h.blk (hb.block b h.lt)
theorem FlM.made (w : World) : FlM (w.alloc (.map #[] 0)) w.heap.size (fun _ => none) 0 :=
  ⟨⟨.map [], World.ownsMap_made w _ _ _, rfl, fun t => rfl, fun t s z e => by cases e⟩⟩
/-- The block of a map is no row. -/
theorem FlM.ne (h : FlM w b f n) {k : Nat} {cs : Array Value} {t : TypeId} {fr : Nat × Nat} (hk : w.heap[k]? = some (.cells cs t fr)) : k ≠ b := fun e => by
  subst e
  obtain ⟨D, ⟨es, clock, hb, _⟩, _⟩ := h.ex
  rw [hk] at hb
  injection hb with hb
  cases hb
theorem FlM.look_yes (h : FlM w b f n) {t s : ByteArray} (ht : t.size ≤ maxLen) (hf : f t.data.toList = some s) : (Instr.lookup 38 (.map (some b)) (.string t) true).run Try.prog w = .ok (.tuple #[.agg #[.string s], .bool true]) w := by
  obtain ⟨D, h1, _, h3, h4⟩ := h.ex
  obtain ⟨v, ps, hrun, hv⟩ := h1.look_ok keyV Try.underlying38 (zeroFl w) (fR_v ⟨#[]⟩) (keyV_mk ht)
  rw [h4 _ _ _ hf] at hv
  obtain ⟨s', rfl, e⟩ := fR_inj hv
  rw [hrun, h3, hf, bytes_ext e]
  rfl
theorem FlM.look_no (h : FlM w b f n) {t : ByteArray} (ht : t.size ≤ maxLen) (hf : f t.data.toList = none) : (Instr.lookup 38 (.map (some b)) (.string t) true).run Try.prog w = .ok (.tuple #[.agg #[.string ⟨#[]⟩], .bool false]) w := by
  obtain ⟨D, h1, _, h3, h4⟩ := h.ex
  obtain ⟨v, ps, hrun, hv⟩ := h1.look_ok keyV Try.underlying38 (zeroFl w) (fR_v ⟨#[]⟩) (keyV_mk ht)
  have hn : Maps.has D (.string t.data.toList) = false := by rw [h3, hf]; rfl
  rw [Maps.atKey_of_not_has hn] at hv
  obtain ⟨s', rfl, e⟩ := fR_inj hv
  have e2 : s' = ⟨#[]⟩ := bytes_ext e
  rw [hrun, hn, e2]
theorem fit_sizeV {D : DataW Unit} {m : Nat} (h : w.ownsMap Try.prog 9 fR b n D) (hm : Maps.size D ≤ m) : w.ownsMap Try.prog 9 fR b m D := by
  obtain ⟨es, clock, hb, F, hs, rfl⟩ := h
  refine ⟨es, clock, hb, F, ?_, rfl⟩
  simpa [Maps.size, length_sorted] using hm
/-- A file is written. -/
theorem FlM.put (h : FlM w b f n) {t : ByteArray} (s : ByteArray) (ht : t.size ≤ maxLen) (hn : n < maxLen) {m : Nat} (hm : m = if (f t.data.toList).isSome then n else n + 1) : ∃ w', (Instr.mapUpdate 38 (.map (some b)) (.string t) (.agg #[.string s])).run Try.prog w = .ok () w' ∧ FlM w' b (fput f t.data.toList s) m ∧ w.grownBy w' (some b) := by
  obtain ⟨D, h1, h2, h3, h4⟩ := h.ex
  obtain ⟨w', hrun, ho, hg⟩ := h1.update keyV Try.underlying38 hn (keyV_mk ht) (fR_v s)
  have hT := h1.tidy keyV
  have hM := hT.isMap
  have hsz : Maps.size (D.put (.string t.data.toList) (.lit (.string s.data.toList))) = m := by
    rw [Maps.size_put hT, h3, h2, hm]
  refine ⟨w', hrun, ⟨⟨_, fit_sizeV ho (Nat.le_of_eq hsz), hsz, fun k => ?_, fun k s' z hk => ?_⟩⟩, hg⟩
  · unfold fput
    by_cases hk : k = t.data.toList
    · subst hk
      rw [Maps.has_put_same hM litV_key, if_pos rfl]; rfl
    · rw [Maps.has_put_other (litV_ne hk), h3, if_neg hk]
  · unfold fput at hk
    by_cases hkt : k = t.data.toList
    · subst hkt
      rw [if_pos rfl] at hk
      injection hk with hk
      subst hk
      rw [Maps.atKey_put_same hM litV_key]
    · rw [if_neg hkt] at hk
      rw [Maps.atKey_put_other (litV_ne hkt), h4 _ _ _ hk]
end
end Go.Proofs.Ytlkocmnnchgdeaa
