/-
  Joined: Ki0 G0 G14 Sg3 Ki1.
-/
import Derived.Test.YtdnmjofenckndaaDoorJB01
import Derived.Test.YtdnmjofenckndaaDoorJB02
import Derived.Maps.OwnSet
import Derived.Maps.Views
import Derived.Deep.QuietTactic
import Derived.BigQuiet
import Derived.Deep.Cut
import Derived.Laws.StructEq
import Derived.Lib.AppendZeros
import Derived.Lib.AppendZerosOnto
import Derived.Deep.Onto
import Derived.Deep.CutRange
set_option linter.unusedVariables false
set_option linter.unusedSimpArgs false
set_option maxRecDepth 100000
set_option linter.unusedVariables false
set_option linter.unusedSimpArgs false
namespace Go.Proofs.YtdnmjofenckndaaDoor
open Go.RowKit
def encA : Option Addr → DataW Unit
  | none => .nil
  | some ⟨b, o, none⟩ => .agg [.lit (.int .i64 b), .lit (.int .i64 o)]
  | some ⟨b, o, some k⟩ => .agg [.lit (.int .i64 b), .lit (.int .i64 o), .lit (.int .i64 k)]
def slD (a : Option Addr) (n c : Nat) : DataW Unit := .agg [encA a, .lit (.int .i64 n), .lit (.int .i64 c)]
def slR : Value → Option (DataW Unit × List MemPlace)
  | .slice a n c => some (slD a n c, [])
  | _ => none
theorem encA_inj {a b : Option Addr} (h : encA a = encA b) : a = b := by
  match a, b, h with
  | none, none, _ => rfl
  | none, some ⟨b, o, none⟩, h => cases h
  | none, some ⟨b, o, some k⟩, h => cases h
  | some ⟨b, o, none⟩, none, h => cases h
  | some ⟨b, o, some k⟩, none, h => cases h
  | some ⟨b, o, none⟩, some ⟨b', o', none⟩, h => simp [encA] at h; obtain ⟨h1, h2⟩ := h; obtain rfl : b = b' := (by omega); obtain rfl : o = o' := (by omega); rfl
  | some ⟨b, o, none⟩, some ⟨b', o', some k⟩, h => simp [encA] at h
  | some ⟨b, o, some k⟩, some ⟨b', o', none⟩, h => simp [encA] at h
  | some ⟨b, o, some k⟩, some ⟨b', o', some k'⟩, h => simp [encA] at h; obtain ⟨h1, h2, h3⟩ := h; obtain rfl : b = b' := (by omega); obtain rfl : o = o' := (by omega); obtain rfl : k = k' := (by omega); rfl
theorem slR_inj {v : Value} {a : Option Addr} {n c : Nat} {ps : List MemPlace} (h : slR v = some (slD a n c, ps)) : v = .slice a n c := by
  cases v with
  | slice a' n' c' =>
    simp only [slR, Option.some.injEq, Prod.mk.injEq] at h
    have h1 := h.1
    simp only [slD, DataW.agg.injEq, List.cons.injEq, DataW.lit.injEq, Lit.int.injEq, and_true, true_and] at h1
    obtain ⟨e1, e2, e3⟩ := h1
    rw [encA_inj e1, show n' = n by omega, show c' = c by omega]
  | _ => cases h
/-- A slice's value. -/
abbrev SlV := Option Addr × Nat × Nat
def slV (s : SlV) : Value := .slice s.1 s.2.1 s.2.2
def sl0 : SlV := (none, 0, 0)
theorem slR_v (s : SlV) : slR (slV s) = some (slD s.1 s.2.1 s.2.2, []) := rfl
/-- Block b is a map that has vs, by numbers from o on. -/
structure MapF (w : World) (b : Nat) (o : Int) (vs : List SlV) : Prop where
  ex : ∃ D : DataW Unit, w.ownsMap Tryd.prog 3 slR b vs.length D ∧ Maps.size D = vs.length ∧ (∀ i : Int, Maps.has D (.int .i64 i) = decide (o ≤ i ∧ i < o + vs.length)) ∧ ∀ j, j < vs.length → ∀ z, D.atKey (.int .i64 (o + j)) z = slD (vs.getD j sl0).1 (vs.getD j sl0).2.1 (vs.getD j sl0).2.2
  lo : 0 ≤ o
  hi : o + vs.length ≤ 1000000000
theorem keyI : Maps.Keyed Tryd.prog 3 := Maps.int_keyed Tryd.underlying3
theorem keyI_mk {i : Int} (h0 : 0 ≤ i) (h1 : i ≤ 1000000000) : keyOf Tryd.prog 3 (.int .i64 i) = some (.int .i64 i) := Maps.keyOf_int_mk Tryd.underlying3 (by simp [Lit.wf, IntKind.min, IntKind.max, IntKind.signed, IntKind.bits]; omega)
theorem zeroSl (w : World) : (zeroValue 22).run Tryd.prog w = .ok (.slice none 0 0) w := by kernel_rfl
theorem litI_key {i : Int} : WideAt.IsKeyLit (Lit.int .i64 i) := trivial
theorem litI_ne {i j : Int} (h : i ≠ j) : Lit.int .i64 i ≠ Lit.int .i64 j := fun e => h (by injection e)
theorem MapF.kept {w w' : World} {b : Nat} {o : Int} {vs : List SlV} (h : MapF w b o vs) {row : Option Nat} (hg : w.grownBy w' row) (hne : some b ≠ row) : MapF w' b o vs := by
  obtain ⟨D, h1, h2⟩ := h.ex
  exact ⟨⟨D, h1.kept hg hne, h2⟩, h.lo, h.hi⟩
theorem MapF.below {w w' : World} {b : Nat} {o : Int} {vs : List SlV} (h : MapF w b o vs) (hb : Below w.heap.size w w') : MapF w' b o vs := h.kept (row := none) ⟨hb.os, hb.tape, hb.output, hb.size, fun k hk _ => hb.block k hk⟩ (by simp)
theorem MapF.blk {w w' : World} {b : Nat} {o : Int} {vs : List SlV} (h : MapF w b o vs) (hk : w'.heap[b]? = w.heap[b]?) : MapF w' b o vs := by
  obtain ⟨D, ⟨es, clock, hb, F, hs, hD⟩, h2⟩ := h.ex
  exact ⟨⟨D, ⟨es, clock, hk.trans hb, F, hs, hD⟩, h2⟩, h.lo, h.hi⟩
theorem MapF.lt {w : World} {b : Nat} {o : Int} {vs : List SlV} (h : MapF w b o vs) : b < w.heap.size := by
  obtain ⟨D, h1, _⟩ := h.ex; exact h1.lt
theorem MapF.made (w : World) : MapF (w.alloc (.map #[] 0)) w.heap.size 0 [] :=
  ⟨⟨.map [], World.ownsMap_made w _ _ _, rfl, fun i => by rw [decide_eq_false (by simp)]; rfl, fun j hj => absurd hj (Nat.not_lt_zero j)⟩, by omega, by simp⟩
theorem MapF.len {w : World} {b : Nat} {o : Int} {vs : List SlV} (h : MapF w b o vs) (ty : TypeId) : (Builtin.len_ #[116] ty #[.map (some b)]).run Tryd.prog w = .ok (.int .i64 vs.length) w := by
  obtain ⟨D, h1, h2, _⟩ := h.ex
  rw [h1.len Tryd.underlying116 ty, h2]
theorem MapF.look {w : World} {b : Nat} {o : Int} {vs : List SlV} (h : MapF w b o vs) {j : Nat} (hj : j < vs.length) : (Instr.lookup 116 (.map (some b)) (.int .i64 (o + j)) false).run Tryd.prog w = .ok (slV (vs.getD j sl0)) w := by
  obtain ⟨D, h1, h2, h3, h4⟩ := h.ex
  have := h.lo; have := h.hi
  obtain ⟨v, ps, hrun, hv⟩ := h1.lookup keyI Tryd.underlying116 (zeroSl w) (show slR (.slice none 0 0) = some (slD none 0 0, []) from rfl) (keyI_mk (i := o + j) (by omega) (by omega))
  rw [h4 j hj] at hv
  rw [hrun, slR_inj hv]; rfl
theorem fit_size {w : World} {b n : Nat} {D : DataW Unit} (h : w.ownsMap Tryd.prog 3 slR b n D) {m : Nat} (hm : Maps.size D ≤ m) : w.ownsMap Tryd.prog 3 slR b m D := by
  obtain ⟨es, clock, hb, F, hs, rfl⟩ := h
  refine ⟨es, clock, hb, F, ?_, rfl⟩
  simpa [Maps.size, length_sorted] using hm
theorem getD_app1 (us : List SlV) (v : SlV) (j : Nat) : (us ++ [v]).getD j sl0 = if j < us.length then us.getD j sl0 else if j = us.length then v else sl0 := by
  rw [List.getD]
  split
  · rename_i h; rw [List.getElem?_append_left h, List.getD]
  · split
    · rename_i h; rw [h, List.getElem?_append_right (Nat.le_refl _), Nat.sub_self]; rfl
    · rw [List.getElem?_eq_none (by simp; omega)]; rfl
/-- A text comes by the next number. -/
theorem MapF.push {w : World} {b : Nat} {o : Int} {vs : List SlV} (h : MapF w b o vs) (v : SlV) (hn : o + vs.length + 1 ≤ 1000000000) : ∃ w', (Instr.mapUpdate 116 (.map (some b)) (.int .i64 (o + vs.length)) (slV v)).run Tryd.prog w = .ok () w' ∧ MapF w' b o (vs ++ [v]) ∧ w.grownBy w' (some b) := by
  obtain ⟨D, h1, h2, h3, h4⟩ := h.ex
  have hlo := h.lo; have hhi := h.hi
  obtain ⟨w', hrun, ho, hg⟩ := h1.update keyI Tryd.underlying116 (by unfold maxLen; omega) (keyI_mk (i := o + vs.length) (by omega) (by omega)) (slR_v v)
  have hT := h1.tidy keyI
  have hM := hT.isMap
  have hnot : Maps.has D (.int .i64 (o + vs.length)) = false := by rw [h3]; exact decide_eq_false (by omega)
  have hsz : Maps.size (D.put (.int .i64 (o + vs.length)) (slD v.1 v.2.1 v.2.2)) = vs.length + 1 := by rw [Maps.size_put hT, hnot, h2]; rfl
  refine ⟨w', hrun, ⟨⟨_, fit_size ho (by rw [hsz]; simp), by rw [hsz]; simp, fun i => ?_, fun j hj z => ?_⟩, hlo, by simp; omega⟩, hg⟩
  · rw [List.length_append, List.length_singleton]
    by_cases hi : i = o + vs.length
    · subst hi
      rw [Maps.has_put_same hM litI_key]
      exact (decide_eq_true (by omega)).symm
    · rw [Maps.has_put_other (litI_ne hi), h3, Bool.eq_iff_iff, decide_eq_true_eq, decide_eq_true_eq]
      omega
  · rw [List.length_append, List.length_singleton] at hj
    rw [getD_app1]
    by_cases hjl : j < vs.length
    · rw [if_pos hjl, Maps.atKey_put_other (litI_ne (by omega)), h4 j hjl]
    · obtain rfl : j = vs.length := by omega
      rw [if_neg hjl, if_pos rfl, Maps.atKey_put_same hM litI_key]
/-- A text comes in the newest one's place. -/
theorem MapF.last {w : World} {b : Nat} {o : Int} {us : List SlV} {u : SlV} (h : MapF w b o (us ++ [u])) (v : SlV) : ∃ w', (Instr.mapUpdate 116 (.map (some b)) (.int .i64 (o + us.length)) (slV v)).run Tryd.prog w = .ok () w' ∧ MapF w' b o (us ++ [v]) ∧ w.grownBy w' (some b) := by
  obtain ⟨D, h1, h2, h3, h4⟩ := h.ex
  have hlo := h.lo; have hhi := h.hi
  have hl : (us ++ [u]).length = us.length + 1 := by simp
  have hl2 : (us ++ [v]).length = us.length + 1 := by simp
  rw [hl] at h1 h2 h3 h4 hhi
  obtain ⟨w', hrun, ho, hg⟩ := h1.update keyI Tryd.underlying116 (by unfold maxLen; omega) (keyI_mk (i := o + us.length) (by omega) (by omega)) (slR_v v)
  have hT := h1.tidy keyI
  have hM := hT.isMap
  have hyes : Maps.has D (.int .i64 (o + us.length)) = true := by rw [h3]; exact decide_eq_true (by omega)
  have hsz : Maps.size (D.put (.int .i64 (o + us.length)) (slD v.1 v.2.1 v.2.2)) = us.length + 1 := by rw [Maps.size_put hT, hyes, h2]; rfl
  refine ⟨w', hrun, ⟨⟨_, fit_size ho (by rw [hsz, hl2]; exact Nat.le_refl _), by rw [hsz, hl2], fun i => ?_, fun j hj z => ?_⟩, hlo, by rw [hl2]; exact hhi⟩, hg⟩
  · rw [hl2]
    by_cases hi : i = o + us.length
    · subst hi
      rw [Maps.has_put_same hM litI_key]
      exact (decide_eq_true (by omega)).symm
    · rw [Maps.has_put_other (litI_ne hi), h3]
  · rw [hl2] at hj
    rw [getD_app1]
    by_cases hjl : j < us.length
    · rw [if_pos hjl, Maps.atKey_put_other (litI_ne (by omega)), h4 j (by omega), getD_app1, if_pos hjl]
    · obtain rfl : j = us.length := by omega
      rw [if_neg hjl, if_pos rfl, Maps.atKey_put_same hM litI_key]
/-- The oldest text goes. -/
theorem MapF.drop {w : World} {b : Nat} {o : Int} {us : List SlV} {u : SlV} (h : MapF w b o (u :: us)) (ty : TypeId) : ∃ w', (Builtin.delete_ #[116, 3] ty #[.map (some b), .int .i64 o]).run Tryd.prog w = .ok (.tuple #[]) w' ∧ MapF w' b (o + 1) us ∧ w.grownBy w' (some b) := by
  obtain ⟨D, h1, h2, h3, h4⟩ := h.ex
  have hlo := h.lo; have hhi := h.hi
  rw [List.length_cons] at h1 h2 h3 h4 hhi
  obtain ⟨w', hrun, ho, hg⟩ := h1.drop keyI Tryd.underlying116 (keyI_mk (i := o) (by omega) (by omega)) ty
  have hT := h1.tidy keyI
  have hyes : Maps.has D (.int .i64 o) = true := by rw [h3]; exact decide_eq_true (by omega)
  have hsz : Maps.size (D.del (.int .i64 o)) = us.length := by
    have := Maps.size_del (k := .int .i64 o) hT
    rw [hyes, h2] at this
    simpa using this
  refine ⟨w', hrun, ⟨⟨_, fit_size ho (by rw [hsz]; exact Nat.le_refl _), hsz, fun i => ?_, fun j hj z => ?_⟩, by omega, by omega⟩, hg.grown⟩
  · by_cases hi : i = o
    · subst hi
      rw [Maps.has_del_same]
      exact (decide_eq_false (by omega)).symm
    · rw [Maps.has_del_other (litI_ne hi), h3, Bool.eq_iff_iff, decide_eq_true_eq, decide_eq_true_eq]
      omega
  · have := h4 (j + 1) (by omega) z
    rw [Maps.atKey_del_other (litI_ne (by omega)), show o + 1 + (j : Int) = o + ((j + 1 : Nat) : Int) by omega, this]
    rfl
end Go.Proofs.YtdnmjofenckndaaDoor
set_option linter.unusedVariables false
set_option linter.unusedSimpArgs false
namespace Go.Proofs.YtdnmjofenckndaaDoor
open Go.RowKit
abbrev Sn := Int × Int
/-- The room of a buffer: none, or a block of its own. -/
def RoomIn (p : Nat) (v : Value) (R : List Sn) (w : World) : Prop :=
  (v = .slice none 0 0 ∧ R = []) ∨ ∃ r, v = .slice (some ⟨r, 0, none⟩) R.length R.length ∧ r ≠ p ∧ w.heap[r]? = some (.cells (sRow R) 39 (0, 0))
/-- A buffer's signs. -/
def gsL (R : List Sn) (a e : Nat) : List Sn := R.take a ++ R.drop e
theorem gsL_len (R : List Sn) (a e : Nat) (h1 : a ≤ e) (h2 : e ≤ R.length) : (gsL R a e).length = R.length - (e - a) := by
  unfold gsL; rw [List.length_append, List.length_take, List.length_drop]; omega
/-- What a call of a buffer leaves: all blocks but its own two. -/
structure Kept (p : Nat) (v : Value) (w w' : World) : Prop where
  os : w'.os = w.os
  tape : w'.tape = w.tape
  output : w'.output = w.output
  size : w.heap.size ≤ w'.heap.size
  block : ∀ k, k < w.heap.size → k ≠ p → some k ≠ v.ownBlock → w'.heap[k]? = w.heap[k]?
theorem Kept.of {p : Nat} {v : Value} {w w' : World} (h : Below w.heap.size w w') : Kept p v w w' := ⟨h.os, h.tape, h.output, h.size, fun k hk _ _ => h.block k hk⟩
theorem Kept.set {p : Nat} {v : Value} {w w' : World} (h : Kept p v w w') (i : Nat) (u : Value) : Kept p v w (w'.setCell ⟨p, i, none⟩ u) :=
  ⟨h.os, h.tape, h.output, by have := h.size; simpa [World.setCell] using this, fun k hk hne hv => (Below.heap_setCell _ _ _ _ hne).trans (h.block k hk hne hv)⟩
theorem Kept.drew {p : Nat} {v : Value} {w w' : World} (h : Kept p v w w') (n : Nat) : Kept p v w (w'.drewN n) := by
  induction n with
  | zero => exact h
  | succ n ih => exact ⟨ih.os, ih.tape, ih.output, ih.size, ih.block⟩
theorem Kept.trans {p : Nat} {v v' : Value} {w w1 w2 : World} (h : Kept p v w w1) (k : Kept p v' w1 w2) (hv : v'.ownBlock = v.ownBlock ∨ ∀ r, v'.ownBlock = some r → w.heap.size ≤ r) : Kept p v w w2 :=
  ⟨k.os.trans h.os, k.tape.trans h.tape, k.output.trans h.output, Nat.le_trans h.size k.size, fun j hj hne hjv => by
    refine (k.block j (Nat.lt_of_lt_of_le hj h.size) hne (fun e => ?_)).trans (h.block j hj hne hjv)
    rcases hv with hv | hv
    · exact hjv (e.trans hv)
    · have := hv j e.symm; omega⟩
/-- Behind a call of a buffer that is not as old as B, what is older stays. -/
theorem Kept.below {p : Nat} {v : Value} {B : Nat} {w0 w w' : World} (h : Kept p v w w') (hb : Below B w0 w) (hB : B ≤ w.heap.size) (hp : B ≤ p) (hv : ∀ r, v.ownBlock = some r → B ≤ r) : Below B w0 w' :=
  hb.trans ⟨h.os, h.tape, h.output, h.size, fun k hk => h.block k (by omega) (by omega) (fun e => by have := hv k e.symm; omega)⟩
theorem RoomIn.keep {p : Nat} {v : Value} {R : List Sn} {w w' : World} (h : RoomIn p v R w) (hk : ∀ r, v.ownBlock = some r → w'.heap[r]? = w.heap[r]?) : RoomIn p v R w' := by
  rcases h with h | ⟨r, rfl, h1, h2⟩
  · exact Or.inl h
  · exact Or.inr ⟨r, rfl, h1, (hk r rfl).trans h2⟩
theorem RoomIn.lt {p : Nat} {v : Value} {R : List Sn} {w : World} (h : RoomIn p v R w) : ∀ r, v.ownBlock = some r → r < w.heap.size := by
  rcases h with ⟨rfl, _⟩ | ⟨r, rfl, _, h2⟩
  · intro r e; cases e
  · intro r' e; cases e; exact blk_lt h2
theorem RoomIn.ne {p : Nat} {v : Value} {R : List Sn} {w : World} (h : RoomIn p v R w) : ∀ r, v.ownBlock = some r → r ≠ p := by
  rcases h with ⟨rfl, _⟩ | ⟨r, rfl, h1, _⟩
  · intro r e; cases e
  · intro r' e; cases e; exact h1
theorem RoomIn.below {p : Nat} {v : Value} {R : List Sn} {w w' : World} (h : RoomIn p v R w) (hb : Below w.heap.size w w') : RoomIn p v R w' :=
  h.keep fun r e => hb.block r (h.lt r e)
theorem RoomIn.set {p : Nat} {v : Value} {R : List Sn} {w : World} (h : RoomIn p v R w) (i : Nat) (u : Value) : RoomIn p v R (w.setCell ⟨p, i, none⟩ u) :=
  h.keep fun r e => Below.heap_setCell _ _ _ _ (h.ne r e)
end Go.Proofs.YtdnmjofenckndaaDoor
set_option linter.unusedVariables false
set_option linter.unusedSimpArgs false
namespace Go.Proofs.YtdnmjofenckndaaDoor
open Go.RowKit
set_option maxHeartbeats 1000000 in
theorem sgright_ref (v l : Int) (w : World) : Calls Tryd.prog 158 #[.agg #[.int .i64 v, .int .i64 l]] w fun e w' => e = .returned (.bool (sgR v l)) ∧ Below w.heap.size w w' := by
  have R := fun w => right_ref v w
  have hb := below_alloc w (.cells #[.int .i64 v, .int .i64 l] 39)
  cases hr : rightB v
  · have e : Hid (sgR v l = false) := Lib.hid (by unfold sgR; rw [hr]; simp)
    rw [hr] at R
    replace R := Lib.hid R
    go_enter Tryd.func158, Tryd.ntmps158
    go_wp2_with (go_at_call 217; refine (R.out _).mono ?_; rintro e w1 ⟨rfl, rfl⟩)
    go_ret
    rw [e.out]; exact ⟨rfl, hb⟩
  · rw [hr] at R
    replace R := Lib.hid R
    by_cases h0 : 0 ≤ l
    · by_cases h5 : l ≤ 5
      · have e : Hid (sgR v l = true) := Lib.hid (by unfold sgR; rw [decide_eq_true h0, decide_eq_true h5, hr]; simp)
        clear hr
        go_enter Tryd.func158, Tryd.ntmps158
        go_wp2_with (go_at_call 217; refine (R.out _).mono ?_; rintro e w1 ⟨rfl, rfl⟩)
        go_ret
        rw [e.out]; exact ⟨rfl, hb⟩
      · have e : Hid (sgR v l = false) := Lib.hid (by unfold sgR; rw [decide_eq_false h5]; simp)
        have h5d := decide_eq_false h5
        clear hr
        go_enter Tryd.func158, Tryd.ntmps158
        go_wp2_with (go_at_call 217; refine (R.out _).mono ?_; rintro e w1 ⟨rfl, rfl⟩)
        go_ret
        rw [e.out]; exact ⟨by first | rfl | (rw [h5d]; rfl) | exact ret_boolU h5d, hb⟩
    · have e : Hid (sgR v l = false) := Lib.hid (by unfold sgR; rw [decide_eq_false h0]; simp)
      clear hr
      go_enter Tryd.func158, Tryd.ntmps158
      go_wp2_with (go_at_call 217; refine (R.out _).mono ?_; rintro e w1 ⟨rfl, rfl⟩)
      go_ret
      rw [e.out]; exact ⟨rfl, hb⟩
set_option maxHeartbeats 1000000 in
theorem sgall_ref (l : List (Int × Int)) (a : Option Addr) (c : Nat) (w : World) (hl : l.length ≤ 1000000) (hs : Signs w a l) :
    Calls Tryd.prog 76 #[.slice a l.length c] w fun e w' => e = .returned (.bool (sgC l)) ∧ Below w.heap.size w w' := by
  have HS := Lib.hid hs; clear hs
  go_enter Tryd.func76, Tryd.ntmps76
  go_wp2
  go_loopw [3] (fun iv wr => ∃ k : Nat, k ≤ l.length ∧ iv = .int .i64 (k : Int) ∧ Hid (∀ j, j < k → sgR (l.getD j (0, 0)).1 (l.getD j (0, 0)).2 = true) ∧ Below w.heap.size w wr) (fun iv _ => l.length - (intOf iv).toNat)
  case atStart => exact ⟨0, Nat.zero_le _, rfl, Lib.hid (fun j hj => absurd hj (by omega)), Below.refl _ _⟩
  case round =>
    obtain ⟨k, hk, rfl, hall, hb⟩ := hrel
    by_cases hlt : k < l.length
    · obtain ⟨b, off, rfl, hblk, c1, c2⟩ := (HS.out.below hb) k hlt
      have hk1 : (k : Int) < l.length := by omega
      have hk0 : (0 : Int) ≤ k := by omega
      have R := fun w => sgright_ref (l.getD k (0, 0)).1 (l.getD k (0, 0)).2 w
      have hin := getD_mem hlt
      cases hr : sgR (l.getD k (0, 0)).1 (l.getD k (0, 0)).2
      · have HF : Hid (sgC l = false) := Lib.hid (by unfold sgC; rw [List.all_eq_false]; exact ⟨_, hin, by rw [hr]; simp⟩)
        rw [hr] at R
        generalize (l.getD k (0, 0)).1 = v at *
        generalize (l.getD k (0, 0)).2 = u at *
        replace R := Lib.hid R
        clear hin hr
        go_wp2_with (go_at_call 158; refine (R.out _).mono ?_; rintro e w1 ⟨rfl, hb1⟩)
        go_ret
        rw [HF.out]
        exact ⟨rfl, hb.trans (hb1.mono hb.size)⟩
      · have HF : Hid (∀ j, j < k + 1 → sgR (l.getD j (0, 0)).1 (l.getD j (0, 0)).2 = true) := Lib.hid (by
          intro j hj
          rcases Nat.lt_succ_iff_lt_or_eq.1 hj with h | rfl
          · exact hall.out j h
          · exact hr)
        rw [hr] at R
        generalize (l.getD k (0, 0)).1 = v at *
        generalize (l.getD k (0, 0)).2 = u at *
        replace R := Lib.hid R
        clear hin hr
        go_wp2_with (go_at_call 158; refine (R.out _).mono ?_; rintro e w1 ⟨rfl, hb1⟩)
        go_roundw
        case rel => exact ⟨k + 1, by omega, by go_num, HF, hb.trans (hb1.mono hb.size)⟩
        case measure => (simp [intOf]; try omega)
    · obtain rfl : k = l.length := by omega
      have HF : Hid (sgC l = true) := Lib.hid (by
        unfold sgC; rw [List.all_eq_true]; intro p hp
        obtain ⟨j, hj, rfl⟩ := List.getElem_of_mem hp
        have := hall.out j hj
        rwa [List.getD, List.getElem?_eq_getElem hj] at this)
      go_wp2
      go_ret
      rw [HF.out]
      exact ⟨rfl, hb⟩
theorem sn_ext {l m : List Sn} (h : l.length = m.length) (hh : ∀ j, j < l.length → l.getD j (0, 0) = m.getD j (0, 0)) : l = m := by
  apply List.ext_getElem h
  intro j h1 h2
  have := hh j h1
  simpa [List.getD, List.getElem?_eq_getElem h1, List.getElem?_eq_getElem h2] using this
set_option maxHeartbeats 1000000 in
theorem sgsame_ref (l m : List Sn) (a b : Option Addr) (c d : Nat) (w : World) (hl : l.length ≤ 9223372036854775807) (hm : m.length ≤ 9223372036854775807) (hs : Signs w a l) (ht : Signs w b m) :
    Calls Tryd.prog 29 #[.slice a l.length c, .slice b m.length d] w fun e w' => e = .returned (.bool (decide (l = m))) ∧ Below w.heap.size w w' := by
  have HS := Lib.hid hs; have HT := Lib.hid ht; clear hs ht
  by_cases hlen : l.length = m.length
  · have hli : (l.length : Int) = (m.length : Int) := by omega
    go_enter Tryd.func29, Tryd.ntmps29
    go_wp2
    go_loopw [5] (fun iv wr => ∃ k : Nat, k ≤ l.length ∧ iv = .int .i64 (k : Int) ∧ Hid (∀ j, j < k → l.getD j (0, 0) = m.getD j (0, 0)) ∧ Below w.heap.size w wr) (fun iv _ => l.length - (intOf iv).toNat)
    case atStart => exact ⟨0, Nat.zero_le _, rfl, Lib.hid (fun j hj => absurd hj (by omega)), Below.refl _ _⟩
    case round =>
      obtain ⟨k, hk, rfl, hall, hb⟩ := hrel
      by_cases hlt : k < l.length
      · obtain ⟨b1, o1, rfl, hblk1, c1, c2⟩ := (HS.out.below hb) k hlt
        obtain ⟨b2, o2, rfl, hblk2, d1, d2⟩ := (HT.out.below hb) k (by omega)
        have hk1 : (k : Int) < l.length := by omega
        have hk2 : (k : Int) < m.length := by omega
        have hk0 : (0 : Int) ≤ k := by omega
        obtain ⟨x, hx⟩ : ∃ x, l.getD k (0, 0) = x := ⟨_, rfl⟩
        obtain ⟨y, hy⟩ : ∃ y, m.getD k (0, 0) = y := ⟨_, rfl⟩
        rw [hx] at c1 c2
        rw [hy] at d1 d2
        by_cases he : x = y
        · have HF : Hid (∀ j, j < k + 1 → l.getD j (0, 0) = m.getD j (0, 0)) := Lib.hid (by
            intro j hj
            rcases Nat.lt_succ_iff_lt_or_eq.1 hj with h | rfl
            · exact hall.out j h
            · rw [hx, hy, he])
          clear hall hx hy
          subst he
          obtain ⟨x1, x2⟩ := x
          dsimp at c1 c2 d1 d2
          go_wp2
          go_quiet (fail)
          go_wp2
          go_roundw
          case rel => exact ⟨k + 1, by omega, by go_num, HF, drewN_below hb _⟩
          case measure => (simp [intOf]; try omega)
        · have HF : Hid (decide (l = m) = false) := Lib.hid (decide_eq_false fun e => he (by rw [← hx, ← hy, e]))
          clear hall hx hy
          obtain ⟨x1, x2⟩ := x
          obtain ⟨y1, y2⟩ := y
          have he2 : ¬ (x1 = y1 ∧ x2 = y2) := fun h => he (by rw [h.1, h.2])
          dsimp at c1 c2 d1 d2
          clear he
          by_cases h1 : x1 = y1
          · subst h1
            have h2 : ¬ x2 = y2 := fun h => he2 ⟨rfl, h⟩
            clear he2
            go_wp2
            go_quiet (fail)
            go_wp2
            go_ret
            rw [HF.out]; exact ⟨rfl, drewN_below hb _⟩
          · clear he2
            go_wp2
            go_quiet (fail)
            go_wp2
            go_ret
            rw [HF.out]; exact ⟨rfl, drewN_below hb _⟩
      · obtain rfl : k = l.length := by omega
        have HF : Hid (decide (l = m) = true) := Lib.hid (decide_eq_true (sn_ext hlen hall.out))
        clear hall
        go_wp2
        go_ret
        rw [HF.out]
        exact ⟨rfl, hb⟩
  · have hne : decide (l = m) = false := decide_eq_false (fun e => hlen (by rw [e]))
    rw [hne]
    go_enter Tryd.func29, Tryd.ntmps29
    go_wp2
    go_ret
    exact ⟨rfl, Below.refl _ _⟩
end Go.Proofs.YtdnmjofenckndaaDoor
set_option linter.unusedVariables false
set_option linter.unusedSimpArgs false
namespace Go.Proofs.YtdnmjofenckndaaDoor
open Go.RowKit
theorem strange_any (v l : Int) (w : World) : Calls Tryd.prog 212 #[.agg #[.int .i64 v, .int .i64 l]] w fun e w' => e = .returned (.bool (decide (2 ≤ l))) ∧ Below w.heap.size w w' := by
  have hb := below_alloc w (.cells #[.int .i64 v, .int .i64 l] 39)
  go_enter Tryd.func212, Tryd.ntmps212
  go_wp2
  go_ret
  exact ⟨rfl, hb⟩
theorem own_row {w : World} {B : Nat} {v : Value} {l : List Int} (h : w.ownsRow B 3 1 v l.length (l.map (Value.int .i64))) : ∃ a cap, v = .slice a l.length cap ∧ Row w a l := by
  rcases h.2 with ⟨rfl, h0⟩ | ⟨g, cap, cur, rfl, _, hg, _⟩
  · exact ⟨none, 0, by rw [h0], fun j hj => by omega⟩
  · refine ⟨_, cap, rfl, fun j hj => ⟨g, 0, rfl, ?_, blk_lt hg⟩⟩
    have := h.cells (g := g) rfl j (.int .i64 (l.getD j 0)) (by simp [List.getElem?_eq_getElem hj, List.getD])
    have hadd : (⟨g, 0, none⟩ : Addr).add j = ⟨g, 0 + j, none⟩ := by unfold Addr.add; split <;> simp_all
    rw [← hadd]; exact this
theorem row_below {w w' : World} {a : Option Addr} {l : List Int} (h : Row w a l) (hb : Below w.heap.size w w') : Row w' a l := fun j hj => by
  obtain ⟨b, off, e, h1, h2⟩ := h j hj
  exact ⟨b, off, e, (hb.cell (p := ⟨b, off + j, none⟩) h2).trans h1, Nat.lt_of_lt_of_le h2 hb.size⟩
/-- A text's signs. -/
def sOf (u : Int) (s : ByteArray) : List (Int × Int) := (valsS s).map fun v => (v, u)
def ofL (l : List Int) (u : Int) (k : Nat) : List (Int × Int) := (l.take k).map (fun v => (v, u)) ++ List.replicate (l.length - k) (0, 0)
theorem ofL_len (l : List Int) (u : Int) (k : Nat) (h : k ≤ l.length) : (ofL l u k).length = l.length := by simp [ofL]; omega
set_option maxRecDepth 100000 in
set_option maxHeartbeats 1000000 in
theorem sof_any (u : Int) (s : ByteArray) (w : World) (hT : UT w) (hs : s.size ≤ 1000000) (hv : (valsS s).length ≤ 1000000) :
    Calls Tryd.prog 77 #[.int .i64 u, .string s] w fun e w' => ∃ g, e = .returned (.slice (some ⟨g, 0, none⟩) (sOf u s).length (sOf u s).length) ∧ w.heap.size ≤ g ∧ w'.heap[g]? = some (.cells (sRow (sOf u s)) 39 (0, 0)) ∧ Below w.heap.size w w' := by
  obtain ⟨i0, hi, hz0, hz1, hz2⟩ := info_parts infoSign
  have D := Lib.hid (decode_any s w hT hs)
  have hso : sOf u s = (valsS s).map fun v => (v, u) := rfl
  generalize valsS s = l at *
  rw [hso, List.length_map]
  clear hso
  have hmk := make_rowN (P := Tryd.prog) 22 39 i0 _ Tryd.underlying22 hi hz0 l.length (by rw [hz2]; omega) (by omega)
  rw [hz1] at hmk
  have hmade : madeCells (Value.agg #[.int .i64 0, .int .i64 0]).cells (l.length * 2) = sRow (ofL l u 0) := by rw [show (Value.agg #[.int .i64 0, .int .i64 0]).cells = #[.int .i64 0, .int .i64 0] from rfl, made_signs]; simp [ofL]
  rw [hmade] at hmk
  go_enter Tryd.func77, Tryd.ntmps77
  go_wp2_with (go_at_call 159; refine D.out.mono ?_; rintro e w1 ⟨v, rfl, hown, hb1⟩; obtain ⟨a, cap, rfl, hr⟩ := own_row hown; have HR := Lib.hid hr; clear hr hown)
  have hsz := hb1.size
  go_loopw [16] (fun iv wr => ∃ k : Nat, k ≤ l.length ∧ iv = .int .i64 (k : Int) ∧ wr.heap[w1.heap.size]? = some (.cells (sRow (ofL l u k)) 39 (0, 0)) ∧ Below w1.heap.size w1 wr) (fun iv _ => l.length - (intOf iv).toNat)
  case atStart => exact ⟨0, Nat.zero_le _, rfl, heap_alloc_new _ _, below_alloc _ _⟩
  case round =>
    obtain ⟨k, hk, rfl, hown, hb⟩ := hrel
    by_cases hlt : k < l.length
    · obtain ⟨b, off, rfl, c1, hblk⟩ := (row_below HR.out hb) k hlt
      have hk1 : (k : Int) < l.length := by omega
      have hk0 : (0 : Int) ≤ k := by omega
      have hnext := put_snoc l (fun v : Int => (v, u)) (0, 0) 0 k hlt
      have hlen := ofL_len l u k hk
      have s12 := sg_cells hown (k := k) (by rw [hlen]; exact hlt)
      have s1 := s12.1
      have s2 := s12.2
      have f12 := fun i => frozen_of_row wr w1.heap.size i _ _ hown
      generalize l.getD k 0 = x at *
      generalize (ofL l u k).getD k (0, 0) = q at *
      have Hset : Hid ((ofL l u k).set k (x, u) = ofL l u (k + 1)) := Lib.hid hnext
      have Hset2 := Lib.hid (sRow_set (ofL l u k) k (x, u) (by rw [hlen]; exact hlt))
      have Hlen := Lib.hid hlen
      clear hnext hlen s12
      go_wp2
      go_roundw
      case rel => exact ⟨k + 1, by omega, by go_num, by rw [← Hset.out, ← Hset2.out]; exact blk_set (blk_set hown _ _) _ _, (hb.setCell (Nat.le_refl _) _).setCell (Nat.le_refl _) _⟩
      case measure => simp [intOf]; omega
    · obtain rfl : k = l.length := by omega
      have hfin : ofL l u l.length = l.map fun v => (v, u) := by unfold ofL; rw [List.take_length, Nat.sub_self, List.replicate_zero, List.append_nil]
      rw [hfin] at hown
      clear hfin hmade
      go_wp2
      go_ret
      exact ⟨w1.heap.size, rfl, hsz, hown, seqB hb1 hb⟩
/-- The same signs? -/
def sgS (a b : List (Int × Int)) : Bool := decide (a = b)
set_option maxRecDepth 100000 in
set_option maxHeartbeats 1000000 in
theorem same1_any (v u x y : Int) (w : World) : Calls Tryd.prog 223 #[.agg #[.int .i64 v, .int .i64 u], .agg #[.int .i64 x, .int .i64 y]] w fun e w' => e = .returned (.bool (decide ((v, u) = (x, y)))) ∧ Below w.heap.size w w' := by
  have hb := seqB (below_alloc w (.cells #[.int .i64 v, .int .i64 u] 39)) (below_alloc _ (.cells #[.int .i64 x, .int .i64 y] 39))
  by_cases h1 : v = x
  · by_cases h2 : u = y
    · have e : Hid (decide ((v, u) = (x, y)) = true) := Lib.hid (by rw [h1, h2]; simp)
      have b1 : (v == x) = true := by rw [h1]; simp
      have b2 : (u == y) = true := by rw [h2]; simp
      rw [e.out]
      clear h1 h2 e
      go_enter Tryd.func223, Tryd.ntmps223
      go_wp2
      go_ret
      exact ⟨rfl, hb⟩
    · have e : Hid (decide ((v, u) = (x, y)) = false) := Lib.hid (by simp; intro _; exact h2)
      have b1 : (v == x) = true := by rw [h1]; simp
      have b2 : (u == y) = false := by simpa using h2
      rw [e.out]
      clear h1 h2 e
      go_enter Tryd.func223, Tryd.ntmps223
      go_wp2
      go_ret
      exact ⟨rfl, hb⟩
  · have e : Hid (decide ((v, u) = (x, y)) = false) := Lib.hid (by simp; intro h; exact absurd h h1)
    have b1 : (v == x) = false := by simpa using h1
    rw [e.out]
    clear h1 e
    go_enter Tryd.func223, Tryd.ntmps223
    go_wp2
    go_ret
    exact ⟨rfl, hb⟩
end Go.Proofs.YtdnmjofenckndaaDoor
set_option linter.unusedVariables false
set_option linter.unusedSimpArgs false
namespace Go.Proofs.YtdnmjofenckndaaDoor
open Go.RowKit
theorem OwS.mono {w : World} {B B' : Nat} {v : Value} {L : List (Int × Int)} (h : OwS w B v L) (hB : B' ≤ B) : OwS w B' v L := World.ownsRow.mono h hB
theorem ows_keep {w w' : World} {B : Nat} {v : Value} {L : List (Int × Int)} (h : OwS w B v L) (hb : Below w.heap.size w w') : OwS w' B v L := by
  refine World.ownsRow.kept h (row := none) ⟨hb.os, hb.tape, hb.output, hb.size, fun k hk _ => hb.block k hk⟩ ?_
  cases v.ownBlock <;> simp
theorem ows_nil (w : World) (B : Nat) : OwS w B (.slice none 0 0) [] := World.ownsRow_nil _ _ _ _
set_option maxHeartbeats 2000000 in
theorem clone_sg (l : List (Int × Int)) (a : Option Addr) (n c : Nat) (S : Nat → Prop) (w : World) (hn : l.length = n) (hl : n ≤ 100000) (hs : SlS S w a l c) :
    Calls Tryd.prog 92 #[.slice a n c] w fun e w' => ∃ b d, e = .returned (.slice b n d) ∧ OwS w' w.heap.size (.slice b n d) l ∧ Below w.heap.size w w' := by
  have q := fun (w : World) (a : Option Addr) (n c n' c' : Nat) => Lib.run_eql_slice_nil (P := Tryd.prog) w 22 39 a n c n' c' Tryd.underlying22
  cases a with
  | none =>
    have hc := hs.nl rfl
    have hl0 : l = [] := by
      cases l with
      | nil => rfl
      | cons x l => obtain ⟨_, _, e, _⟩ := hs.s 0 (by simp); cases e
    subst hl0
    obtain rfl : 0 = n := hn
    subst hc
    clear hs
    go_enter Tryd.func92, Tryd.ntmps92
    go_wp2
    go_ret
    exact ⟨none, 0, rfl, ows_nil _ _, Below.refl _ _⟩
  | some ad =>
    have N0 := below_alloc w (.cells #[] 39)
    have H0 := Lib.hid (ows_new w)
    have HA := Lib.hid (hs.below N0)
    have HN := Lib.hid hn
    have HB0 := Lib.hid N0
    clear hs hn N0
    obtain ⟨B, hB⟩ : ∃ B, w.heap.size = B := ⟨_, rfl⟩
    have HBq := Lib.hid hB
    rw [hB] at H0
    obtain ⟨W, hW⟩ : ∃ W, w.alloc (.cells #[] 39) = W := ⟨_, rfl⟩
    rw [hW] at H0 HA HB0
    go_enter Tryd.func92, Tryd.ntmps92
    go_wp2_with (at_builtin; refine wpList_app_signs rfl _ _ rfl B _ 0 [] rfl rfl H0.out (some ad) n c l rfl HN.out HA.out.s (fun e => (by cases e)) ?g3 ?g4 ?_)
    case g3 => omega
    case g4 => have := HB0.out.size; have := HBq.out; omega
    intro ad5 c5 w5 o5 g5
    have N5 := Lib.hid (HB0.out.grown g5 HB0.out.size (fun j hj => by simp [Value.ownBlock] at hj; have := HBq.out; omega))
    have HS := Lib.hid (show OwS w5 w.heap.size (.slice ad5 n c5) l by rw [HBq.out]; exact o5)
    clear o5 g5
    go_wp2
    go_ret
    exact ⟨ad5, c5, rfl, HS.out, N5.out⟩
set_option maxHeartbeats 2000000 in
theorem grow_sg (n : Nat) (w : World) (hn : 0 < n) (hl : n ≤ 100000) : Calls Tryd.prog 165 #[.slice none 0 0, .int .i64 (n : Int)] w fun e w' => ∃ b d, e = .returned (.slice b 0 d) ∧ OwS w' w.heap.size (.slice b 0 d) [] ∧ Below w.heap.size w w' := by
  obtain ⟨i0, hi, hz0, hz1, hz2⟩ := info_parts infoSign
  have h1 : ¬ ((n : Int) < 0) := by omega
  have h4 : (0 : Int) < (n : Int) := by omega
  obtain ⟨G, hG⟩ : ∃ G, grownCap w (0 + n) 0 39 = G := ⟨_, rfl⟩
  have hGn : 0 + n ≤ G := by rw [← hG]; exact grownCap_ge w _ _ _
  have hG63 : G ≤ maxLen := by rw [← hG]; exact grownCap_le_maxLen w (0 + n) 0 39 (by unfold maxLen; omega)
  obtain ⟨cs, hcs⟩ : ∃ cs, ([] : List Value).toArray ++ Builtin.zeroCells (Value.agg #[.int .i64 0, .int .i64 0]).cells n ++ Builtin.zeroCells (Value.agg #[.int .i64 0, .int .i64 0]).cells (grownCap w (0 + n) 0 39 - (0 + n)) = cs := ⟨_, rfl⟩
  have hsz : cs.size = G * 2 := by
    rw [← hcs, hG]
    simp only [Array.size_append, size_zeroCells, List.size_toArray, List.length_nil]
    have : (Value.agg #[.int .i64 0, .int .i64 0]).cells.size = 2 := rfl
    rw [this]
    omega
  have hrz : ∀ ty, (Builtin.append_ #[22, 3] ty #[.slice none 0 0, .int .i64 (n : Int)]).run Tryd.prog w = .ok (.slice (some ⟨w.heap.size, 0, none⟩) (0 + n) G) (w.drew.alloc (.cells cs 39)) := fun ty => by
    have h := Lib.run_append_grow_zeros (P := Tryd.prog) w 22 3 ty 39 i0 _ .i64 .i64 Tryd.underlying22 Tryd.underlying3 hi hz0 none 0 0 [] (run_firstCells_none w.drew i0.size 0 0 0) n hn (by omega) (by omega) (by omega) (by rw [hz2]; omega) (growslice_fits (by omega) (by rw [hz2]; omega))
    rw [hcs, hG] at h
    exact h
  have hnew := heap_alloc_new w.drew (.cells cs 39)
  have HB := Lib.hid ((Below.refl w.heap.size w).drew.trans (below_alloc w.drew (.cells cs 39)))
  have HO : Hid (OwS (w.drew.alloc (.cells cs 39)) w.heap.size (.slice (some ⟨w.heap.size, 0, none⟩) 0 G) []) := Lib.hid ⟨rfl, .inr ⟨w.heap.size, G, cs, rfl, Nat.le_refl _, hnew, Nat.zero_le _, hG63, hsz, rfl⟩⟩
  have hcut : ∀ w : World, (Instr.slice 22 (.slice (some ⟨w.heap.size, 0, none⟩) (0 + n) G) none (some (.int .i64 0)) none).run Tryd.prog w = .ok (.slice (some ⟨w.heap.size, 0, none⟩) 0 G) w := fun w => by
    have := run_cutH w (some ⟨w.heap.size, 0, none⟩) (0 + n) G 0 (by omega)
    rw [if_neg (by omega)] at this
    exact this
  clear hcs hsz hnew hG
  go_enter Tryd.func165, Tryd.ntmps165
  go_wp2_with (at_builtin; refine Lib.wpList_append_run _ rfl _ _ _ _ rfl _ _ rfl rfl _ _ (hrz _) ?_)
  all_goals (go_ret; exact ⟨_, _, rfl, HO.out, HB.out⟩)
set_option maxHeartbeats 4000000 in
theorem concat_sg (x y : List (Int × Int)) (A : Nat) (a1 a2 : Option Addr) (n1 n2 c1 c2 : Nat) (S : Nat → Prop) (w : World) (hA : w.heap[A]? = some (.cells #[.slice a1 n1 c1, .slice a2 n2 c2] 22 (0, 0))) (h1 : SlS S w a1 x c1) (h2 : SlS S w a2 y c2) (hx : x.length = n1) (hy : y.length = n2) (h0 : 0 < n1 + n2) (hl : n1 + n2 ≤ 100000) :
    Calls Tryd.prog 87 #[.slice (some ⟨A, 0, none⟩) 2 2] w fun e w' => ∃ b d, e = .returned (.slice b (n1 + n2) d) ∧ OwS w' w.heap.size (.slice b (n1 + n2) d) (x ++ y) ∧ Below w.heap.size w w' := by
  have yy := fun i => cell_of_row _ _ i _ _ _ hA
  have d0 := yy 0; have d1 := yy 1
  dsimp at d0 d1
  have HA := Lib.hid hA; have H1 := Lib.hid h1; have H2 := Lib.hid h2; have HX := Lib.hid hx; have HY := Lib.hid hy
  have GR := Lib.hid fun w => grow_sg (n1 + n2) w h0 hl
  clear yy hA h1 h2 hx hy
  go_enter Tryd.func87, Tryd.ntmps87
  go_wp2
  go_loopw [3, 11] (fun sv iv wr => w = wr ∧ ((sv = .int .i64 0 ∧ iv = .int .i64 0) ∨ (sv = .int .i64 (n1 : Int) ∧ iv = .int .i64 1) ∨ (sv = .int .i64 ((n1 + n2 : Nat) : Int) ∧ iv = .int .i64 2))) (fun _ iv _ => 2 - (intOf iv).toNat)
  case atStart => exact ⟨rfl, Or.inl ⟨rfl, rfl⟩⟩
  case round =>
    obtain ⟨rfl, ⟨rfl, rfl⟩ | ⟨rfl, rfl⟩ | ⟨rfl, rfl⟩⟩ := hrel
    · go_wp2
      go_roundw
      case rel => exact ⟨trivial, Or.inr (Or.inl ⟨rfl, rfl⟩)⟩
      case measure => simp [intOf]
    · go_wp2
      go_roundw
      case rel => exact ⟨trivial, Or.inr (Or.inr ⟨by simp, rfl⟩)⟩
      case measure => simp [intOf]
    · go_upto_region 11 with (go_at_call 165; refine (GR.out _).mono ?_; rintro e w1 ⟨b, d, rfl, ho, hb⟩; have O1 := Lib.hid ho; have B1 := Lib.hid hb; clear ho hb)
      go_loopw [6, 27] (fun sv iv wr => ∃ (b : Option Addr) (d : Nat), Hid (Below w.heap.size w wr) ∧ ((sv = .slice b 0 d ∧ iv = .int .i64 0 ∧ Hid (OwS wr w.heap.size (.slice b 0 d) [])) ∨ (sv = .slice b n1 d ∧ iv = .int .i64 1 ∧ Hid (OwS wr w.heap.size (.slice b n1 d) x)) ∨ (sv = .slice b (n1 + n2) d ∧ iv = .int .i64 2 ∧ Hid (OwS wr w.heap.size (.slice b (n1 + n2) d) (x ++ y))))) (fun _ iv _ => 2 - (intOf iv).toNat)
      case atStart => exact ⟨b, d, B1, Or.inl ⟨rfl, rfl, O1⟩⟩
      case round =>
        clear O1 B1
        obtain ⟨b, d, HB, ⟨rfl, rfl, HO⟩ | ⟨rfl, rfl, HO⟩ | ⟨rfl, rfl, HO⟩⟩ := hrel
        · have e0 := (HB.out.cell (p := ⟨A, 0, none⟩) (blk_lt HA.out)).trans d0
          have S1 := Lib.hid (H1.out.below HB.out)
          go_wp2_with (at_builtin; refine wpList_app_signs rfl _ _ rfl w.heap.size _ 0 [] rfl rfl HO.out a1 n1 c1 x rfl HX.out S1.out.s S1.out.nl ?g3 ?g4 ?_)
          case g3 => omega
          case g4 => exact HB.out.size
          intro ad5 c5 w5 o5 g5
          have N5 := Lib.hid (HB.out.grown g5 HB.out.size (fun j hj => (HO.out.lt j hj).1))
          have O5 := Lib.hid (show OwS w5 w.heap.size (.slice ad5 n1 c5) x by first | exact o5 | (rw [Nat.zero_add] at o5; exact o5))
          clear o5 g5
          go_wp2
          go_roundw
          case rel => exact ⟨ad5, c5, N5, Or.inr (Or.inl ⟨by first | rfl | simp, rfl, O5⟩)⟩
          case measure => simp [intOf]
        · have e1 := (HB.out.cell (p := ⟨A, 1, none⟩) (blk_lt HA.out)).trans d1
          have S2 := Lib.hid (H2.out.below HB.out)
          go_wp2_with (at_builtin; refine wpList_app_signs rfl _ _ rfl w.heap.size _ n1 x rfl HX.out HO.out a2 n2 c2 y rfl HY.out S2.out.s S2.out.nl ?g3 ?g4 ?_)
          case g3 => omega
          case g4 => exact HB.out.size
          intro ad5 c5 w5 o5 g5
          have N5 := Lib.hid (HB.out.grown g5 HB.out.size (fun j hj => (HO.out.lt j hj).1))
          have O5 := Lib.hid o5
          clear o5 g5
          go_wp2
          go_roundw
          case rel => exact ⟨ad5, c5, N5, Or.inr (Or.inr ⟨rfl, rfl, O5⟩)⟩
          case measure => simp [intOf]
        · go_wp2
          go_ret
          exact ⟨_, _, rfl, HO.out, HB.out⟩
end Go.Proofs.YtdnmjofenckndaaDoor
