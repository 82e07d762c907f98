/-
  Joined: Ki0 G0 G14 Sg3 Sg4 Sg5 Ki1 OfW Slr Hi1 Hi2 Hi3.
-/
import Derived.Test.YtdifkjmpdmlobaaDoorJH01
import Derived.Test.YtdifkjmpdmlobaaDoorJH02
import Derived.Maps.OwnSet
import Derived.Maps.Views
import Derived.Deep.QuietTactic
import Derived.BigQuiet
import Derived.Deep.Cut
import Derived.Laws.StructEq
import Derived.Lib.AppendZeros
import Derived.Lib.AppendZerosOnto
import Derived.Deep.Onto
import Derived.Deep.CutRange
import Derived.Deep.RegionLaw
import Derived.Lib.SliceRun
import Derived.Maps.AppendAt
set_option linter.unusedVariables false
set_option linter.unusedSimpArgs false
set_option maxRecDepth 100000
set_option linter.unusedVariables false
set_option linter.unusedSimpArgs false
namespace Go.Proofs.YtdifkjmpdmlobaaDoor
open Go.RowKit
def encA : Option Addr → DataW Unit
  | none => .nil
  | some ⟨b, o, none⟩ => .agg [.lit (.int .i64 b), .lit (.int .i64 o)]
  | some ⟨b, o, some k⟩ => .agg [.lit (.int .i64 b), .lit (.int .i64 o), .lit (.int .i64 k)]
def slD (a : Option Addr) (n c : Nat) : DataW Unit := .agg [encA a, .lit (.int .i64 n), .lit (.int .i64 c)]
def slR : Value → Option (DataW Unit × List MemPlace)
  | .slice a n c => some (slD a n c, [])
  | _ => none
theorem encA_inj {a b : Option Addr} (h : encA a = encA b) : a = b := by
  match a, b, h with
  | none, none, _ => rfl
  | none, some ⟨b, o, none⟩, h => cases h
  | none, some ⟨b, o, some k⟩, h => cases h
  | some ⟨b, o, none⟩, none, h => cases h
  | some ⟨b, o, some k⟩, none, h => cases h
  | some ⟨b, o, none⟩, some ⟨b', o', none⟩, h => simp [encA] at h; obtain ⟨h1, h2⟩ := h; obtain rfl : b = b' := (by omega); obtain rfl : o = o' := (by omega); rfl
  | some ⟨b, o, none⟩, some ⟨b', o', some k⟩, h => simp [encA] at h
  | some ⟨b, o, some k⟩, some ⟨b', o', none⟩, h => simp [encA] at h
  | some ⟨b, o, some k⟩, some ⟨b', o', some k'⟩, h => simp [encA] at h; obtain ⟨h1, h2, h3⟩ := h; obtain rfl : b = b' := (by omega); obtain rfl : o = o' := (by omega); obtain rfl : k = k' := (by omega); rfl
theorem slR_inj {v : Value} {a : Option Addr} {n c : Nat} {ps : List MemPlace} (h : slR v = some (slD a n c, ps)) : v = .slice a n c := by
  cases v with
  | slice a' n' c' =>
    simp only [slR, Option.some.injEq, Prod.mk.injEq] at h
    have h1 := h.1
    simp only [slD, DataW.agg.injEq, List.cons.injEq, DataW.lit.injEq, Lit.int.injEq, and_true, true_and] at h1
    obtain ⟨e1, e2, e3⟩ := h1
    rw [encA_inj e1, show n' = n by omega, show c' = c by omega]
  | _ => cases h
/-- A slice's value. -/
abbrev SlV := Option Addr × Nat × Nat
def slV (s : SlV) : Value := .slice s.1 s.2.1 s.2.2
def sl0 : SlV := (none, 0, 0)
theorem slR_v (s : SlV) : slR (slV s) = some (slD s.1 s.2.1 s.2.2, []) := rfl
/-- Block b is a map that has vs, by numbers from o on. -/
structure MapF (w : World) (b : Nat) (o : Int) (vs : List SlV) : Prop where
  ex : ∃ D : DataW Unit, w.ownsMap Tryd.prog 3 slR b vs.length D ∧ Maps.size D = vs.length ∧ (∀ i : Int, Maps.has D (.int .i64 i) = decide (o ≤ i ∧ i < o + vs.length)) ∧ ∀ j, j < vs.length → ∀ z, D.atKey (.int .i64 (o + j)) z = slD (vs.getD j sl0).1 (vs.getD j sl0).2.1 (vs.getD j sl0).2.2
  lo : 0 ≤ o
  hi : o + vs.length ≤ 1000000000
theorem keyI : Maps.Keyed Tryd.prog 3 := Maps.int_keyed Tryd.underlying3
theorem keyI_mk {i : Int} (h0 : 0 ≤ i) (h1 : i ≤ 1000000000) : keyOf Tryd.prog 3 (.int .i64 i) = some (.int .i64 i) := Maps.keyOf_int_mk Tryd.underlying3 (by simp [Lit.wf, IntKind.min, IntKind.max, IntKind.signed, IntKind.bits]; omega)
theorem zeroSl (w : World) : (zeroValue 28).run Tryd.prog w = .ok (.slice none 0 0) w := by kernel_rfl
theorem litI_key {i : Int} : WideAt.IsKeyLit (Lit.int .i64 i) := trivial
theorem litI_ne {i j : Int} (h : i ≠ j) : Lit.int .i64 i ≠ Lit.int .i64 j := fun e => h (by injection e)
theorem MapF.kept {w w' : World} {b : Nat} {o : Int} {vs : List SlV} (h : MapF w b o vs) {row : Option Nat} (hg : w.grownBy w' row) (hne : some b ≠ row) : MapF w' b o vs := by
  obtain ⟨D, h1, h2⟩ := h.ex
  exact ⟨⟨D, h1.kept hg hne, h2⟩, h.lo, h.hi⟩
theorem MapF.below {w w' : World} {b : Nat} {o : Int} {vs : List SlV} (h : MapF w b o vs) (hb : Below w.heap.size w w') : MapF w' b o vs := h.kept (row := none) ⟨hb.os, hb.tape, hb.output, hb.size, fun k hk _ => hb.block k hk⟩ (by simp)
theorem MapF.blk {w w' : World} {b : Nat} {o : Int} {vs : List SlV} (h : MapF w b o vs) (hk : w'.heap[b]? = w.heap[b]?) : MapF w' b o vs := by
  obtain ⟨D, ⟨es, clock, hb, F, hs, hD⟩, h2⟩ := h.ex
  exact ⟨⟨D, ⟨es, clock, hk.trans hb, F, hs, hD⟩, h2⟩, h.lo, h.hi⟩
theorem MapF.lt {w : World} {b : Nat} {o : Int} {vs : List SlV} (h : MapF w b o vs) : b < w.heap.size := by
  obtain ⟨D, h1, _⟩ := h.ex; exact h1.lt
theorem MapF.made (w : World) : MapF (w.alloc (.map #[] 0)) w.heap.size 0 [] :=
  ⟨⟨.map [], World.ownsMap_made w _ _ _, rfl, fun i => by rw [decide_eq_false (by simp)]; rfl, fun j hj => absurd hj (Nat.not_lt_zero j)⟩, by omega, by simp⟩
theorem fit_size {w : World} {b n : Nat} {D : DataW Unit} (h : w.ownsMap Tryd.prog 3 slR b n D) {m : Nat} (hm : Maps.size D ≤ m) : w.ownsMap Tryd.prog 3 slR b m D := by
  obtain ⟨es, clock, hb, F, hs, rfl⟩ := h
  refine ⟨es, clock, hb, F, ?_, rfl⟩
  simpa [Maps.size, length_sorted] using hm
theorem getD_app1 (us : List SlV) (v : SlV) (j : Nat) : (us ++ [v]).getD j sl0 = if j < us.length then us.getD j sl0 else if j = us.length then v else sl0 := by
  rw [List.getD]
  split
  · rename_i h; rw [List.getElem?_append_left h, List.getD]
  · split
    · rename_i h; rw [h, List.getElem?_append_right (Nat.le_refl _), Nat.sub_self]; rfl
    · rw [List.getElem?_eq_none (by simp; omega)]; rfl
end Go.Proofs.YtdifkjmpdmlobaaDoor
set_option linter.unusedVariables false
set_option linter.unusedSimpArgs false
namespace Go.Proofs.YtdifkjmpdmlobaaDoor
open Go.RowKit
abbrev Sn := Int × Int
/-- The room of a buffer: none, or a block of its own. -/
def RoomIn (p : Nat) (v : Value) (R : List Sn) (w : World) : Prop :=
  (v = .slice none 0 0 ∧ R = []) ∨ ∃ r, v = .slice (some ⟨r, 0, none⟩) R.length R.length ∧ r ≠ p ∧ w.heap[r]? = some (.cells (sRow R) 89 (0, 0))
/-- A buffer's signs. -/
def gsL (R : List Sn) (a e : Nat) : List Sn := R.take a ++ R.drop e
theorem gsL_len (R : List Sn) (a e : Nat) (h1 : a ≤ e) (h2 : e ≤ R.length) : (gsL R a e).length = R.length - (e - a) := by
  unfold gsL; rw [List.length_append, List.length_take, List.length_drop]; omega
/-- What a call of a buffer leaves: all blocks but its own two. -/
structure Kept (p : Nat) (v : Value) (w w' : World) : Prop where
  os : w'.os = w.os
  tape : w'.tape = w.tape
  output : w'.output = w.output
  size : w.heap.size ≤ w'.heap.size
  block : ∀ k, k < w.heap.size → k ≠ p → some k ≠ v.ownBlock → w'.heap[k]? = w.heap[k]?
theorem Kept.of {p : Nat} {v : Value} {w w' : World} (h : Below w.heap.size w w') : Kept p v w w' := ⟨h.os, h.tape, h.output, h.size, fun k hk _ _ => h.block k hk⟩
theorem Kept.set {p : Nat} {v : Value} {w w' : World} (h : Kept p v w w') (i : Nat) (u : Value) : Kept p v w (w'.setCell ⟨p, i, none⟩ u) :=
  ⟨h.os, h.tape, h.output, by have := h.size; simpa [World.setCell] using this, fun k hk hne hv => (Below.heap_setCell _ _ _ _ hne).trans (h.block k hk hne hv)⟩
theorem Kept.drew {p : Nat} {v : Value} {w w' : World} (h : Kept p v w w') (n : Nat) : Kept p v w (w'.drewN n) := by
  induction n with
  | zero => exact h
  | succ n ih => exact ⟨ih.os, ih.tape, ih.output, ih.size, ih.block⟩
theorem Kept.trans {p : Nat} {v v' : Value} {w w1 w2 : World} (h : Kept p v w w1) (k : Kept p v' w1 w2) (hv : v'.ownBlock = v.ownBlock ∨ ∀ r, v'.ownBlock = some r → w.heap.size ≤ r) : Kept p v w w2 :=
  ⟨k.os.trans h.os, k.tape.trans h.tape, k.output.trans h.output, Nat.le_trans h.size k.size, fun j hj hne hjv => by
    refine (k.block j (Nat.lt_of_lt_of_le hj h.size) hne (fun e => ?_)).trans (h.block j hj hne hjv)
    rcases hv with hv | hv
    · exact hjv (e.trans hv)
    · have := hv j e.symm; omega⟩
/-- Behind a call of a buffer that is not as old as B, what is older stays. -/
theorem Kept.below {p : Nat} {v : Value} {B : Nat} {w0 w w' : World} (h : Kept p v w w') (hb : Below B w0 w) (hB : B ≤ w.heap.size) (hp : B ≤ p) (hv : ∀ r, v.ownBlock = some r → B ≤ r) : Below B w0 w' :=
  hb.trans ⟨h.os, h.tape, h.output, h.size, fun k hk => h.block k (by omega) (by omega) (fun e => by have := hv k e.symm; omega)⟩
theorem RoomIn.keep {p : Nat} {v : Value} {R : List Sn} {w w' : World} (h : RoomIn p v R w) (hk : ∀ r, v.ownBlock = some r → w'.heap[r]? = w.heap[r]?) : RoomIn p v R w' := by
  rcases h with h | ⟨r, rfl, h1, h2⟩
  · exact Or.inl h
  · exact Or.inr ⟨r, rfl, h1, (hk r rfl).trans h2⟩
theorem RoomIn.lt {p : Nat} {v : Value} {R : List Sn} {w : World} (h : RoomIn p v R w) : ∀ r, v.ownBlock = some r → r < w.heap.size := by
  rcases h with ⟨rfl, _⟩ | ⟨r, rfl, _, h2⟩
  · intro r e; cases e
  · intro r' e; cases e; exact blk_lt h2
theorem RoomIn.ne {p : Nat} {v : Value} {R : List Sn} {w : World} (h : RoomIn p v R w) : ∀ r, v.ownBlock = some r → r ≠ p := by
  rcases h with ⟨rfl, _⟩ | ⟨r, rfl, h1, _⟩
  · intro r e; cases e
  · intro r' e; cases e; exact h1
theorem RoomIn.below {p : Nat} {v : Value} {R : List Sn} {w w' : World} (h : RoomIn p v R w) (hb : Below w.heap.size w w') : RoomIn p v R w' :=
  h.keep fun r e => hb.block r (h.lt r e)
theorem RoomIn.set {p : Nat} {v : Value} {R : List Sn} {w : World} (h : RoomIn p v R w) (i : Nat) (u : Value) : RoomIn p v R (w.setCell ⟨p, i, none⟩ u) :=
  h.keep fun r e => Below.heap_setCell _ _ _ _ (h.ne r e)
end Go.Proofs.YtdifkjmpdmlobaaDoor
set_option linter.unusedVariables false
set_option linter.unusedSimpArgs false
namespace Go.Proofs.YtdifkjmpdmlobaaDoor
open Go.RowKit
set_option maxHeartbeats 1000000 in
theorem sgright_ref (v l : Int) (w : World) : Calls Tryd.prog 88 #[.agg #[.int .i64 v, .int .i64 l]] w fun e w' => e = .returned (.bool (sgR v l)) ∧ Below w.heap.size w w' := by
  have R := fun w => right_ref v w
  have hb := below_alloc w (.cells #[.int .i64 v, .int .i64 l] 89)
  cases hr : rightB v
  · have e : Hid (sgR v l = false) := Lib.hid (by unfold sgR; rw [hr]; simp)
    rw [hr] at R
    replace R := Lib.hid R
    go_enter Tryd.func88, Tryd.ntmps88
    go_wp2_with (go_at_call 109; refine (R.out _).mono ?_; rintro e w1 ⟨rfl, rfl⟩)
    go_ret
    rw [e.out]; exact ⟨rfl, hb⟩
  · rw [hr] at R
    replace R := Lib.hid R
    by_cases h0 : 0 ≤ l
    · by_cases h5 : l ≤ 5
      · have e : Hid (sgR v l = true) := Lib.hid (by unfold sgR; rw [decide_eq_true h0, decide_eq_true h5, hr]; simp)
        clear hr
        go_enter Tryd.func88, Tryd.ntmps88
        go_wp2_with (go_at_call 109; refine (R.out _).mono ?_; rintro e w1 ⟨rfl, rfl⟩)
        go_ret
        rw [e.out]; exact ⟨rfl, hb⟩
      · have e : Hid (sgR v l = false) := Lib.hid (by unfold sgR; rw [decide_eq_false h5]; simp)
        have h5d := decide_eq_false h5
        clear hr
        go_enter Tryd.func88, Tryd.ntmps88
        go_wp2_with (go_at_call 109; refine (R.out _).mono ?_; rintro e w1 ⟨rfl, rfl⟩)
        go_ret
        rw [e.out]; exact ⟨by first | rfl | (rw [h5d]; rfl) | exact ret_boolU h5d, hb⟩
    · have e : Hid (sgR v l = false) := Lib.hid (by unfold sgR; rw [decide_eq_false h0]; simp)
      clear hr
      go_enter Tryd.func88, Tryd.ntmps88
      go_wp2_with (go_at_call 109; refine (R.out _).mono ?_; rintro e w1 ⟨rfl, rfl⟩)
      go_ret
      rw [e.out]; exact ⟨rfl, hb⟩
set_option maxHeartbeats 1000000 in
theorem sgall_ref (l : List (Int × Int)) (a : Option Addr) (c : Nat) (w : World) (hl : l.length ≤ 1000000) (hs : Signs w a l) :
    Calls Tryd.prog 66 #[.slice a l.length c] w fun e w' => e = .returned (.bool (sgC l)) ∧ Below w.heap.size w w' := by
  have HS := Lib.hid hs; clear hs
  go_enter Tryd.func66, Tryd.ntmps66
  go_wp2
  go_loopw [3] (fun iv wr => ∃ k : Nat, k ≤ l.length ∧ iv = .int .i64 (k : Int) ∧ Hid (∀ j, j < k → sgR (l.getD j (0, 0)).1 (l.getD j (0, 0)).2 = true) ∧ Below w.heap.size w wr) (fun iv _ => l.length - (intOf iv).toNat)
  case atStart => exact ⟨0, Nat.zero_le _, rfl, Lib.hid (fun j hj => absurd hj (by omega)), Below.refl _ _⟩
  case round =>
    obtain ⟨k, hk, rfl, hall, hb⟩ := hrel
    by_cases hlt : k < l.length
    · obtain ⟨b, off, rfl, hblk, c1, c2⟩ := (HS.out.below hb) k hlt
      have hk1 : (k : Int) < l.length := by omega
      have hk0 : (0 : Int) ≤ k := by omega
      have R := fun w => sgright_ref (l.getD k (0, 0)).1 (l.getD k (0, 0)).2 w
      have hin := getD_mem hlt
      cases hr : sgR (l.getD k (0, 0)).1 (l.getD k (0, 0)).2
      · have HF : Hid (sgC l = false) := Lib.hid (by unfold sgC; rw [List.all_eq_false]; exact ⟨_, hin, by rw [hr]; simp⟩)
        rw [hr] at R
        generalize (l.getD k (0, 0)).1 = v at *
        generalize (l.getD k (0, 0)).2 = u at *
        replace R := Lib.hid R
        clear hin hr
        go_wp2_with (go_at_call 88; refine (R.out _).mono ?_; rintro e w1 ⟨rfl, hb1⟩)
        go_ret
        rw [HF.out]
        exact ⟨rfl, hb.trans (hb1.mono hb.size)⟩
      · have HF : Hid (∀ j, j < k + 1 → sgR (l.getD j (0, 0)).1 (l.getD j (0, 0)).2 = true) := Lib.hid (by
          intro j hj
          rcases Nat.lt_succ_iff_lt_or_eq.1 hj with h | rfl
          · exact hall.out j h
          · exact hr)
        rw [hr] at R
        generalize (l.getD k (0, 0)).1 = v at *
        generalize (l.getD k (0, 0)).2 = u at *
        replace R := Lib.hid R
        clear hin hr
        go_wp2_with (go_at_call 88; refine (R.out _).mono ?_; rintro e w1 ⟨rfl, hb1⟩)
        go_roundw
        case rel => exact ⟨k + 1, by omega, by go_num, HF, hb.trans (hb1.mono hb.size)⟩
        case measure => (simp [intOf]; try omega)
    · obtain rfl : k = l.length := by omega
      have HF : Hid (sgC l = true) := Lib.hid (by
        unfold sgC; rw [List.all_eq_true]; intro p hp
        obtain ⟨j, hj, rfl⟩ := List.getElem_of_mem hp
        have := hall.out j hj
        rwa [List.getD, List.getElem?_eq_getElem hj] at this)
      go_wp2
      go_ret
      rw [HF.out]
      exact ⟨rfl, hb⟩
theorem sn_ext {l m : List Sn} (h : l.length = m.length) (hh : ∀ j, j < l.length → l.getD j (0, 0) = m.getD j (0, 0)) : l = m := by
  apply List.ext_getElem h
  intro j h1 h2
  have := hh j h1
  simpa [List.getD, List.getElem?_eq_getElem h1, List.getElem?_eq_getElem h2] using this
set_option maxHeartbeats 1000000 in
theorem sgsame_ref (l m : List Sn) (a b : Option Addr) (c d : Nat) (w : World) (hl : l.length ≤ 9223372036854775807) (hm : m.length ≤ 9223372036854775807) (hs : Signs w a l) (ht : Signs w b m) :
    Calls Tryd.prog 14 #[.slice a l.length c, .slice b m.length d] w fun e w' => e = .returned (.bool (decide (l = m))) ∧ Below w.heap.size w w' := by
  have HS := Lib.hid hs; have HT := Lib.hid ht; clear hs ht
  by_cases hlen : l.length = m.length
  · have hli : (l.length : Int) = (m.length : Int) := by omega
    go_enter Tryd.func14, Tryd.ntmps14
    go_wp2
    go_loopw [5] (fun iv wr => ∃ k : Nat, k ≤ l.length ∧ iv = .int .i64 (k : Int) ∧ Hid (∀ j, j < k → l.getD j (0, 0) = m.getD j (0, 0)) ∧ Below w.heap.size w wr) (fun iv _ => l.length - (intOf iv).toNat)
    case atStart => exact ⟨0, Nat.zero_le _, rfl, Lib.hid (fun j hj => absurd hj (by omega)), Below.refl _ _⟩
    case round =>
      obtain ⟨k, hk, rfl, hall, hb⟩ := hrel
      by_cases hlt : k < l.length
      · obtain ⟨b1, o1, rfl, hblk1, c1, c2⟩ := (HS.out.below hb) k hlt
        obtain ⟨b2, o2, rfl, hblk2, d1, d2⟩ := (HT.out.below hb) k (by omega)
        have hk1 : (k : Int) < l.length := by omega
        have hk2 : (k : Int) < m.length := by omega
        have hk0 : (0 : Int) ≤ k := by omega
        obtain ⟨x, hx⟩ : ∃ x, l.getD k (0, 0) = x := ⟨_, rfl⟩
        obtain ⟨y, hy⟩ : ∃ y, m.getD k (0, 0) = y := ⟨_, rfl⟩
        rw [hx] at c1 c2
        rw [hy] at d1 d2
        by_cases he : x = y
        · have HF : Hid (∀ j, j < k + 1 → l.getD j (0, 0) = m.getD j (0, 0)) := Lib.hid (by
            intro j hj
            rcases Nat.lt_succ_iff_lt_or_eq.1 hj with h | rfl
            · exact hall.out j h
            · rw [hx, hy, he])
          clear hall hx hy
          subst he
          obtain ⟨x1, x2⟩ := x
          dsimp at c1 c2 d1 d2
          go_wp2
          go_quiet (fail)
          go_wp2
          go_roundw
          case rel => exact ⟨k + 1, by omega, by go_num, HF, drewN_below hb _⟩
          case measure => (simp [intOf]; try omega)
        · have HF : Hid (decide (l = m) = false) := Lib.hid (decide_eq_false fun e => he (by rw [← hx, ← hy, e]))
          clear hall hx hy
          obtain ⟨x1, x2⟩ := x
          obtain ⟨y1, y2⟩ := y
          have he2 : ¬ (x1 = y1 ∧ x2 = y2) := fun h => he (by rw [h.1, h.2])
          dsimp at c1 c2 d1 d2
          clear he
          by_cases h1 : x1 = y1
          · subst h1
            have h2 : ¬ x2 = y2 := fun h => he2 ⟨rfl, h⟩
            clear he2
            go_wp2
            go_quiet (fail)
            go_wp2
            go_ret
            rw [HF.out]; exact ⟨rfl, drewN_below hb _⟩
          · clear he2
            go_wp2
            go_quiet (fail)
            go_wp2
            go_ret
            rw [HF.out]; exact ⟨rfl, drewN_below hb _⟩
      · obtain rfl : k = l.length := by omega
        have HF : Hid (decide (l = m) = true) := Lib.hid (decide_eq_true (sn_ext hlen hall.out))
        clear hall
        go_wp2
        go_ret
        rw [HF.out]
        exact ⟨rfl, hb⟩
  · have hne : decide (l = m) = false := decide_eq_false (fun e => hlen (by rw [e]))
    rw [hne]
    go_enter Tryd.func14, Tryd.ntmps14
    go_wp2
    go_ret
    exact ⟨rfl, Below.refl _ _⟩
end Go.Proofs.YtdifkjmpdmlobaaDoor
set_option linter.unusedVariables false
set_option linter.unusedSimpArgs false
namespace Go.Proofs.YtdifkjmpdmlobaaDoor
open Go.RowKit
theorem own_row {w : World} {B : Nat} {v : Value} {l : List Int} (h : w.ownsRow B 3 1 v l.length (l.map (Value.int .i64))) : ∃ a cap, v = .slice a l.length cap ∧ Row w a l := by
  rcases h.2 with ⟨rfl, h0⟩ | ⟨g, cap, cur, rfl, _, hg, _⟩
  · exact ⟨none, 0, by rw [h0], fun j hj => by omega⟩
  · refine ⟨_, cap, rfl, fun j hj => ⟨g, 0, rfl, ?_, blk_lt hg⟩⟩
    have := h.cells (g := g) rfl j (.int .i64 (l.getD j 0)) (by simp [List.getElem?_eq_getElem hj, List.getD])
    have hadd : (⟨g, 0, none⟩ : Addr).add j = ⟨g, 0 + j, none⟩ := by unfold Addr.add; split <;> simp_all
    rw [← hadd]; exact this
theorem row_below {w w' : World} {a : Option Addr} {l : List Int} (h : Row w a l) (hb : Below w.heap.size w w') : Row w' a l := fun j hj => by
  obtain ⟨b, off, e, h1, h2⟩ := h j hj
  exact ⟨b, off, e, (hb.cell (p := ⟨b, off + j, none⟩) h2).trans h1, Nat.lt_of_lt_of_le h2 hb.size⟩
/-- A text's signs. -/
def sOf (u : Int) (s : ByteArray) : List (Int × Int) := (valsS s).map fun v => (v, u)
def ofL (l : List Int) (u : Int) (k : Nat) : List (Int × Int) := (l.take k).map (fun v => (v, u)) ++ List.replicate (l.length - k) (0, 0)
theorem ofL_len (l : List Int) (u : Int) (k : Nat) (h : k ≤ l.length) : (ofL l u k).length = l.length := by simp [ofL]; omega
set_option maxRecDepth 100000 in
set_option maxHeartbeats 1000000 in
theorem sof_any (u : Int) (s : ByteArray) (w : World) (hT : UT w) (hs : s.size ≤ 1000000) (hv : (valsS s).length ≤ 1000000) :
    Calls Tryd.prog 40 #[.int .i64 u, .string s] w fun e w' => ∃ g, e = .returned (.slice (some ⟨g, 0, none⟩) (sOf u s).length (sOf u s).length) ∧ w.heap.size ≤ g ∧ w'.heap[g]? = some (.cells (sRow (sOf u s)) 89 (0, 0)) ∧ Below w.heap.size w w' := by
  obtain ⟨i0, hi, hz0, hz1, hz2⟩ := info_parts infoSign
  have D := Lib.hid (decode_any s w hT hs)
  have hso : sOf u s = (valsS s).map fun v => (v, u) := rfl
  generalize valsS s = l at *
  rw [hso, List.length_map]
  clear hso
  have hmk := make_rowN (P := Tryd.prog) 28 89 i0 _ Tryd.underlying28 hi hz0 l.length (by rw [hz2]; omega) (by omega)
  rw [hz1] at hmk
  have hmade : madeCells (Value.agg #[.int .i64 0, .int .i64 0]).cells (l.length * 2) = sRow (ofL l u 0) := by rw [show (Value.agg #[.int .i64 0, .int .i64 0]).cells = #[.int .i64 0, .int .i64 0] from rfl, made_signs]; simp [ofL]
  rw [hmade] at hmk
  go_enter Tryd.func40, Tryd.ntmps40
  go_wp2_with (go_at_call 69; refine D.out.mono ?_; rintro e w1 ⟨v, rfl, hown, hb1⟩; obtain ⟨a, cap, rfl, hr⟩ := own_row hown; have HR := Lib.hid hr; clear hr hown)
  have hsz := hb1.size
  go_loopw [16] (fun iv wr => ∃ k : Nat, k ≤ l.length ∧ iv = .int .i64 (k : Int) ∧ wr.heap[w1.heap.size]? = some (.cells (sRow (ofL l u k)) 89 (0, 0)) ∧ Below w1.heap.size w1 wr) (fun iv _ => l.length - (intOf iv).toNat)
  case atStart => exact ⟨0, Nat.zero_le _, rfl, heap_alloc_new _ _, below_alloc _ _⟩
  case round =>
    obtain ⟨k, hk, rfl, hown, hb⟩ := hrel
    by_cases hlt : k < l.length
    · obtain ⟨b, off, rfl, c1, hblk⟩ := (row_below HR.out hb) k hlt
      have hk1 : (k : Int) < l.length := by omega
      have hk0 : (0 : Int) ≤ k := by omega
      have hnext := put_snoc l (fun v : Int => (v, u)) (0, 0) 0 k hlt
      have hlen := ofL_len l u k hk
      have s12 := sg_cells hown (k := k) (by rw [hlen]; exact hlt)
      have s1 := s12.1
      have s2 := s12.2
      have f12 := fun i => frozen_of_row wr w1.heap.size i _ _ hown
      generalize l.getD k 0 = x at *
      generalize (ofL l u k).getD k (0, 0) = q at *
      have Hset : Hid ((ofL l u k).set k (x, u) = ofL l u (k + 1)) := Lib.hid hnext
      have Hset2 := Lib.hid (sRow_set (ofL l u k) k (x, u) (by rw [hlen]; exact hlt))
      have Hlen := Lib.hid hlen
      clear hnext hlen s12
      go_wp2
      go_roundw
      case rel => exact ⟨k + 1, by omega, by go_num, by rw [← Hset.out, ← Hset2.out]; exact blk_set (blk_set hown _ _) _ _, (hb.setCell (Nat.le_refl _) _).setCell (Nat.le_refl _) _⟩
      case measure => simp [intOf]; omega
    · obtain rfl : k = l.length := by omega
      have hfin : ofL l u l.length = l.map fun v => (v, u) := by unfold ofL; rw [List.take_length, Nat.sub_self, List.replicate_zero, List.append_nil]
      rw [hfin] at hown
      clear hfin hmade
      go_wp2
      go_ret
      exact ⟨w1.heap.size, rfl, hsz, hown, seqB hb1 hb⟩
/-- The same signs? -/
def sgS (a b : List (Int × Int)) : Bool := decide (a = b)
set_option maxRecDepth 100000 in
set_option maxHeartbeats 1000000 in
theorem same1_any (v u x y : Int) (w : World) : Calls Tryd.prog 97 #[.agg #[.int .i64 v, .int .i64 u], .agg #[.int .i64 x, .int .i64 y]] w fun e w' => e = .returned (.bool (decide ((v, u) = (x, y)))) ∧ Below w.heap.size w w' := by
  have hb := seqB (below_alloc w (.cells #[.int .i64 v, .int .i64 u] 89)) (below_alloc _ (.cells #[.int .i64 x, .int .i64 y] 89))
  by_cases h1 : v = x
  · by_cases h2 : u = y
    · have e : Hid (decide ((v, u) = (x, y)) = true) := Lib.hid (by rw [h1, h2]; simp)
      have b1 : (v == x) = true := by rw [h1]; simp
      have b2 : (u == y) = true := by rw [h2]; simp
      rw [e.out]
      clear h1 h2 e
      go_enter Tryd.func97, Tryd.ntmps97
      go_wp2
      go_ret
      exact ⟨rfl, hb⟩
    · have e : Hid (decide ((v, u) = (x, y)) = false) := Lib.hid (by simp; intro _; exact h2)
      have b1 : (v == x) = true := by rw [h1]; simp
      have b2 : (u == y) = false := by simpa using h2
      rw [e.out]
      clear h1 h2 e
      go_enter Tryd.func97, Tryd.ntmps97
      go_wp2
      go_ret
      exact ⟨rfl, hb⟩
  · have e : Hid (decide ((v, u) = (x, y)) = false) := Lib.hid (by simp; intro h; exact absurd h h1)
    have b1 : (v == x) = false := by simpa using h1
    rw [e.out]
    clear h1 e
    go_enter Tryd.func97, Tryd.ntmps97
    go_wp2
    go_ret
    exact ⟨rfl, hb⟩
end Go.Proofs.YtdifkjmpdmlobaaDoor
set_option linter.unusedVariables false
set_option linter.unusedSimpArgs false
namespace Go.Proofs.YtdifkjmpdmlobaaDoor
open Go.RowKit
theorem sgS_len {a b : List (Int × Int)} (h : a.length ≠ b.length) : sgS a b = false := by
  unfold sgS; rw [decide_eq_false]; intro e; exact h (by rw [e])
theorem sgS_no {a b : List (Int × Int)} {k : Nat} (h : a.getD k (0, 0) ≠ b.getD k (0, 0)) : sgS a b = false := by
  unfold sgS; rw [decide_eq_false]; intro e; exact h (by rw [e])
theorem sgS_yes {a b : List (Int × Int)} (hl : a.length = b.length) (h : ∀ j, j < a.length → a.getD j (0, 0) = b.getD j (0, 0)) : sgS a b = true := by
  unfold sgS; rw [decide_eq_true]
  apply List.ext_getElem hl
  intro j h1 h2
  have := h j h1
  rwa [List.getD, List.getD, List.getElem?_eq_getElem h1, List.getElem?_eq_getElem h2] at this
set_option maxRecDepth 100000 in
set_option maxHeartbeats 1000000 in
theorem equal_any (x y : List (Int × Int)) (a b : Option Addr) (c d : Nat) (w : World) (hx : x.length ≤ 9223372036854775807) (hy : y.length ≤ 9223372036854775807) (ha : Signs w a x) (hb : Signs w b y) :
    Calls Tryd.prog 96 #[.slice a x.length c, .slice b y.length d, .func (.func 97) #[] #[]] w fun e w' => e = .returned (.bool (sgS x y)) ∧ Below w.heap.size w w' := by
  have HA := Lib.hid ha; have HB := Lib.hid hb; clear ha hb
  by_cases hl : x.length = y.length
  · have hln : ((x.length : Int) != (y.length : Int)) = false := by rw [hl]; simp
    have hyl : y.length ≤ x.length ∧ x.length ≤ y.length := by omega
    have Hl := Lib.hid hl; clear hl
    go_enter Tryd.func96, Tryd.ntmps96
    go_wp2
    go_loopw [17] (fun iv wr => ∃ k : Nat, k ≤ x.length ∧ iv = .int .i64 (k : Int) ∧ Hid (∀ j, j < k → x.getD j (0, 0) = y.getD j (0, 0)) ∧ Below w.heap.size w wr) (fun iv _ => x.length - (intOf iv).toNat)
    case atStart => exact ⟨0, Nat.zero_le _, rfl, Lib.hid (fun j hj => absurd hj (by omega)), Below.refl _ _⟩
    case round =>
      obtain ⟨k, hk, rfl, hall, hbl⟩ := hrel
      by_cases hlt : k < x.length
      · obtain ⟨b1, o1, rfl, hb1, c1, c2⟩ := (HA.out.below hbl) k hlt
        obtain ⟨b2, o2, rfl, hb2, d1, d2⟩ := (HB.out.below hbl) k (by omega)
        have hk1 : (k : Int) < x.length := by omega
        have hk2 : (k : Int) < y.length := by omega
        have hk0 : (0 : Int) ≤ k := by omega
        have hne := sgS_no (a := x) (b := y) (k := k)
        have d1' := fun o => (World.cell?_alloc_lt wr o (⟨b2, o2 + k * 2, none⟩ : Addr) hb2).trans d1
        have d2' := fun o => (World.cell?_alloc_lt wr o (⟨b2, o2 + k * 2 + 1, none⟩ : Addr) hb2).trans d2
        obtain ⟨v, u, hp⟩ : ∃ v u, x.getD k (0, 0) = (v, u) := ⟨_, _, rfl⟩
        obtain ⟨v', u', hq⟩ : ∃ v u, y.getD k (0, 0) = (v, u) := ⟨_, _, rfl⟩
        rw [hp] at c1 c2; rw [hq] at d1' d2'
        rw [hp, hq] at hne
        have S := fun w => same1_any v u v' u' w
        have hbb := fun o1 o2 => (hbl.alloc hbl.size o1).alloc (by have := hbl.size; simp; omega) o2
        cases he : decide ((v, u) = (v', u'))
        · rw [he] at S
          have HF : Hid (sgS x y = false) := Lib.hid (hne (by simpa using he))
          replace S := Lib.hid S
          clear hne he hp hq
          go_wp2_with (go_at_call 97; refine (S.out _).mono ?_; rintro e w1 ⟨rfl, hb3⟩)
          go_ret
          rw [HF.out]
          exact ⟨rfl, (hbb _ _).trans (hb3.mono (hbb _ _).size)⟩
        · rw [he] at S
          have HF : Hid (∀ j, j < k + 1 → x.getD j (0, 0) = y.getD j (0, 0)) := Lib.hid (by
            intro j hj
            rcases Nat.lt_succ_iff_lt_or_eq.1 hj with h | rfl
            · exact hall.out j h
            · rw [hp, hq]; simpa using he)
          replace S := Lib.hid S
          clear hne he hp hq
          go_wp2_with (go_at_call 97; refine (S.out _).mono ?_; rintro e w1 ⟨rfl, hb3⟩)
          go_roundw
          case rel => exact ⟨k + 1, by omega, by go_num, HF, (hbb _ _).trans (hb3.mono (hbb _ _).size)⟩
          case measure => simp [intOf]; omega
      · obtain rfl : k = x.length := by omega
        have HF : Hid (sgS x y = true) := Lib.hid (sgS_yes Hl.out hall.out)
        go_wp2
        go_ret
        rw [HF.out]
        exact ⟨rfl, hbl⟩
  · have hln : ((x.length : Int) != (y.length : Int)) = true := by rw [bne_iff_ne]; omega
    have HF : Hid (sgS x y = false) := Lib.hid (sgS_len hl)
    go_enter Tryd.func96, Tryd.ntmps96
    go_wp2
    go_ret
    rw [HF.out]
    exact ⟨rfl, Below.refl _ _⟩
theorem ssame_any (x y : List (Int × Int)) (a b : Option Addr) (c d : Nat) (w : World) (hx : x.length ≤ 9223372036854775807) (hy : y.length ≤ 9223372036854775807) (ha : Signs w a x) (hb : Signs w b y) :
    Calls Tryd.prog 77 #[.slice a x.length c, .slice b y.length d] w fun e w' => e = .returned (.bool (sgS x y)) ∧ Below w.heap.size w w' := by
  have E := Lib.hid (equal_any x y a b c d w hx hy ha hb)
  clear ha hb
  go_enter Tryd.func77, Tryd.ntmps77
  go_wp2_with (go_at_call 96; refine E.out.mono ?_; rintro e w1 ⟨rfl, hb1⟩)
  go_ret
  exact ⟨rfl, hb1⟩
/-- Do the values of part stand at a place? -/
def atM (l part : List (Int × Int)) (at_ : Int) : Bool := (List.range part.length).all fun i => (l.getD (at_.toNat + i) (0, 0)).1 == (part.getD i (0, 0)).1
theorem atM_no {l part : List (Int × Int)} {at_ : Int} {k : Nat} (hk : k < part.length) (h : ((l.getD (at_.toNat + k) (0, 0)).1 != (part.getD k (0, 0)).1) = true) : atM l part at_ = false := by
  unfold atM; rw [List.all_eq_false]; exact ⟨k, by simpa using hk, by simpa using h⟩
theorem atM_yes {l part : List (Int × Int)} {at_ : Int} (h : ∀ j, j < part.length → ((l.getD (at_.toNat + j) (0, 0)).1 != (part.getD j (0, 0)).1) = false) : atM l part at_ = true := by
  unfold atM; rw [List.all_eq_true]; intro j hj
  have := h j (by simpa using hj)
  simpa using this
/-- A closure's two blocks. -/
structure Fin2 (w : World) (p q : Nat) (a b : Option Addr) (l part : List (Int × Int)) (c d : Nat) : Prop where
  cp : w.cell? ⟨p, 0, none⟩ = some (.slice b part.length d)
  cq : w.cell? ⟨q, 0, none⟩ = some (.slice a l.length c)
  s : Signs w a l
  t : Signs w b part
  pl : p < w.heap.size
  ql : q < w.heap.size
theorem Fin2.below {w w' : World} {p q : Nat} {a b : Option Addr} {l part : List (Int × Int)} {c d : Nat} (h : Fin2 w p q a b l part c d) (hb : Below w.heap.size w w') : Fin2 w' p q a b l part c d :=
  ⟨(hb.cell (p := ⟨p, 0, none⟩) h.pl).trans h.cp, (hb.cell (p := ⟨q, 0, none⟩) h.ql).trans h.cq, h.s.below hb, h.t.below hb, Nat.lt_of_lt_of_le h.pl hb.size, Nat.lt_of_lt_of_le h.ql hb.size⟩
set_option maxRecDepth 100000 in
set_option maxHeartbeats 1000000 in
theorem finder1_any (m : Nat) (p q : Nat) (a b : Option Addr) (l part : List (Int × Int)) (c d : Nat) (w : World) (hl : l.length ≤ 1000000000000000000) (hm : m + part.length ≤ l.length) (hK : Fin2 w p q a b l part c d) :
    Calls Tryd.prog 114 #[.int .i64 (m : Int), .pointer (some ⟨p, 0, none⟩), .pointer (some ⟨q, 0, none⟩)] w fun e w' => e = .returned (.bool (atM l part m)) ∧ Below w.heap.size w w' := by
  have hp := hK.cp
  have HK := Lib.hid hK; clear hK
  go_enter Tryd.func114, Tryd.ntmps114
  go_wp2
  go_loopw [9] (fun iv wr => ∃ k : Nat, k ≤ part.length ∧ iv = .int .i64 (k : Int) ∧ Hid (∀ j, j < k → ((l.getD ((m : Int).toNat + j) (0, 0)).1 != (part.getD j (0, 0)).1) = false) ∧ Below w.heap.size w wr) (fun iv _ => part.length - (intOf iv).toNat)
  case atStart => exact ⟨0, Nat.zero_le _, rfl, Lib.hid (fun j hj => absurd hj (by omega)), Below.refl _ _⟩
  case round =>
    obtain ⟨k, hk, rfl, hall, hbl⟩ := hrel
    by_cases hlt : k < part.length
    · have hK := HK.out.below hbl
      obtain ⟨b1, o1, rfl, hb1, c1, c2⟩ := hK.s (m + k) (by omega)
      obtain ⟨b2, o2, rfl, hb2, d1, d2⟩ := hK.t k hlt
      have hq := hK.cq
      have hql := hK.ql
      have hk1 : (k : Int) < part.length := by omega
      have hk0 : (0 : Int) ≤ (m : Int) + (k : Int) := by omega
      have hk2 : (m : Int) + (k : Int) < l.length := by omega
      have hno := atM_no (l := l) (at_ := (m : Int)) hlt
      rw [Int.toNat_natCast] at hno
      obtain ⟨v, u, hpp⟩ : ∃ v u, part.getD k (0, 0) = (v, u) := ⟨_, _, rfl⟩
      obtain ⟨v', u', hqq⟩ : ∃ v u, l.getD (m + k) (0, 0) = (v, u) := ⟨_, _, rfl⟩
      rw [hpp] at d1 d2; rw [hqq] at c1
      rw [hpp, hqq] at hno
      have c1' := fun o => (World.cell?_alloc_lt wr o (⟨b1, o1 + (m + k) * 2, none⟩ : Addr) hb1).trans c1
      have hq' := fun o => (World.cell?_alloc_lt wr o (⟨q, 0, none⟩ : Addr) hql).trans hq
      have hbb := fun o1 => hbl.alloc hbl.size o1
      clear c1 c2 hq hK
      cases he : (v' != v)
      · have HF : Hid (∀ j, j < k + 1 → ((l.getD ((m : Int).toNat + j) (0, 0)).1 != (part.getD j (0, 0)).1) = false) := Lib.hid (by
          intro j hj
          rcases Nat.lt_succ_iff_lt_or_eq.1 hj with h | rfl
          · exact hall.out j h
          · rw [Int.toNat_natCast, hpp, hqq]; exact he)
        clear hno hpp hqq
        go_wp2
        go_quiet (fail)
        go_wp2
        go_roundw
        case rel => exact ⟨k + 1, by omega, by go_num, HF, drewN_below (hbb _) _⟩
        case measure => simp [intOf]; omega
      · have HF : Hid (atM l part m = false) := Lib.hid (hno he)
        clear hno hpp hqq
        go_wp2
        go_quiet (fail)
        go_wp2
        go_ret
        rw [HF.out]
        exact ⟨rfl, drewN_below (hbb _) _⟩
    · obtain rfl : k = part.length := by omega
      have HF : Hid (atM l part m = true) := Lib.hid (atM_yes hall.out)
      go_wp2
      go_ret
      rw [HF.out]
      exact ⟨rfl, hbl⟩
end Go.Proofs.YtdifkjmpdmlobaaDoor
set_option linter.unusedVariables false
set_option linter.unusedSimpArgs false
namespace Go.Proofs.YtdifkjmpdmlobaaDoor
open Go.RowKit
theorem finder_any (l part : List (Int × Int)) (a b : Option Addr) (c d : Nat) (w : World) (ha : Signs w a l) (hb : Signs w b part) :
    Calls Tryd.prog 95 #[.slice a l.length c, .slice b part.length d] w fun e w' => e = .returned (.func (.func 114) #[] #[.pointer (some ⟨w.heap.size + 1, 0, none⟩), .pointer (some ⟨w.heap.size, 0, none⟩)]) ∧ Fin2 w' (w.heap.size + 1) w.heap.size a b l part c d ∧ Below w.heap.size w w' := by
  have h2 := seqB (below_alloc w (.cells #[.slice a l.length c] 28)) (below_alloc _ (.cells #[.slice b part.length d] 28))
  have hF : Fin2 ((w.alloc (.cells #[.slice a l.length c] 28)).alloc (.cells #[.slice b part.length d] 28)) (w.heap.size + 1) w.heap.size a b l part c d :=
    ⟨by simp, by simp, ha.below h2, hb.below h2, by simp, by simp; omega⟩
  have HF := Lib.hid hF
  clear hF ha hb
  go_enter Tryd.func95, Tryd.ntmps95
  go_wp2
  go_ret
  exact ⟨rfl, HF.out, h2⟩
def findM (l part : List (Int × Int)) (from_ : Int) : Int := upF (atM l part) (-1) ((l.length : Int) - part.length + 1 - max from_ 0).toNat (max from_ 0)
def backS (l part : List (Int × Int)) (from_ : Int) : Int := dnF (atM l part) (-1) (min from_ ((l.length : Int) - part.length) + 1).toNat (min from_ ((l.length : Int) - part.length))
set_option maxRecDepth 100000 in
set_option maxHeartbeats 2000000 in
theorem find_any (l part : List (Int × Int)) (a b : Option Addr) (c d : Nat) (i : Int) (w : World) (hi : i ≤ 9223372036854775807) (hl : l.length ≤ 1000000000000000000) (hp : part.length ≤ 1000000000000000000) (ha : Signs w a l) (hb : Signs w b part) :
    Calls Tryd.prog 74 #[.slice a l.length c, .slice b part.length d, .int .i64 i] w fun e w' => e = .returned (.int .i64 (findM l part i)) ∧ Below w.heap.size w w' := by
  have F := Lib.hid (finder_any l part a b c d w ha hb)
  have hf : findM l part i = upF (atM l part) (-1) ((l.length : Int) - part.length + 1 - max i 0).toNat (max i 0) := rfl
  obtain ⟨m, hm⟩ : ∃ m : Nat, max i 0 = (m : Int) := ⟨(max i 0).toNat, by omega⟩
  have hmi : (m : Int) ≤ 9223372036854775807 := by omega
  have hm1 : i ≤ 0 → (0 : Int) = m := fun h => by omega
  have hm2 : ¬ i ≤ 0 → i = m := fun h => by omega
  rw [hm] at hf
  have Hf := Lib.hid hf
  have HM1 := Lib.hid hm1; have HM2 := Lib.hid hm2
  have C := Lib.hid fun m w1 hm hK => finder1_any m (w.heap.size + 1) w.heap.size a b l part c d w1 hl hm hK
  clear ha hb hf hm hm1 hm2
  generalize findM l part i = R at *
  go_enter Tryd.func74, Tryd.ntmps74
  go_wp2_with (go_at_call 95; refine F.out.mono ?_; rintro e w0 ⟨rfl, hK, hb0⟩; have HK := Lib.hid hK; clear hK)
  all_goals
    go_loopw [8] (fun iv wr => ∃ k : Nat, iv = .int .i64 (k : Int) ∧ m ≤ k ∧ (k ≤ m ∨ (k : Int) ≤ l.length + 1) ∧ Hid (R = upF (atM l part) (-1) ((l.length : Int) - part.length + 1 - k).toNat (k : Int)) ∧ Hid (Fin2 wr (w.heap.size + 1) w.heap.size a b l part c d) ∧ Below w.heap.size w wr) (fun iv _ => (l.length + 2 - intOf iv).toNat)
    case atStart => exact ⟨m, retV (by first | exact HM1.out (by assumption) | exact HM2.out (by assumption) | (have := HM1.out; have := HM2.out; omega)), Nat.le_refl _, Or.inl (Nat.le_refl _), Hf, HK, hb0⟩
    case round =>
      obtain ⟨k, rfl, hmk, hkl, hR, hK, hbl⟩ := hrel
      by_cases hlt : (k : Int) ≤ (l.length : Int) - part.length
      · have C1 := fun w1 h => C.out k w1 (by omega) h
        cases ht : atM l part k
        · have HR : Hid (R = upF (atM l part) (-1) ((l.length : Int) - part.length + 1 - ((k + 1 : Nat) : Int)).toNat ((k + 1 : Nat) : Int)) := Lib.hid (by
            rw [hR.out, up_miss (by omega) ht]
            congr 1; omega)
          rw [ht] at C1
          replace C1 := Lib.hid C1
          clear ht
          go_wp2_with (go_at_call 114; refine (C1.out _ hK.out).mono ?_; rintro e w1 ⟨rfl, hb1⟩; have K1 := Lib.hid (hK.out.below hb1))
          go_roundw
          case rel => exact ⟨k + 1, by go_num, by omega, Or.inr (by omega), HR, K1, hbl.trans (hb1.mono hbl.size)⟩
          case measure => simp [intOf]; omega
        · have HR : Hid (R = k) := Lib.hid (by rw [hR.out, up_hit (by omega) ht])
          rw [ht] at C1
          replace C1 := Lib.hid C1
          clear ht
          go_wp2_with (go_at_call 114; refine (C1.out _ hK.out).mono ?_; rintro e w1 ⟨rfl, hb1⟩)
          go_ret
          rw [HR.out]
          exact ⟨rfl, hbl.trans (hb1.mono hbl.size)⟩
      · have HR : Hid (R = -1) := Lib.hid (by rw [hR.out, up_end (by omega)])
        go_wp2
        go_ret
        rw [HR.out]
        exact ⟨rfl, hbl⟩
end Go.Proofs.YtdifkjmpdmlobaaDoor
set_option linter.unusedVariables false
set_option linter.unusedSimpArgs false
namespace Go.Proofs.YtdifkjmpdmlobaaDoor
open Go.RowKit
theorem OwS.mono {w : World} {B B' : Nat} {v : Value} {L : List (Int × Int)} (h : OwS w B v L) (hB : B' ≤ B) : OwS w B' v L := World.ownsRow.mono h hB
theorem ows_keep {w w' : World} {B : Nat} {v : Value} {L : List (Int × Int)} (h : OwS w B v L) (hb : Below w.heap.size w w') : OwS w' B v L := by
  refine World.ownsRow.kept h (row := none) ⟨hb.os, hb.tape, hb.output, hb.size, fun k hk _ => hb.block k hk⟩ ?_
  cases v.ownBlock <;> simp
theorem ows_nil (w : World) (B : Nat) : OwS w B (.slice none 0 0) [] := World.ownsRow_nil _ _ _ _
set_option maxHeartbeats 2000000 in
theorem clone_sg (l : List (Int × Int)) (a : Option Addr) (n c : Nat) (S : Nat → Prop) (w : World) (hn : l.length = n) (hl : n ≤ 100000) (hs : SlS S w a l c) :
    Calls Tryd.prog 55 #[.slice a n c] w fun e w' => ∃ b d, e = .returned (.slice b n d) ∧ OwS w' w.heap.size (.slice b n d) l ∧ Below w.heap.size w w' := by
  have q := fun (w : World) (a : Option Addr) (n c n' c' : Nat) => Lib.run_eql_slice_nil (P := Tryd.prog) w 28 89 a n c n' c' Tryd.underlying28
  cases a with
  | none =>
    have hc := hs.nl rfl
    have hl0 : l = [] := by
      cases l with
      | nil => rfl
      | cons x l => obtain ⟨_, _, e, _⟩ := hs.s 0 (by simp); cases e
    subst hl0
    obtain rfl : 0 = n := hn
    subst hc
    clear hs
    go_enter Tryd.func55, Tryd.ntmps55
    go_wp2
    go_ret
    exact ⟨none, 0, rfl, ows_nil _ _, Below.refl _ _⟩
  | some ad =>
    have N0 := below_alloc w (.cells #[] 89)
    have H0 := Lib.hid (ows_new w)
    have HA := Lib.hid (hs.below N0)
    have HN := Lib.hid hn
    have HB0 := Lib.hid N0
    clear hs hn N0
    obtain ⟨B, hB⟩ : ∃ B, w.heap.size = B := ⟨_, rfl⟩
    have HBq := Lib.hid hB
    rw [hB] at H0
    obtain ⟨W, hW⟩ : ∃ W, w.alloc (.cells #[] 89) = W := ⟨_, rfl⟩
    rw [hW] at H0 HA HB0
    go_enter Tryd.func55, Tryd.ntmps55
    go_wp2_with (at_builtin; refine wpList_app_signs rfl _ _ rfl B _ 0 [] rfl rfl H0.out (some ad) n c l rfl HN.out HA.out.s (fun e => (by cases e)) ?g3 ?g4 ?_)
    case g3 => omega
    case g4 => have := HB0.out.size; have := HBq.out; omega
    intro ad5 c5 w5 o5 g5
    have N5 := Lib.hid (HB0.out.grown g5 HB0.out.size (fun j hj => by simp [Value.ownBlock] at hj; have := HBq.out; omega))
    have HS := Lib.hid (show OwS w5 w.heap.size (.slice ad5 n c5) l by rw [HBq.out]; exact o5)
    clear o5 g5
    go_wp2
    go_ret
    exact ⟨ad5, c5, rfl, HS.out, N5.out⟩
end Go.Proofs.YtdifkjmpdmlobaaDoor
set_option linter.unusedVariables false
set_option linter.unusedSimpArgs false
namespace Go.Proofs.YtdifkjmpdmlobaaDoor
open Go.RowKit
def wrL (l : List (Int × Int)) (u : Int) : List (Int × Int) := l.map fun p => (p.1, u)
set_option maxHeartbeats 4000000 in
theorem withr_any (l : List (Int × Int)) (u : Int) (a : Option Addr) (c : Nat) (w : World) (hl : l.length ≤ 100000) (hs : Signs w a l) :
    Calls Tryd.prog 15 #[.slice a l.length c, .int .i64 u] w fun e w' => ∃ x, e = .returned x ∧ OwS w' w.heap.size x (wrL l u) ∧ Below w.heap.size w w' := by
  have HS := Lib.hid hs; clear hs
  go_enter Tryd.func15, Tryd.ntmps15
  go_wp2
  go_loopw [5, 6] (fun ov iv wr => ∃ k : Nat, k ≤ l.length ∧ iv = .int .i64 (k : Int) ∧ Hid (OwS wr w.heap.size ov (wrL (l.take k) u)) ∧ Hid (Below w.heap.size w wr)) (fun _ iv _ => l.length - (intOf iv).toNat)
  case atStart => exact ⟨0, Nat.zero_le _, rfl, Lib.hid (World.ownsRow_nil _ _ _ _), Lib.hid (Below.refl _ _)⟩
  case round =>
    obtain ⟨k, hk, rfl, hO, hb⟩ := hrel
    by_cases hlt : k < l.length
    · obtain ⟨b, off, rfl, hblk, c1, c2⟩ := (HS.out.below hb.out) k hlt
      have hk1 : (k : Int) < l.length := by omega
      have hk0 : (0 : Int) ≤ k := by omega
      have hnext : wrL (l.take (k + 1)) u = wrL (l.take k) u ++ [((l.getD k (0, 0)).1, u)] := by
        unfold wrL
        rw [List.take_add_one, List.getElem?_eq_getElem hlt, List.map_append]
        simp [List.getD, List.getElem?_eq_getElem hlt]
      have hlen : (wrL (l.take k) u).length = k := by unfold wrL; simp; omega
      have Hn := Lib.hid hnext
      have Hl := Lib.hid hlen
      have BA := fun o => below_alloc wr o
      generalize (l.getD k (0, 0)).1 = v at *
      generalize wrL (l.take k) u = Y at *
      have O1 := Lib.hid (ows_keep hO.out (BA (.cells #[.int .i64 v, .int .i64 u] 89)))
      have N1 := Lib.hid (seqB hb.out (BA (.cells #[.int .i64 v, .int .i64 u] 89)))
      have S1 := Lib.hid (show Signs (wr.alloc (.cells #[.int .i64 v, .int .i64 u] 89)) (some ⟨wr.heap.size, 0, none⟩) [(v, u)] from signs_new wr [(v, u)] 89)
      obtain ⟨ay, cy, rfl⟩ := hO.out.form Hl.out
      clear hnext hlen hO hb BA
      go_wp2_with (at_builtin; refine wpList_app_signs rfl _ _ rfl w.heap.size _ k Y rfl Hl.out O1.out (some ⟨wr.heap.size, 0, none⟩) 1 1 [(v, u)] rfl rfl S1.out (fun e => (by cases e)) ?g3 ?g4 ?_)
      case g3 => omega
      case g4 => exact N1.out.size
      intro ad5 c5 w5 hown5 hgrow5
      have N5 := Lib.hid (N1.out.grown hgrow5 N1.out.size (fun j hj => (O1.out.lt j hj).1))
      have HO := Lib.hid hown5
      clear hown5 hgrow5
      go_wp2
      go_roundw
      case rel => exact ⟨k + 1, by omega, by go_num, Lib.hid (by rw [Hn.out]; exact HO.out), N5⟩
      case measure => (simp [intOf]; try omega)
    · obtain rfl : k = l.length := by omega
      rw [List.take_length] at hO
      have hkl : ¬ (l.length : Int) < (l.length : Int) := by omega
      go_wp2
      go_ret
      exact ⟨_, rfl, hO.out, hb.out⟩
end Go.Proofs.YtdifkjmpdmlobaaDoor
set_option linter.unusedVariables false
set_option linter.unusedSimpArgs false
namespace Go.Proofs.YtdifkjmpdmlobaaDoor
open Go.RowKit
theorem ows_slS {w : World} {B n c : Nat} {a : Option Addr} {l : List (Int × Int)} (h : OwS w B (.slice a n c) l) : SlS (fun _ => True) w a l c := by
  obtain ⟨a', c', e, hs⟩ := h.sl
  injection e with e1 e2 e3
  subst e1; subst e3
  exact hs.mono (fun _ _ => trivial)
/-- A row of slices, filled up with none. -/
def slR2 (xs : List Value) (t : Nat) : Array Value := (xs ++ List.replicate (t - xs.length) (Value.slice none 0 0)).toArray
theorem made_sls (n : Nat) : madeCells #[.slice none 0 0] (n * 1) = slR2 [] n := by
  apply Array.ext'
  rw [toList_madeCells_one]; simp [slR2]
theorem slR2_set (xs : List Value) (t : Nat) (v : Value) (h : xs.length < t) : (slR2 xs t).setIfInBounds xs.length v = slR2 (xs ++ [v]) t := by
  apply Array.ext'
  obtain ⟨d, rfl⟩ : ∃ d, t = xs.length + 1 + d := ⟨t - xs.length - 1, by omega⟩
  have e1 : xs.length + 1 + d - xs.length = d + 1 := by omega
  simp [slR2, e1, List.replicate_succ]
theorem slR2_at (xs : List Value) (t j : Nat) (h : j < xs.length) : (slR2 xs t)[j]? = xs[j]? := by
  unfold slR2
  rw [List.getElem?_toArray, List.getElem?_append_left h]
theorem slR2_in (xs : List Value) (t : Nat) (h : xs.length < t) : (slR2 xs t)[xs.length]? = some (.slice none 0 0) := by
  unfold slR2
  rw [List.getElem?_toArray, List.getElem?_append_right (Nat.le_refl _), Nat.sub_self, List.getElem?_replicate]
  simp; omega
/-- A row of signs that a call made, as a slice of its own. -/
theorem ows_blk {w : World} {B g n : Nat} {l : List (Int × Int)} (h : w.heap[g]? = some (.cells (sRow l) 89 (0, 0))) (hB : B ≤ g) (hn : l.length = n) (hl : n ≤ maxLen) : OwS w B (.slice (some ⟨g, 0, none⟩) n n) l := by
  have hlen := apR_len l
  have hsz : (sRow l).size = l.length * 2 := by rw [← hlen, Array.length_toList]
  refine ⟨by rw [hlen], .inr ⟨g, n, sRow l, by rw [hn], hB, h, ?_⟩⟩
  refine ⟨by omega, ?_, ?_⟩
  · simp_all
  · simp_all [List.take_of_length_le]
end Go.Proofs.YtdifkjmpdmlobaaDoor
set_option linter.unusedVariables false
set_option linter.unusedSimpArgs false
namespace Go.Proofs.YtdifkjmpdmlobaaDoor
open Go.RowKit
/-- An entry begins with a line's values. -/
def bgV (l E : List (Int × Int)) : Bool := decide (l.length ≤ E.length) && decide (findM (E.take l.length) l 0 = 0)
/-- The same values. -/
def sameV (l E : List (Int × Int)) : Bool := decide (E.length = l.length) && bgV l E
theorem sameV_iff (l E : List (Int × Int)) : sameV l E = true ↔ E.map (·.1) = l.map (·.1) := by
  unfold sameV bgV
  simp only [Bool.and_eq_true, decide_eq_true_eq]
  constructor
  · rintro ⟨h1, h2, h3⟩
    rw [List.take_of_length_le (by omega)] at h3
    unfold findM at h3
    rw [show ((E.length : Int) - l.length + 1 - max 0 0).toNat = 1 by omega, show (max (0 : Int) 0) = 0 from rfl] at h3
    unfold upF at h3
    have h4 : atM E l 0 = true := by
      by_cases h : atM E l 0 = true
      · exact h
      · rw [if_neg h] at h3; unfold upF at h3; omega
    unfold atM at h4
    rw [List.all_eq_true] at h4
    apply List.ext_getElem (by simpa using h1)
    intro i hi hj
    have hi' : i < E.length := by simpa using hi
    have hj' : i < l.length := by simpa using hj
    have := h4 i (by simpa using hj')
    simp [List.getD, List.getElem?_eq_getElem hi', List.getElem?_eq_getElem hj'] at this
    simpa using this
  · intro h
    have h1 : E.length = l.length := by have := congrArg List.length h; simpa using this
    refine ⟨h1, by omega, ?_⟩
    rw [List.take_of_length_le (by omega)]
    unfold findM
    rw [show ((E.length : Int) - l.length + 1 - max 0 0).toNat = 1 by omega, show (max (0 : Int) 0) = 0 from rfl]
    unfold upF
    rw [if_pos]
    unfold atM
    rw [List.all_eq_true]
    intro i hi
    have hj : i < l.length := by simpa using hi
    have hE : i < E.length := by omega
    have e := congrArg (fun L => L[i]?) h
    simp [List.getElem?_eq_getElem hj, List.getElem?_eq_getElem hE] at e
    simp [List.getD, List.getElem?_eq_getElem hj, List.getElem?_eq_getElem hE, e]
theorem cut_take {w : World} {a : Option Addr} {E : List (Int × Int)} (h : Signs w a E) (c t : Nat) (hc : E.length ≤ c) : Signs w (if c = 0 then a else a.map (·.add (0 * 2))) (E.take t) := fun i hi => by
  have hi2 : i < E.length := by rw [List.length_take] at hi; omega
  have hi3 : i < t := by rw [List.length_take] at hi; omega
  obtain ⟨b, off, rfl, hlt, h1, h2⟩ := h i hi2
  have e : (E.take t).getD i (0, 0) = E.getD i (0, 0) := by simp [List.getD, List.getElem?_take, hi3]
  refine ⟨b, off, ?_, hlt, by rw [e]; exact h1, by rw [e]; exact h2⟩
  rw [if_neg (by omega)]
  simp [Addr.add]
set_option maxHeartbeats 4000000 in
theorem begin1_any (l E : List (Int × Int)) (al ae : Option Addr) (ml cl ne ce Q : Nat) (w : World) (hQ : w.heap[Q]? = some (.cells #[.slice al ml cl] 28 (0, 0))) (hl : l.length = ml) (hE : E.length = ne) (hm : ml ≤ 100000) (hn : ne ≤ 100000) (hc : ne ≤ ce) (sl : Signs w al l) (sE : Signs w ae E) :
    Calls Tryd.prog 73 #[.slice ae ne ce, .pointer (some ⟨Q, 0, none⟩)] w fun e w' => e = .returned (.bool (bgV l E)) ∧ Below w.heap.size w w' := by
  have y0 := cell_of_row _ _ 0 _ _ _ hQ
  dsimp at y0
  clear hQ
  by_cases hle : ml ≤ ne
  · have hb : bgV l E = decide (findM (E.take ml) l 0 = 0) := by unfold bgV; rw [hl, hE, decide_eq_true hle]; rfl
    have hA := cut_take sE ce ml (by omega)
    obtain ⟨A, hAe⟩ : ∃ A, (if ce = 0 then ae else ae.map (·.add (0 * 2))) = A := ⟨_, rfl⟩
    rw [hAe] at hA
    have hcut : ∀ w : World, (Instr.slice 28 (.slice ae ne ce) none (some (.int .i64 (ml : Int))) none).run Tryd.prog w = .ok (.slice A ml ce) w := fun w => by
      rw [run_cutH w ae ne ce ml (by omega), hAe]
    have lt : (E.take ml).length = ml := by rw [List.length_take]; omega
    have FD : Hid (∀ w', Below w.heap.size w w' → Calls Tryd.prog 74 #[.slice A ml ce, .slice al ml cl, .int .i64 0] w' fun e w'' => e = .returned (.int .i64 (findM (E.take ml) l 0)) ∧ Below w'.heap.size w' w'') := Lib.hid fun w' hb => by
      have h := find_any (E.take ml) l A al ce cl 0 w' (by decide) (by omega) (by omega) (hA.below hb) (sl.below hb)
      rw [lt, hl] at h
      exact h
    have hle1 : (ml : Int) ≤ (ne : Int) := by omega
    have hle2 : ¬ ((ne : Int) < (ml : Int)) := by omega
    have HB := Lib.hid hb
    generalize findM (E.take ml) l 0 = f at *
    clear hA sE sl hAe lt hb
    go_enter Tryd.func73, Tryd.ntmps73
    go_upto_region 1 with fail
    have D0 := (Below.refl w.heap.size w).drew
    have FW := Lib.hid (FD.out _ D0)
    clear FD D0
    go_region_law (first
      | (go_simp; go_at_call 74; refine FW.out.mono ?_; rintro e w1 ⟨rfl, hb1⟩; have N1 : Hid (Below w.heap.size w w1) := Lib.hid ((Below.refl w.heap.size w).drew.trans hb1); clear hb1))
    all_goals go_wp2
    all_goals go_ret
    all_goals exact ⟨by rw [HB.out]; rfl, N1.out⟩
  · have hb : bgV l E = false := by unfold bgV; rw [hl, hE, decide_eq_false hle]; rfl
    rw [hb]
    have hle1 : ¬ ((ml : Int) ≤ (ne : Int)) := by omega
    clear hb sl sE
    go_enter Tryd.func73, Tryd.ntmps73
    go_upto_region 1 with fail
    go_quiet (fail)
    go_wp2
    go_ret
    exact ⟨by first | rfl | trivial, by first | exact Below.refl _ w | exact (Below.refl _ w).drew | exact drewN_below (Below.refl _ w) _⟩
theorem beginner_any (al : Option Addr) (ml cl : Nat) (w : World) :
    Calls Tryd.prog 49 #[.slice al ml cl] w fun e w' => e = .returned (.func (.func 73) #[] #[.pointer (some ⟨w.heap.size, 0, none⟩)]) ∧ w.alloc (.cells #[.slice al ml cl] 28) = w' := by
  have hmf : ∀ (fn : Fn) (first cap : Array Value) (w : World), (Instr.makeFunc fn first cap).run Tryd.prog w = .ok (.func fn first cap) w := fun _ _ _ _ => rfl
  go_enter Tryd.func49, Tryd.ntmps49
  go_wp2
  go_ret
  exact ⟨rfl, rfl⟩
/-- What Add's closure holds: the line behind a variable, the function behind another, and the line that the function holds. -/
structure BgF (w : World) (Q1 Q2 Q3 : Nat) (al : Option Addr) (ml cl : Nat) (l : List (Int × Int)) : Prop where
  q1 : w.heap[Q1]? = some (.cells #[.slice al ml cl] 28 (0, 0))
  q2 : w.heap[Q2]? = some (.cells #[.func (.func 73) #[] #[.pointer (some ⟨Q3, 0, none⟩)]] 92 (0, 0))
  q3 : w.heap[Q3]? = some (.cells #[.slice al ml cl] 28 (0, 0))
  s : Signs w al l
  len : l.length = ml
theorem BgF.below {w w' : World} {Q1 Q2 Q3 : Nat} {al : Option Addr} {ml cl : Nat} {l : List (Int × Int)} (h : BgF w Q1 Q2 Q3 al ml cl l) (hb : Below w.heap.size w w') : BgF w' Q1 Q2 Q3 al ml cl l :=
  ⟨blk_below h.q1 hb, blk_below h.q2 hb, blk_below h.q3 hb, h.s.below hb, h.len⟩
set_option maxHeartbeats 4000000 in
theorem add1_any (l E : List (Int × Int)) (al ae : Option Addr) (ml cl ne ce Q1 Q2 Q3 : Nat) (w : World) (h : BgF w Q1 Q2 Q3 al ml cl l) (hE : E.length = ne) (hm : ml ≤ 100000) (hn : ne ≤ 100000) (hc : ne ≤ ce) (sE : Signs w ae E) :
    Calls Tryd.prog 51 #[.slice ae ne ce, .pointer (some ⟨Q1, 0, none⟩), .pointer (some ⟨Q2, 0, none⟩)] w fun e w' => e = .returned (.bool (sameV l E)) ∧ Below w.heap.size w w' := by
  have y1 := cell_of_row _ _ 0 _ _ _ h.q1
  have y2 := cell_of_row _ _ 0 _ _ _ h.q2
  dsimp at y1 y2
  by_cases he : ne = ml
  · have hs : sameV l E = bgV l E := by unfold sameV; rw [hE, h.len, decide_eq_true he]; rfl
    rw [hs]
    have B1 := Lib.hid (begin1_any l E al ae ml cl ne ce Q3 w h.q3 h.len hE hm hn hc h.s sE)
    clear hs
    subst he
    generalize bgV l E = q at *
    clear h sE
    go_enter Tryd.func51, Tryd.ntmps51
    go_wp2_with (go_at_call 73; with_reducible refine B1.out.mono ?_; rintro e w1 ⟨rfl, hb1⟩; have N1 := Lib.hid hb1; clear hb1)
    all_goals go_ret
    all_goals exact ⟨rfl, N1.out⟩
  · have hs : sameV l E = false := by unfold sameV; rw [hE, h.len, decide_eq_false he]; rfl
    rw [hs]
    have he1 : ((ne : Int) == (ml : Int)) = false := beq_eq_false_iff_ne.2 (by omega)
    clear h sE hs
    go_enter Tryd.func51, Tryd.ntmps51
    go_wp2
    all_goals go_ret
    all_goals exact ⟨rfl, Below.refl _ w⟩
end Go.Proofs.YtdifkjmpdmlobaaDoor
set_option linter.unusedVariables false
set_option linter.unusedSimpArgs false
namespace Go.Proofs.YtdifkjmpdmlobaaDoor
open Go.RowKit
/-- Entries: a row of slices of signs, each of its own. -/
structure HdV (B : Nat) (v : Value) (vs : List Value) (E : List (List (Int × Int))) (w : World) : Prop where
  row : w.ownsRow B 28 1 v E.length vs
  len : vs.length = E.length
  el : ∀ i, i < E.length → ∃ x, vs[i]? = some x ∧ OwS w B x (E.getD i [])
theorem HdV.below {B : Nat} {v : Value} {vs : List Value} {E : List (List (Int × Int))} {w w' : World} (h : HdV B v vs E w) (hb : Below w.heap.size w w') : HdV B v vs E w' :=
  ⟨World.ownsRow.kept h.row (row := none) ⟨hb.os, hb.tape, hb.output, hb.size, fun k hk _ => hb.block k hk⟩ (by cases v.ownBlock <;> simp), h.len, fun i hi => by
    obtain ⟨x, h1, h2⟩ := h.el i hi
    exact ⟨x, h1, World.ownsRow.kept h2 (row := none) ⟨hb.os, hb.tape, hb.output, hb.size, fun k hk _ => hb.block k hk⟩ (by cases x.ownBlock <;> simp)⟩⟩
/-- The i-th entry, read. -/
theorem HdV.at {B : Nat} {v : Value} {vs : List Value} {E : List (List (Int × Int))} {w : World} (h : HdV B v vs E w) (i : Nat) (hi : i < E.length) :
    ∃ g cap a n c, v = .slice (some ⟨g, 0, none⟩) E.length cap ∧ E.length ≤ cap ∧ g < w.heap.size ∧ w.cell? ⟨g, i, none⟩ = some (.slice a n c) ∧ (E.getD i []).length = n ∧ n ≤ c ∧ Signs w a (E.getD i []) := by
  obtain ⟨x, h1, h2⟩ := h.el i hi
  obtain ⟨a, c, rfl, hs⟩ := h2.sl
  rcases h.row.2 with ⟨rfl, h0⟩ | ⟨g, cap, cur, rfl, hBg, hg, r⟩
  · omega
  · have hc := h.row.cellAt i (by rw [Nat.mul_one]; exact hi)
    exact ⟨g, cap, a, _, c, rfl, r.1, blk_lt hg, by rw [hc]; exact h1, rfl, hs.le, hs.s⟩
set_option maxHeartbeats 4000000 in
theorem hidx_any (l : List (Int × Int)) (E : List (List (Int × Int))) (v : Value) (vs : List Value) (B n ml cl Q1 Q2 Q3 : Nat) (al : Option Addr) (w : World) (h : HdV B v vs E w) (hn : E.length = n) (hF : BgF w Q1 Q2 Q3 al ml cl l) (hm : ml ≤ 100000) (hl : n ≤ 100000) (hE : ∀ i, i < n → (E.getD i []).length ≤ 100000) :
    Calls Tryd.prog 75 #[v, .func (.func 51) #[] #[.pointer (some ⟨Q1, 0, none⟩), .pointer (some ⟨Q2, 0, none⟩)]] w fun e w' =>
      ∃ r : Int, e = .returned (.int .i64 r) ∧ ((r = -1 ∧ ∀ j, j < n → sameV l (E.getD j []) = false) ∨ ∃ k : Nat, k < n ∧ r = (k : Int) ∧ sameV l (E.getD k []) = true ∧ ∀ j, j < k → sameV l (E.getD j []) = false) ∧ Below w.heap.size w w' := by
  have H := Lib.hid h
  have HN := Lib.hid hn
  have HF := Lib.hid hF
  have HE := Lib.hid hE
  obtain ⟨a, c, rfl⟩ : ∃ a c, v = .slice a n c := by
    have := h.row.2
    rw [hn] at this
    rcases this with ⟨rfl, h0⟩ | ⟨g, cap, cur, rfl, _⟩
    · exact ⟨none, 0, by rw [h0]⟩
    · exact ⟨_, cap, rfl⟩
  clear h hF hE hn
  go_enter Tryd.func75, Tryd.ntmps75
  go_wp2_with fail
  go_loopw [8] (fun iv wr => ∃ k : Nat, k ≤ n ∧ iv = .int .i64 (k : Int) ∧ Hid (Below w.heap.size w wr) ∧ Hid (∀ j, j < k → sameV l (E.getD j []) = false)) (fun iv _ => n - (intOf iv).toNat)
  case atStart => exact ⟨0, Nat.zero_le _, rfl, Lib.hid (Below.refl _ _), Lib.hid (fun j hj => absurd hj (Nat.not_lt_zero j))⟩
  case round =>
    obtain ⟨k, hk, rfl, hb, HS⟩ := hrel
    by_cases hlt : k < n
    · have hk1 : (k : Int) < n := by omega
      have hk0 : (0 : Int) ≤ k := by omega
      obtain ⟨g, cap, ae, ne, ce, e, _, hg, hc, hne, hce, sE⟩ := (H.out.below hb.out).at k (by rw [HN.out]; exact hlt)
      have e' := Value.slice.inj e
      obtain ⟨rfl, -, rfl⟩ := e'
      have hle : ne ≤ 100000 := by rw [← hne]; exact HE.out k hlt
      have A1 := Lib.hid (add1_any l (E.getD k []) al ae ml cl ne ce Q1 Q2 Q3 wr (HF.out.below hb.out) hne hm hle hce sE)
      obtain ⟨q, hq⟩ : ∃ q, sameV l (E.getD k []) = q := ⟨_, rfl⟩
      rw [hq] at A1
      have HQ := Lib.hid hq
      clear e sE hq hne hce hle
      cases q with
      | true =>
        go_wp2_with (go_at_call 51; with_reducible refine A1.out.mono ?_; rintro e w1 ⟨rfl, hb1⟩; have N1 := Lib.hid (seqB hb.out hb1); clear hb1)
        go_ret
        exact ⟨_, rfl, Or.inr ⟨k, hlt, rfl, HQ.out, HS.out⟩, N1.out⟩
      | false =>
        go_wp2_with (go_at_call 51; with_reducible refine A1.out.mono ?_; rintro e w1 ⟨rfl, hb1⟩; have N1 := Lib.hid (seqB hb.out hb1); clear hb1)
        go_roundw
        case rel =>
          refine ⟨k + 1, by omega, by go_num, N1, Lib.hid (fun j hj => ?_)⟩
          by_cases e : j = k
          · rw [e]; exact HQ.out
          · exact HS.out j (by omega)
        case measure => (simp [intOf]; try omega)
    · obtain rfl : k = n := by omega
      go_wp2_with fail
      go_ret
      exact ⟨-1, rfl, Or.inl ⟨rfl, HS.out⟩, hb.out⟩
end Go.Proofs.YtdifkjmpdmlobaaDoor
set_option linter.unusedVariables false
set_option linter.unusedSimpArgs false
namespace Go.Proofs.YtdifkjmpdmlobaaDoor
open Go.RowKit
theorem grown_of_belowR {w w' : World} (h : Below w.heap.size w w') (row : Option Nat) : w.grownBy w' row := ⟨h.os, h.tape, h.output, h.size, fun k hk _ => h.block k hk⟩
theorem grown_set {w w' : World} {g : Nat} (h : w.grownBy w' (some g)) (i : Nat) (u : Value) : w.grownBy (w'.setCell ⟨g, i, none⟩ u) (some g) :=
  ⟨h.os, h.tape, h.output, by rw [show (w'.setCell ⟨g, i, none⟩ u).heap.size = w'.heap.size by simp [World.setCell]]; exact h.size, fun k hk hne => (Below.heap_setCell w' ⟨g, i, none⟩ u k (fun e => hne (by rw [e]))).trans (h.block k hk hne)⟩
theorem ows_grown {w w' : World} {B g : Nat} {x : Value} {L : List (Int × Int)} {cs : Array Value} {fr : Nat × Nat} (h : OwS w B x L) (hg : w.heap[g]? = some (.cells cs 28 fr)) (hw : w.grownBy w' (some g)) : OwS w' B x L :=
  World.ownsRow.kept h hw (Or.inr (own_ne_kind h hg (by decide)))
/-- What is kept of the first j entries. -/
def kpE (l : List (Int × Int)) (E : List (List (Int × Int))) (j : Nat) : List (List (Int × Int)) := (E.take j).filter fun x => !sameV l x
theorem kpE_next (l : List (Int × Int)) (E : List (List (Int × Int))) (j : Nat) (hj : j < E.length) : kpE l E (j + 1) = kpE l E j ++ (if sameV l (E.getD j []) = true then [] else [E.getD j []]) := by
  unfold kpE
  rw [List.take_add_one, List.getElem?_eq_getElem hj, List.filter_append]
  rw [List.getD, List.getElem?_eq_getElem hj]
  cases h : sameV l E[j] <;> simp [h]
theorem kpE_le (l : List (Int × Int)) (E : List (List (Int × Int))) (j : Nat) : (kpE l E j).length ≤ j := by
  unfold kpE
  exact Nat.le_trans (List.length_filter_le _ _) (by rw [List.length_take]; omega)
theorem kpE_first (l : List (Int × Int)) (E : List (List (Int × Int))) (k : Nat) (hk : k < E.length) (h : ∀ j, j < k → sameV l (E.getD j []) = false) : kpE l E k = E.take k := by
  unfold kpE
  rw [List.filter_eq_self]
  intro x hx
  obtain ⟨j, hj, rfl⟩ := List.getElem_of_mem hx
  have hj2 : j < k := by rw [List.length_take] at hj; omega
  have := h j hj2
  rw [List.getD, List.getElem?_eq_getElem (by omega)] at this
  rw [List.getElem_take]
  simpa using this
/-- The row under way: what is kept, then what stood there. -/
def rowK (ks vs T : List Value) : Array Value := (ks ++ vs.drop ks.length ++ T).toArray
theorem rowK_at {ks vs T : List Value} {j : Nat} (h : ks.length ≤ j) (hj : j < vs.length) : (rowK ks vs T)[j]? = vs[j]? := by
  unfold rowK
  rw [List.getElem?_toArray, List.append_assoc, List.getElem?_append_right h, List.getElem?_append_left (by rw [List.length_drop]; omega), List.getElem?_drop]
  congr 1; omega
theorem rowK_set {ks vs T : List Value} (x : Value) (h : ks.length < vs.length) : (rowK ks vs T).setIfInBounds ks.length x = rowK (ks ++ [x]) vs T := by
  unfold rowK
  rw [List.setIfInBounds_toArray]
  congr 1
  rw [List.append_assoc, List.set_append_right _ _ (Nat.le_refl _), Nat.sub_self, List.append_assoc, List.append_assoc]
  congr 1
  rw [List.drop_eq_getElem_cons h, List.length_append]
  rfl
/-- DeleteFunc under way: ks are kept of the first j. -/
structure DlS (B g : Nat) (l : List (Int × Int)) (E : List (List (Int × Int))) (vs T : List Value) (w wr : World) (j : Nat) (ks : List Value) : Prop where
  lt : ks.length < j
  len : ks.length = (kpE l E j).length
  row : wr.heap[g]? = some (.cells (rowK ks vs T) 28 (0, 0))
  el : ∀ i, i < ks.length → ∃ x, ks[i]? = some x ∧ OwS w B x ((kpE l E j).getD i [])
  gr : w.grownBy wr (some g)
theorem DlS.skip {B g : Nat} {l : List (Int × Int)} {E : List (List (Int × Int))} {vs T : List Value} {w wr w' : World} {j : Nat} {ks : List Value} (h : DlS B g l E vs T w wr j ks) (hj : j < E.length) (hs : sameV l (E.getD j []) = true) (hb : Below wr.heap.size wr w') : DlS B g l E vs T w w' (j + 1) ks := by
  have e : kpE l E (j + 1) = kpE l E j := by rw [kpE_next l E j hj, if_pos hs, List.append_nil]
  exact ⟨by have := h.lt; omega, by rw [e]; exact h.len, blk_below h.row hb, by rw [e]; exact h.el, h.gr.trans (grown_of_belowR hb _)⟩
theorem DlS.keep {B g : Nat} {l : List (Int × Int)} {E : List (List (Int × Int))} {vs T : List Value} {w wr w' : World} {j : Nat} {ks : List Value} {x : Value} (h : DlS B g l E vs T w wr j ks) (hj : j < E.length) (hs : sameV l (E.getD j []) = false) (hb : Below wr.heap.size wr w') (hl : vs.length = E.length) (hx : OwS w B x (E.getD j [])) : DlS B g l E vs T w (w'.setCell ⟨g, ks.length, none⟩ x) (j + 1) (ks ++ [x]) := by
  have e : kpE l E (j + 1) = kpE l E j ++ [E.getD j []] := by rw [kpE_next l E j hj, if_neg (by rw [hs]; decide)]
  have h1 := h.lt
  have h2 := h.len
  refine ⟨by rw [List.length_append, List.length_singleton]; omega, by rw [e, List.length_append, List.length_append, h2]; rfl, ?_, ?_, grown_set (h.gr.trans (grown_of_belowR hb _)) _ _⟩
  · have := blk_set (blk_below h.row hb) ks.length x
    rw [rowK_set x (by omega)] at this
    exact this
  · intro i hi
    rw [List.length_append, List.length_singleton] at hi
    rw [e]
    by_cases hk : i < ks.length
    · obtain ⟨y, h3, h4⟩ := h.el i hk
      refine ⟨y, by rw [List.getElem?_append_left hk]; exact h3, ?_⟩
      rw [List.getD, List.getElem?_append_left (by omega)]
      exact h4
    · obtain rfl : i = ks.length := by omega
      refine ⟨x, by simp, ?_⟩
      rw [List.getD, List.getElem?_append_right (by omega), h2, Nat.sub_self]
      exact hx
theorem elemSSh : Tryd.prog.elem 22 = 28 := by kernel_rfl
theorem sizeSSh (w : World) : (sizeOf 28).run Tryd.prog w = .ok 1 w := by kernel_rfl
theorem zeroSSh (w : World) : (zeroValue 28).run Tryd.prog w = .ok (.slice none 0 0) w := by kernel_rfl
theorem run_cutL2 (w : World) (g n c f : Nat) (h : f < n) (hc : n ≤ c) : (Instr.slice 22 (.slice (some ⟨g, 0, none⟩) n c) (some (.int .i64 (f : Int))) none none).run Tryd.prog w = .ok (.slice (some ⟨g, f, none⟩) (n - f) (c - f)) w := by
  rw [run_slice_l (P := Tryd.prog) w 22 _ n c (by kernel_rfl) .i64 (f : Int) (by omega) (by omega), elemSSh, sizeSSh]
  show Result.ok (Value.slice (if c = f then _ else _) (n - f) (c - f)) w = _
  rw [if_neg (by omega)]
  have hadd : (⟨g, 0, none⟩ : Addr).add (f * 1) = ⟨g, f, none⟩ := by unfold Addr.add; split <;> simp_all
  rw [Option.map_some, Int.toNat_natCast, hadd]
theorem run_cutH2 (w : World) (g n c t : Nat) (h : t < n) (hc : n ≤ c) : (Instr.slice 22 (.slice (some ⟨g, 0, none⟩) n c) none (some (.int .i64 (t : Int))) none).run Tryd.prog w = .ok (.slice (some ⟨g, 0, none⟩) t c) w := by
  rw [run_slice_h (P := Tryd.prog) w 22 _ n c (by kernel_rfl) .i64 (t : Int) (by omega) (by omega), elemSSh, sizeSSh]
  show Result.ok (Value.slice (if c = 0 then _ else _) t c) w = _
  rw [if_neg (by omega)]
  have hadd : (⟨g, 0, none⟩ : Addr).add (0 * 1) = ⟨g, 0, none⟩ := by unfold Addr.add; split <;> simp_all
  rw [Option.map_some, hadd]
theorem setCells_blk (g : Nat) (t : TypeId) (f : Nat × Nat) : ∀ (us : List Value) (o : Nat) (w : World) (cs : Array Value), w.heap[g]? = some (.cells cs t f) → (∃ cs', (w.setCells g o us).heap[g]? = some (.cells cs' t f) ∧ cs'.size = cs.size ∧ ∀ k, k < o → cs'[k]? = cs[k]?) ∧ w.grownBy (w.setCells g o us) (some g)
  | [], _, w, cs, h => ⟨⟨cs, h, rfl, fun _ _ => rfl⟩, ⟨rfl, rfl, rfl, Nat.le_refl _, fun _ _ _ => rfl⟩⟩
  | u :: us, o, w, cs, h => by
    have h1 := blk_set h o u
    obtain ⟨⟨cs', h2, h3, h4⟩, h5⟩ := setCells_blk g t f us (o + 1) (w.setCell ⟨g, o, none⟩ u) _ h1
    refine ⟨⟨cs', h2, by rw [h3, Array.size_setIfInBounds], fun k hk => ?_⟩, (grown_set (w := w) (w' := w) ⟨rfl, rfl, rfl, Nat.le_refl _, fun _ _ _ => rfl⟩ o u).trans h5⟩
    rw [h4 k (by omega), Array.getElem?_setIfInBounds_ne (by omega)]
set_option maxHeartbeats 4000000 in
theorem hdel_any (l : List (Int × Int)) (E : List (List (Int × Int))) (v : Value) (vs : List Value) (B n ml cl Q1 Q2 Q3 : Nat) (al : Option Addr) (w : World) (h : HdV B v vs E w) (hn : E.length = n) (hFK : ∀ W, w.grownBy W v.ownBlock → BgF W Q1 Q2 Q3 al ml cl l) (hm : ml ≤ 100000) (hl : n ≤ 100000) (hE : ∀ i, i < n → (E.getD i []).length ≤ 100000) (hB : B ≤ w.heap.size) :
    Calls Tryd.prog 50 #[v, .func (.func 51) #[] #[.pointer (some ⟨Q1, 0, none⟩), .pointer (some ⟨Q2, 0, none⟩)]] w fun e w' =>
      ∃ v' vs', e = .returned v' ∧ HdV B v' vs' (E.filter fun x => !sameV l x) w' ∧ w.grownBy w' v.ownBlock ∧ v'.ownBlock = v.ownBlock := by
  have IX := Lib.hid (hidx_any l E v vs B n ml cl Q1 Q2 Q3 al w h hn (hFK w ⟨rfl, rfl, rfl, Nat.le_refl _, fun _ _ _ => rfl⟩) hm hl hE)
  have H := Lib.hid h
  have HN := Lib.hid hn
  have HF := Lib.hid hFK
  have HE := Lib.hid hE
  obtain ⟨a, c, rfl⟩ : ∃ a c, v = .slice a n c := by
    have := h.row.2
    rw [hn] at this
    rcases this with ⟨rfl, h0⟩ | ⟨g, cap, cur, rfl, _⟩
    · exact ⟨none, 0, by rw [h0]⟩
    · exact ⟨_, cap, rfl⟩
  clear h hFK hE hn
  go_enter Tryd.func50, Tryd.ntmps50
  go_upto_region 2 with (go_at_call 75; with_reducible refine IX.out.mono ?_; rintro e w1 ⟨r, rfl, hr, hb1⟩; have HR := Lib.hid hr; have B1 := Lib.hid hb1; clear hr hb1 IX)
  rcases HR.out with ⟨rfl, hall⟩ | ⟨k, hk, rfl, hs, hall⟩
  · have he : E.filter (fun x => !sameV l x) = E := by
      rw [List.filter_eq_self]
      intro x hx
      obtain ⟨j, hj, rfl⟩ := List.getElem_of_mem hx
      have := hall j (by rw [← HN.out]; exact hj)
      rw [List.getD, List.getElem?_eq_getElem hj] at this
      simpa using this
    have HEQ := Lib.hid he
    clear he hall HR
    go_wp2
    go_ret
    exact ⟨_, vs, rfl, by rw [HEQ.out]; exact H.out.below B1.out, grown_of_belowR B1.out _, rfl⟩
  · clear HR
    have hk1 : ¬ ((k : Int) = -1) := by omega
    have hk2 : ((k : Int) == -1) = false := beq_eq_false_iff_ne.2 hk1
    obtain ⟨g, cap, cur, e, hBg, hg, hnc, hcm, hcs, hct⟩ : ∃ g cap cur, Value.slice a n c = .slice (some ⟨g, 0, none⟩) n cap ∧ B ≤ g ∧ w.heap[g]? = some (.cells cur 28 (0, 0)) ∧ n ≤ cap ∧ cap ≤ maxLen ∧ cur.size = cap ∧ cur.toList.take n = vs := by
      have := H.out.row.2
      rw [HN.out] at this
      rcases this with ⟨_, h0⟩ | ⟨g, cap, cur, e, h1, h2, h3, h4, h5, h6⟩
      · omega
      · exact ⟨g, cap, cur, e, h1, h2, h3, h4, by simpa using h5, by simpa using h6⟩
    obtain ⟨rfl, -, rfl⟩ := Value.slice.inj e
    clear e
    go_upto_region 5 with fail
    have hvl : vs.length = n := by have := H.out.len; rw [HN.out] at this; exact this
    have h0 : DlS B g l E vs (cur.toList.drop n) w w1 (k + 1) (vs.take k) := by
      have ek : kpE l E (k + 1) = E.take k := by rw [kpE_next l E k (by rw [HN.out]; exact hk), if_pos hs, List.append_nil, kpE_first l E k (by rw [HN.out]; exact hk) hall]
      have lk : (vs.take k).length = k := by rw [List.length_take]; omega
      refine ⟨by omega, by rw [ek, lk, List.length_take, HN.out]; omega, ?_, ?_, grown_of_belowR B1.out _⟩
      · rw [blk_below hg B1.out]
        unfold rowK
        rw [lk, List.take_append_drop, ← hct, List.take_append_drop]
      · intro i hi
        rw [lk] at hi
        obtain ⟨x, h1, h2⟩ := H.out.el i (by rw [HN.out]; omega)
        refine ⟨x, by rw [List.getElem?_take, if_pos hi]; exact h1, ?_⟩
        rw [ek, List.getD, List.getElem?_take, if_pos hi]
        exact h2
    have H0 := Lib.hid h0
    have lk : (vs.take k).length = k := by rw [List.length_take]; omega
    have HLK := Lib.hid lk
    have HVL := Lib.hid hvl
    have HG := Lib.hid hg
    obtain ⟨T, hT⟩ : ∃ T, cur.toList.drop n = T := ⟨_, rfl⟩
    rw [hT] at H0
    have HTL := Lib.hid (show T.length = c - n by rw [← hT, List.length_drop, Array.length_toList, hcs])
    clear h0 lk hvl hT hg hct hall hs
    go_loopw [5, 6] (fun iv jv wr => ∃ (j : Nat) (ks : List Value), j ≤ n ∧ iv = .int .i64 (ks.length : Int) ∧ jv = .int .i64 (j : Int) ∧ Hid (DlS B g l E vs T w wr j ks)) (fun _ jv _ => n - (intOf jv).toNat)
    case atStart => exact ⟨k + 1, vs.take k, by omega, by rw [HLK.out], by go_num, H0⟩
    case round =>
      obtain ⟨j, ks, hj, rfl, rfl, HD⟩ := hrel
      by_cases hlt : j < n
      · have hj1 : (j : Int) < n := by omega
        have hj0 : (0 : Int) ≤ j := by omega
        have hjE : j < E.length := by rw [HN.out]; exact hlt
        obtain ⟨x, hx1, hx2⟩ := H.out.el j hjE
        have HX := Lib.hid hx2
        have hx3 := ows_grown hx2 HG.out HD.out.gr
        obtain ⟨ae, ce, rfl, hsl⟩ := hx3.sl
        obtain ⟨ne, hne⟩ : ∃ ne, (E.getD j []).length = ne := ⟨_, rfl⟩
        have hne1 : ne ≤ 100000 := by rw [← hne]; exact HE.out j hlt
        have hce : ne ≤ ce := by rw [← hne]; exact hsl.le
        rw [hne] at hx1 HX
        obtain ⟨i, hi⟩ : ∃ i, ks.length = i := ⟨_, rfl⟩
        have hij : i < j := by rw [← hi]; exact HD.out.lt
        have c1 : wr.cell? ⟨g, j, none⟩ = some (.slice ae ne ce) := by
          have := cell_of_row _ g j _ _ _ HD.out.row
          rw [this, rowK_at (by omega) (by rw [HVL.out]; exact hlt), hx1]
        obtain ⟨y, hy⟩ : ∃ y, vs[i]? = some y := ⟨vs[i]'(by rw [HVL.out]; omega), List.getElem?_eq_getElem (by rw [HVL.out]; omega)⟩
        have c2 : wr.cell? ⟨g, i, none⟩ = some y := by
          have := cell_of_row _ g i _ _ _ HD.out.row
          rw [this, rowK_at (by omega) (by rw [HVL.out]; omega), hy]
        have A1 := Lib.hid (add1_any l (E.getD j []) al ae ml cl ne ce Q1 Q2 Q3 wr (HF.out wr HD.out.gr) hne hm hne1 hce hsl.s)
        have hi0 : (0 : Int) ≤ i := by omega
        have hi1 : (i : Int) < n := by omega
        rw [hi]
        have HI := Lib.hid hi
        have C2 := Lib.hid c2
        have HR := Lib.hid HD.out.row
        have HJE := Lib.hid hjE
        have glt := blk_lt HD.out.row
        obtain ⟨q, hq⟩ : ∃ q, sameV l (E.getD j []) = q := ⟨_, rfl⟩
        rw [hq] at A1
        have HQ := Lib.hid hq
        clear hx1 hx2 hx3 hsl hne hne1 hce hy c2 hi hjE hq
        cases q with
        | true =>
          go_wp2_with (go_at_call 51; with_reducible refine A1.out.mono ?_; rintro e w2 ⟨rfl, hb2⟩; have D2 := Lib.hid (HD.out.skip HJE.out HQ.out hb2); clear hb2)
          go_roundw
          case rel => exact ⟨j + 1, ks, by omega, by rw [HI.out], by go_num, D2⟩
          case measure => (simp [intOf]; try omega)
        | false =>
          go_wp2_with (go_at_call 51; with_reducible refine A1.out.mono ?_; rintro e w2 ⟨rfl, hb2⟩; have D2 := Lib.hid (HD.out.keep HJE.out HQ.out hb2 (by rw [HVL.out, HN.out]) HX.out); have d2 : w2.cell? ⟨g, i, none⟩ = some y := (hb2.cell (p := ⟨g, i, none⟩) glt).trans C2.out; have f2 := frozen_of_row _ g i _ _ (blk_below HR.out hb2); clear hb2)
          go_roundw
          case rel => exact ⟨j + 1, ks ++ [.slice ae ne ce], by omega, by rw [List.length_append, HI.out]; go_num, by go_num, by rw [← HI.out]; exact D2⟩
          case measure => (simp [intOf]; try omega)
      · obtain rfl : j = n := by omega
        have hj1 : ¬ ((j : Int) < j) := by omega
        obtain ⟨i, hi⟩ : ∃ i, ks.length = i := ⟨_, rfl⟩
        have hin : i < j := by rw [← hi]; exact HD.out.lt
        have ek : kpE l E j = E.filter fun x => !sameV l x := by unfold kpE; rw [List.take_of_length_le (by rw [HN.out]; exact Nat.le_refl _)]
        have rsz : (rowK ks vs T).size = c := by
          unfold rowK
          rw [List.size_toArray, List.length_append, List.length_append, List.length_drop, HVL.out, HTL.out, hi]; omega
        have hcut1 : ∀ w : World, (Instr.slice 22 (.slice (some ⟨g, 0, none⟩) j c) (some (.int .i64 (i : Int))) none none).run Tryd.prog w = .ok (.slice (some ⟨g, i, none⟩) (j - i) (c - i)) w := fun w => run_cutL2 w g j c i hin hnc
        have hcut2 : ∀ w : World, (Instr.slice 22 (.slice (some ⟨g, 0, none⟩) j c) none (some (.int .i64 (i : Int))) none).run Tryd.prog w = .ok (.slice (some ⟨g, 0, none⟩) i c) w := fun w => run_cutH2 w g j c i hin hnc
        have hcl : ∀ ty, (Builtin.clear_ #[22] ty #[.slice (some ⟨g, i, none⟩) (j - i) (c - i)]).run Tryd.prog wr = .ok (.tuple #[]) (wr.setCells g i (List.replicate (j - i) (.slice none 0 0))) := fun ty =>
          Lib.run_clear_slice wr _ _ ty _ Tryd.underlying22 zeroSSh rfl rfl g i _ _ (by omega) (fun t ht => by
            have := cell_of_row _ g (i + t) _ _ _ HD.out.row
            rw [this, rowK_at (by omega) (by rw [HVL.out]; omega), List.getElem?_eq_getElem (by rw [HVL.out]; omega)]; rfl) (fun t ht => frozen_of_row _ g (i + t) _ _ HD.out.row)
        obtain ⟨⟨cs', z1, z2, z3⟩, z4⟩ := setCells_blk g _ _ (List.replicate (j - i) (.slice none 0 0)) i wr _ HD.out.row
        obtain ⟨wz, hwz⟩ : ∃ W, wr.setCells g i (List.replicate (j - i) (.slice none 0 0)) = W := ⟨_, rfl⟩
        rw [hwz] at hcl z1 z4
        have HGR := Lib.hid (HD.out.gr.trans z4)
        have hfin : HdV B (.slice (some ⟨g, 0, none⟩) i c) ks (E.filter fun x => !sameV l x) wz := by
          have hlen := HD.out.len
          rw [ek, hi] at hlen
          refine ⟨⟨by rw [hi, ← hlen]; omega, .inr ⟨g, c, cs', by rw [← hlen], hBg, z1, by rw [← hlen]; omega, hcm, by rw [z2, rsz]; omega, ?_⟩⟩, by rw [hi, hlen], fun k hk => ?_⟩
          · rw [← hlen, Nat.mul_one]
            apply List.ext_getElem?
            intro k
            rw [List.getElem?_take]
            by_cases hk : k < i
            · rw [if_pos hk, Array.getElem?_toList, z3 k hk]
              unfold rowK
              rw [List.getElem?_toArray, List.append_assoc, List.getElem?_append_left (by omega)]
            · rw [if_neg hk, List.getElem?_eq_none (by omega)]
          · obtain ⟨x, h1, h2⟩ := HD.out.el k (by omega)
            rw [ek] at h2
            exact ⟨x, h1, ows_grown h2 HG.out HGR.out⟩
        have HFIN := Lib.hid hfin
        rw [hi]
        clear hfin z1 z2 z3 z4 hwz rsz ek hi
        go_wp2
        go_ret
        exact ⟨_, rfl, ⟨ks, HFIN.out⟩, HGR.out, rfl⟩
end Go.Proofs.YtdifkjmpdmlobaaDoor
