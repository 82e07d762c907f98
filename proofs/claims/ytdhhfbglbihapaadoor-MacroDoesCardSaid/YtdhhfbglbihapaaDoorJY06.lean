/-
  Joined: ArgK ArgKs Ma0 Ma1 Ma2 Ma3 Ma4 Ma10.
-/
import Derived.Test.YtdhhfbglbihapaaDoorJY03
import Derived.Test.YtdhhfbglbihapaaDoorJY05
import Derived.Test.YtdhhfbglbihapaaDoorJY0A
import Derived.Deep.SlicePairs
import Derived.ChangeArms
import Derived.Lib.LaidTab
import Derived.Lib.LaidU8
import Derived.Lib.SmallJoins
import Derived.Deep.Onto
import Derived.Deep.RegionHeld3
import Derived.BigQuiet
import Derived.Lib.QuietBelow
import Derived.Deep.QuietTactic
set_option linter.unusedVariables false
set_option linter.unusedSimpArgs false
set_option maxRecDepth 100000
set_option linter.unusedVariables false
set_option linter.unusedSimpArgs false
namespace Go.Proofs.YtdhhfbglbihapaaDoor
open Go.ChangeShapes Go.WideShapes Go.ChangeAt Go.RowKit Go.Deep Go.Joins
section
variable {H : Type} {enc : TypeId × Value → H} {W : World}
theorem array4 {α : Type} {cs : Array α} (h : cs.size = 4) : ∃ c0 c1 c2 c3, cs = #[c0, c1, c2, c3] := by
  obtain ⟨l⟩ := cs
  match l, h with
  | [c0, c1, c2, c3], _ => exact ⟨c0, c1, c2, c3, rfl⟩
set_option maxRecDepth 100000 in
theorem cellsKey : Tryd.prog.cellsOf 75 = 4 := by kernel_rfl
theorem open_agg4 {P : Program} {w : World} {base : Nat} {spare : Nat → Bool} {held : Bool} {r : Reach} {b0 : Nat} {t : TypeId} {f0 f1 f2 f3 : Field} {v : Value} {d : DataW H} {p : List MemPlace} (hs : P.underlying t = some (.struct #[f0, f1, f2, f3])) (hone : oneCellFields P #[f0, f1, f2, f3] = true) (hC : P.cellsOf t = 4)
    (hv : Value.okWide P w r b0 t v) (h : DataW.Trod enc P w base spare held t v d p) :
    ∃ (v0 v1 v2 v3 : Value) (y0 y1 y2 y3 : DataW H × List MemPlace) (n : Nat), v = .agg #[v0, v1, v2, v3] ∧
      DataW.trod enc P w base spare held n f0.type [v0] = some y0 ∧ DataW.trod enc P w base spare held n f1.type [v1] = some y1 ∧ DataW.trod enc P w base spare held n f2.type [v2] = some y2 ∧ DataW.trod enc P w base spare held n f3.type [v3] = some y3 := by
  obtain ⟨cs, rfl, hsz⟩ := okWide_struct hs hv
  obtain ⟨c0, c1, c2, c3, rfl⟩ := array4 (hsz.trans hC)
  obtain ⟨fuel, hf⟩ := h
  obtain ⟨xs, n, _, _, hl, hlen, hf⟩ := DataW.trod_struct hs hf
  obtain ⟨o0, k0⟩ := hone_of hone 0 f0 rfl
  obtain ⟨o1, k1⟩ := hone_of hone 1 f1 rfl
  obtain ⟨o2, k2⟩ := hone_of hone 2 f2 rfl
  obtain ⟨o3, k3⟩ := hone_of hone 3 f3 rfl
  match xs, hlen with
  | [y0, y1, y2, y3], _ =>
    exact ⟨c0, c1, c2, c3, y0, y1, y2, y3, n, rfl, by simpa [Value.cells, o0, k0] using hf 0 f0 rfl, by simpa [Value.cells, o1, k1] using hf 1 f1 rfl, by simpa [Value.cells, o2, k2] using hf 2 f2 rfl, by simpa [Value.cells, o3, k3] using hf 3 f3 rfl⟩
theorem arg_key {base : Nat} {v0 : Value} {d0 : DataW H} {p : List MemPlace} (hv : Value.okWide Tryd.prog W .any base 75 v0) (h : DataW.Trod enc Tryd.prog W 0 (fun _ => true) true 75 v0 d0 p) :
    ∃ k : Ky, v0 = .agg #[.int .i64 k.1, .int .i64 k.2.1, .string k.2.2.1, .bool k.2.2.2] := by
  obtain ⟨v0, v1, v2, v3, y0, y1, y2, y3, n, rfl, t0, t1, t2, t3⟩ := open_agg4 Tryd.underlying75 (by kernel_rfl) cellsKey hv h
  obtain ⟨x, hx, _, _⟩ := DataW.trod_int Tryd.underlying3 t0
  obtain ⟨y, hy, _, _⟩ := DataW.trod_int Tryd.underlying3 t1
  obtain ⟨s, hs, _, _⟩ := DataW.trod_string Tryd.underlying9 t2
  obtain ⟨b, hb, _⟩ := DataW.trod_bool Tryd.underlying4 t3
  obtain rfl : v0 = .int .i64 x := by simpa using hx
  obtain rfl : v1 = .int .i64 y := by simpa using hy
  obtain rfl : v2 = .string s := by simpa using hs
  obtain rfl : v3 = .bool b := by simpa using hb
  exact ⟨(x, y, s, b), rfl⟩
end
end Go.Proofs.YtdhhfbglbihapaaDoor
set_option linter.unusedVariables false
set_option linter.unusedSimpArgs false
namespace Go.Proofs.YtdhhfbglbihapaaDoor
open Go.ChangeShapes Go.WideShapes Go.ChangeAt Go.RowKit Go.Deep Go.Joins
/-- A slice of keys lies in memory. -/
def KeysIn (w : World) (a : Option Addr) (l : List Ky) : Prop :=
  ∀ i, i < l.length → ∃ b off, a = some ⟨b, off, none⟩ ∧ b < w.heap.size ∧ w.cell? ⟨b, off + i * 4, none⟩ = some (.int .i64 (l.getD i k0).1) ∧ w.cell? ⟨b, off + i * 4 + 1, none⟩ = some (.int .i64 (l.getD i k0).2.1) ∧
    w.cell? ⟨b, off + i * 4 + 2, none⟩ = some (.string (l.getD i k0).2.2.1) ∧ w.cell? ⟨b, off + i * 4 + 3, none⟩ = some (.bool (l.getD i k0).2.2.2)
theorem KeysIn.below {w0 w' : World} {a : Option Addr} {l : List Ky} (h : KeysIn w0 a l) (hb : Below w0.heap.size w0 w') : KeysIn w' a l := fun i hi => by
  obtain ⟨b, off, e, hlt, h1, h2, h3, h4⟩ := h i hi
  exact ⟨b, off, e, Nat.lt_of_lt_of_le hlt hb.size, (hb.cell (p := ⟨b, off + i * 4, none⟩) hlt).trans h1, (hb.cell (p := ⟨b, off + i * 4 + 1, none⟩) hlt).trans h2, (hb.cell (p := ⟨b, off + i * 4 + 2, none⟩) hlt).trans h3,
    (hb.cell (p := ⟨b, off + i * 4 + 3, none⟩) hlt).trans h4⟩
/-- A slice of bools lies in memory. -/
def BoolsIn (w : World) (a : Option Addr) (l : List Bool) : Prop :=
  ∀ i, i < l.length → ∃ b off, a = some ⟨b, off, none⟩ ∧ b < w.heap.size ∧ w.cell? ⟨b, off + i, none⟩ = some (.bool (l.getD i false))
theorem BoolsIn.below {w0 w' : World} {a : Option Addr} {l : List Bool} (h : BoolsIn w0 a l) (hb : Below w0.heap.size w0 w') : BoolsIn w' a l := fun i hi => by
  obtain ⟨b, off, e, hlt, h1⟩ := h i hi
  exact ⟨b, off, e, Nat.lt_of_lt_of_le hlt hb.size, (hb.cell (p := ⟨b, off + i, none⟩) hlt).trans h1⟩
section
variable {H : Type} {enc : TypeId × Value → H} {W : World}
theorem addQ_none (b off k : Nat) : (⟨b, off, none⟩ : Addr).add k = ⟨b, off + k, none⟩ := by unfold Addr.add; split <;> simp_all
set_option maxRecDepth 100000 in
theorem cellsIntQ : Tryd.prog.cellsOf 3 = 1 := by kernel_rfl
set_option maxRecDepth 100000 in
theorem cellsStrQ : Tryd.prog.cellsOf 9 = 1 := by kernel_rfl
set_option maxRecDepth 100000 in
theorem cellsBoolQ : Tryd.prog.cellsOf 4 = 1 := by kernel_rfl
set_option maxRecDepth 100000 in
theorem cellsKeyQ : Tryd.prog.cellsOf 75 = 4 := by kernel_rfl
set_option maxRecDepth 100000 in
theorem arg_keys {base : Nat} {v0 : Value} {d0 : DataW H} {p : List MemPlace} (hv : Value.okWide Tryd.prog W .any base 71 v0) (h : DataW.Trod enc Tryd.prog W 0 (fun _ => true) true 71 v0 d0 p) :
    ∃ (l : List Ky) (a : Option Addr) (c : Nat), v0 = .slice a l.length c ∧ KeysIn W a l ∧ l.length ≤ 9223372036854775807 := by
  obtain ⟨a0, len, cap, rfl⟩ := okWide_slice Tryd.underlying71 hv
  obtain ⟨fuel, hf⟩ := h
  rcases open_slice Tryd.underlying71 hf with ⟨hcs, _⟩ | ⟨a, len', cap', m, n, D, Pl, hcs, _, hl, hm, hmm, _, hx⟩
  · simp [Value.cells] at hcs
    obtain ⟨rfl, rfl, rfl⟩ := hcs
    exact ⟨[], none, 0, rfl, fun j hj => absurd hj (Nat.not_lt_zero j), by simp⟩
  · simp [Value.cells] at hcs
    obtain ⟨rfl, rfl, rfl⟩ := hcs
    have hlm : len ≤ m := by rw [hmm]; split <;> omega
    have key : ∀ i, i < len → ∃ q : Ky, W.cell? (a.add (i * 4)) = some (.int .i64 q.1) ∧ W.cell? (a.add (i * 4 + 1)) = some (.int .i64 q.2.1) ∧ W.cell? (a.add (i * 4 + 2)) = some (.string q.2.2.1) ∧ W.cell? (a.add (i * 4 + 3)) = some (.bool q.2.2.2) := by
      intro i hi
      obtain ⟨cs', h1, h2⟩ := hx i (by omega)
      rw [cellsKeyQ] at h1
      obtain ⟨_, hlen, hcell⟩ := World.cells?_some h1
      obtain ⟨xs, k, hk, hxy, _, hxl, hf⟩ := DataW.trod_struct Tryd.underlying75 h2
      match xs, hxl, cs', hlen with
      | [y0, y1, y2, y3], _, [u0, u1, u2, u3], _ =>
        have g0 := hf 0 _ rfl
        have g1 := hf 1 _ rfl
        have g2 := hf 2 _ rfl
        have g3 := hf 3 _ rfl
        simp [cellsIntQ, cellsStrQ, cellsBoolQ] at g0 g1 g2 g3
        have e0 := hcell 0 (by omega)
        have e1 := hcell 1 (by omega)
        have e2 := hcell 2 (by omega)
        have e3 := hcell 3 (by omega)
        rw [add_add] at e0 e1 e2 e3
        obtain ⟨x0, hx0, _, _⟩ := DataW.trod_int Tryd.underlying3 g0
        obtain ⟨x1, hx1, _, _⟩ := DataW.trod_int Tryd.underlying3 g1
        obtain ⟨x2, hx2, _, _⟩ := DataW.trod_string Tryd.underlying9 g2
        obtain ⟨x3, hx3, _⟩ := DataW.trod_bool Tryd.underlying4 g3
        obtain rfl : u0 = .int .i64 x0 := by simpa using hx0
        obtain rfl : u1 = .int .i64 x1 := by simpa using hx1
        obtain rfl : u2 = .string x2 := by simpa using hx2
        obtain rfl : u3 = .bool x3 := by simpa using hx3
        exact ⟨(x0, x1, x2, x3), by simpa using e0, by simpa using e1, by simpa using e2, by simpa using e3⟩
    obtain ⟨F, hF⟩ : ∃ F : Nat → Ky, ∀ i, i < len → W.cell? (a.add (i * 4)) = some (.int .i64 (F i).1) ∧ W.cell? (a.add (i * 4 + 1)) = some (.int .i64 (F i).2.1) ∧ W.cell? (a.add (i * 4 + 2)) = some (.string (F i).2.2.1) ∧ W.cell? (a.add (i * 4 + 3)) = some (.bool (F i).2.2.2) :=
      ⟨fun i => if h : i < len then (key i h).choose else k0, fun i hi => by simp only [dif_pos hi]; exact (key i hi).choose_spec⟩
    clear key
    refine ⟨(List.range len).map F, some a, cap, by simp, ?_, by simp; unfold maxLen at hm; omega⟩
    intro j hj
    have hj2 : j < len := by simpa using hj
    obtain ⟨c0, c1, c2, c3⟩ := hF j hj2
    obtain ⟨b, off, sp⟩ := a
    have hsp : sp = none := by
      obtain ⟨c00, _⟩ := hF 0 (by omega)
      have h1 : W.cell? ⟨b, off, sp⟩ = some (.int .i64 (F 0).1) := by simpa [Addr.add] using c00
      exact cell_spot h1
    subst hsp
    rw [addQ_none] at c0 c1 c2 c3
    have hg : ((List.range len).map F).getD j k0 = F j := by
      rw [List.getD, List.getElem?_map, List.getElem?_range hj2]; rfl
    rw [hg]
    exact ⟨b, off, rfl, block_lt_of_cell c0, c0, c1, c2, c3⟩
end
end Go.Proofs.YtdhhfbglbihapaaDoor
set_option linter.unusedVariables false
set_option linter.unusedSimpArgs false
namespace Go.Proofs.YtdhhfbglbihapaaDoor
open Go.RowKit
def kC (L : List Ky) : List Value := L.flatMap fun p => [Value.int .i64 p.1, Value.int .i64 p.2.1, Value.string p.2.2.1, Value.bool p.2.2.2]
theorem kC_at (L : List Ky) : ∀ i, i < L.length → (kC L)[i * 4]? = some (.int .i64 (L.getD i k0).1) ∧ (kC L)[i * 4 + 1]? = some (.int .i64 (L.getD i k0).2.1) ∧ (kC L)[i * 4 + 2]? = some (.string (L.getD i k0).2.2.1) ∧ (kC L)[i * 4 + 3]? = some (.bool (L.getD i k0).2.2.2) := by
  induction L with
  | nil => intro i hi; simp at hi
  | cons x L ih =>
    intro i hi
    cases i with
    | zero => exact ⟨rfl, rfl, rfl, rfl⟩
    | succ i =>
      have h := ih i (by simpa using hi)
      rw [show (i + 1) * 4 = i * 4 + 1 + 1 + 1 + 1 by omega]
      exact h
theorem kC_len (L : List Ky) : (kC L).length = L.length * 4 := by
  unfold kC
  induction L with
  | nil => rfl
  | cons x L ih => simp only [List.flatMap_cons, List.length_append, List.length_cons, List.length_nil, ih]; omega
theorem kC_app (a b : List Ky) : kC (a ++ b) = kC a ++ kC b := by simp [kC]
theorem kC_one (l : List Ky) : ∀ u ∈ kC l, u.oneCell' = true := by
  intro u hu
  unfold kC at hu
  rw [List.mem_flatMap] at hu
  obtain ⟨p, _, hp⟩ := hu
  simp at hp
  rcases hp with rfl | rfl | rfl | rfl <;> rfl
theorem kC_news {w : World} {ad : Addr} {l : List Ky} (h : KeysIn w (some ad) l) : ∀ j u, (kC l)[j]? = some u → w.cell? (ad.add j) = some u := by
  intro j u hj
  have hlen := kC_len l
  have hj2 : j < l.length * 4 := by
    rw [← hlen]
    exact (List.getElem?_eq_some_iff.1 hj).1
  obtain ⟨b, off, e, _, h1, h2, h3, h4⟩ := h (j / 4) (by omega)
  injection e with e
  subst e
  have hadd : (⟨b, off, none⟩ : Addr).add j = ⟨b, off + j, none⟩ := by unfold Addr.add; split <;> simp_all
  have hs := kC_at l (j / 4) (by omega)
  rw [hadd]
  have hm : j % 4 = 0 ∨ j % 4 = 1 ∨ j % 4 = 2 ∨ j % 4 = 3 := by omega
  rcases hm with hm | hm | hm | hm
  · have e : j / 4 * 4 = j := by omega
    rw [e] at hs h1
    rw [hs.1] at hj
    rw [h1]; exact hj
  · have e : j / 4 * 4 + 1 = j := by omega
    rw [e] at hs
    rw [show off + j / 4 * 4 + 1 = off + j by omega] at h2
    rw [hs.2.1] at hj
    rw [h2]; exact hj
  · have e : j / 4 * 4 + 2 = j := by omega
    rw [e] at hs
    rw [show off + j / 4 * 4 + 2 = off + j by omega] at h3
    rw [hs.2.2.1] at hj
    rw [h3]; exact hj
  · have e : j / 4 * 4 + 3 = j := by omega
    rw [e] at hs
    rw [show off + j / 4 * 4 + 3 = off + j by omega] at h4
    rw [hs.2.2.2] at hj
    rw [h4]; exact hj
/-- A row of keys of the call's own. -/
def OwK (w : World) (B : Nat) (v : Value) (L : List Ky) : Prop := w.ownsRow B 75 4 v L.length (kC L)
/-- A slice of keys, its room, and where its block is. -/
structure SlK (S : Nat → Prop) (w : World) (a : Option Addr) (L : List Ky) (c : Nat) : Prop where
  s : KeysIn w a L
  le : L.length ≤ c
  nl : a = none → c = 0
  st : ∀ ad, a = some ad → L ≠ [] → S ad.block
theorem SlK.mono {S T : Nat → Prop} {w : World} {a : Option Addr} {L : List Ky} {c : Nat} (h : SlK S w a L c) (hT : ∀ k, S k → T k) : SlK T w a L c := ⟨h.s, h.le, h.nl, fun ad e hn => hT _ (h.st ad e hn)⟩
theorem SlK.keep {S : Nat → Prop} {w w' : World} {a : Option Addr} {L : List Ky} {c : Nat} (h : SlK S w a L c) (hs : w.heap.size ≤ w'.heap.size) (hk : ∀ k, S k → w'.heap[k]? = w.heap[k]?) : SlK S w' a L c := by
  refine ⟨fun i hi => ?_, h.le, h.nl, h.st⟩
  obtain ⟨b, off, e, hb, h1, h2, h3, h4⟩ := h.s i hi
  have hS := h.st _ e (fun h0 => by rw [h0] at hi; simp at hi)
  have hkb : w'.heap[b]? = w.heap[b]? := hk b hS
  refine ⟨b, off, e, Nat.lt_of_lt_of_le hb hs, ?_, ?_, ?_, ?_⟩
  · rw [← h1]; unfold World.cell?; rw [hkb]
  · rw [← h2]; unfold World.cell?; rw [hkb]
  · rw [← h3]; unfold World.cell?; rw [hkb]
  · rw [← h4]; unfold World.cell?; rw [hkb]
theorem SlK.below {S : Nat → Prop} {w w' : World} {a : Option Addr} {L : List Ky} {c : Nat} (h : SlK S w a L c) (hb : Below w.heap.size w w') : SlK S w' a L c := ⟨h.s.below hb, h.le, h.nl, h.st⟩
theorem SlK.none (S : Nat → Prop) (w : World) : SlK S w none [] 0 := ⟨fun j hj => absurd hj (Nat.not_lt_zero j), Nat.le_refl _, fun _ => rfl, fun ad e => by cases e⟩
theorem infoKey4 : (Tryd.prog.info? 75).map (fun i => (i.zero, i.size)) = some (some (.agg #[.int .i64 0, .int .i64 0, .string ByteArray.empty, .bool false]), 4) := by kernel_rfl
theorem bytesKey : ∃ b, (Tryd.prog.info? 75).map (fun i => (i.zero, i.size, i.bytes)) = some (some (.agg #[.int .i64 0, .int .i64 0, .string ByteArray.empty, .bool false]), 4, b) ∧ 1 ≤ b ∧ b ≤ 64 := ⟨40, by kernel_rfl, by decide, by decide⟩
theorem owk_nil (w : World) (B : Nat) : OwK w B (.slice none 0 0) [] := World.ownsRow_nil _ _ _ _
theorem owk_new (w : World) : OwK (w.alloc (.cells #[] 75)) w.heap.size (.slice (some ⟨w.heap.size, 0, none⟩) 0 0) [] :=
  ⟨rfl, .inr ⟨w.heap.size, 0, #[], rfl, Nat.le_refl _, heap_alloc_new _ _, Nat.le_refl _, by decide, rfl, rfl⟩⟩
theorem OwK.sl {w : World} {B : Nat} {v : Value} {L : List Ky} (h : OwK w B v L) : ∃ a c, v = .slice a L.length c ∧ SlK (fun k => B ≤ k ∧ k < w.heap.size ∧ v.ownBlock = some k) w a L c := by
  unfold OwK at h
  rcases h.2 with ⟨rfl, h0⟩ | ⟨g, cap, cur, rfl, hB, hg, hle, _⟩
  · exact ⟨none, 0, by rw [h0], fun j hj => by omega, by omega, fun _ => rfl, fun ad e => by cases e⟩
  · refine ⟨_, cap, rfl, fun j hj => ⟨g, 0, rfl, blk_lt hg, ?_, ?_, ?_, ?_⟩, hle, fun e => (by cases e), fun ad e _ => (by cases e; exact ⟨hB, blk_lt hg, rfl⟩)⟩
    all_goals have := kC_at L j hj
    · rw [Nat.zero_add, h.cellAt (j * 4) (by omega)]; exact this.1
    · rw [Nat.zero_add, h.cellAt (j * 4 + 1) (by omega)]; exact this.2.1
    · rw [Nat.zero_add, h.cellAt (j * 4 + 2) (by omega)]; exact this.2.2.1
    · rw [Nat.zero_add, h.cellAt (j * 4 + 3) (by omega)]; exact this.2.2.2
theorem OwK.form {w : World} {B : Nat} {v : Value} {L : List Ky} {n : Nat} (h : OwK w B v L) (hn : L.length = n) : ∃ a c, v = .slice a n c := by
  obtain ⟨a, c, e, _⟩ := h.sl
  exact ⟨a, c, by rw [e, hn]⟩
theorem OwK.mono {w : World} {B B' : Nat} {v : Value} {L : List Ky} (h : OwK w B v L) (hB : B' ≤ B) : OwK w B' v L := World.ownsRow.mono h hB
theorem OwK.below {w w' : World} {B : Nat} {v : Value} {L : List Ky} (h : OwK w B v L) (hb : Below w.heap.size w w') : OwK w' B v L := by
  refine h.kept (row := none) ⟨hb.os, hb.tape, hb.output, hb.size, fun k hk _ => hb.block k hk⟩ ?_
  cases v.ownBlock <;> simp
theorem run_append_place {P : Program} (w : World) (base : Nat) (t ty e : TypeId) (i : TypeInfo) (z : Value) (size bytes : Nat) (ht : P.underlying t = some (.slice e)) (hi : P.info? e = some i) (hz : i.zero = some z)
    (hsize : i.size = size) (hby : i.bytes = bytes) (hzs : z.cells.size = size) (hsz : 0 < size)
    (v : Value) (n : Nat) (xs : List Value) (hown : w.ownsRow base e size v n xs)
    (a : Addr) (m c : Nat) (news : List Value) (hl : news.length = m * size) (hnews : ∀ j u, news[j]? = some u → w.cell? (a.add j) = some u) (h1 : ∀ u ∈ news, u.oneCell' = true)
    (h63 : n + m ≤ maxLen) (hbytes : (n + m) * bytes ≤ 140737488355328) (hbase : base ≤ w.heap.size) :
    ∃ v' w', (Builtin.append_ #[t, t] ty #[v, .slice (some a) m c]).run P w = .ok v' w' ∧ w'.ownsRow base e size v' (n + m) (xs ++ news) ∧ w.grownBy w' v.ownBlock ∧
      (∀ k, v'.ownBlock = some k → v.ownBlock = some k ∨ w.heap.size ≤ k) := by
  obtain ⟨v', w', hr, h2, h3, _⟩ := run_append_own (P := P) w base t ty e i z size bytes ht hi hz hsize hby hzs hsz v n xs hown a m c news hl hnews h1 h63 hbytes hbase
  refine ⟨v', w', hr, h2, h3, fun k hk => ?_⟩
  rcases hown.2 with ⟨rfl, rfl⟩ | ⟨g, cap, cur, rfl, hbg, hg, hnc, hcm, hcs, htake⟩
  · obtain ⟨v2, w2, hr2, h4, _⟩ := run_append_own (P := P) w w.heap.size t ty e i z size bytes ht hi hz hsize hby hzs hsz _ 0 xs ⟨hown.1, .inl ⟨rfl, rfl⟩⟩ a m c news hl hnews h1 h63 hbytes (Nat.le_refl _)
    rw [hr] at hr2
    injection hr2 with e1 e2
    subst e1
    exact Or.inr (h4.lt k hk).1
  · subst hsize; subst hby
    by_cases hroom : n + m ≤ cap
    · have hr2 := run_append_room (P := P) w t ty e i ht hi g n cap cur hg a m c news hl hnews h1 hroom (by rw [hl, hcs, ← Nat.add_mul]; exact Nat.mul_le_mul_right _ hroom)
      rw [hr] at hr2
      injection hr2 with e1 e2
      subst e1
      exact Or.inl hk
    · have holds := hown.cells (g := g) rfl
      have hr2 := run_append_grow (P := P) w t ty e i z ht hi hz ⟨g, 0, none⟩ n cap xs hown.1 holds a m c news hl hnews (by omega) (by unfold maxLen at h63; omega) (growslice_fits (by omega) hbytes)
      rw [hr] at hr2
      injection hr2 with e1 e2
      subst e1
      simp [Value.ownBlock] at hk
      exact Or.inr (by omega)
/-- An append of keys to a row of the call's own. -/
theorem step_app_keys {w : World} {ops : Array Oper} {o : Oper} {a : Act} {K : Act → World → Prop} {Q : Exit → Act → World → Prop} {E : Prop} (hgd : Region.wanted o (yielded ops a.tmps) = true) (s x : Operand)
    (ho : o.op = .call { callee := .builtin .append, args := #[s, x], argTypes := #[71, 71] }) (base : Nat)
    (v : Value) (np : Nat) (p : List Ky) (hs : a.eval s = v) (hp : p.length = np) (hown : OwK w base v p) (ad : Option Addr) (n c : Nat) (l : List Ky) (hx : a.eval x = .slice ad n c) (hl : l.length = n) (hsg : KeysIn w ad l) (hnl : ad = none → c = 0)
    (hlen : np + n ≤ 1000000) (hbase : base ≤ w.heap.size)
    (h : ∀ ad' c' w', OwK w' base (.slice ad' (np + n) c') (p ++ l) → w.grownBy w' v.ownBlock → (∀ k, (Value.slice ad' (np + n) c').ownBlock = some k → v.ownBlock = some k ∨ w.heap.size ≤ k) → K (a.put o.dst (.slice ad' (np + n) c')) w') :
    if Region.wanted o (yielded ops a.tmps) = true then Oper.wp Tryd.prog o a w K Q else E := by
  obtain ⟨bb, hbb, hb1, hb2⟩ := bytesKey
  obtain ⟨i0, hi, hz0, hz1, hz2⟩ := info_parts hbb
  subst hl; subst hp
  rw [if_pos hgd]
  have hfin : ∀ v' w', OwK w' base v' (p ++ l) → w.grownBy w' v.ownBlock → (∀ k, v'.ownBlock = some k → v.ownBlock = some k ∨ w.heap.size ≤ k) → K (a.put o.dst v') w' := by
    intro v' w' h1 h2 h3
    obtain ⟨ad', c', rfl⟩ := h1.form (n := p.length + l.length) (by rw [List.length_append])
    exact h ad' c' w' h1 h2 h3
  cases ad with
  | none =>
    obtain rfl := hnl rfl
    have hnil : l = [] := by
      cases l with
      | nil => rfl
      | cons x l => obtain ⟨_, _, e, _⟩ := hsg 0 (by simp); cases e
    subst hnil
    have hrun := run_append_owned_none (P := Tryd.prog) (w := w) base 71 o.type 75 i0 4 Tryd.underlying71 hi v p.length _ hown
    have h' := hfin v w (by rw [List.append_nil]; exact hown) ⟨rfl, rfl, rfl, Nat.le_refl _, fun _ _ _ => rfl⟩ (fun k hk => Or.inl hk)
    unfold Oper.wp
    simp only [List.length_nil] at hx
    simp [execOp, ho, resolve, invoke, builtin, hs, hx, hrun, Result.andThen]
    exact h'
  | some ad =>
    obtain ⟨v', w', hr, a1, a2, a3⟩ := run_append_place (P := Tryd.prog) w base 71 o.type 75 i0 _ 4 bb Tryd.underlying71 hi hz0 hz1 hz2 rfl (by decide) v p.length _ hown ad l.length c (kC l) (kC_len l) (kC_news hsg) (kC_one l) (by unfold maxLen; omega) (Nat.le_trans (Nat.mul_le_mul hlen hb2) (by decide)) hbase
    have h' := hfin v' w' (by unfold OwK; rw [List.length_append, kC_app]; exact a1) a2 a3
    unfold Oper.wp execOp
    simp only [ho, resolve, invoke, builtin, Sem.run_bind, Sem.run_pure, Result.andThen_ok, List.map_toArray, List.map_cons, List.map_nil, hs, hx, hr]
    exact h'
theorem wpList_app_keys {w : World} {ops : Array Oper} {rest : List Oper} {o : Oper} {a : Act} {Q : Exit → Act → World → Prop} (hgd : Region.wanted o (yielded ops a.tmps) = true) (s x : Operand)
    (ho : o.op = .call { callee := .builtin .append, args := #[s, x], argTypes := #[71, 71] }) (base : Nat)
    (v : Value) (np : Nat) (p : List Ky) (hs : a.eval s = v) (hp : p.length = np) (hown : OwK w base v p) (ad : Option Addr) (n c : Nat) (l : List Ky) (hx : a.eval x = .slice ad n c) (hl : l.length = n) (hsg : KeysIn w ad l) (hnl : ad = none → c = 0)
    (hlen : np + n ≤ 1000000) (hbase : base ≤ w.heap.size)
    (h : ∀ ad' c' w', OwK w' base (.slice ad' (np + n) c') (p ++ l) → w.grownBy w' v.ownBlock → (∀ k, (Value.slice ad' (np + n) c').ownBlock = some k → v.ownBlock = some k ∨ w.heap.size ≤ k) → wpList Tryd.prog ops Q rest (a.put o.dst (.slice ad' (np + n) c')) w') : wpList Tryd.prog ops Q (o :: rest) a w :=
  wpList_step fun K hK => step_app_keys hgd s x ho base v np p hs hp hown ad n c l hx hl hsg hnl hlen hbase (fun ad' c' w' h1 h2 h3 => hK _ _ (h ad' c' w' h1 h2 h3))
end Go.Proofs.YtdhhfbglbihapaaDoor
set_option linter.unusedVariables false
set_option linter.unusedSimpArgs false
namespace Go.Proofs.YtdhhfbglbihapaaDoor
open Go.RowKit
/-- The blocks S stay as they are. -/
structure KeptM (S : Nat → Prop) (w w' : World) : Prop where
  os : w'.os = w.os
  tape : w'.tape = w.tape
  output : w'.output = w.output
  size : w.heap.size ≤ w'.heap.size
  block : ∀ k, S k → w'.heap[k]? = w.heap[k]?
theorem KeptM.trans {S : Nat → Prop} {w w1 w2 : World} (h : KeptM S w w1) (k : KeptM S w1 w2) : KeptM S w w2 :=
  ⟨k.os.trans h.os, k.tape.trans h.tape, k.output.trans h.output, Nat.le_trans h.size k.size, fun j hj => (k.block j hj).trans (h.block j hj)⟩
theorem KeptM.below {S : Nat → Prop} {w w' : World} (h : KeptM S w w') (B : Nat) (hS : ∀ k, k < B → S k) : Below B w w' :=
  ⟨h.os, h.tape, h.output, h.size, fun k hk => h.block k (hS k hk)⟩
theorem KeptM.of {S : Nat → Prop} {w w' : World} (h : Below w.heap.size w w') (hS : ∀ k, S k → k < w.heap.size) : KeptM S w w' := ⟨h.os, h.tape, h.output, h.size, fun k hk => h.block k (hS k hk)⟩
/-- A macro lies at P: its keys, those of a beginning, whether it keeps; the blocks S are none of its own. -/
structure MaS (S : Nat → Prop) (P : Nat) (M : Int) (K Nw : List Ky) (kp : Bool) (w : World) : Prop where
  ex : ∃ ka kc bv, w.heap[P]? = some (.cells #[.int .i64 M, .slice ka K.length kc, bv, .bool kp] 132 (0, 0)) ∧ SlK (fun k => k < w.heap.size ∧ k ≠ P ∧ bv.ownBlock ≠ some k) w ka K kc ∧ OwK w 0 bv Nw ∧ bv.ownBlock ≠ some P ∧
    ∀ k, S k → k < w.heap.size ∧ k ≠ P ∧ bv.ownBlock ≠ some k
  ln : K.length ≤ 9999 ∧ Nw.length ≤ 9999 ∧ M ≤ 9999
section
variable {S : Nat → Prop} {P : Nat} {M : Int} {K Nw : List Ky} {kp : Bool} {w w' : World}
theorem MaS.grow (h : MaS S P M K Nw kp w) (hb : Below w.heap.size w w') {T : Nat → Prop} (hT : ∀ k, T k → S k ∨ (w.heap.size ≤ k ∧ k < w'.heap.size)) : MaS T P M K Nw kp w' := by
  obtain ⟨ka, kc, bv, h1, h2, h3, h4, h5⟩ := h.ex
  refine ⟨⟨ka, kc, bv, blk_below h1 hb, (h2.below hb).mono (fun k hk => ⟨Nat.lt_of_lt_of_le hk.1 hb.size, hk.2⟩), h3.below hb, h4, fun k hk => ?_⟩, h.ln⟩
  rcases hT k hk with hk | ⟨hk1, hk2⟩
  · have := h5 k hk
    exact ⟨Nat.lt_of_lt_of_le this.1 hb.size, this.2⟩
  · refine ⟨hk2, fun e => ?_, fun e => ?_⟩
    · have := blk_lt h1; omega
    · have := (h3.lt k e).2; omega
theorem MaS.below (h : MaS S P M K Nw kp w) (hb : Below w.heap.size w w') : MaS S P M K Nw kp w' := h.grow hb (fun _ hk => Or.inl hk)
theorem MaS.lt (h : MaS S P M K Nw kp w) : ∀ k, S k → k < w.heap.size := fun k hk => by
  obtain ⟨_, _, _, _, _, _, _, h5⟩ := h.ex
  exact (h5 k hk).1
theorem ma_keeps (h : MaS S P M K Nw kp w) : Calls Tryd.prog 53 #[.pointer (some ⟨P, 0, none⟩)] w fun e w' => e = .returned (.bool kp) ∧ w = w' := by
  obtain ⟨ka, kc, bv, h1, _⟩ := h.ex
  have y := cell_of_row _ _ 3 _ _ _ h1; have c3 := y; clear y; dsimp at c3
  clear h h1
  go_enter Tryd.func53, Tryd.ntmps53
  go_wp2
  go_ret
  exact ⟨rfl, rfl⟩
theorem ma_begin_no (h : MaS S P M K Nw true w) : Calls Tryd.prog 45 #[.pointer (some ⟨P, 0, none⟩)] w fun e w' => e = .returned (.bool false) ∧ w = w' := by
  obtain ⟨ka, kc, bv, h1, _⟩ := h.ex
  have y := cell_of_row _ _ 3 _ _ _ h1; have c3 := y; clear y; dsimp at c3
  clear h h1
  go_enter Tryd.func45, Tryd.ntmps45
  go_wp2
  go_ret
  exact ⟨rfl, rfl⟩
theorem kept_set {S : Nat → Prop} {P : Nat} {w : World} (hP : ∀ k, S k → k ≠ P) (i : Nat) (v : Value) : KeptM S w (w.setCell ⟨P, i, none⟩ v) :=
  ⟨rfl, rfl, rfl, by simp [World.setCell], fun k hk => Below.heap_setCell _ _ _ _ (hP k hk)⟩
theorem MaS.setKp (h : MaS S P M K Nw kp w) (b : Bool) : MaS S P M K Nw b (w.setCell ⟨P, 3, none⟩ (.bool b)) := by
  obtain ⟨ka, kc, bv, h1, h2, h3, h4, h5⟩ := h.ex
  have hz : (w.setCell ⟨P, 3, none⟩ (.bool b)).heap.size = w.heap.size := by simp [World.setCell]
  refine ⟨⟨ka, kc, bv, blk_set h1 3 _, ?_, own_set h3 h4 _, h4, fun k hk => by rw [hz]; exact h5 k hk⟩, h.ln⟩
  exact (h2.keep (Nat.le_of_eq hz.symm) (fun k hk => Below.heap_setCell _ _ _ _ hk.2.1)).mono (fun k hk => by rw [hz]; exact hk)
theorem MaS.setNil (h : MaS S P M K Nw kp w) : MaS S P M K [] kp (w.setCell ⟨P, 2, none⟩ (.slice none 0 0)) := by
  obtain ⟨ka, kc, bv, h1, h2, h3, h4, h5⟩ := h.ex
  have hz : (w.setCell ⟨P, 2, none⟩ (.slice none 0 0)).heap.size = w.heap.size := by simp [World.setCell]
  refine ⟨⟨ka, kc, .slice none 0 0, blk_set h1 2 _, ?_, owk_nil _ _, by simp [Value.ownBlock], fun k hk => ⟨by rw [hz]; exact (h5 k hk).1, (h5 k hk).2.1, by simp [Value.ownBlock]⟩⟩, ⟨h.ln.1, by simp, h.ln.2.2⟩⟩
  exact (h2.keep (Nat.le_of_eq hz.symm) (fun k hk => Below.heap_setCell _ _ _ _ hk.2.1)).mono (fun k hk => ⟨by rw [hz]; exact hk.1, hk.2.1, by simp [Value.ownBlock]⟩)
/-- The keys of the beginning become the macro's; then the beginning is none. -/
theorem MaS.turn (h : MaS S P M K Nw kp w) (ba : Option Addr) (n bc : Nat) (hn : Nw.length = n) (hc : w.cell? ⟨P, 2, none⟩ = some (.slice ba n bc)) : MaS S P M Nw [] false (((w.setCell ⟨P, 1, none⟩ (.slice ba n bc)).setCell ⟨P, 3, none⟩ (.bool false)).setCell ⟨P, 2, none⟩ (.slice none 0 0)) := by
  subst hn
  obtain ⟨ka, kc, bv, h1, h2, h3, h4, h5⟩ := h.ex
  have y := cell_of_row _ _ 2 _ _ _ h1
  rw [hc] at y
  obtain rfl : bv = .slice ba Nw.length bc := by simpa using y.symm
  obtain ⟨a', c', e, hs⟩ := h3.sl
  cases e
  have hz : (((w.setCell ⟨P, 1, none⟩ (.slice ba Nw.length bc)).setCell ⟨P, 3, none⟩ (.bool false)).setCell ⟨P, 2, none⟩ (.slice none 0 0)).heap.size = w.heap.size := by simp [World.setCell]
  have hk : ∀ k, k ≠ P → (((w.setCell ⟨P, 1, none⟩ (.slice ba Nw.length bc)).setCell ⟨P, 3, none⟩ (.bool false)).setCell ⟨P, 2, none⟩ (.slice none 0 0)).heap[k]? = w.heap[k]? := fun k hk =>
    (Below.heap_setCell _ _ _ _ hk).trans ((Below.heap_setCell _ _ _ _ hk).trans (Below.heap_setCell _ _ _ _ hk))
  have hne : ∀ k, (0 ≤ k ∧ k < w.heap.size ∧ (Value.slice ba Nw.length bc).ownBlock = some k) → k ≠ P := fun k hk e => h4 (by rw [hk.2.2, e])
  refine ⟨⟨ba, bc, .slice none 0 0, blk_set (blk_set (blk_set h1 1 _) 3 _) 2 _, ?_, owk_nil _ _, by simp [Value.ownBlock], fun k hk => ⟨by rw [hz]; exact (h5 k hk).1, (h5 k hk).2.1, by simp [Value.ownBlock]⟩⟩, ⟨h.ln.2.1, by simp, h.ln.2.2⟩⟩
  exact (hs.keep (Nat.le_of_eq hz.symm) (fun k hk' => hk k (hne k hk'))).mono (fun k hk' => ⟨by rw [hz]; exact hk'.2.1, hne k hk', by simp [Value.ownBlock]⟩)
theorem ma_begin (h : MaS S P M K Nw false w) : Calls Tryd.prog 45 #[.pointer (some ⟨P, 0, none⟩)] w fun e w' => e = .returned (.bool true) ∧ MaS S P M K [] true w' ∧ KeptM S w w' := by
  have hf : ∀ k, S k → k ≠ P := by
    obtain ⟨_, _, _, _, _, _, _, h5⟩ := h.ex
    exact fun k hk => (h5 k hk).2.1
  have HM := Lib.hid (h.setKp true).setNil
  have HK := Lib.hid ((kept_set hf 3 (.bool true)).trans (kept_set hf 2 (.slice none 0 0)) : KeptM S w _)
  obtain ⟨ka, kc, bv, h1, _⟩ := h.ex
  have y := fun i => cell_of_row _ _ i _ _ _ h1
  have c1 := y 1; have c2 := y 2; have c3 := y 3; clear y; dsimp at c1 c2 c3
  have f3 := frozen_of_row _ P 3 _ _ h1
  have h1' := blk_set h1 3 (.bool true)
  have f2 := frozen_of_row _ P 2 _ _ h1'
  have g2 := frozen_of_row _ P 2 _ _ h1
  clear h h1 h1' hf
  go_enter Tryd.func45, Tryd.ntmps45
  go_wp2
  go_ret
  exact ⟨rfl, HM.out, HK.out⟩
theorem ma_end_no (h : MaS S P M K Nw false w) : Calls Tryd.prog 49 #[.pointer (some ⟨P, 0, none⟩)] w fun e w' => e = .returned (.bool false) ∧ w = w' := by
  have KE := Lib.hid (ma_keeps h)
  clear h
  go_enter Tryd.func49, Tryd.ntmps49
  go_wp2_with (go_at_call 53; refine KE.out.mono ?_; rintro e w1 ⟨rfl, rfl⟩)
  go_ret
  exact ⟨rfl, rfl⟩
theorem ma_end_none (h : MaS S P M K [] true w) : Calls Tryd.prog 49 #[.pointer (some ⟨P, 0, none⟩)] w fun e w' => e = .returned (.bool true) ∧ MaS S P M K [] false w' ∧ KeptM S w w' := by
  have KE := Lib.hid (ma_keeps h)
  have hf : ∀ k, S k → k ≠ P := by
    obtain ⟨_, _, _, _, _, _, _, h5⟩ := h.ex
    exact fun k hk => (h5 k hk).2.1
  have HM := Lib.hid (h.setKp false).setNil
  have HK := Lib.hid ((kept_set hf 3 (.bool false)).trans (kept_set hf 2 (.slice none 0 0)) : KeptM S w _)
  obtain ⟨ka, kc, bv, h1, _, h3, _⟩ := h.ex
  obtain ⟨ba, bc, rfl⟩ := h3.form (n := 0) rfl
  have y := fun i => cell_of_row _ _ i _ _ _ h1
  have c1 := y 1; have c2 := y 2; have c3 := y 3; clear y; dsimp at c1 c2 c3
  have f3 := frozen_of_row _ P 3 _ _ h1
  have h1' := blk_set h1 3 (.bool false)
  have f2 := frozen_of_row _ P 2 _ _ h1'
  have g2 := frozen_of_row _ P 2 _ _ h1
  clear h h1 h1' hf h3
  go_enter Tryd.func49, Tryd.ntmps49
  go_wp2_with (go_at_call 53; refine KE.out.mono ?_; rintro e w1 ⟨rfl, rfl⟩)
  go_ret
  exact ⟨rfl, HM.out, HK.out⟩
theorem ma_end_some (h : MaS S P M K Nw true w) (hne : Nw ≠ []) : Calls Tryd.prog 49 #[.pointer (some ⟨P, 0, none⟩)] w fun e w' => e = .returned (.bool true) ∧ MaS S P M Nw [] false w' ∧ KeptM S w w' := by
  have KE := Lib.hid (ma_keeps h)
  have hf : ∀ k, S k → k ≠ P := by
    obtain ⟨_, _, _, _, _, _, _, h5⟩ := h.ex
    exact fun k hk => (h5 k hk).2.1
  obtain ⟨n, hn⟩ : ∃ n, Nw.length = n := ⟨_, rfl⟩
  have hn1 : (0 : Int) < (n : Int) := by have := List.length_pos_iff.2 hne; omega
  obtain ⟨ka, kc, bv, h1, _, h3, _⟩ := h.ex
  obtain ⟨ba, bc, rfl⟩ := h3.form hn
  have y := fun i => cell_of_row _ _ i _ _ _ h1
  have c1 := y 1; have c2 := y 2; have c3 := y 3; clear y; dsimp at c1 c2 c3
  have HM := Lib.hid (h.turn ba n bc hn c2)
  have HK := Lib.hid (((kept_set hf 1 (.slice ba n bc)).trans (kept_set hf 3 (.bool false))).trans (kept_set hf 2 (.slice none 0 0)) : KeptM S w _)
  have f1 := frozen_of_row _ P 1 _ _ h1
  have h1a := blk_set h1 1 (.slice ba n bc)
  have f3 := frozen_of_row _ P 3 _ _ h1a
  have f3' := frozen_of_row _ P 3 _ _ h1
  have h1' := blk_set h1a 3 (.bool false)
  have f2 := frozen_of_row _ P 2 _ _ h1'
  have g2 := frozen_of_row _ P 2 _ _ h1
  clear h h1 h1' h1a hf h3 hn hne
  go_enter Tryd.func49, Tryd.ntmps49
  go_wp2_with (go_at_call 53; refine KE.out.mono ?_; rintro e w1 ⟨rfl, rfl⟩)
  go_ret
  exact ⟨rfl, HM.out, HK.out⟩
end
end Go.Proofs.YtdhhfbglbihapaaDoor
set_option linter.unusedVariables false
set_option linter.unusedSimpArgs false
namespace Go.Proofs.YtdhhfbglbihapaaDoor
open Go.RowKit Go.Sort
theorem ma_new (M : Int) (w : World) (h1 : 1 ≤ M) (h2 : M ≤ 9999) : Calls Tryd.prog 44 #[.int .i64 M] w fun e w' => e = .returned (.tuple #[.pointer (some ⟨w.heap.size, 0, none⟩), .int .i64 0]) ∧ (∀ S : Nat → Prop, (∀ k, S k → k < w.heap.size) → MaS S w.heap.size M [] [] false w') ∧ Below w.heap.size w w' := by
  have h1i : ¬ M < 1 := by omega
  have h2i : ¬ 9999 < M := by omega
  have HB := Lib.hid (below_alloc w (.cells #[.int .i64 M, .slice none 0 0, .slice none 0 0, .bool false] 132))
  have hn := heap_alloc_new w (.cells #[.int .i64 M, .slice none 0 0, .slice none 0 0, .bool false] 132)
  have HM : Hid (∀ S : Nat → Prop, (∀ k, S k → k < w.heap.size) → MaS S w.heap.size M [] [] false (w.alloc (.cells #[.int .i64 M, .slice none 0 0, .slice none 0 0, .bool false] 132))) := Lib.hid fun S hS =>
    ⟨⟨none, 0, .slice none 0 0, hn, SlK.none _ _, owk_nil _ _, by simp [Value.ownBlock], fun k hk => ⟨by have := hS k hk; simp; omega, by have := hS k hk; omega, by simp [Value.ownBlock]⟩⟩, ⟨by simp, by simp, h2⟩⟩
  clear hn
  go_enter Tryd.func44, Tryd.ntmps44
  go_wp2
  refine bodyPost_ret (v := .tuple #[.pointer (some ⟨w.heap.size, 0, none⟩), .int .i64 0]) (by simp [results, Tryd.results44, go_sem]) rfl ?_
  exact ⟨rfl, HM.out, HB.out⟩
theorem ma_new_no (M : Int) (w : World) (h : M < 1 ∨ 9999 < M) : Calls Tryd.prog 44 #[.int .i64 M] w fun e w' => e = .returned (.tuple #[.pointer none, .int .i64 3]) ∧ w = w' := by
  by_cases h1 : M < 1
  · clear h
    go_enter Tryd.func44, Tryd.ntmps44
    go_wp2
    refine bodyPost_ret (v := .tuple #[.pointer none, .int .i64 3]) (by simp [results, Tryd.results44, go_sem]) rfl ?_
    exact ⟨rfl, rfl⟩
  · have h2 : (9999 : Int) < M := by omega
    clear h
    go_enter Tryd.func44, Tryd.ntmps44
    go_wp2
    refine bodyPost_ret (v := .tuple #[.pointer none, .int .i64 3]) (by simp [results, Tryd.results44, go_sem]) rfl ?_
    exact ⟨rfl, rfl⟩
set_option maxHeartbeats 2000000 in
theorem clone_keys (l : List Ky) (a : Option Addr) (n c : Nat) (S : Nat → Prop) (w : World) (hn : l.length = n) (hl : n ≤ 100000) (hs : SlK S w a l c) :
    Calls Tryd.prog 91 #[.slice a n c] w fun e w' => ∃ b d, e = .returned (.slice b n d) ∧ KeysIn w' b l ∧ Below w.heap.size w w' := by
  have q := fun (w : World) (a : Option Addr) (n c n' c' : Nat) => Lib.run_eql_slice_nil (P := Tryd.prog) w 71 75 a n c n' c' Tryd.underlying71
  cases a with
  | none =>
    have hc := hs.nl rfl
    have hl0 : l = [] := by
      cases l with
      | nil => rfl
      | cons x l => obtain ⟨_, _, e, _⟩ := hs.s 0 (by simp); cases e
    subst hl0
    obtain rfl : 0 = n := hn
    subst hc
    clear hs
    go_enter Tryd.func91, Tryd.ntmps91
    go_wp2
    go_ret
    exact ⟨_, _, rfl, fun j hj => absurd hj (Nat.not_lt_zero j), Below.refl _ _⟩
  | some ad =>
    have N0 := below_alloc w (.cells #[] 75)
    have H0 := Lib.hid (owk_new w)
    have HA := Lib.hid (hs.below N0)
    have HN := Lib.hid hn
    have HB0 := Lib.hid N0
    clear hs hn N0
    obtain ⟨B, hB⟩ : ∃ B, w.heap.size = B := ⟨_, rfl⟩
    have HBq := Lib.hid hB
    rw [hB] at H0
    obtain ⟨W, hW⟩ : ∃ W, w.alloc (.cells #[] 75) = W := ⟨_, rfl⟩
    rw [hW] at H0 HA HB0
    go_enter Tryd.func91, Tryd.ntmps91
    go_wp2_with (at_builtin; refine wpList_app_keys rfl _ _ rfl B _ 0 [] rfl rfl H0.out (some ad) n c l rfl HN.out HA.out.s (fun e => (by cases e)) ?g3 ?g4 ?_)
    case g3 => omega
    case g4 => have := HB0.out.size; have := HBq.out; omega
    intro ad5 c5 w5 o5 g5 p5
    obtain ⟨a', c', e, hs'⟩ := OwK.sl (show OwK w5 B (.slice ad5 n c5) l from o5)
    have HS := Lib.hid hs'.s
    have N5 := Lib.hid (HB0.out.grown g5 HB0.out.size (fun j hj => by simp [Value.ownBlock] at hj; have := HBq.out; omega))
    obtain rfl : ad5 = a' := by injection e
    clear o5 g5 p5 hs' e
    go_wp2
    go_ret
    exact ⟨ad5, c5, rfl, HS.out, N5.out⟩
section
variable {S : Nat → Prop} {P : Nat} {M : Int} {K Nw : List Ky} {kp : Bool} {w w' : World}
theorem ma_keys (h : MaS S P M K Nw kp w) : Calls Tryd.prog 54 #[.pointer (some ⟨P, 0, none⟩)] w fun e w' => ∃ b d, e = .returned (.slice b K.length d) ∧ KeysIn w' b K ∧ Below w.heap.size w w' := by
  obtain ⟨ka, kc, bv, h1, h2, _⟩ := h.ex
  have CL := Lib.hid (clone_keys K ka K.length kc _ w rfl (by have := h.ln.1; omega) h2)
  have y := cell_of_row _ _ 1 _ _ _ h1; have c1 := y; clear y; dsimp at c1
  clear h h1 h2
  generalize K.length = n at *
  go_enter Tryd.func54, Tryd.ntmps54
  go_wp2_with (go_at_call 91; refine CL.out.mono ?_; rintro e w1 ⟨b, d, rfl, hk, hb⟩)
  go_ret
  exact ⟨_, _, rfl, hk, hb⟩
set_option maxHeartbeats 2000000 in
theorem ma_do_off (k : Ky) (h : MaS S P M K Nw false w) (hK : KT w) : Calls Tryd.prog 48 #[.pointer (some ⟨P, 0, none⟩), .agg #[.int .i64 k.1, .int .i64 k.2.1, .string k.2.2.1, .bool k.2.2.2]] w fun e w' => e = .returned (.bool false) ∧ Below w.heap.size w w' := by
  have B0 := below_alloc w (.cells #[.int .i64 k.1, .int .i64 k.2.1, .string k.2.2.1, .bool k.2.2.2] 75)
  have q0 := heap_alloc_new w (.cells #[.int .i64 k.1, .int .i64 k.2.1, .string k.2.2.1, .bool k.2.2.2] 75)
  obtain ⟨W, hW⟩ : ∃ W, w.alloc (.cells #[.int .i64 k.1, .int .i64 k.2.1, .string k.2.2.1, .bool k.2.2.2] 75) = W := ⟨_, rfl⟩
  rw [hW] at B0 q0
  have hm := h.below B0
  have KE0 : ∀ d os, Calls Tryd.prog 53 #[.pointer (some ⟨P, 0, none⟩)] (grow (redrawn W d) os) fun e w' => e = .returned (.bool false) ∧ Below (grow (redrawn W d) os).heap.size (grow (redrawn W d) os) w' := fun d os => (ma_keeps (hm.below (below_regrown W d os))).mono (fun e w' ⟨a, b⟩ => ⟨a, b ▸ Below.refl _ _⟩)
  have KE := Lib.hid fun d os => (KE0 d os).regrown_of
  have KC := Lib.hid fun d os => (kcheck_t k (grow (redrawn W d) os) ((hK.below B0).below (below_regrown W d os)) (ckE k) rfl).regrown_of
  obtain ⟨ka, kc, bv, h1, _, h3, _⟩ := hm.ex
  obtain ⟨n, hn⟩ : ∃ n, Nw.length = n := ⟨_, rfl⟩
  obtain ⟨ba, bc, rfl⟩ := h3.form hn
  have yy := fun i => cell_of_row _ _ i _ _ _ q0
  have zz := fun i => cell_of_row _ _ i _ _ _ h1
  have e0 := yy 0; have e1 := yy 1; have e2 := yy 2; have e3 := yy 3; have f0 := zz 0; have f2 := zz 2
  dsimp at e0 e1 e2 e3 f0 f2
  have G0 := fun d os => cell_regrown e0 d os
  have G1 := fun d os => cell_regrown e1 d os
  have G2 := fun d os => cell_regrown e2 d os
  have G3 := fun d os => cell_regrown e3 d os
  have F0 := fun d os => cell_regrown f0 d os
  have F2 := fun d os => cell_regrown f2 d os
  have N0 := Lib.hid B0
  clear yy zz e0 e1 e2 e3 f0 f2 hm q0 h1 h3 B0 h hK KE0
  go_enter Tryd.func48, Tryd.ntmps48
  go_upto_region 1 with fail
  refine wp_region_quiet_below (by kernel_rfl) (by kernel_rfl) ?_
  repeat (any_goals (go_big_quiet_step (first | (go_at_call 53; exact KE.out _ _) | (go_at_call 89; exact KC.out _ _))))
  refine wpQuiet_nil ?_
  intro _ hw'
  obtain ⟨⟨dq, osq⟩, hw''⟩ := hw'
  subst hw''
  have NF := seqB N0.out (below_regrown W dq osq)
  clear G0 G1 G2 G3 F0 F2 KE KC
  generalize grow (redrawn W dq) osq = W6 at *
  go_wp2_with fail
  go_ret
  exact ⟨rfl, NF⟩
set_option maxHeartbeats 2000000 in
theorem ma_do_bad (k : Ky) (h : MaS S P M K Nw true w) (hK : KT w) (hb : keyB k = false) : Calls Tryd.prog 48 #[.pointer (some ⟨P, 0, none⟩), .agg #[.int .i64 k.1, .int .i64 k.2.1, .string k.2.2.1, .bool k.2.2.2]] w fun e w' => e = .returned (.bool false) ∧ Below w.heap.size w w' := by
  have B0 := below_alloc w (.cells #[.int .i64 k.1, .int .i64 k.2.1, .string k.2.2.1, .bool k.2.2.2] 75)
  have q0 := heap_alloc_new w (.cells #[.int .i64 k.1, .int .i64 k.2.1, .string k.2.2.1, .bool k.2.2.2] 75)
  obtain ⟨W, hW⟩ : ∃ W, w.alloc (.cells #[.int .i64 k.1, .int .i64 k.2.1, .string k.2.2.1, .bool k.2.2.2] 75) = W := ⟨_, rfl⟩
  rw [hW] at B0 q0
  have hm := h.below B0
  have KE0 : ∀ d os, Calls Tryd.prog 53 #[.pointer (some ⟨P, 0, none⟩)] (grow (redrawn W d) os) fun e w' => e = .returned (.bool true) ∧ Below (grow (redrawn W d) os).heap.size (grow (redrawn W d) os) w' := fun d os => (ma_keeps (hm.below (below_regrown W d os))).mono (fun e w' ⟨a, b⟩ => ⟨a, b ▸ Below.refl _ _⟩)
  have KE := Lib.hid fun d os => (KE0 d os).regrown_of
  have KC := Lib.hid fun d os => (kcheck_t k (grow (redrawn W d) os) ((hK.below B0).below (below_regrown W d os)) (ckE k) rfl).regrown_of
  obtain ⟨ka, kc, bv, h1, _, h3, _⟩ := hm.ex
  obtain ⟨n, hn⟩ : ∃ n, Nw.length = n := ⟨_, rfl⟩
  obtain ⟨ba, bc, rfl⟩ := h3.form hn
  have yy := fun i => cell_of_row _ _ i _ _ _ q0
  have zz := fun i => cell_of_row _ _ i _ _ _ h1
  have e0 := yy 0; have e1 := yy 1; have e2 := yy 2; have e3 := yy 3; have f0 := zz 0; have f2 := zz 2
  dsimp at e0 e1 e2 e3 f0 f2
  have G0 := fun d os => cell_regrown e0 d os
  have G1 := fun d os => cell_regrown e1 d os
  have G2 := fun d os => cell_regrown e2 d os
  have G3 := fun d os => cell_regrown e3 d os
  have F0 := fun d os => cell_regrown f0 d os
  have F2 := fun d os => cell_regrown f2 d os
  rw [ckE_no hb] at KC
  have N0 := Lib.hid B0
  clear yy zz e0 e1 e2 e3 f0 f2 hm q0 h1 h3 B0 h hK KE0
  go_enter Tryd.func48, Tryd.ntmps48
  go_upto_region 1 with fail
  refine wp_region_quiet_below (by kernel_rfl) (by kernel_rfl) ?_
  repeat (any_goals (go_big_quiet_step (first | (go_at_call 53; exact KE.out _ _) | (go_at_call 89; exact KC.out _ _))))
  refine wpQuiet_nil ?_
  intro _ hw'
  obtain ⟨⟨dq, osq⟩, hw''⟩ := hw'
  subst hw''
  have NF := seqB N0.out (below_regrown W dq osq)
  clear G0 G1 G2 G3 F0 F2 KE KC
  generalize grow (redrawn W dq) osq = W6 at *
  go_wp2_with fail
  go_ret
  exact ⟨rfl, NF⟩
set_option maxHeartbeats 2000000 in
theorem ma_do_full (k : Ky) (h : MaS S P M K Nw true w) (hK : KT w) (hb : keyB k = true) (hM : M ≤ (Nw.length : Int)) : Calls Tryd.prog 48 #[.pointer (some ⟨P, 0, none⟩), .agg #[.int .i64 k.1, .int .i64 k.2.1, .string k.2.2.1, .bool k.2.2.2]] w fun e w' => e = .returned (.bool false) ∧ Below w.heap.size w w' := by
  have B0 := below_alloc w (.cells #[.int .i64 k.1, .int .i64 k.2.1, .string k.2.2.1, .bool k.2.2.2] 75)
  have q0 := heap_alloc_new w (.cells #[.int .i64 k.1, .int .i64 k.2.1, .string k.2.2.1, .bool k.2.2.2] 75)
  obtain ⟨W, hW⟩ : ∃ W, w.alloc (.cells #[.int .i64 k.1, .int .i64 k.2.1, .string k.2.2.1, .bool k.2.2.2] 75) = W := ⟨_, rfl⟩
  rw [hW] at B0 q0
  have hm := h.below B0
  have KE0 : ∀ d os, Calls Tryd.prog 53 #[.pointer (some ⟨P, 0, none⟩)] (grow (redrawn W d) os) fun e w' => e = .returned (.bool true) ∧ Below (grow (redrawn W d) os).heap.size (grow (redrawn W d) os) w' := fun d os => (ma_keeps (hm.below (below_regrown W d os))).mono (fun e w' ⟨a, b⟩ => ⟨a, b ▸ Below.refl _ _⟩)
  have KE := Lib.hid fun d os => (KE0 d os).regrown_of
  have KC := Lib.hid fun d os => (kcheck_t k (grow (redrawn W d) os) ((hK.below B0).below (below_regrown W d os)) (ckE k) rfl).regrown_of
  obtain ⟨ka, kc, bv, h1, _, h3, _⟩ := hm.ex
  obtain ⟨n, hn⟩ : ∃ n, Nw.length = n := ⟨_, rfl⟩
  obtain ⟨ba, bc, rfl⟩ := h3.form hn
  have yy := fun i => cell_of_row _ _ i _ _ _ q0
  have zz := fun i => cell_of_row _ _ i _ _ _ h1
  have e0 := yy 0; have e1 := yy 1; have e2 := yy 2; have e3 := yy 3; have f0 := zz 0; have f2 := zz 2
  dsimp at e0 e1 e2 e3 f0 f2
  have G0 := fun d os => cell_regrown e0 d os
  have G1 := fun d os => cell_regrown e1 d os
  have G2 := fun d os => cell_regrown e2 d os
  have G3 := fun d os => cell_regrown e3 d os
  have F0 := fun d os => cell_regrown f0 d os
  have F2 := fun d os => cell_regrown f2 d os
  rw [ckE_yes hb] at KC
  rw [hn] at hM
  have N0 := Lib.hid B0
  clear yy zz e0 e1 e2 e3 f0 f2 hm q0 h1 h3 B0 h hK KE0
  go_enter Tryd.func48, Tryd.ntmps48
  go_upto_region 1 with fail
  refine wp_region_quiet_below (by kernel_rfl) (by kernel_rfl) ?_
  repeat (any_goals (go_big_quiet_step (first | (go_at_call 53; exact KE.out _ _) | (go_at_call 89; exact KC.out _ _))))
  refine wpQuiet_nil ?_
  intro _ hw'
  obtain ⟨⟨dq, osq⟩, hw''⟩ := hw'
  subst hw''
  have NF := seqB N0.out (below_regrown W dq osq)
  clear G0 G1 G2 G3 F0 F2 KE KC
  generalize grow (redrawn W dq) osq = W6 at *
  go_wp2_with fail
  go_ret
  exact ⟨rfl, NF⟩
end
end Go.Proofs.YtdhhfbglbihapaaDoor
set_option linter.unusedVariables false
set_option linter.unusedSimpArgs false
namespace Go.Proofs.YtdhhfbglbihapaaDoor
open Go.RowKit Go.Sort
section
variable {S : Nat → Prop} {P : Nat} {M : Int} {K Nw : List Ky} {kp : Bool} {w w' : World}
theorem MaS.put {l : List Ky} {w1 : World} (h : MaS S P M K Nw kp w) {v u : Value} (hv : w.cell? ⟨P, 2, none⟩ = some v) (ho : OwK w1 0 u l) (hg : w.grownBy w1 v.ownBlock) (hp : ∀ k, u.ownBlock = some k → v.ownBlock = some k ∨ w.heap.size ≤ k) (hl : l.length ≤ 9999) :
    MaS S P M K l kp (w1.setCell ⟨P, 2, none⟩ u) ∧ KeptM S w (w1.setCell ⟨P, 2, none⟩ u) := by
  obtain ⟨ka, kc, bv, h1, h2, h3, h4, h5⟩ := h.ex
  have y := cell_of_row _ _ 2 _ _ _ h1
  rw [hv] at y
  obtain rfl : bv = v := by simpa using y.symm
  have hP := blk_lt h1
  have hz : (w1.setCell ⟨P, 2, none⟩ u).heap.size = w1.heap.size := by simp [World.setCell]
  have hk : ∀ k, k < w.heap.size → k ≠ P → bv.ownBlock ≠ some k → (w1.setCell ⟨P, 2, none⟩ u).heap[k]? = w.heap[k]? := fun k hk1 hk2 hk3 => (Below.heap_setCell _ _ _ _ hk2).trans (hg.block k hk1 (fun e => hk3 e.symm))
  have hu : ∀ k, k < w.heap.size → bv.ownBlock ≠ some k → u.ownBlock ≠ some k := fun k hk1 hk2 e => by
    rcases hp k e with e2 | e2
    · exact hk2 e2
    · omega
  have hP1 : w1.heap[P]? = some (.cells #[.int .i64 M, .slice ka K.length kc, bv, .bool kp] 132 (0, 0)) := (hg.block P hP (fun e => h4 e.symm)).trans h1
  refine ⟨⟨⟨ka, kc, u, blk_set hP1 2 _, ?_, own_set ho (hu P hP h4) _, hu P hP h4, fun k hk' => ?_⟩, h.ln.1, hl, h.ln.2.2⟩, ⟨hg.os, hg.tape, hg.output, by rw [hz]; exact hg.size, fun k hk' => hk k (h5 k hk').1 (h5 k hk').2.1 (h5 k hk').2.2⟩⟩
  · exact (h2.keep (by rw [hz]; exact hg.size) (fun k hk' => hk k hk'.1 hk'.2.1 hk'.2.2)).mono (fun k hk' => ⟨by rw [hz]; exact Nat.lt_of_lt_of_le hk'.1 hg.size, hk'.2.1, hu k hk'.1 hk'.2.2⟩)
  · have := h5 k hk'
    exact ⟨by rw [hz]; exact Nat.lt_of_lt_of_le this.1 hg.size, this.2.1, hu k this.1 this.2.2⟩
theorem key_new1 (w : World) (k : Ky) : KeysIn (w.alloc (.cells #[.int .i64 k.1, .int .i64 k.2.1, .string k.2.2.1, .bool k.2.2.2] 75)) (some ⟨w.heap.size, 0, none⟩) [k] := fun i hi => by
  obtain rfl : i = 0 := by simpa using hi
  have h := heap_alloc_new w (.cells #[.int .i64 k.1, .int .i64 k.2.1, .string k.2.2.1, .bool k.2.2.2] 75)
  refine ⟨_, _, rfl, by simp, ?_, ?_, ?_, ?_⟩ <;> (rw [cell_of_row _ _ _ _ _ _ h]; rfl)
set_option maxHeartbeats 4000000 in
theorem ma_do (k : Ky) (h : MaS S P M K Nw true w) (hK : KT w) (hb : keyB k = true) (hM : (Nw.length : Int) < M) : Calls Tryd.prog 48 #[.pointer (some ⟨P, 0, none⟩), .agg #[.int .i64 k.1, .int .i64 k.2.1, .string k.2.2.1, .bool k.2.2.2]] w fun e w' => e = .returned (.bool true) ∧ MaS S P M K (Nw ++ [k]) true w' ∧ KeptM S w w' := by
  have B0 := below_alloc w (.cells #[.int .i64 k.1, .int .i64 k.2.1, .string k.2.2.1, .bool k.2.2.2] 75)
  have q0 := heap_alloc_new w (.cells #[.int .i64 k.1, .int .i64 k.2.1, .string k.2.2.1, .bool k.2.2.2] 75)
  have hSl := h.lt
  have hM9 := h.ln.2.2
  obtain ⟨X, hX⟩ : ∃ X, w.heap.size = X := ⟨_, rfl⟩
  obtain ⟨W, hW⟩ : ∃ W, w.alloc (.cells #[.int .i64 k.1, .int .i64 k.2.1, .string k.2.2.1, .bool k.2.2.2] 75) = W := ⟨_, rfl⟩
  rw [hW, hX] at q0
  rw [hW] at B0
  have hm := h.below B0
  have KE0 : ∀ d os, Calls Tryd.prog 53 #[.pointer (some ⟨P, 0, none⟩)] (grow (redrawn W d) os) fun e w' => e = .returned (.bool true) ∧ Below (grow (redrawn W d) os).heap.size (grow (redrawn W d) os) w' := fun d os => (ma_keeps (hm.below (below_regrown W d os))).mono (fun e w' ⟨a, b⟩ => ⟨a, b ▸ Below.refl _ _⟩)
  have KE := Lib.hid fun d os => (KE0 d os).regrown_of
  have KC := Lib.hid fun d os => (kcheck_t k (grow (redrawn W d) os) ((hK.below B0).below (below_regrown W d os)) (ckE k) rfl).regrown_of
  rw [ckE_yes hb] at KC
  have HM := Lib.hid hm
  obtain ⟨ka, kc, bv, h1, _, h3, _⟩ := hm.ex
  obtain ⟨n, hn⟩ : ∃ n, Nw.length = n := ⟨_, rfl⟩
  rw [hn] at hM
  obtain ⟨ba, bc, rfl⟩ := h3.form hn
  have HN := Lib.hid hn
  have yy := fun i => cell_of_row _ _ i _ _ _ q0
  have zz := fun i => cell_of_row _ _ i _ _ _ h1
  have e0 := yy 0; have e1 := yy 1; have e2 := yy 2; have e3 := yy 3; have f0 := zz 0; have f2 := zz 2
  dsimp at e0 e1 e2 e3 f0 f2
  have G0 := fun d os => cell_regrown e0 d os
  have G1 := fun d os => cell_regrown e1 d os
  have G2 := fun d os => cell_regrown e2 d os
  have G3 := fun d os => cell_regrown e3 d os
  have F0 := fun d os => cell_regrown f0 d os
  have F2 := fun d os => cell_regrown f2 d os
  have N0 := Lib.hid B0
  have Q0 := Lib.hid q0; have H1 := Lib.hid h1; have H3 := Lib.hid h3
  have HSl := Lib.hid hSl
  clear yy zz e0 e1 e2 e3 f0 f2 hm q0 h1 h3 B0 h hK KE0 hb hn hSl
  go_enter Tryd.func48, Tryd.ntmps48
  go_upto_region 1 with fail
  refine wp_region_quiet_below (by kernel_rfl) (by kernel_rfl) ?_
  repeat (any_goals (go_big_quiet_step (first | (go_at_call 53; exact KE.out _ _) | (go_at_call 89; exact KC.out _ _))))
  refine wpQuiet_nil ?_
  intro _ hw'
  obtain ⟨⟨dq, osq⟩, hw''⟩ := hw'
  subst hw''
  have BR := below_regrown W dq osq
  have N6 := Lib.hid (seqB N0.out BR)
  have M6 := Lib.hid (HM.out.below BR)
  have q6 := blk_below Q0.out BR
  have h6 := blk_below H1.out BR
  have O6 := Lib.hid (H3.out.below BR)
  clear G0 G1 G2 G3 F0 F2 KE KC BR
  generalize grow (redrawn W dq) osq = W6 at *
  have yy := fun i => cell_of_row _ _ i _ _ _ q6
  have zz := fun i => cell_of_row _ _ i _ _ _ h6
  have e0 := yy 0; have e1 := yy 1; have e2 := yy 2; have e3 := yy 3; have d2 := zz 2
  dsimp at e0 e1 e2 e3 d2
  have hPW : P < W6.heap.size := blk_lt h6
  have hXW : X < W6.heap.size := blk_lt q6
  have B7 := (Below.refl W6.heap.size W6).drew.trans (below_alloc W6.drew (.cells #[.int .i64 k.1, .int .i64 k.2.1, .string k.2.2.1, .bool k.2.2.2] 75))
  have M7 := Lib.hid (M6.out.below B7)
  have O7 := Lib.hid (O6.out.below B7)
  have S7 := Lib.hid (key_new1 W6.drew k)
  have c7 : (W6.drew.alloc (.cells #[.int .i64 k.1, .int .i64 k.2.1, .string k.2.2.1, .bool k.2.2.2] 75)).cell? ⟨P, 2, none⟩ = some (.slice ba n bc) := (B7.cell (p := ⟨P, 2, none⟩) hPW).trans d2
  have h7 := blk_below h6 B7
  have KP := Lib.hid (KeptM.of (seqB N6.out B7) HSl.out)
  clear yy zz q6 h6 O6 M6 B7 H1 H3 HM Q0 N0 hW
  have H7 := Lib.hid h7; have C7 := Lib.hid c7
  clear h7 c7
  go_upto_region 3 with fail
  go_region_law
    (first
      | (refine step_app_keys (by rfl) _ _ (by rfl) 0 (.slice ba n bc) n Nw (by rfl) HN.out O7.out (some ⟨W6.heap.size, 0, none⟩) 1 1 [k] (by rfl) rfl S7.out (fun e => (by cases e)) ?c3 (Nat.zero_le _) ?_
         case c3 => omega
         intro ad5 c5 w5 o5 g5 p5
         have hb5 := g5.block P (blk_lt H7.out) (fun e => (O7.out.lt P e.symm).2 |> fun _ => absurd e.symm (by obtain ⟨_, _, bv', h1', _, _, h4', _⟩ := M7.out.ex; have y := cell_of_row _ _ 2 _ _ _ h1'; rw [C7.out] at y; obtain rfl : bv' = _ := (by simpa using y.symm); exact h4'))
         have z5 := hb5.trans H7.out
         have z2 : w5.cell? ⟨P, 2, none⟩ = some (.slice ba n bc) := by rw [cell_of_row _ _ _ _ _ _ z5]; rfl
         have zf : w5.frozen? ⟨P, 2, none⟩ = false := frozen_of_row _ P 2 _ _ z5
         have HF := Lib.hid (MaS.put M7.out C7.out (l := Nw ++ [k]) (by exact o5) g5 p5 (by rw [List.length_append, List.length_singleton]; have := HN.out; omega))
         clear o5 g5 p5 hb5 z5))
  all_goals go_wp2
  all_goals go_ret
  all_goals exact ⟨rfl, HF.out.1, KP.out.trans HF.out.2⟩
end
end Go.Proofs.YtdhhfbglbihapaaDoor
set_option linter.unusedVariables false
set_option linter.unusedSimpArgs false
namespace Go.Proofs.YtdhhfbglbihapaaDoor
open Go.RowKit
/-- Keys, so many times over. -/
def rpK (K : List Ky) (n : Nat) : List Ky := (List.replicate n K).flatten
theorem rpK_zero (K : List Ky) : rpK K 0 = [] := rfl
theorem rpK_succ (K : List Ky) (n : Nat) : rpK K (n + 1) = rpK K n ++ K := by
  unfold rpK
  rw [show n + 1 = n + 1 from rfl, List.replicate_succ', List.flatten_append]
  simp
theorem rpK_len (K : List Ky) (n : Nat) : (rpK K n).length = n * K.length := by
  induction n with
  | zero => simp [rpK]
  | succ n ih => rw [rpK_succ, List.length_append, ih, Nat.succ_mul]
section
variable {S : Nat → Prop} {P : Nat} {M : Int} {K Nw : List Ky} {kp : Bool} {w w' : World}
theorem ma_layer (P : Nat) (w : World) : Calls Tryd.prog 90 #[.pointer (some ⟨P, 0, none⟩)] w fun e w' => e = .returned (.func (.func 120) #[] #[.pointer (some ⟨w.heap.size, 0, none⟩)]) ∧ w.alloc (.cells #[.pointer (some ⟨P, 0, none⟩)] 68) = w' := by
  have hmf : ∀ (fn : Fn) (first cap : Array Value) (w : World), (Instr.makeFunc fn first cap).run Tryd.prog w = .ok (.func fn first cap) w := fun _ _ _ _ => rfl
  go_enter Tryd.func90, Tryd.ntmps90
  go_wp2
  go_ret
  exact ⟨rfl, rfl⟩
theorem ma_lay (h : MaS S P M K Nw kp w) (q B : Nat) (hq : w.cell? ⟨q, 0, none⟩ = some (.pointer (some ⟨P, 0, none⟩))) (l : List Ky) (a : Option Addr) (n c : Nat) (hn : l.length = n) (hl : n ≤ 100000) (ho : OwK w B (.slice a n c) l) (hB : B ≤ w.heap.size) :
    Calls Tryd.prog 120 #[.slice a n c, .pointer (some ⟨q, 0, none⟩)] w fun e w' => ∃ b d, e = .returned (.slice b (n + K.length) d) ∧ OwK w' B (.slice b (n + K.length) d) (l ++ K) ∧ Below B w w' := by
  obtain ⟨ka, kc, bv, h1, h2, _⟩ := h.ex
  have y := cell_of_row _ _ 1 _ _ _ h1; have c1 := y; clear y; dsimp at c1
  have H2 := Lib.hid h2; have HO := Lib.hid ho; have HN := Lib.hid hn
  obtain ⟨m, hm⟩ : ∃ m, K.length = m := ⟨_, rfl⟩
  have hm9 : m ≤ 9999 := by have := h.ln.1; omega
  have HM := Lib.hid hm
  rw [hm] at c1 ⊢
  clear h h1 h2 ho hn hm
  go_enter Tryd.func120, Tryd.ntmps120
  go_wp2_with (at_builtin; refine wpList_app_keys rfl _ _ rfl B _ n l rfl HN.out HO.out ka m kc K rfl HM.out H2.out.s H2.out.nl ?g3 hB ?_)
  case g3 => omega
  intro ad5 c5 w5 o5 g5 p5
  have HO5 := Lib.hid o5
  have N5 := Lib.hid ((Below.refl B w).grown g5 hB (fun j hj => (HO.out.lt j hj).1))
  clear o5 g5 p5
  go_wp2
  go_ret
  exact ⟨_, _, rfl, HO5.out, N5.out⟩
theorem ma_play_err (er : Int) (n : Int) (h : MaS S P M K Nw kp w) (he : (kp = true ∧ er = 12) ∨ (kp = false ∧ K = [] ∧ er = 7) ∨ (kp = false ∧ K ≠ [] ∧ n < 1 ∧ er = 3) ∨ (kp = false ∧ K ≠ [] ∧ 1 ≤ n ∧ 9999 / (K.length : Int) < n ∧ er = 4)) :
    Calls Tryd.prog 51 #[.pointer (some ⟨P, 0, none⟩), .int .i64 n] w fun e w' => e = .returned (.tuple #[.slice none 0 0, .int .i64 er]) ∧ w = w' := by
  obtain ⟨ka, kc, bv, h1, _⟩ := h.ex
  obtain ⟨m, hm⟩ : ∃ m, K.length = m := ⟨_, rfl⟩
  rw [hm] at h1
  have y := fun i => cell_of_row _ _ i _ _ _ h1
  have c1 := y 1; have c3 := y 3; clear y; dsimp at c1 c3
  have hm9 : m ≤ 9999 := by have := h.ln.1; omega
  clear h h1
  rcases he with ⟨rfl, rfl⟩ | ⟨rfl, hK, rfl⟩ | ⟨rfl, hK, hn, rfl⟩ | ⟨rfl, hK, hn, hb, rfl⟩
  · go_enter Tryd.func51, Tryd.ntmps51
    go_wp2
    refine bodyPost_ret (v := .tuple #[.slice none 0 0, .int .i64 12]) (by simp [results, Tryd.results51, go_sem]) rfl ?_
    exact ⟨rfl, rfl⟩
  · obtain rfl : 0 = m := by rw [← hm, hK]; rfl
    clear hm hK
    go_enter Tryd.func51, Tryd.ntmps51
    go_wp2
    refine bodyPost_ret (v := .tuple #[.slice none 0 0, .int .i64 7]) (by simp [results, Tryd.results51, go_sem]) rfl ?_
    exact ⟨rfl, rfl⟩
  · have hm0 : 0 < m := by rw [← hm]; exact List.length_pos_iff.2 hK
    have hm1 : ¬ (m : Int) = 0 := by omega
    clear hm hK
    go_enter Tryd.func51, Tryd.ntmps51
    go_wp2
    refine bodyPost_ret (v := .tuple #[.slice none 0 0, .int .i64 3]) (by simp [results, Tryd.results51, go_sem]) rfl ?_
    exact ⟨rfl, rfl⟩
  · have hm0 : 0 < m := by rw [← hm]; exact List.length_pos_iff.2 hK
    have hm1 : ¬ (m : Int) = 0 := by omega
    have hn1 : ¬ n < 1 := by omega
    rw [hm] at hb
    clear hm hK
    go_enter Tryd.func51, Tryd.ntmps51
    go_wp2
    refine bodyPost_ret (v := .tuple #[.slice none 0 0, .int .i64 4]) (by simp [results, Tryd.results51, go_sem]) rfl ?_
    exact ⟨rfl, rfl⟩
set_option maxHeartbeats 2000000 in
theorem ma_play (n : Nat) (h : MaS S P M K Nw false w) (hK : K ≠ []) (hn : 1 ≤ n) (hnm : n * K.length ≤ 9999) :
    Calls Tryd.prog 51 #[.pointer (some ⟨P, 0, none⟩), .int .i64 (n : Int)] w fun e w' => ∃ b d, e = .returned (.tuple #[.slice b (n * K.length) d, .int .i64 0]) ∧ KeysIn w' b (rpK K n) ∧ Below w.heap.size w w' := by
  have LY := Lib.hid (ma_layer P w)
  obtain ⟨ka, kc, bv, h1, _⟩ := h.ex
  obtain ⟨m, hm⟩ : ∃ m, K.length = m := ⟨_, rfl⟩
  rw [hm] at h1 hnm ⊢
  have y := fun i => cell_of_row _ _ i _ _ _ h1
  have c1 := y 1; have c3 := y 3; clear y; dsimp at c1 c3
  have hm9 : m ≤ 9999 := by have := h.ln.1; omega
  have hm0 : 0 < m := by rw [← hm]; exact List.length_pos_iff.2 hK
  have hm1 : ¬ (m : Int) = 0 := by omega
  have hn1 : ¬ (n : Int) < 1 := by omega
  have hle : n ≤ 9999 := Nat.le_trans (Nat.le_mul_of_pos_right n hm0) hnm
  have hq : ¬ 9999 / (m : Int) < (n : Int) := by
    have h2 : n ≤ 9999 / m := (Nat.le_div_iff_mul_le hm0).2 hnm
    have h3 : ((9999 / m : Nat) : Int) = 9999 / (m : Int) := by simp
    rw [← h3]; omega
  have HM := Lib.hid h
  have Hm := Lib.hid hm
  clear h h1 hm hK
  go_enter Tryd.func51, Tryd.ntmps51
  go_upto_region 12 with (go_at_call 90; refine LY.out.mono ?_; rintro e w1 ⟨rfl, hw1⟩)
  have B1 := below_alloc w (.cells #[.pointer (some ⟨P, 0, none⟩)] 68)
  have q1 := heap_alloc_new w (.cells #[.pointer (some ⟨P, 0, none⟩)] 68)
  rw [hw1] at B1 q1
  obtain ⟨q, hqe⟩ : ∃ q, w.heap.size = q := ⟨_, rfl⟩
  rw [hqe] at q1 ⊢
  have HB1 := Lib.hid B1
  have Hq1 := Lib.hid q1
  obtain ⟨B, hB⟩ : ∃ B, w1.heap.size = B := ⟨_, rfl⟩
  have HqB : Hid (q < B) := Lib.hid (by rw [← hB]; exact blk_lt q1)
  have HwB : Hid (w.heap.size ≤ B) := Lib.hid (by rw [← hB]; exact B1.size)
  have O1 : Hid (OwK w1 B (.slice none 0 0) (rpK K 0)) := Lib.hid (owk_nil _ _)
  have N1 : Hid (Below B w1 w1) := Lib.hid (Below.refl _ _)
  have HqE := Lib.hid hqe
  have HBE := Lib.hid hB
  clear B1 q1 LY hw1
  go_upto_region 14 with fail
  clear hB hqe
  go_loopw [7, 38] (fun lv iv wr => ∃ (i : Nat) (a : Option Addr) (z c : Nat), i ≤ n ∧ lv = .slice a z c ∧ iv = .int .i64 (i : Int) ∧ Hid (z = i * m) ∧ Hid (OwK wr B (.slice a z c) (rpK K i)) ∧ Hid (Below B w1 wr)) (fun _ iv _ => n - (intOf iv).toNat)
  case atStart => exact ⟨0, none, 0, 0, Nat.zero_le _, rfl, rfl, Lib.hid (by simp), O1, N1⟩
  case round =>
    obtain ⟨i, a, z, c, hi, rfl, rfl, HZ, HO, HB⟩ := hrel
    have NB := Lib.hid (HB1.out.trans (HB.out.mono HwB.out))
    clear O1 N1
    by_cases hlt : i < n
    · have hi1 : (i : Int) < (n : Int) := by omega
      have hi0 : (0 : Int) ≤ i := by omega
      have hle2 : z + m ≤ 9999 := by
        rw [HZ.out, ← Nat.succ_mul]
        exact Nat.le_trans (Nat.mul_le_mul_right m hlt) hnm
      have hc : wr.cell? ⟨q, 0, none⟩ = some (.pointer (some ⟨P, 0, none⟩)) := by
        rw [HB.out.cell (p := ⟨q, 0, none⟩) HqB.out, cell_of_row _ _ _ _ _ _ Hq1.out]; rfl
      have LA := ma_lay (HM.out.below NB.out) q B hc (rpK K i) a z c (by rw [rpK_len, Hm.out]; exact HZ.out.symm) (by omega) HO.out (Nat.le_trans (Nat.le_of_eq HBE.out.symm) HB.out.size)
      rw [Hm.out] at LA
      have hz2 : Hid (z + m = (i + 1) * m) := Lib.hid (by rw [HZ.out, Nat.succ_mul])
      have HLA := Lib.hid LA
      clear LA hc HZ
      go_wp2_with (go_at_call 120; refine HLA.out.mono ?_; rintro e w2 ⟨b, d, rfl, ho2, hb2⟩; have O2 := Lib.hid ho2; have N2 := Lib.hid (HB.out.trans hb2); clear ho2 hb2)
      go_roundw
      case rel => exact ⟨i + 1, _, _, _, by omega, rfl, by go_num, hz2, Lib.hid (by rw [rpK_succ]; exact O2.out), N2⟩
      case measure => (simp [intOf]; try omega)
    · obtain rfl : i = n := by omega
      have hkl : ¬ (i : Int) < (i : Int) := by omega
      have hz := HZ.out
      subst hz
      obtain ⟨a', c', e, hs⟩ := HO.out.sl
      have HS := Lib.hid hs.s
      obtain rfl : a = a' := by injection e
      clear hs e HO
      go_wp2
      refine bodyPost_ret (v := .tuple #[.slice a (i * m) c, .int .i64 0]) (by simp [results, Tryd.results51, go_sem]) rfl ?_
      first | exact ⟨a, ⟨c, rfl⟩, HS.out, NB.out⟩ | exact ⟨a, c, rfl, HS.out, NB.out⟩
end
end Go.Proofs.YtdhhfbglbihapaaDoor
set_option linter.unusedVariables false
set_option linter.unusedSimpArgs false
namespace Go.Proofs.YtdhhfbglbihapaaDoor
open Go.RowKit Go.Sort
def kA : Ky := (1, 97, ⟨#[]⟩, false)
def kU : Ky := (7, 0, ⟨#[]⟩, false)
theorem kA_ok : keyB kA = true := by decide +kernel
theorem kU_ok : keyB kU = true := by decide +kernel
section
variable {S : Nat → Prop} {P : Nat} {M : Int} {K Nw : List Ky} {w : World}
theorem ma_doA (h : MaS S P M K Nw true w) (hK : KT w) (hM : (Nw.length : Int) < M) : Calls Tryd.prog 48 #[.pointer (some ⟨P, 0, none⟩), .agg #[.int .i64 1, .int .i64 97, .string ⟨#[]⟩, .bool false]] w fun e w' => e = .returned (.bool true) ∧ MaS S P M K (Nw ++ [kA]) true w' ∧ KeptM S w w' := ma_do kA h hK kA_ok hM
theorem ma_doU (h : MaS S P M K Nw true w) (hK : KT w) (hM : (Nw.length : Int) < M) : Calls Tryd.prog 48 #[.pointer (some ⟨P, 0, none⟩), .agg #[.int .i64 7, .int .i64 0, .string ⟨#[]⟩, .bool false]] w fun e w' => e = .returned (.bool true) ∧ MaS S P M K (Nw ++ [kU]) true w' ∧ KeptM S w w' := ma_do kU h hK kU_ok hM
theorem ma_doF (h : MaS S P M K Nw true w) (hK : KT w) (hM : M ≤ (Nw.length : Int)) : Calls Tryd.prog 48 #[.pointer (some ⟨P, 0, none⟩), .agg #[.int .i64 7, .int .i64 0, .string ⟨#[]⟩, .bool false]] w fun e w' => e = .returned (.bool false) ∧ Below w.heap.size w w' := ma_do_full kU h hK kU_ok hM
end
set_option maxHeartbeats 4000000 in
theorem mawake_any (w : World) (hK : KT w) : Calls Tryd.prog 43 #[] w fun e w' => e = .returned (.bool true) ∧ Below w.heap.size w w' := by
  have HK := Lib.hid hK
  have NW := Lib.hid (ma_new 2 w (by omega) (by omega))
  obtain ⟨S, hS, hS2⟩ : ∃ S : Nat → Prop, (∀ k, S k → k < w.heap.size) ∧ ∀ k, k < w.heap.size → S k := ⟨fun k => k < w.heap.size, fun _ h => h, fun _ h => h⟩
  have HS2 := Lib.hid hS2
  have HS := Lib.hid hS
  clear hK hS hS2
  go_enter Tryd.func43, Tryd.ntmps43
  go_upto_region 10 with (first
    | (go_at_call 44; refine NW.out.mono ?_; rintro e w1 ⟨rfl, hm1, hb1⟩; have M1 := Lib.hid (hm1 S HS.out); have N1 := Lib.hid hb1; clear hm1 hb1 NW)
    | (go_at_call 45; refine (ma_begin M1.out).mono ?_; rintro e w2 ⟨rfl, m2, k2⟩; have M2 := Lib.hid m2; have N2 := Lib.hid (N1.out.trans (k2.below _ HS2.out)); clear m2 k2 M1)
    | (go_at_call 48; (with_reducible refine (ma_doA M2.out (HK.out.below N2.out) (by decide)).mono ?_); rintro e w3 ⟨rfl, m3, k3⟩; have M3 := Lib.hid m3; have N3 := Lib.hid (N2.out.trans (k3.below _ HS2.out)); clear m3 k3 M2)
    | (go_at_call 48; (with_reducible refine (ma_doU M3.out (HK.out.below N3.out) (by decide)).mono ?_); rintro e w4 ⟨rfl, m4, k4⟩; have M4 := Lib.hid m4; have N4 := Lib.hid (N3.out.trans (k4.below _ HS2.out)); clear m4 k4 M3)
    | (go_at_call 48; (with_reducible refine (ma_doF M4.out (HK.out.below N4.out) (by decide)).mono ?_); rintro e w5 ⟨rfl, b5⟩; have M5 := Lib.hid (M4.out.below b5); have N5 := Lib.hid (seqB N4.out b5); clear b5 M4)
    | (go_at_call 49; refine (ma_end_some M5.out (by decide)).mono ?_; rintro e w6 ⟨rfl, m6, k6⟩; have M6 := Lib.hid m6; have N6 := Lib.hid (N5.out.trans (k6.below _ HS2.out)); clear m6 k6 M5)
    | (go_at_call 51; refine (ma_play 2 M6.out (by decide) (by decide) (by decide)).mono ?_; rintro e w7 ⟨b7, d7, rfl, s7, c7⟩; have M7 := Lib.hid (M6.out.below c7); have N7 := Lib.hid (seqB N6.out c7); have S7 := Lib.hid s7; clear c7 s7 M6))
  obtain ⟨bb, off, rfl, hlt, c0, c1, c2, c3⟩ := S7.out 2 (by decide)
  have hk : (rpK ([] ++ [kA] ++ [kU]) 2).getD 2 k0 = kA := rfl
  rw [hk] at c0 c1 c2 c3
  have d1 : w7.cell? ⟨bb, off + 2 * 4 + 1, none⟩ = some (.int .i64 97) := c1
  clear c0 c1 c2 c3 hk S7 hlt
  go_wp2_with (first
    | (go_at_call 54; refine (ma_keys M7.out).mono ?_; rintro e w8 ⟨b8, d8, rfl, s8, c8⟩; have M8 := Lib.hid (M7.out.below c8); have N8 := Lib.hid (seqB N7.out c8); clear c8 s8)
    | (go_at_call 53; refine (ma_keeps M8.out).mono ?_; rintro e w9 ⟨rfl, h9⟩; subst h9))
  go_ret
  exact ⟨rfl, N8.out⟩
end Go.Proofs.YtdhhfbglbihapaaDoor
