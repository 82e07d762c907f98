/-
  Joined: ArgK ArgKs ArgIt Ma0 ECom.
-/
import Derived.Test.YtmnjafceenckpaaDoorJQ01
import Derived.Test.YtmnjafceenckpaaDoorJQ05
import Derived.Test.YtmnjafceenckpaaDoorJQ06
import Derived.Test.YtmnjafceenckpaaDoorJQ07
import Derived.Test.YtmnjafceenckpaaDoorJQ08
import Derived.Test.YtmnjafceenckpaaDoorJQ11
import Derived.Deep.SlicePairs
import Derived.ChangeArms
import Derived.Lib.LaidTab
import Derived.Lib.LaidU8
import Derived.Lib.SmallJoins
import Derived.Deep.Onto
import Derived.Test.YtmnjafceenckpaaDoorCards
import Derived.Test.YtmnjafceenckpaaDoorTie
import Derived.Deep.DeepHandedRow
import Derived.Stop.LaidErr
set_option linter.unusedVariables false
set_option linter.unusedSimpArgs false
set_option maxRecDepth 100000
set_option linter.unusedVariables false
set_option linter.unusedSimpArgs false
namespace Go.Proofs.YtmnjafceenckpaaDoor
open Go.ChangeShapes Go.WideShapes Go.ChangeAt Go.RowKit Go.Deep Go.Joins
section
variable {H : Type} {enc : TypeId × Value → H} {W : World}
theorem array4 {α : Type} {cs : Array α} (h : cs.size = 4) : ∃ c0 c1 c2 c3, cs = #[c0, c1, c2, c3] := by
  obtain ⟨l⟩ := cs
  match l, h with
  | [c0, c1, c2, c3], _ => exact ⟨c0, c1, c2, c3, rfl⟩
theorem open_agg4 {P : Program} {w : World} {base : Nat} {spare : Nat → Bool} {held : Bool} {r : Reach} {b0 : Nat} {t : TypeId} {f0 f1 f2 f3 : Field} {v : Value} {d : DataW H} {p : List MemPlace} (hs : P.underlying t = some (.struct #[f0, f1, f2, f3])) (hone : oneCellFields P #[f0, f1, f2, f3] = true) (hC : P.cellsOf t = 4)
    (hv : Value.okWide P w r b0 t v) (h : DataW.Trod enc P w base spare held t v d p) :
    ∃ (v0 v1 v2 v3 : Value) (y0 y1 y2 y3 : DataW H × List MemPlace) (n : Nat), v = .agg #[v0, v1, v2, v3] ∧
      DataW.trod enc P w base spare held n f0.type [v0] = some y0 ∧ DataW.trod enc P w base spare held n f1.type [v1] = some y1 ∧ DataW.trod enc P w base spare held n f2.type [v2] = some y2 ∧ DataW.trod enc P w base spare held n f3.type [v3] = some y3 := by
  obtain ⟨cs, rfl, hsz⟩ := okWide_struct hs hv
  obtain ⟨c0, c1, c2, c3, rfl⟩ := array4 (hsz.trans hC)
  obtain ⟨fuel, hf⟩ := h
  obtain ⟨xs, n, _, _, hl, hlen, hf⟩ := DataW.trod_struct hs hf
  obtain ⟨o0, k0⟩ := hone_of hone 0 f0 rfl
  obtain ⟨o1, k1⟩ := hone_of hone 1 f1 rfl
  obtain ⟨o2, k2⟩ := hone_of hone 2 f2 rfl
  obtain ⟨o3, k3⟩ := hone_of hone 3 f3 rfl
  match xs, hlen with
  | [y0, y1, y2, y3], _ =>
    exact ⟨c0, c1, c2, c3, y0, y1, y2, y3, n, rfl, by simpa [Value.cells, o0, k0] using hf 0 f0 rfl, by simpa [Value.cells, o1, k1] using hf 1 f1 rfl, by simpa [Value.cells, o2, k2] using hf 2 f2 rfl, by simpa [Value.cells, o3, k3] using hf 3 f3 rfl⟩
end
end Go.Proofs.YtmnjafceenckpaaDoor
set_option linter.unusedVariables false
set_option linter.unusedSimpArgs false
namespace Go.Proofs.YtmnjafceenckpaaDoor
open Go.ChangeShapes Go.WideShapes Go.ChangeAt Go.RowKit Go.Deep Go.Joins
/-- A slice of keys lies in memory. -/
def KeysIn (w : World) (a : Option Addr) (l : List Ky) : Prop :=
  ∀ i, i < l.length → ∃ b off, a = some ⟨b, off, none⟩ ∧ b < w.heap.size ∧ w.cell? ⟨b, off + i * 4, none⟩ = some (.int .i64 (l.getD i k0).1) ∧ w.cell? ⟨b, off + i * 4 + 1, none⟩ = some (.int .i64 (l.getD i k0).2.1) ∧
    w.cell? ⟨b, off + i * 4 + 2, none⟩ = some (.string (l.getD i k0).2.2.1) ∧ w.cell? ⟨b, off + i * 4 + 3, none⟩ = some (.bool (l.getD i k0).2.2.2)
theorem KeysIn.below {w0 w' : World} {a : Option Addr} {l : List Ky} (h : KeysIn w0 a l) (hb : Below w0.heap.size w0 w') : KeysIn w' a l := fun i hi => by
  obtain ⟨b, off, e, hlt, h1, h2, h3, h4⟩ := h i hi
  exact ⟨b, off, e, Nat.lt_of_lt_of_le hlt hb.size, (hb.cell (p := ⟨b, off + i * 4, none⟩) hlt).trans h1, (hb.cell (p := ⟨b, off + i * 4 + 1, none⟩) hlt).trans h2, (hb.cell (p := ⟨b, off + i * 4 + 2, none⟩) hlt).trans h3,
    (hb.cell (p := ⟨b, off + i * 4 + 3, none⟩) hlt).trans h4⟩
/-- A slice of bools lies in memory. -/
def BoolsIn (w : World) (a : Option Addr) (l : List Bool) : Prop :=
  ∀ i, i < l.length → ∃ b off, a = some ⟨b, off, none⟩ ∧ b < w.heap.size ∧ w.cell? ⟨b, off + i, none⟩ = some (.bool (l.getD i false))
theorem BoolsIn.below {w0 w' : World} {a : Option Addr} {l : List Bool} (h : BoolsIn w0 a l) (hb : Below w0.heap.size w0 w') : BoolsIn w' a l := fun i hi => by
  obtain ⟨b, off, e, hlt, h1⟩ := h i hi
  exact ⟨b, off, e, Nat.lt_of_lt_of_le hlt hb.size, (hb.cell (p := ⟨b, off + i, none⟩) hlt).trans h1⟩
section
variable {H : Type} {enc : TypeId × Value → H} {W : World}
theorem addQ_none (b off k : Nat) : (⟨b, off, none⟩ : Addr).add k = ⟨b, off + k, none⟩ := by unfold Addr.add; split <;> simp_all
set_option maxRecDepth 100000 in
theorem cellsIntQ : Tryd.prog.cellsOf 3 = 1 := by kernel_rfl
set_option maxRecDepth 100000 in
theorem cellsStrQ : Tryd.prog.cellsOf 9 = 1 := by kernel_rfl
set_option maxRecDepth 100000 in
theorem cellsBoolQ : Tryd.prog.cellsOf 4 = 1 := by kernel_rfl
set_option maxRecDepth 100000 in
theorem arg_bools {base : Nat} {v0 : Value} {d0 : DataW H} {p : List MemPlace} (hv : Value.okWide Tryd.prog W .any base 57 v0) (h : DataW.Trod enc Tryd.prog W 0 (fun _ => true) true 57 v0 d0 p) :
    ∃ (l : List Bool) (a : Option Addr) (c : Nat), v0 = .slice a l.length c ∧ BoolsIn W a l ∧ l.length ≤ 9223372036854775807 := by
  obtain ⟨a0, len, cap, rfl⟩ := okWide_slice Tryd.underlying57 hv
  obtain ⟨fuel, hf⟩ := h
  rcases open_slice Tryd.underlying57 hf with ⟨hcs, _⟩ | ⟨a, len', cap', m, n, D, Pl, hcs, _, hl, hm, hmm, _, hx⟩
  · simp [Value.cells] at hcs
    obtain ⟨rfl, rfl, rfl⟩ := hcs
    exact ⟨[], none, 0, rfl, fun j hj => absurd hj (Nat.not_lt_zero j), by simp⟩
  · simp [Value.cells] at hcs
    obtain ⟨rfl, rfl, rfl⟩ := hcs
    have hlm : len ≤ m := by rw [hmm]; split <;> omega
    have key : ∀ i, i < len → ∃ q : Bool, W.cell? (a.add i) = some (.bool q) := by
      intro i hi
      obtain ⟨cs', h1, h2⟩ := hx i (by omega)
      rw [cellsBoolQ] at h1
      obtain ⟨_, hlen, hcell⟩ := World.cells?_some h1
      obtain ⟨x0, hx0, _⟩ := DataW.trod_bool Tryd.underlying4 h2
      have e0 := hcell 0 (by omega)
      rw [add_add] at e0
      exact ⟨x0, by simpa [hx0] using e0⟩
    obtain ⟨F, hF⟩ : ∃ F : Nat → Bool, ∀ i, i < len → W.cell? (a.add i) = some (.bool (F i)) :=
      ⟨fun i => if h : i < len then (key i h).choose else false, fun i hi => by simp only [dif_pos hi]; exact (key i hi).choose_spec⟩
    clear key
    refine ⟨(List.range len).map F, some a, cap, by simp, ?_, by simp; unfold maxLen at hm; omega⟩
    intro j hj
    have hj2 : j < len := by simpa using hj
    have c0 := hF j hj2
    obtain ⟨b, off, sp⟩ := a
    have hsp : sp = none := by
      have c00 := hF 0 (by omega)
      have h1 : W.cell? ⟨b, off, sp⟩ = some (.bool (F 0)) := by simpa [Addr.add] using c00
      exact cell_spot h1
    subst hsp
    rw [addQ_none] at c0
    have hg : ((List.range len).map F).getD j false = F j := by
      rw [List.getD, List.getElem?_map, List.getElem?_range hj2]; rfl
    rw [hg]
    exact ⟨b, off, rfl, block_lt_of_cell c0, c0⟩
end
end Go.Proofs.YtmnjafceenckpaaDoor
set_option linter.unusedVariables false
set_option linter.unusedSimpArgs false
namespace Go.Proofs.YtmnjafceenckpaaDoor
open Go.ChangeShapes Go.WideShapes Go.ChangeAt Go.RowKit Go.Deep Go.Joins
/-- A slice of items lies in memory. -/
def ItsIn (w : World) (a : Option Addr) (l : List (Bool × UInt8)) : Prop :=
  ∀ i, i < l.length → ∃ b off, a = some ⟨b, off, none⟩ ∧ b < w.heap.size ∧ w.cell? ⟨b, off + i * 2, none⟩ = some (.bool (l.getD i (false, 0)).1) ∧ w.cell? ⟨b, off + i * 2 + 1, none⟩ = some (.int .u8 ((l.getD i (false, 0)).2.toNat : Int))
section
variable {H : Type} {enc : TypeId × Value → H} {W : World}
set_option maxRecDepth 100000 in
theorem cellsItemQ : Tryd.prog.cellsOf 56 = 2 := by kernel_rfl
theorem u8_itm {x : Int} (h : 0 ≤ x ∧ x ≤ 255) : ∃ b : UInt8, x = (b.toNat : Int) :=
  ⟨UInt8.ofNat x.toNat, by rw [UInt8.toNat_ofNat']; omega⟩
set_option maxRecDepth 100000 in
theorem arg_items {base : Nat} {v0 : Value} {d0 : DataW H} {p : List MemPlace} (hv : Value.okWide Tryd.prog W .any base 37 v0) (h : DataW.Trod enc Tryd.prog W 0 (fun _ => true) true 37 v0 d0 p) :
    ∃ (l : List (Bool × UInt8)) (a : Option Addr) (c : Nat), v0 = .slice a l.length c ∧ ItsIn W a l ∧ l.length ≤ 9223372036854775807 := by
  obtain ⟨a0, len, cap, rfl⟩ := okWide_slice Tryd.underlying37 hv
  obtain ⟨fuel, hf⟩ := h
  rcases open_slice Tryd.underlying37 hf with ⟨hcs, _⟩ | ⟨a, len', cap', m, n, D, Pl, hcs, _, hl, hm, hmm, _, hx⟩
  · simp [Value.cells] at hcs
    obtain ⟨rfl, rfl, rfl⟩ := hcs
    exact ⟨[], none, 0, rfl, fun j hj => absurd hj (Nat.not_lt_zero j), by simp⟩
  · simp [Value.cells] at hcs
    obtain ⟨rfl, rfl, rfl⟩ := hcs
    have hlm : len ≤ m := by rw [hmm]; split <;> omega
    have key : ∀ i, i < len → ∃ q : Bool × UInt8, W.cell? (a.add (i * 2)) = some (.bool q.1) ∧ W.cell? (a.add (i * 2 + 1)) = some (.int .u8 (q.2.toNat : Int)) := by
      intro i hi
      obtain ⟨cs', h1, h2⟩ := hx i (by omega)
      rw [cellsItemQ] at h1
      obtain ⟨_, hlen, hcell⟩ := World.cells?_some h1
      obtain ⟨xs, k, hk, hxy, _, hxl, hf⟩ := DataW.trod_struct Tryd.underlying56 h2
      match xs, hxl, cs', hlen with
      | [y0, y1], _, [u0, u1], _ =>
        have g0 := hf 0 _ rfl
        have g1 := hf 1 _ rfl
        simp [cellsBoolQ, cellsU8A] at g0 g1
        have e0 := hcell 0 (by omega)
        have e1 := hcell 1 (by omega)
        rw [add_add] at e0 e1
        obtain ⟨x0, hx0, _⟩ := DataW.trod_bool Tryd.underlying4 g0
        obtain ⟨x1, hx1, _, hr⟩ := DataW.trod_int Tryd.underlying5 g1
        obtain rfl : u0 = .bool x0 := by simpa using hx0
        obtain rfl : u1 = .int .u8 x1 := by simpa using hx1
        obtain ⟨b, rfl⟩ := u8_itm (u8_bounds hr)
        exact ⟨(x0, b), by simpa using e0, by simpa using e1⟩
    obtain ⟨F, hF⟩ : ∃ F : Nat → Bool × UInt8, ∀ i, i < len → W.cell? (a.add (i * 2)) = some (.bool (F i).1) ∧ W.cell? (a.add (i * 2 + 1)) = some (.int .u8 ((F i).2.toNat : Int)) :=
      ⟨fun i => if h : i < len then (key i h).choose else (false, 0), fun i hi => by simp only [dif_pos hi]; exact (key i hi).choose_spec⟩
    clear key
    refine ⟨(List.range len).map F, some a, cap, by simp, ?_, by simp; unfold maxLen at hm; omega⟩
    intro j hj
    have hj2 : j < len := by simpa using hj
    obtain ⟨c0, c1⟩ := hF j hj2
    obtain ⟨b, off, sp⟩ := a
    have hsp : sp = none := by
      obtain ⟨c00, _⟩ := hF 0 (by omega)
      have h1 : W.cell? ⟨b, off, sp⟩ = some (.bool (F 0).1) := by simpa [Addr.add] using c00
      exact cell_spot h1
    subst hsp
    rw [addQ_none] at c0 c1
    have hg : ((List.range len).map F).getD j (false, 0) = F j := by
      rw [List.getD, List.getElem?_map, List.getElem?_range hj2]; rfl
    rw [hg]
    exact ⟨b, off, rfl, block_lt_of_cell c0, c0, c1⟩
end
end Go.Proofs.YtmnjafceenckpaaDoor
set_option linter.unusedVariables false
set_option linter.unusedSimpArgs false
namespace Go.Proofs.YtmnjafceenckpaaDoor
open Go.RowKit
def kC (L : List Ky) : List Value := L.flatMap fun p => [Value.int .i64 p.1, Value.int .i64 p.2.1, Value.string p.2.2.1, Value.bool p.2.2.2]
theorem kC_at (L : List Ky) : ∀ i, i < L.length → (kC L)[i * 4]? = some (.int .i64 (L.getD i k0).1) ∧ (kC L)[i * 4 + 1]? = some (.int .i64 (L.getD i k0).2.1) ∧ (kC L)[i * 4 + 2]? = some (.string (L.getD i k0).2.2.1) ∧ (kC L)[i * 4 + 3]? = some (.bool (L.getD i k0).2.2.2) := by
  induction L with
  | nil => intro i hi; simp at hi
  | cons x L ih =>
    intro i hi
    cases i with
    | zero => exact ⟨rfl, rfl, rfl, rfl⟩
    | succ i =>
      have h := ih i (by simpa using hi)
      rw [show (i + 1) * 4 = i * 4 + 1 + 1 + 1 + 1 by omega]
      exact h
theorem kC_len (L : List Ky) : (kC L).length = L.length * 4 := by
  unfold kC
  induction L with
  | nil => rfl
  | cons x L ih => simp only [List.flatMap_cons, List.length_append, List.length_cons, List.length_nil, ih]; omega
theorem kC_app (a b : List Ky) : kC (a ++ b) = kC a ++ kC b := by simp [kC]
theorem kC_one (l : List Ky) : ∀ u ∈ kC l, u.oneCell' = true := by
  intro u hu
  unfold kC at hu
  rw [List.mem_flatMap] at hu
  obtain ⟨p, _, hp⟩ := hu
  simp at hp
  rcases hp with rfl | rfl | rfl | rfl <;> rfl
theorem kC_news {w : World} {ad : Addr} {l : List Ky} (h : KeysIn w (some ad) l) : ∀ j u, (kC l)[j]? = some u → w.cell? (ad.add j) = some u := by
  intro j u hj
  have hlen := kC_len l
  have hj2 : j < l.length * 4 := by
    rw [← hlen]
    exact (List.getElem?_eq_some_iff.1 hj).1
  obtain ⟨b, off, e, _, h1, h2, h3, h4⟩ := h (j / 4) (by omega)
  injection e with e
  subst e
  have hadd : (⟨b, off, none⟩ : Addr).add j = ⟨b, off + j, none⟩ := by unfold Addr.add; split <;> simp_all
  have hs := kC_at l (j / 4) (by omega)
  rw [hadd]
  have hm : j % 4 = 0 ∨ j % 4 = 1 ∨ j % 4 = 2 ∨ j % 4 = 3 := by omega
  rcases hm with hm | hm | hm | hm
  · have e : j / 4 * 4 = j := by omega
    rw [e] at hs h1
    rw [hs.1] at hj
    rw [h1]; exact hj
  · have e : j / 4 * 4 + 1 = j := by omega
    rw [e] at hs
    rw [show off + j / 4 * 4 + 1 = off + j by omega] at h2
    rw [hs.2.1] at hj
    rw [h2]; exact hj
  · have e : j / 4 * 4 + 2 = j := by omega
    rw [e] at hs
    rw [show off + j / 4 * 4 + 2 = off + j by omega] at h3
    rw [hs.2.2.1] at hj
    rw [h3]; exact hj
  · have e : j / 4 * 4 + 3 = j := by omega
    rw [e] at hs
    rw [show off + j / 4 * 4 + 3 = off + j by omega] at h4
    rw [hs.2.2.2] at hj
    rw [h4]; exact hj
/-- A slice of keys, its room, and where its block is. -/
structure SlK (S : Nat → Prop) (w : World) (a : Option Addr) (L : List Ky) (c : Nat) : Prop where
  s : KeysIn w a L
  le : L.length ≤ c
  nl : a = none → c = 0
  st : ∀ ad, a = some ad → L ≠ [] → S ad.block
theorem SlK.mono {S T : Nat → Prop} {w : World} {a : Option Addr} {L : List Ky} {c : Nat} (h : SlK S w a L c) (hT : ∀ k, S k → T k) : SlK T w a L c := ⟨h.s, h.le, h.nl, fun ad e hn => hT _ (h.st ad e hn)⟩
theorem SlK.keep {S : Nat → Prop} {w w' : World} {a : Option Addr} {L : List Ky} {c : Nat} (h : SlK S w a L c) (hs : w.heap.size ≤ w'.heap.size) (hk : ∀ k, S k → w'.heap[k]? = w.heap[k]?) : SlK S w' a L c := by
  refine ⟨fun i hi => ?_, h.le, h.nl, h.st⟩
  obtain ⟨b, off, e, hb, h1, h2, h3, h4⟩ := h.s i hi
  have hS := h.st _ e (fun h0 => by rw [h0] at hi; simp at hi)
  have hkb : w'.heap[b]? = w.heap[b]? := hk b hS
  refine ⟨b, off, e, Nat.lt_of_lt_of_le hb hs, ?_, ?_, ?_, ?_⟩
  · rw [← h1]; unfold World.cell?; rw [hkb]
  · rw [← h2]; unfold World.cell?; rw [hkb]
  · rw [← h3]; unfold World.cell?; rw [hkb]
  · rw [← h4]; unfold World.cell?; rw [hkb]
theorem SlK.below {S : Nat → Prop} {w w' : World} {a : Option Addr} {L : List Ky} {c : Nat} (h : SlK S w a L c) (hb : Below w.heap.size w w') : SlK S w' a L c := ⟨h.s.below hb, h.le, h.nl, h.st⟩
theorem SlK.none (S : Nat → Prop) (w : World) : SlK S w none [] 0 := ⟨fun j hj => absurd hj (Nat.not_lt_zero j), Nat.le_refl _, fun _ => rfl, fun ad e => by cases e⟩
theorem run_append_place {P : Program} (w : World) (base : Nat) (t ty e : TypeId) (i : TypeInfo) (z : Value) (size bytes : Nat) (ht : P.underlying t = some (.slice e)) (hi : P.info? e = some i) (hz : i.zero = some z)
    (hsize : i.size = size) (hby : i.bytes = bytes) (hzs : z.cells.size = size) (hsz : 0 < size)
    (v : Value) (n : Nat) (xs : List Value) (hown : w.ownsRow base e size v n xs)
    (a : Addr) (m c : Nat) (news : List Value) (hl : news.length = m * size) (hnews : ∀ j u, news[j]? = some u → w.cell? (a.add j) = some u) (h1 : ∀ u ∈ news, u.oneCell' = true)
    (h63 : n + m ≤ maxLen) (hbytes : (n + m) * bytes ≤ 140737488355328) (hbase : base ≤ w.heap.size) :
    ∃ v' w', (Builtin.append_ #[t, t] ty #[v, .slice (some a) m c]).run P w = .ok v' w' ∧ w'.ownsRow base e size v' (n + m) (xs ++ news) ∧ w.grownBy w' v.ownBlock ∧
      (∀ k, v'.ownBlock = some k → v.ownBlock = some k ∨ w.heap.size ≤ k) := by
  obtain ⟨v', w', hr, h2, h3, _⟩ := run_append_own (P := P) w base t ty e i z size bytes ht hi hz hsize hby hzs hsz v n xs hown a m c news hl hnews h1 h63 hbytes hbase
  refine ⟨v', w', hr, h2, h3, fun k hk => ?_⟩
  rcases hown.2 with ⟨rfl, rfl⟩ | ⟨g, cap, cur, rfl, hbg, hg, hnc, hcm, hcs, htake⟩
  · obtain ⟨v2, w2, hr2, h4, _⟩ := run_append_own (P := P) w w.heap.size t ty e i z size bytes ht hi hz hsize hby hzs hsz _ 0 xs ⟨hown.1, .inl ⟨rfl, rfl⟩⟩ a m c news hl hnews h1 h63 hbytes (Nat.le_refl _)
    rw [hr] at hr2
    injection hr2 with e1 e2
    subst e1
    exact Or.inr (h4.lt k hk).1
  · subst hsize; subst hby
    by_cases hroom : n + m ≤ cap
    · have hr2 := run_append_room (P := P) w t ty e i ht hi g n cap cur hg a m c news hl hnews h1 hroom (by rw [hl, hcs, ← Nat.add_mul]; exact Nat.mul_le_mul_right _ hroom)
      rw [hr] at hr2
      injection hr2 with e1 e2
      subst e1
      exact Or.inl hk
    · have holds := hown.cells (g := g) rfl
      have hr2 := run_append_grow (P := P) w t ty e i z ht hi hz ⟨g, 0, none⟩ n cap xs hown.1 holds a m c news hl hnews (by omega) (by unfold maxLen at h63; omega) (growslice_fits (by omega) hbytes)
      rw [hr] at hr2
      injection hr2 with e1 e2
      subst e1
      simp [Value.ownBlock] at hk
      exact Or.inr (by omega)
end Go.Proofs.YtmnjafceenckpaaDoor
set_option linter.unusedVariables false
set_option linter.unusedSimpArgs false
namespace Go.Proofs.YtmnjafceenckpaaDoor
open Go.ChangeShapes Go.WideShapes Go.ChangeAt Go.RowKit
namespace emtE
theorem own : ownKnob Tryd.prog.godebug = none := by kernel_rfl
theorem laidOut : laidOutB Tryd.prog = true := by kernel_rfl
theorem gR : Tryd.prog.globalNamed "dactyl/class.ranges" = some 0 := by kernel_rfl
theorem gL : Tryd.prog.globalNamed "dactyl/class.looks" = some 1 := by kernel_rfl
theorem gRType : (Tryd.prog.globals[0]?).map (·.type) = some 97 := by kernel_rfl
theorem gLType : (Tryd.prog.globals[1]?).map (·.type) = some 105 := by kernel_rfl
theorem cellsR : Tryd.prog.cellsOf 97 = 159 := by kernel_rfl
theorem cellsL : Tryd.prog.cellsOf 105 = 102 := by kernel_rfl
theorem cellsE : Tryd.prog.cellsOf 21 = 1 := by kernel_rfl
theorem eFirst : (Rows.laid_unicode_utf8_first : DataW Unit) = Lib.firstData := by kernel_rfl
theorem eAcc : (Rows.laid_unicode_utf8_acceptRanges : DataW Unit) = Lib.acceptData := by kernel_rfl
theorem extra : U8Extra Tryd.prog Tryd.lays260_ren := ⟨by kernel_rfl, by kernel_rfl, by kernel_rfl, by kernel_rfl, by kernel_rfl, by kernel_rfl, by kernel_rfl⟩
def laid : List (String × DataW Unit) := [("unicode/utf8.acceptRanges", Rows.laid_unicode_utf8_acceptRanges), ("dactyl/class.ranges", Rows.laid_dactyl_class_ranges), ("dactyl/class.looks", Rows.laid_dactyl_class_looks), ("unicode/utf8.first", Rows.laid_unicode_utf8_first)]
set_option maxRecDepth 100000 in
theorem tables {W : World} (h : laidMetH Tryd.prog laid W) : ET W := by
  have h1 : Lib.TabIs Tryd.prog W "dactyl/class.ranges" .i32 rng :=
    Lib.tabIs_of_head (rest := [("dactyl/class.looks", Rows.laid_dactyl_class_looks), ("unicode/utf8.first", Rows.laid_unicode_utf8_first)]) gR gRType Tryd.underlying97 Tryd.underlying21 cellsE cellsR (laidMet.tail h)
  have h2 : Lib.TabIs Tryd.prog W "dactyl/class.looks" .i32 lks :=
    Lib.tabIs_of_head (rest := [("unicode/utf8.first", Rows.laid_unicode_utf8_first)]) gL gLType Tryd.underlying105 Tryd.underlying21 cellsE cellsL (laidMet.tail (laidMet.tail h))
  have h3 : Lib.VarReads Tryd.prog W "unicode/utf8.acceptRanges" Lib.acceptData := by rw [← eAcc]; exact Lib.laidMet.reads h (.head _)
  have h4 : Lib.VarReads Tryd.prog W "unicode/utf8.first" Lib.firstData := by rw [← eFirst]; exact Lib.laidMet.reads h (.tail _ (.tail _ (.tail _ (.head _))))
  have ht : Lib.Utf8Tabs 2 3 W := utf8Tabs_of_reads Tryd.lays260 extra h4 h3
  exact ⟨⟨fun i hi => h1.cell gR i hi, fun i hi => h2.cell gL i hi, block_lt_of_cell (h1.cell gR 0 (by decide)), block_lt_of_cell (h2.cell gL 0 (by decide))⟩, ⟨ht, block_lt_of_cell (ht.1 0 (by decide)), block_lt_of_cell (ht.2 0 (by decide)).1⟩⟩
/-- A world for the witness: the settled one, the tables as their initialisers lay them. -/
def lay (cs : Array Value) : Obj → Obj
  | .cells _ t frozen => .cells cs t frozen
  | o => o
noncomputable def laidWorld (os : Os) : World :=
  { World.holding Tryd.prog os ⟨#[], #[], []⟩ with heap := ((((World.holding Tryd.prog os ⟨#[], #[], []⟩).heap.modify 0 (lay (rng.map (Value.int .i32)).toArray)).modify 1 (lay (lks.map (Value.int .i32)).toArray)).modify 2 (lay (Lib.firstTab.map fun z => Value.int .u8 z).toArray)).modify 3 (lay ((List.range 16).flatMap fun i => [Value.int .u8 (Lib.accLo i), Value.int .u8 (Lib.accHi i)]).toArray) }
theorem laid_met (os : Os) (args : Array Value) : laidMet Tryd.prog laid ((laidWorld os).forCall (fun _ _ => 0) ⟨#[], args, []⟩).memory :=
  laidMet_of_run' 8 (by kernel_rfl) (by kernel_rfl)
end emtE
end Go.Proofs.YtmnjafceenckpaaDoor
