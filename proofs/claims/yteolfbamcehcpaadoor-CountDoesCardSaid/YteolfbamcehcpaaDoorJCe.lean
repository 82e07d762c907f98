/-
  Joined: ArgK ArgKs Ct8.
-/
import Derived.Test.YteolfbamcehcpaaDoorArgS
import Derived.Test.YteolfbamcehcpaaDoorKy1
import Derived.Deep.SlicePairs
import Derived.ChangeArms
import Derived.Lib.LaidTab
import Derived.Lib.LaidU8
import Derived.Lib.SmallJoins
import Derived.Test.YteolfbamcehcpaaDoorJCd
import Derived.Deep.RegionHeld3
set_option maxRecDepth 100000
set_option linter.unusedVariables false
set_option linter.unusedSimpArgs false
namespace Go.Proofs.YteolfbamcehcpaaDoor
set_option linter.unusedVariables false
set_option linter.unusedSimpArgs false
open Go.ChangeShapes Go.WideShapes Go.ChangeAt Go.RowKit Go.Deep Go.Joins
section
variable {H : Type} {enc : TypeId × Value → H} {W : World}
theorem array4 {α : Type} {cs : Array α} (h : cs.size = 4) : ∃ c0 c1 c2 c3, cs = #[c0, c1, c2, c3] := by
  obtain ⟨l⟩ := cs
  match l, h with
  | [c0, c1, c2, c3], _ => exact ⟨c0, c1, c2, c3, rfl⟩
set_option maxRecDepth 100000 in
theorem cellsKey : Tryd.prog.cellsOf 23 = 4 := by kernel_rfl
theorem open_agg4 {P : Program} {w : World} {base : Nat} {spare : Nat → Bool} {held : Bool} {r : Reach} {b0 : Nat} {t : TypeId} {f0 f1 f2 f3 : Field} {v : Value} {d : DataW H} {p : List MemPlace} (hs : P.underlying t = some (.struct #[f0, f1, f2, f3])) (hone : oneCellFields P #[f0, f1, f2, f3] = true) (hC : P.cellsOf t = 4)
    (hv : Value.okWide P w r b0 t v) (h : DataW.Trod enc P w base spare held t v d p) :
    ∃ (v0 v1 v2 v3 : Value) (y0 y1 y2 y3 : DataW H × List MemPlace) (n : Nat), v = .agg #[v0, v1, v2, v3] ∧
      DataW.trod enc P w base spare held n f0.type [v0] = some y0 ∧ DataW.trod enc P w base spare held n f1.type [v1] = some y1 ∧ DataW.trod enc P w base spare held n f2.type [v2] = some y2 ∧ DataW.trod enc P w base spare held n f3.type [v3] = some y3 := by
  obtain ⟨cs, rfl, hsz⟩ := okWide_struct hs hv
  obtain ⟨c0, c1, c2, c3, rfl⟩ := array4 (hsz.trans hC)
  obtain ⟨fuel, hf⟩ := h
  obtain ⟨xs, n, _, _, hl, hlen, hf⟩ := DataW.trod_struct hs hf
  obtain ⟨o0, k0⟩ := hone_of hone 0 f0 rfl
  obtain ⟨o1, k1⟩ := hone_of hone 1 f1 rfl
  obtain ⟨o2, k2⟩ := hone_of hone 2 f2 rfl
  obtain ⟨o3, k3⟩ := hone_of hone 3 f3 rfl
  match xs, hlen with
  | [y0, y1, y2, y3], _ =>
    exact ⟨c0, c1, c2, c3, y0, y1, y2, y3, n, rfl, by simpa [Value.cells, o0, k0] using hf 0 f0 rfl, by simpa [Value.cells, o1, k1] using hf 1 f1 rfl, by simpa [Value.cells, o2, k2] using hf 2 f2 rfl, by simpa [Value.cells, o3, k3] using hf 3 f3 rfl⟩
theorem arg_key {base : Nat} {v0 : Value} {d0 : DataW H} {p : List MemPlace} (hv : Value.okWide Tryd.prog W .any base 23 v0) (h : DataW.Trod enc Tryd.prog W 0 (fun _ => true) true 23 v0 d0 p) :
    ∃ k : Ky, v0 = .agg #[.int .i64 k.1, .int .i64 k.2.1, .string k.2.2.1, .bool k.2.2.2] := by
  obtain ⟨v0, v1, v2, v3, y0, y1, y2, y3, n, rfl, t0, t1, t2, t3⟩ := open_agg4 Tryd.underlying23 (by kernel_rfl) cellsKey hv h
  obtain ⟨x, hx, _, _⟩ := DataW.trod_int Tryd.underlying3 t0
  obtain ⟨y, hy, _, _⟩ := DataW.trod_int Tryd.underlying3 t1
  obtain ⟨s, hs, _, _⟩ := DataW.trod_string Tryd.underlying9 t2
  obtain ⟨b, hb, _⟩ := DataW.trod_bool Tryd.underlying4 t3
  obtain rfl : v0 = .int .i64 x := by simpa using hx
  obtain rfl : v1 = .int .i64 y := by simpa using hy
  obtain rfl : v2 = .string s := by simpa using hs
  obtain rfl : v3 = .bool b := by simpa using hb
  exact ⟨(x, y, s, b), rfl⟩
end
end Go.Proofs.YteolfbamcehcpaaDoor
namespace Go.Proofs.YteolfbamcehcpaaDoor
open Go.ChangeShapes Go.WideShapes Go.ChangeAt Go.RowKit Go.Deep Go.Joins
/-- A slice of keys lies in memory. -/
def KeysIn (w : World) (a : Option Addr) (l : List Ky) : Prop :=
  ∀ i, i < l.length → ∃ b off, a = some ⟨b, off, none⟩ ∧ b < w.heap.size ∧ w.cell? ⟨b, off + i * 4, none⟩ = some (.int .i64 (l.getD i k0).1) ∧ w.cell? ⟨b, off + i * 4 + 1, none⟩ = some (.int .i64 (l.getD i k0).2.1) ∧
    w.cell? ⟨b, off + i * 4 + 2, none⟩ = some (.string (l.getD i k0).2.2.1) ∧ w.cell? ⟨b, off + i * 4 + 3, none⟩ = some (.bool (l.getD i k0).2.2.2)
theorem KeysIn.below {w0 w' : World} {a : Option Addr} {l : List Ky} (h : KeysIn w0 a l) (hb : Below w0.heap.size w0 w') : KeysIn w' a l := fun i hi => by
  obtain ⟨b, off, e, hlt, h1, h2, h3, h4⟩ := h i hi
  exact ⟨b, off, e, Nat.lt_of_lt_of_le hlt hb.size, (hb.cell (p := ⟨b, off + i * 4, none⟩) hlt).trans h1, (hb.cell (p := ⟨b, off + i * 4 + 1, none⟩) hlt).trans h2, (hb.cell (p := ⟨b, off + i * 4 + 2, none⟩) hlt).trans h3,
    (hb.cell (p := ⟨b, off + i * 4 + 3, none⟩) hlt).trans h4⟩
/-- A slice of bools lies in memory. -/
def BoolsIn (w : World) (a : Option Addr) (l : List Bool) : Prop :=
  ∀ i, i < l.length → ∃ b off, a = some ⟨b, off, none⟩ ∧ b < w.heap.size ∧ w.cell? ⟨b, off + i, none⟩ = some (.bool (l.getD i false))
theorem BoolsIn.below {w0 w' : World} {a : Option Addr} {l : List Bool} (h : BoolsIn w0 a l) (hb : Below w0.heap.size w0 w') : BoolsIn w' a l := fun i hi => by
  obtain ⟨b, off, e, hlt, h1⟩ := h i hi
  exact ⟨b, off, e, Nat.lt_of_lt_of_le hlt hb.size, (hb.cell (p := ⟨b, off + i, none⟩) hlt).trans h1⟩
section
variable {H : Type} {enc : TypeId × Value → H} {W : World}
theorem addQ_none (b off k : Nat) : (⟨b, off, none⟩ : Addr).add k = ⟨b, off + k, none⟩ := by unfold Addr.add; split <;> simp_all
set_option maxRecDepth 100000 in
theorem cellsIntQ : Tryd.prog.cellsOf 3 = 1 := by kernel_rfl
set_option maxRecDepth 100000 in
theorem cellsStrQ : Tryd.prog.cellsOf 9 = 1 := by kernel_rfl
set_option maxRecDepth 100000 in
theorem cellsBoolQ : Tryd.prog.cellsOf 4 = 1 := by kernel_rfl
set_option maxRecDepth 100000 in
theorem cellsKeyQ : Tryd.prog.cellsOf 23 = 4 := by kernel_rfl
set_option maxRecDepth 100000 in
theorem arg_keys {base : Nat} {v0 : Value} {d0 : DataW H} {p : List MemPlace} (hv : Value.okWide Tryd.prog W .any base 38 v0) (h : DataW.Trod enc Tryd.prog W 0 (fun _ => true) true 38 v0 d0 p) :
    ∃ (l : List Ky) (a : Option Addr) (c : Nat), v0 = .slice a l.length c ∧ KeysIn W a l ∧ l.length ≤ 9223372036854775807 := by
  obtain ⟨a0, len, cap, rfl⟩ := okWide_slice Tryd.underlying38 hv
  obtain ⟨fuel, hf⟩ := h
  rcases open_slice Tryd.underlying38 hf with ⟨hcs, _⟩ | ⟨a, len', cap', m, n, D, Pl, hcs, _, hl, hm, hmm, _, hx⟩
  · simp [Value.cells] at hcs
    obtain ⟨rfl, rfl, rfl⟩ := hcs
    exact ⟨[], none, 0, rfl, fun j hj => absurd hj (Nat.not_lt_zero j), by simp⟩
  · simp [Value.cells] at hcs
    obtain ⟨rfl, rfl, rfl⟩ := hcs
    have hlm : len ≤ m := by rw [hmm]; split <;> omega
    have key : ∀ i, i < len → ∃ q : Ky, W.cell? (a.add (i * 4)) = some (.int .i64 q.1) ∧ W.cell? (a.add (i * 4 + 1)) = some (.int .i64 q.2.1) ∧ W.cell? (a.add (i * 4 + 2)) = some (.string q.2.2.1) ∧ W.cell? (a.add (i * 4 + 3)) = some (.bool q.2.2.2) := by
      intro i hi
      obtain ⟨cs', h1, h2⟩ := hx i (by omega)
      rw [cellsKeyQ] at h1
      obtain ⟨_, hlen, hcell⟩ := World.cells?_some h1
      obtain ⟨xs, k, hk, hxy, _, hxl, hf⟩ := DataW.trod_struct Tryd.underlying23 h2
      match xs, hxl, cs', hlen with
      | [y0, y1, y2, y3], _, [u0, u1, u2, u3], _ =>
        have g0 := hf 0 _ rfl
        have g1 := hf 1 _ rfl
        have g2 := hf 2 _ rfl
        have g3 := hf 3 _ rfl
        simp [cellsIntQ, cellsStrQ, cellsBoolQ] at g0 g1 g2 g3
        have e0 := hcell 0 (by omega)
        have e1 := hcell 1 (by omega)
        have e2 := hcell 2 (by omega)
        have e3 := hcell 3 (by omega)
        rw [add_add] at e0 e1 e2 e3
        obtain ⟨x0, hx0, _, _⟩ := DataW.trod_int Tryd.underlying3 g0
        obtain ⟨x1, hx1, _, _⟩ := DataW.trod_int Tryd.underlying3 g1
        obtain ⟨x2, hx2, _, _⟩ := DataW.trod_string Tryd.underlying9 g2
        obtain ⟨x3, hx3, _⟩ := DataW.trod_bool Tryd.underlying4 g3
        obtain rfl : u0 = .int .i64 x0 := by simpa using hx0
        obtain rfl : u1 = .int .i64 x1 := by simpa using hx1
        obtain rfl : u2 = .string x2 := by simpa using hx2
        obtain rfl : u3 = .bool x3 := by simpa using hx3
        exact ⟨(x0, x1, x2, x3), by simpa using e0, by simpa using e1, by simpa using e2, by simpa using e3⟩
    obtain ⟨F, hF⟩ : ∃ F : Nat → Ky, ∀ i, i < len → W.cell? (a.add (i * 4)) = some (.int .i64 (F i).1) ∧ W.cell? (a.add (i * 4 + 1)) = some (.int .i64 (F i).2.1) ∧ W.cell? (a.add (i * 4 + 2)) = some (.string (F i).2.2.1) ∧ W.cell? (a.add (i * 4 + 3)) = some (.bool (F i).2.2.2) :=
      ⟨fun i => if h : i < len then (key i h).choose else k0, fun i hi => by simp only [dif_pos hi]; exact (key i hi).choose_spec⟩
    clear key
    refine ⟨(List.range len).map F, some a, cap, by simp, ?_, by simp; unfold maxLen at hm; omega⟩
    intro j hj
    have hj2 : j < len := by simpa using hj
    obtain ⟨c0, c1, c2, c3⟩ := hF j hj2
    obtain ⟨b, off, sp⟩ := a
    have hsp : sp = none := by
      obtain ⟨c00, _⟩ := hF 0 (by omega)
      have h1 : W.cell? ⟨b, off, sp⟩ = some (.int .i64 (F 0).1) := by simpa [Addr.add] using c00
      exact cell_spot h1
    subst hsp
    rw [addQ_none] at c0 c1 c2 c3
    have hg : ((List.range len).map F).getD j k0 = F j := by
      rw [List.getD, List.getElem?_map, List.getElem?_range hj2]; rfl
    rw [hg]
    exact ⟨b, off, rfl, block_lt_of_cell c0, c0, c1, c2, c3⟩
set_option maxRecDepth 100000 in
theorem arg_bools {base : Nat} {v0 : Value} {d0 : DataW H} {p : List MemPlace} (hv : Value.okWide Tryd.prog W .any base 39 v0) (h : DataW.Trod enc Tryd.prog W 0 (fun _ => true) true 39 v0 d0 p) :
    ∃ (l : List Bool) (a : Option Addr) (c : Nat), v0 = .slice a l.length c ∧ BoolsIn W a l ∧ l.length ≤ 9223372036854775807 := by
  obtain ⟨a0, len, cap, rfl⟩ := okWide_slice Tryd.underlying39 hv
  obtain ⟨fuel, hf⟩ := h
  rcases open_slice Tryd.underlying39 hf with ⟨hcs, _⟩ | ⟨a, len', cap', m, n, D, Pl, hcs, _, hl, hm, hmm, _, hx⟩
  · simp [Value.cells] at hcs
    obtain ⟨rfl, rfl, rfl⟩ := hcs
    exact ⟨[], none, 0, rfl, fun j hj => absurd hj (Nat.not_lt_zero j), by simp⟩
  · simp [Value.cells] at hcs
    obtain ⟨rfl, rfl, rfl⟩ := hcs
    have hlm : len ≤ m := by rw [hmm]; split <;> omega
    have key : ∀ i, i < len → ∃ q : Bool, W.cell? (a.add i) = some (.bool q) := by
      intro i hi
      obtain ⟨cs', h1, h2⟩ := hx i (by omega)
      rw [cellsBoolQ] at h1
      obtain ⟨_, hlen, hcell⟩ := World.cells?_some h1
      obtain ⟨x0, hx0, _⟩ := DataW.trod_bool Tryd.underlying4 h2
      have e0 := hcell 0 (by omega)
      rw [add_add] at e0
      exact ⟨x0, by simpa [hx0] using e0⟩
    obtain ⟨F, hF⟩ : ∃ F : Nat → Bool, ∀ i, i < len → W.cell? (a.add i) = some (.bool (F i)) :=
      ⟨fun i => if h : i < len then (key i h).choose else false, fun i hi => by simp only [dif_pos hi]; exact (key i hi).choose_spec⟩
    clear key
    refine ⟨(List.range len).map F, some a, cap, by simp, ?_, by simp; unfold maxLen at hm; omega⟩
    intro j hj
    have hj2 : j < len := by simpa using hj
    have c0 := hF j hj2
    obtain ⟨b, off, sp⟩ := a
    have hsp : sp = none := by
      have c00 := hF 0 (by omega)
      have h1 : W.cell? ⟨b, off, sp⟩ = some (.bool (F 0)) := by simpa [Addr.add] using c00
      exact cell_spot h1
    subst hsp
    rw [addQ_none] at c0
    have hg : ((List.range len).map F).getD j false = F j := by
      rw [List.getD, List.getElem?_map, List.getElem?_range hj2]; rfl
    rw [hg]
    exact ⟨b, off, rfl, block_lt_of_cell c0, c0⟩
end
end Go.Proofs.YteolfbamcehcpaaDoor
namespace Go.Proofs.YteolfbamcehcpaaDoor
open Go.RowKit
theorem bfar {w : World} {b p i : Nat} {o : Option Obj} {v : Value} (h : w.heap[b]? = o) (hne : p ≠ b) : (w.setCell ⟨p, i, none⟩ v).heap[b]? = o :=
  (Below.heap_setCell _ _ _ _ (Ne.symm hne)).trans h
theorem rdo_t (l l' : List UInt8) (b : Bool) (k : Ky) (w : World) (hl : l.length ≤ 100000) (h : doR l k = (l', b)) : Calls Tryd.prog 23 #[.agg #[.string (mkS l)], .agg #[.int .i64 k.1, .int .i64 k.2.1, .string k.2.2.1, .bool k.2.2.2]] w fun e w' => e = .returned (.tuple #[.agg #[.string (mkS l')], .bool b]) ∧ Below w.heap.size w w' := by
  have := rdo_any l k w hl
  unfold RdPost at this
  rw [h] at this
  exact this
theorem rval_t (l : List UInt8) (v : Int) (b : Bool) (w : World) (hg : CsG l) (hl : l.length ≤ 100000) (h1 : csVal (csOf l) = v) (h2 : csBg (csOf l) = b) : Calls Tryd.prog 25 #[.agg #[.string (mkS l)]] w fun e w' => e = .returned (.tuple #[.int .i64 v, .bool b]) ∧ Below w.heap.size w w' := by
  subst h1; subst h2; exact rvalC_any l w hg hl
theorem ctx_alloc {w : World} {X b off j : Nat} {S : ByteArray} {k : Ky} (hX : X < w.heap.size) (hb : b < w.heap.size) (o : Obj) (h : w.cell? ⟨X, 0, none⟩ = some (.string S) ∧ w.cell? ⟨b, off + j * 4, none⟩ = some (.int .i64 k.1) ∧ w.cell? ⟨b, off + j * 4 + 1, none⟩ = some (.int .i64 k.2.1) ∧ w.cell? ⟨b, off + j * 4 + 2, none⟩ = some (.string k.2.2.1) ∧ w.cell? ⟨b, off + j * 4 + 3, none⟩ = some (.bool k.2.2.2)) :
    (w.alloc o).cell? ⟨X, 0, none⟩ = some (.string S) ∧ (w.alloc o).cell? ⟨b, off + j * 4, none⟩ = some (.int .i64 k.1) ∧ (w.alloc o).cell? ⟨b, off + j * 4 + 1, none⟩ = some (.int .i64 k.2.1) ∧ (w.alloc o).cell? ⟨b, off + j * 4 + 2, none⟩ = some (.string k.2.2.1) ∧ (w.alloc o).cell? ⟨b, off + j * 4 + 3, none⟩ = some (.bool k.2.2.2) := by
  have B := below_alloc w o
  obtain ⟨h0, h1, h2, h3, h4⟩ := h
  exact ⟨(B.cell (p := ⟨X, 0, none⟩) hX).trans h0, (B.cell (p := ⟨b, off + j * 4, none⟩) hb).trans h1, (B.cell (p := ⟨b, off + j * 4 + 1, none⟩) hb).trans h2, (B.cell (p := ⟨b, off + j * 4 + 2, none⟩) hb).trans h3, (B.cell (p := ⟨b, off + j * 4 + 3, none⟩) hb).trans h4⟩
theorem ctx_below {w w' : World} {B X b off j : Nat} {S : ByteArray} {k : Ky} (hX : X < B) (hb : b < B) (H : Below B w w') (h : w.cell? ⟨X, 0, none⟩ = some (.string S) ∧ w.cell? ⟨b, off + j * 4, none⟩ = some (.int .i64 k.1) ∧ w.cell? ⟨b, off + j * 4 + 1, none⟩ = some (.int .i64 k.2.1) ∧ w.cell? ⟨b, off + j * 4 + 2, none⟩ = some (.string k.2.2.1) ∧ w.cell? ⟨b, off + j * 4 + 3, none⟩ = some (.bool k.2.2.2)) :
    w'.cell? ⟨X, 0, none⟩ = some (.string S) ∧ w'.cell? ⟨b, off + j * 4, none⟩ = some (.int .i64 k.1) ∧ w'.cell? ⟨b, off + j * 4 + 1, none⟩ = some (.int .i64 k.2.1) ∧ w'.cell? ⟨b, off + j * 4 + 2, none⟩ = some (.string k.2.2.1) ∧ w'.cell? ⟨b, off + j * 4 + 3, none⟩ = some (.bool k.2.2.2) := by
  obtain ⟨h0, h1, h2, h3, h4⟩ := h
  exact ⟨(H.cell (p := ⟨X, 0, none⟩) hX).trans h0, (H.cell (p := ⟨b, off + j * 4, none⟩) hb).trans h1, (H.cell (p := ⟨b, off + j * 4 + 1, none⟩) hb).trans h2, (H.cell (p := ⟨b, off + j * 4 + 2, none⟩) hb).trans h3, (H.cell (p := ⟨b, off + j * 4 + 3, none⟩) hb).trans h4⟩
/-- The state between two keys. -/
structure CdI (w : World) (P X : Nat) (j : Nat) (L : List UInt8) (wr : World) : Prop where
  g : CsG L
  len : L.length ≤ j
  c : CtAt P (csOf L) wr
  x : wr.heap[X]? = some (.cells #[.string (mkS L)] 43 (0, 0))
  b : Below w.heap.size w wr
set_option maxHeartbeats 32000000 in
set_option maxRecDepth 100000 in
theorem countdoes_any (l : List Ky) (m : List Bool) (a am : Option Addr) (ca cm : Nat) (w : World) (hK : KT w) (hl : l.length ≤ 9223372036854775807) (hm : m.length ≤ 9223372036854775807) (hL : KeysIn w a l) (hM : BoolsIn w am m) : Calls Tryd.prog 5 #[.slice a l.length ca, .slice am m.length cm] w fun e w' => e = .returned (.bool true) ∧ Below w.heap.size w w' := by
  have AW := Lib.hid fun w hK => ctawake_any w hK
  have HK := Lib.hid hK
  have HL := Lib.hid hL
  have HM := Lib.hid hM
  have hgl : Hid (0 < w.heap.size) := Lib.hid hK.lt
  clear hK hL hM
  by_cases h60 : (60 : Int) < l.length
  · go_enter Tryd.func5, Tryd.ntmps5
    go_wp2_with (go_at_call 21; refine (AW.out _ HK.out).mono ?_; rintro e w1 ⟨rfl, hb1⟩)
    go_ret
    exact ⟨rfl, hb1⟩
  have NW := Lib.hid fun w => ctnew_any w
  go_enter Tryd.func5, Tryd.ntmps5
  go_wp2_with (first
    | (go_at_call 21; refine (AW.out _ HK.out).mono ?_; rintro e w1 ⟨rfl, hb1⟩)
    | (go_at_call 22; refine (NW.out _).mono ?_; rintro e w2 ⟨rfl, hw2⟩; have B2 := below_alloc w1 (.cells #[.bool false, .bool false, .int .i64 0, .bool false] 93); have P2 : CtAt w1.heap.size cs0 (w1.alloc (.cells #[.bool false, .bool false, .int .i64 0, .bool false] 93)) := heap_alloc_new w1 _; have s2' : (w1.alloc (.cells #[.bool false, .bool false, .int .i64 0, .bool false] 93)).heap.size = w1.heap.size + 1 := (by simp); rw [hw2] at B2 P2 s2'; have s2 := Lib.hid s2'; have N2 := seqB hb1 B2; clear hw2 s2'))
  have B3 := below_alloc w2 (.cells #[.string ⟨#[]⟩] 43)
  have P3 : CtAt w1.heap.size cs0 (w2.alloc (.cells #[.string ⟨#[]⟩] 43)) := blk_below P2 B3
  have X3 := heap_alloc_new w2 (.cells #[.string ⟨#[]⟩] 43)
  have N3 := seqB N2 B3
  obtain ⟨P, hP⟩ : ∃ P, w1.heap.size = P := ⟨_, rfl⟩
  obtain ⟨X, hX⟩ : ∃ X, w2.heap.size = X := ⟨_, rfl⟩
  have hPw : Hid (w.heap.size ≤ P) := Lib.hid (by have := hb1.size; omega)
  have hXP : Hid (X = P + 1) := Lib.hid (by rw [← hP, ← hX]; exact s2.out)
  rw [hP] at P3 ⊢
  rw [hX] at X3 ⊢
  have I0 : Hid (CdI w P X 0 [] (w2.alloc (.cells #[.string ⟨#[]⟩] 43))) := Lib.hid ⟨fun b hb => (by cases hb), Nat.le_refl _, P3, X3, N3⟩
  clear hb1 B2 P2 s2 N2 B3 P3 X3 N3 hP hX
  have hl60 : l.length ≤ 60 := by omega
  go_loopw [7] (fun iv wr => ∃ (j : Nat) (L : List UInt8), j ≤ l.length ∧ iv = .int .i64 (j : Int) ∧ Hid (CdI w P X j L wr)) (fun iv _ => l.length - (intOf iv).toNat)
  case atStart => exact ⟨0, [], Nat.zero_le _, rfl, I0⟩
  case round =>
    obtain ⟨j, L, hj, rfl, HI⟩ := hrel
    by_cases hlt : j < l.length
    · have hj1 : (j : Int) < l.length := by omega
      have hj0 : (0 : Int) ≤ j := by omega
      have hgL := HI.out.g
      have hlen := HI.out.len
      have hct := HI.out.c
      have hx := HI.out.x
      have hb := HI.out.b
      clear HI
      have hwr := hb.size
      have hXl : X < wr.heap.size := blk_lt hx
      have hPl : P < wr.heap.size := blk_lt hct
      obtain ⟨kb, off, rfl, hkb, c0, c1, c2, c3⟩ := (HL.out.below hb) j hlt
      have hkbw : kb < w.heap.size := by
        obtain ⟨kb', off', he, hk', _⟩ := HL.out j hlt
        obtain ⟨rfl, rfl⟩ : kb' = kb ∧ off' = off := by simpa using he.symm
        exact hk'
      have KC : Hid (∀ w', Below w.heap.size w w' → w'.cell? ⟨kb, off + j * 4, none⟩ = some (.int .i64 (l.getD j k0).1) ∧ w'.cell? ⟨kb, off + j * 4 + 1, none⟩ = some (.int .i64 (l.getD j k0).2.1) ∧ w'.cell? ⟨kb, off + j * 4 + 2, none⟩ = some (.string (l.getD j k0).2.2.1) ∧ w'.cell? ⟨kb, off + j * 4 + 3, none⟩ = some (.bool (l.getD j k0).2.2.2)) := Lib.hid fun w' hb' => by
        obtain ⟨kb', off', he, _, d0, d1, d2, d3⟩ := (HL.out.below hb') j hlt
        obtain ⟨rfl, rfl⟩ : kb' = kb ∧ off' = off := by simpa using he.symm
        exact ⟨d0, d1, d2, d3⟩
      obtain ⟨k, hk⟩ : ∃ k, l.getD j k0 = k := ⟨_, rfl⟩
      rw [hk] at c0 c1 c2 c3 KC
      obtain ⟨L2, ok, hdr⟩ : ∃ L2 ok, doR L k = (L2, ok) := ⟨_, _, rfl⟩
      have hL2 : CsG L2 ∧ L2.length ≤ L.length + 1 := by
        have h1 := doR_good k hgL; have h2 := doR_len L k; rw [hdr] at h1 h2; exact ⟨h1, h2⟩
      have RD := Lib.hid fun w => rdo_t L L2 ok k w (by omega) hdr
      have hboth : keyB k = true → doC (csOf L) k = (csOf L2, ok) := fun h => by have := do_both L k h; rw [hdr] at this; exact this
      have hbad : keyB k = false → doC (csOf L) k = (csOf L, false) := fun h => do_bad _ k h
      have hnum := cs_num hgL
      have hnum2 := cs_num hL2.1
      have DO := Lib.hid fun w (s' : Cs) (b : Bool) (hd : doC (csOf L) k = (s', b)) hK hp => ctdo_t P (csOf L) s' b k w hK hp hnum.1 hnum.2 hd
      have MY := fun w => rmay_t k w _ rfl
      have c00 := cell_of_row _ _ 0 _ _ _ hx
      dsimp at c00
      obtain ⟨S, hS⟩ : ∃ S, mkS L = S := ⟨_, rfl⟩
      obtain ⟨S2, hS2⟩ : ∃ S, mkS L2 = S := ⟨_, rfl⟩
      rw [hS] at hx c00 RD
      rw [hS2] at RD
      have HX := Lib.hid hx
      have HC := Lib.hid hct
      have HB := Lib.hid hb
      have y0 : wr.cell? ⟨X, 0, none⟩ = some (.string S) ∧ wr.cell? ⟨kb, off + j * 4, none⟩ = some (.int .i64 k.1) ∧ wr.cell? ⟨kb, off + j * 4 + 1, none⟩ = some (.int .i64 k.2.1) ∧ wr.cell? ⟨kb, off + j * 4 + 2, none⟩ = some (.string k.2.2.1) ∧ wr.cell? ⟨kb, off + j * 4 + 3, none⟩ = some (.bool k.2.2.2) := ⟨c00, c0, c1, c2, c3⟩
      have y1 := ctx_alloc hXl hkb (.cells #[.string ⟨#[]⟩] 43) y0
      have HY0 := Lib.hid y0
      have HY1 := Lib.hid y1
      have HDR := Lib.hid hdr
      have HS := Lib.hid hS
      have HS2 := Lib.hid hS2
      have HG := Lib.hid hgL
      have HG2 := Lib.hid hL2.1
      have HLN : Hid (L.length ≤ j ∧ L2.length ≤ j + 1) := Lib.hid ⟨hlen, by have := hL2.2; omega⟩
      have HN1 := Lib.hid hnum
      have HN2 := Lib.hid hnum2
      have HBT := Lib.hid hboth
      have HBD := Lib.hid hbad
      clear hgL hlen hct hx hb hdr hL2 hboth hbad hnum hnum2 y0 y1 hS hS2 hk
      go_upto_region 8 with fail
      go_region_held3 (fun w' => w'.cell? ⟨X, 0, none⟩ = some (.string S) ∧ w'.cell? ⟨kb, off + j * 4, none⟩ = some (.int .i64 k.1) ∧ w'.cell? ⟨kb, off + j * 4 + 1, none⟩ = some (.int .i64 k.2.1) ∧ w'.cell? ⟨kb, off + j * 4 + 2, none⟩ = some (.string k.2.2.1) ∧ w'.cell? ⟨kb, off + j * 4 + 3, none⟩ = some (.bool k.2.2.2))
        (first | with_reducible exact HY0.out | with_reducible exact HY1.out | with_reducible exact o2.out | with_reducible exact o3.out | go_keep)
        (first
          | (go_at_call 23; (with_reducible refine (RD.out wr.drew).mono ?_); rintro e w4 ⟨rfl, hb4⟩; have M4 := seqB (Below.refl wr.heap.size wr).drew hb4; have o2 := Lib.hid (ctx_below hXl hkb M4 HY0.out); have B5 := below_alloc w4 (.cells #[.string S2] 43); have M5' := seqB M4 B5; have y5' := heap_alloc_new w4 (.cells #[.string S2] 43); have o3 := Lib.hid (ctx_below hXl hkb M5' HY0.out); have hY5 : wr.heap.size ≤ w4.heap.size := M4.size; obtain ⟨W5, hW5⟩ : ∃ W5, W5 = w4.alloc (.cells #[.string S2] 43) := ⟨_, rfl⟩; obtain ⟨Y, hY⟩ : ∃ Y, Y = w4.heap.size := ⟨_, rfl⟩; rw [← hW5] at M5' y5'; rw [← hY] at y5' hY5; have hYle := Lib.hid hY5; have M5 := Lib.hid M5'; have y5 := Lib.hid y5'; clear M5' y5' B5 M4 hb4)
          | (go_at_call 23; (with_reducible refine (RD.out (wr.alloc (.cells #[.string ⟨#[]⟩] 43)).drew).mono ?_); rintro e w4 ⟨rfl, hb4⟩; have M4 := seqB (below_alloc wr (.cells #[.string ⟨#[]⟩] 43)) (seqB (Below.refl (wr.alloc (.cells #[.string ⟨#[]⟩] 43)).heap.size (wr.alloc (.cells #[.string ⟨#[]⟩] 43))).drew hb4); have o2 := Lib.hid (ctx_below hXl hkb M4 HY0.out); have z4 := blk_below (w := (wr.alloc (.cells #[.string ⟨#[]⟩] 43)).drew) (heap_alloc_new wr (.cells #[.string ⟨#[]⟩] 43)) hb4; have M5' := M4.setCell (p := ⟨wr.heap.size, 0, none⟩) (Nat.le_refl _) (.string S2); have y5' := one_set z4 (.string S2); have o3 := Lib.hid (ctx_below hXl hkb M5' HY0.out); have zz0 := cell_of_row _ _ 0 _ _ _ z4; have zf4 := fun i => frozen_of_row _ wr.heap.size i _ _ z4; have hz4 := blk_lt z4; dsimp at zz0; have hY5 : wr.heap.size ≤ wr.heap.size := Nat.le_refl _; obtain ⟨W5, hW5⟩ : ∃ W5, W5 = w4.setCell ⟨wr.heap.size, 0, none⟩ (.string S2) := ⟨_, rfl⟩; obtain ⟨Y, hY⟩ : ∃ Y, Y = wr.heap.size := ⟨_, rfl⟩; rw [← hW5] at M5' y5'; have M5 := Lib.hid M5'; have y5'' : W5.heap[Y]? = some (.cells #[.string S2] 43 (0, 0)) := (by rw [hY]; exact y5'); have y5 := Lib.hid y5''; have hYle : Hid (wr.heap.size ≤ Y) := Lib.hid (by rw [hY]; exact Nat.le_refl _); clear M5' y5' y5'' M4 hb4 z4))
      all_goals
        rw [← hW5]
        rw [← hY]
        clear hW5
        have hYle2 := hYle.out
        have N5 := Lib.hid (HB.out.trans (M5.out.mono HB.out.size))
        have x5 := Lib.hid (blk_below HX.out M5.out)
        have p5 : Hid (CtAt P (csOf L) W5) := Lib.hid (blk_below HC.out M5.out)
        have hYX : Hid (Y ≠ X) := Lib.hid (by omega)
        have hYP : Hid (Y ≠ P) := Lib.hid (by omega)
        have hXPn : Hid (X ≠ P) := Lib.hid (by have := hXP.out; omega)
        have hXw : Hid (w.heap.size ≤ X) := Lib.hid (by have := hXP.out; have := hPw.out; omega)
        clear hY hYle2 o2 o3 c00 c0 c1 c2 c3 HY0 HY1 hXl hPl hwr hkb hkbw
        try clear hY5
        try clear zz0 zf4 hz4
        obtain ⟨a0, a1, a2, a3⟩ := KC.out _ N5.out
        cases hkb : keyB k with
        | false =>
          have DO := Lib.hid fun w hK hp => DO.out w _ _ (HBD.out hkb) hK hp
          rw [hkb] at MY
          replace MY := Lib.hid MY
          have hv := cs_val HG.out
          obtain ⟨V, hV⟩ : ∃ V, csVal (csOf L) = V := ⟨_, rfl⟩
          obtain ⟨g, hg⟩ : ∃ g, csBg (csOf L) = g := ⟨_, rfl⟩
          rw [hV] at hv
          obtain ⟨hv1, hv2⟩ := hv
          have RV : Hid (∀ w, Calls Tryd.prog 25 #[.agg #[.string S]] w fun e w' => e = .returned (.tuple #[.int .i64 V, .bool g]) ∧ Below w.heap.size w w') := Lib.hid fun w => by rw [← HS.out]; exact rval_t L V g w HG.out (by have := HLN.out; omega) hV hg
          have CV := Lib.hid fun w hp => ctvalue_t P (csOf L) V g w hp HN1.out.1 HN1.out.2 hV hg
          have TK := Lib.hid fun w hp => cttake_t P (csOf L) V g w hp HN1.out.1 HN1.out.2 hV hg
          clear hkb hV hg
          by_cases hjm : j < m.length
          · have hjm1 : (j : Int) < m.length := by omega
            obtain ⟨tb, toff, rfl, _, _⟩ := HM.out j hjm
            obtain ⟨tv, htv⟩ : ∃ tv, m.getD j false = tv := ⟨_, rfl⟩
            have TC : Hid (∀ w', Below w.heap.size w w' → w'.cell? ⟨tb, toff + j, none⟩ = some (.bool tv)) := Lib.hid fun w' hb' => by
              obtain ⟨b', off', he, _, d0⟩ := (HM.out.below hb') j hjm
              obtain ⟨rfl, rfl⟩ : b' = tb ∧ off' = toff := by simpa using he.symm
              rw [← htv]; exact d0
            clear htv
            cases tv with
            | false =>
              go_wp2_with (first
                | (go_at_call 13; refine (MY.out _).mono ?_; rintro e w6 ⟨rfl, hb6⟩; clear a0 a1 a2 a3; have N6 := seqB N5.out hb6; have x6 := blk_below x5.out hb6; have y6 := blk_below y5.out hb6; have p6 : CtAt P (csOf L) w6 := blk_below p5.out hb6; have N7 := Lib.hid (N6.setCell (p := ⟨Y, 0, none⟩) (Nat.le_trans HB.out.size hYle.out) (.string S)); have x7 := Lib.hid (bfar (p := Y) (i := 0) (v := .string S) x6 hYX.out); have y7 := Lib.hid (one_set y6 (.string S)); have p7 : Hid (CtAt P (csOf L) (w6.setCell ⟨Y, 0, none⟩ (.string S))) := Lib.hid (bfar (p := Y) (i := 0) (v := .string S) p6 hYP.out); have K7 := Lib.hid (HK.out.below N7.out); obtain ⟨d0, d1, d2, d3⟩ := KC.out _ N7.out; have e6 := cell_of_row _ _ 0 _ _ _ x6; have f6 := cell_of_row _ _ 0 _ _ _ y6; have zf6 := fun i => frozen_of_row _ Y i _ _ y6; dsimp at e6 f6; clear N6 x6 y6 p6 hb6)
                | (go_at_call 24; refine (DO.out _ K7.out p7.out).mono ?_; rintro e w8 ⟨rfl, h8, g8⟩; clear d0 d1 d2 d3; (try clear e6 f6 zf6); have N8 := below_gb N7.out g8 hPw.out; have x8 := (g8.block X (blk_lt x7.out) (fun e => hXPn.out (by injection e))).trans x7.out; have y8 := (g8.block Y (blk_lt y7.out) (fun e => hYP.out (by injection e))).trans y7.out; have N9 := Lib.hid (N8.setCell (p := ⟨X, 0, none⟩) hXw.out (.string S)); have x9 := Lib.hid (one_set x8 (.string S)); have p9 : Hid (CtAt P (csOf L) (w8.setCell ⟨X, 0, none⟩ (.string S))) := Lib.hid (bfar (p := X) (i := 0) (v := .string S) h8 hXPn.out); have e8 := cell_of_row _ _ 0 _ _ _ x8; have f8 := cell_of_row _ _ 0 _ _ _ y8; have zf8 := fun i => frozen_of_row _ X i _ _ x8; dsimp at e8 f8; have u9 := cell_of_row _ _ 0 _ _ _ x9.out; dsimp at u9; clear N8 x8 y8 h8 g8)
                | (go_at_call 25; refine (RV.out _).mono ?_; rintro e w10 ⟨rfl, hb10⟩; clear e8 f8 zf8 u9; have N10 := Lib.hid (seqB N9.out hb10); have x10 := Lib.hid (blk_below x9.out hb10); have p10 : Hid (CtAt P (csOf L) w10) := Lib.hid (blk_below p9.out hb10); clear hb10)
                | (go_at_call 26; refine (CV.out _ p10.out).mono ?_; rintro e w11 ⟨rfl, hb11⟩; have N11 := Lib.hid (seqB N10.out hb11); have x11 := Lib.hid (blk_below x10.out hb11); have p11 : Hid (CtAt P (csOf L) w11) := Lib.hid (blk_below p10.out hb11); have t11 := TC.out _ N11.out; clear hb11))
              all_goals
                go_roundw
                case rel => exact ⟨j + 1, L, by omega, by go_num, Lib.hid ⟨HG.out, Nat.le_succ_of_le HLN.out.1, p11.out, by rw [HS.out]; exact x11.out, N11.out⟩⟩
                case measure => (simp [intOf]; try omega)
            | true =>
              go_wp2_with (first
                | (go_at_call 13; refine (MY.out _).mono ?_; rintro e w6 ⟨rfl, hb6⟩; clear a0 a1 a2 a3; have N6 := seqB N5.out hb6; have x6 := blk_below x5.out hb6; have y6 := blk_below y5.out hb6; have p6 : CtAt P (csOf L) w6 := blk_below p5.out hb6; have N7 := Lib.hid (N6.setCell (p := ⟨Y, 0, none⟩) (Nat.le_trans HB.out.size hYle.out) (.string S)); have x7 := Lib.hid (bfar (p := Y) (i := 0) (v := .string S) x6 hYX.out); have y7 := Lib.hid (one_set y6 (.string S)); have p7 : Hid (CtAt P (csOf L) (w6.setCell ⟨Y, 0, none⟩ (.string S))) := Lib.hid (bfar (p := Y) (i := 0) (v := .string S) p6 hYP.out); have K7 := Lib.hid (HK.out.below N7.out); obtain ⟨d0, d1, d2, d3⟩ := KC.out _ N7.out; have e6 := cell_of_row _ _ 0 _ _ _ x6; have f6 := cell_of_row _ _ 0 _ _ _ y6; have zf6 := fun i => frozen_of_row _ Y i _ _ y6; dsimp at e6 f6; clear N6 x6 y6 p6 hb6)
                | (go_at_call 24; refine (DO.out _ K7.out p7.out).mono ?_; rintro e w8 ⟨rfl, h8, g8⟩; clear d0 d1 d2 d3; (try clear e6 f6 zf6); have N8 := below_gb N7.out g8 hPw.out; have x8 := (g8.block X (blk_lt x7.out) (fun e => hXPn.out (by injection e))).trans x7.out; have y8 := (g8.block Y (blk_lt y7.out) (fun e => hYP.out (by injection e))).trans y7.out; have N9 := Lib.hid (N8.setCell (p := ⟨X, 0, none⟩) hXw.out (.string S)); have x9 := Lib.hid (one_set x8 (.string S)); have p9 : Hid (CtAt P (csOf L) (w8.setCell ⟨X, 0, none⟩ (.string S))) := Lib.hid (bfar (p := X) (i := 0) (v := .string S) h8 hXPn.out); have e8 := cell_of_row _ _ 0 _ _ _ x8; have f8 := cell_of_row _ _ 0 _ _ _ y8; have zf8 := fun i => frozen_of_row _ X i _ _ x8; dsimp at e8 f8; have u9 := cell_of_row _ _ 0 _ _ _ x9.out; dsimp at u9; clear N8 x8 y8 h8 g8)
                | (go_at_call 25; refine (RV.out _).mono ?_; rintro e w10 ⟨rfl, hb10⟩; clear e8 f8 zf8 u9; have N10 := Lib.hid (seqB N9.out hb10); have x10 := Lib.hid (blk_below x9.out hb10); have p10 : Hid (CtAt P (csOf L) w10) := Lib.hid (blk_below p9.out hb10); clear hb10)
                | (go_at_call 26; refine (CV.out _ p10.out).mono ?_; rintro e w11 ⟨rfl, hb11⟩; have N11 := Lib.hid (seqB N10.out hb11); have x11 := Lib.hid (blk_below x10.out hb11); have p11 : Hid (CtAt P (csOf L) w11) := Lib.hid (blk_below p10.out hb11); have t11 := TC.out _ N11.out; clear hb11)
                | (go_at_call 27; refine (TK.out _ p11.out).mono ?_; rintro e w12 ⟨rfl, h12, g12⟩; clear t11; have N12 := below_gb N11.out g12 hPw.out; have x12 := (g12.block X (blk_lt x11.out) (fun e => hXPn.out (by injection e))).trans x11.out; have N13 := Lib.hid (N12.setCell (p := ⟨X, 0, none⟩) hXw.out (.string ⟨#[]⟩)); have x13 := Lib.hid (one_set x12 (.string ⟨#[]⟩)); have p13 : Hid (CtAt P cs0 (w12.setCell ⟨X, 0, none⟩ (.string ⟨#[]⟩))) := Lib.hid (bfar (p := X) (i := 0) (v := .string ⟨#[]⟩) h12 hXPn.out); have e12 := cell_of_row _ _ 0 _ _ _ x12; have zf12 := fun i => frozen_of_row _ X i _ _ x12; dsimp at e12; clear N12 x12 h12 g12))
              all_goals
                go_roundw
                case rel => exact ⟨j + 1, [], by omega, by go_num, Lib.hid ⟨fun b hb => (by cases hb), Nat.zero_le _, p13.out, x13.out, N13.out⟩⟩
                case measure => (simp [intOf]; try omega)
          · have hjm1 : ¬ (j : Int) < m.length := by omega
            go_wp2_with (first
              | (go_at_call 13; refine (MY.out _).mono ?_; rintro e w6 ⟨rfl, hb6⟩; clear a0 a1 a2 a3; have N6 := seqB N5.out hb6; have x6 := blk_below x5.out hb6; have y6 := blk_below y5.out hb6; have p6 : CtAt P (csOf L) w6 := blk_below p5.out hb6; have N7 := Lib.hid (N6.setCell (p := ⟨Y, 0, none⟩) (Nat.le_trans HB.out.size hYle.out) (.string S)); have x7 := Lib.hid (bfar (p := Y) (i := 0) (v := .string S) x6 hYX.out); have y7 := Lib.hid (one_set y6 (.string S)); have p7 : Hid (CtAt P (csOf L) (w6.setCell ⟨Y, 0, none⟩ (.string S))) := Lib.hid (bfar (p := Y) (i := 0) (v := .string S) p6 hYP.out); have K7 := Lib.hid (HK.out.below N7.out); obtain ⟨d0, d1, d2, d3⟩ := KC.out _ N7.out; have e6 := cell_of_row _ _ 0 _ _ _ x6; have f6 := cell_of_row _ _ 0 _ _ _ y6; have zf6 := fun i => frozen_of_row _ Y i _ _ y6; dsimp at e6 f6; clear N6 x6 y6 p6 hb6)
              | (go_at_call 24; refine (DO.out _ K7.out p7.out).mono ?_; rintro e w8 ⟨rfl, h8, g8⟩; clear d0 d1 d2 d3; (try clear e6 f6 zf6); have N8 := below_gb N7.out g8 hPw.out; have x8 := (g8.block X (blk_lt x7.out) (fun e => hXPn.out (by injection e))).trans x7.out; have y8 := (g8.block Y (blk_lt y7.out) (fun e => hYP.out (by injection e))).trans y7.out; have N9 := Lib.hid (N8.setCell (p := ⟨X, 0, none⟩) hXw.out (.string S)); have x9 := Lib.hid (one_set x8 (.string S)); have p9 : Hid (CtAt P (csOf L) (w8.setCell ⟨X, 0, none⟩ (.string S))) := Lib.hid (bfar (p := X) (i := 0) (v := .string S) h8 hXPn.out); have e8 := cell_of_row _ _ 0 _ _ _ x8; have f8 := cell_of_row _ _ 0 _ _ _ y8; have zf8 := fun i => frozen_of_row _ X i _ _ x8; dsimp at e8 f8; have u9 := cell_of_row _ _ 0 _ _ _ x9.out; dsimp at u9; clear N8 x8 y8 h8 g8)
              | (go_at_call 25; refine (RV.out _).mono ?_; rintro e w10 ⟨rfl, hb10⟩; clear e8 f8 zf8 u9; have N10 := Lib.hid (seqB N9.out hb10); have x10 := Lib.hid (blk_below x9.out hb10); have p10 : Hid (CtAt P (csOf L) w10) := Lib.hid (blk_below p9.out hb10); clear hb10)
              | (go_at_call 26; refine (CV.out _ p10.out).mono ?_; rintro e w11 ⟨rfl, hb11⟩; have N11 := Lib.hid (seqB N10.out hb11); have x11 := Lib.hid (blk_below x10.out hb11); have p11 : Hid (CtAt P (csOf L) w11) := Lib.hid (blk_below p10.out hb11); clear hb11))
            all_goals
              go_roundw
              case rel => exact ⟨j + 1, L, by omega, by go_num, Lib.hid ⟨HG.out, Nat.le_succ_of_le HLN.out.1, p11.out, by rw [HS.out]; exact x11.out, N11.out⟩⟩
              case measure => (simp [intOf]; try omega)
        | true =>
          have DO := Lib.hid fun w hK hp => DO.out w _ _ (HBT.out hkb) hK hp
          rw [hkb] at MY
          replace MY := Lib.hid MY
          have hv := cs_val HG2.out
          obtain ⟨V, hV⟩ : ∃ V, csVal (csOf L2) = V := ⟨_, rfl⟩
          obtain ⟨g, hg⟩ : ∃ g, csBg (csOf L2) = g := ⟨_, rfl⟩
          rw [hV] at hv
          obtain ⟨hv1, hv2⟩ := hv
          have RV : Hid (∀ w, Calls Tryd.prog 25 #[.agg #[.string S2]] w fun e w' => e = .returned (.tuple #[.int .i64 V, .bool g]) ∧ Below w.heap.size w w') := Lib.hid fun w => by rw [← HS2.out]; exact rval_t L2 V g w HG2.out (by have := HLN.out; omega) hV hg
          have CV := Lib.hid fun w hp => ctvalue_t P (csOf L2) V g w hp HN2.out.1 HN2.out.2 hV hg
          have TK := Lib.hid fun w hp => cttake_t P (csOf L2) V g w hp HN2.out.1 HN2.out.2 hV hg
          clear hkb hV hg
          by_cases hjm : j < m.length
          · have hjm1 : (j : Int) < m.length := by omega
            obtain ⟨tb, toff, rfl, _, _⟩ := HM.out j hjm
            obtain ⟨tv, htv⟩ : ∃ tv, m.getD j false = tv := ⟨_, rfl⟩
            have TC : Hid (∀ w', Below w.heap.size w w' → w'.cell? ⟨tb, toff + j, none⟩ = some (.bool tv)) := Lib.hid fun w' hb' => by
              obtain ⟨b', off', he, _, d0⟩ := (HM.out.below hb') j hjm
              obtain ⟨rfl, rfl⟩ : b' = tb ∧ off' = toff := by simpa using he.symm
              rw [← htv]; exact d0
            clear htv
            cases tv with
            | false =>
              go_wp2_with (first
                | (go_at_call 13; refine (MY.out _).mono ?_; rintro e w6 ⟨rfl, hb6⟩; clear a0 a1 a2 a3; have N6 := seqB N5.out hb6; have x6 := blk_below x5.out hb6; have y6 := blk_below y5.out hb6; have p6 : CtAt P (csOf L) w6 := blk_below p5.out hb6; have N7 := Lib.hid N6; have x7 := Lib.hid x6; have y7 := Lib.hid y6; have p7 := Lib.hid p6; have K7 := Lib.hid (HK.out.below N6); obtain ⟨d0, d1, d2, d3⟩ := KC.out _ N7.out; clear N6 x6 y6 p6 hb6)
                | (go_at_call 24; refine (DO.out _ K7.out p7.out).mono ?_; rintro e w8 ⟨rfl, h8, g8⟩; clear d0 d1 d2 d3; (try clear e6 f6 zf6); have N8 := below_gb N7.out g8 hPw.out; have x8 := (g8.block X (blk_lt x7.out) (fun e => hXPn.out (by injection e))).trans x7.out; have y8 := (g8.block Y (blk_lt y7.out) (fun e => hYP.out (by injection e))).trans y7.out; have N9 := Lib.hid (N8.setCell (p := ⟨X, 0, none⟩) hXw.out (.string S2)); have x9 := Lib.hid (one_set x8 (.string S2)); have p9 : Hid (CtAt P (csOf L2) (w8.setCell ⟨X, 0, none⟩ (.string S2))) := Lib.hid (bfar (p := X) (i := 0) (v := .string S2) h8 hXPn.out); have e8 := cell_of_row _ _ 0 _ _ _ x8; have f8 := cell_of_row _ _ 0 _ _ _ y8; have zf8 := fun i => frozen_of_row _ X i _ _ x8; dsimp at e8 f8; have u9 := cell_of_row _ _ 0 _ _ _ x9.out; dsimp at u9; clear N8 x8 y8 h8 g8)
                | (go_at_call 25; refine (RV.out _).mono ?_; rintro e w10 ⟨rfl, hb10⟩; clear e8 f8 zf8 u9; have N10 := Lib.hid (seqB N9.out hb10); have x10 := Lib.hid (blk_below x9.out hb10); have p10 : Hid (CtAt P (csOf L2) w10) := Lib.hid (blk_below p9.out hb10); clear hb10)
                | (go_at_call 26; refine (CV.out _ p10.out).mono ?_; rintro e w11 ⟨rfl, hb11⟩; have N11 := Lib.hid (seqB N10.out hb11); have x11 := Lib.hid (blk_below x10.out hb11); have p11 : Hid (CtAt P (csOf L2) w11) := Lib.hid (blk_below p10.out hb11); have t11 := TC.out _ N11.out; clear hb11))
              all_goals
                go_roundw
                case rel => exact ⟨j + 1, L2, by omega, by go_num, Lib.hid ⟨HG2.out, HLN.out.2, p11.out, by rw [HS2.out]; exact x11.out, N11.out⟩⟩
                case measure => (simp [intOf]; try omega)
            | true =>
              go_wp2_with (first
                | (go_at_call 13; refine (MY.out _).mono ?_; rintro e w6 ⟨rfl, hb6⟩; clear a0 a1 a2 a3; have N6 := seqB N5.out hb6; have x6 := blk_below x5.out hb6; have y6 := blk_below y5.out hb6; have p6 : CtAt P (csOf L) w6 := blk_below p5.out hb6; have N7 := Lib.hid N6; have x7 := Lib.hid x6; have y7 := Lib.hid y6; have p7 := Lib.hid p6; have K7 := Lib.hid (HK.out.below N6); obtain ⟨d0, d1, d2, d3⟩ := KC.out _ N7.out; clear N6 x6 y6 p6 hb6)
                | (go_at_call 24; refine (DO.out _ K7.out p7.out).mono ?_; rintro e w8 ⟨rfl, h8, g8⟩; clear d0 d1 d2 d3; (try clear e6 f6 zf6); have N8 := below_gb N7.out g8 hPw.out; have x8 := (g8.block X (blk_lt x7.out) (fun e => hXPn.out (by injection e))).trans x7.out; have y8 := (g8.block Y (blk_lt y7.out) (fun e => hYP.out (by injection e))).trans y7.out; have N9 := Lib.hid (N8.setCell (p := ⟨X, 0, none⟩) hXw.out (.string S2)); have x9 := Lib.hid (one_set x8 (.string S2)); have p9 : Hid (CtAt P (csOf L2) (w8.setCell ⟨X, 0, none⟩ (.string S2))) := Lib.hid (bfar (p := X) (i := 0) (v := .string S2) h8 hXPn.out); have e8 := cell_of_row _ _ 0 _ _ _ x8; have f8 := cell_of_row _ _ 0 _ _ _ y8; have zf8 := fun i => frozen_of_row _ X i _ _ x8; dsimp at e8 f8; have u9 := cell_of_row _ _ 0 _ _ _ x9.out; dsimp at u9; clear N8 x8 y8 h8 g8)
                | (go_at_call 25; refine (RV.out _).mono ?_; rintro e w10 ⟨rfl, hb10⟩; clear e8 f8 zf8 u9; have N10 := Lib.hid (seqB N9.out hb10); have x10 := Lib.hid (blk_below x9.out hb10); have p10 : Hid (CtAt P (csOf L2) w10) := Lib.hid (blk_below p9.out hb10); clear hb10)
                | (go_at_call 26; refine (CV.out _ p10.out).mono ?_; rintro e w11 ⟨rfl, hb11⟩; have N11 := Lib.hid (seqB N10.out hb11); have x11 := Lib.hid (blk_below x10.out hb11); have p11 : Hid (CtAt P (csOf L2) w11) := Lib.hid (blk_below p10.out hb11); have t11 := TC.out _ N11.out; clear hb11)
                | (go_at_call 27; refine (TK.out _ p11.out).mono ?_; rintro e w12 ⟨rfl, h12, g12⟩; clear t11; have N12 := below_gb N11.out g12 hPw.out; have x12 := (g12.block X (blk_lt x11.out) (fun e => hXPn.out (by injection e))).trans x11.out; have N13 := Lib.hid (N12.setCell (p := ⟨X, 0, none⟩) hXw.out (.string ⟨#[]⟩)); have x13 := Lib.hid (one_set x12 (.string ⟨#[]⟩)); have p13 : Hid (CtAt P cs0 (w12.setCell ⟨X, 0, none⟩ (.string ⟨#[]⟩))) := Lib.hid (bfar (p := X) (i := 0) (v := .string ⟨#[]⟩) h12 hXPn.out); have e12 := cell_of_row _ _ 0 _ _ _ x12; have zf12 := fun i => frozen_of_row _ X i _ _ x12; dsimp at e12; clear N12 x12 h12 g12))
              all_goals
                go_roundw
                case rel => exact ⟨j + 1, [], by omega, by go_num, Lib.hid ⟨fun b hb => (by cases hb), Nat.zero_le _, p13.out, x13.out, N13.out⟩⟩
                case measure => (simp [intOf]; try omega)
          · have hjm1 : ¬ (j : Int) < m.length := by omega
            go_wp2_with (first
              | (go_at_call 13; refine (MY.out _).mono ?_; rintro e w6 ⟨rfl, hb6⟩; clear a0 a1 a2 a3; have N6 := seqB N5.out hb6; have x6 := blk_below x5.out hb6; have y6 := blk_below y5.out hb6; have p6 : CtAt P (csOf L) w6 := blk_below p5.out hb6; have N7 := Lib.hid N6; have x7 := Lib.hid x6; have y7 := Lib.hid y6; have p7 := Lib.hid p6; have K7 := Lib.hid (HK.out.below N6); obtain ⟨d0, d1, d2, d3⟩ := KC.out _ N7.out; clear N6 x6 y6 p6 hb6)
              | (go_at_call 24; refine (DO.out _ K7.out p7.out).mono ?_; rintro e w8 ⟨rfl, h8, g8⟩; clear d0 d1 d2 d3; (try clear e6 f6 zf6); have N8 := below_gb N7.out g8 hPw.out; have x8 := (g8.block X (blk_lt x7.out) (fun e => hXPn.out (by injection e))).trans x7.out; have y8 := (g8.block Y (blk_lt y7.out) (fun e => hYP.out (by injection e))).trans y7.out; have N9 := Lib.hid (N8.setCell (p := ⟨X, 0, none⟩) hXw.out (.string S2)); have x9 := Lib.hid (one_set x8 (.string S2)); have p9 : Hid (CtAt P (csOf L2) (w8.setCell ⟨X, 0, none⟩ (.string S2))) := Lib.hid (bfar (p := X) (i := 0) (v := .string S2) h8 hXPn.out); have e8 := cell_of_row _ _ 0 _ _ _ x8; have f8 := cell_of_row _ _ 0 _ _ _ y8; have zf8 := fun i => frozen_of_row _ X i _ _ x8; dsimp at e8 f8; have u9 := cell_of_row _ _ 0 _ _ _ x9.out; dsimp at u9; clear N8 x8 y8 h8 g8)
              | (go_at_call 25; refine (RV.out _).mono ?_; rintro e w10 ⟨rfl, hb10⟩; clear e8 f8 zf8 u9; have N10 := Lib.hid (seqB N9.out hb10); have x10 := Lib.hid (blk_below x9.out hb10); have p10 : Hid (CtAt P (csOf L2) w10) := Lib.hid (blk_below p9.out hb10); clear hb10)
              | (go_at_call 26; refine (CV.out _ p10.out).mono ?_; rintro e w11 ⟨rfl, hb11⟩; have N11 := Lib.hid (seqB N10.out hb11); have x11 := Lib.hid (blk_below x10.out hb11); have p11 : Hid (CtAt P (csOf L2) w11) := Lib.hid (blk_below p10.out hb11); clear hb11))
            all_goals
              go_roundw
              case rel => exact ⟨j + 1, L2, by omega, by go_num, Lib.hid ⟨HG2.out, HLN.out.2, p11.out, by rw [HS2.out]; exact x11.out, N11.out⟩⟩
              case measure => (simp [intOf]; try omega)
    · obtain rfl : j = l.length := by omega
      have hb := Lib.hid HI.out.b
      go_wp2_with fail
      go_ret
      exact ⟨rfl, hb.out⟩
end Go.Proofs.YteolfbamcehcpaaDoor
