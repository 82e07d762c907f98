/-
  Joined: ArgScr Tp57 Tp58.
-/
import Derived.Test.YtnpiooaiceegmaaDoorJW08
import Derived.Test.YtnpiooaiceegmaaDoorJW19
import Derived.Test.YtnpiooaiceegmaaDoorJW22
import Derived.Test.YtnpiooaiceegmaaDoorJW23
set_option linter.unusedVariables false
set_option linter.unusedSimpArgs false
set_option maxRecDepth 100000
set_option linter.unusedVariables false
set_option linter.unusedSimpArgs false
namespace Go.Proofs.YtnpiooaiceegmaaDoor
open Go.ChangeShapes Go.WideShapes Go.ChangeAt Go.RowKit Go.Deep Go.Joins
theorem scr_add (b off k : Nat) : (⟨b, off, none⟩ : Addr).add k = ⟨b, off + k, none⟩ := by unfold Addr.add; split <;> simp_all
theorem scr_spot {w : World} {b off : Nat} {sp : Option Nat} {v : Value} (h : w.cell? ⟨b, off, sp⟩ = some v) (hv : ∀ x, v ≠ .map x) : sp = none := by
  cases sp with
  | none => rfl
  | some k =>
    exfalso
    unfold World.cell? at h
    split at h <;> simp_all
theorem u8_wf {x : Int} (h : (Lit.int .u8 x).wf = true) : 0 ≤ x ∧ x ≤ 255 := by
  simp [Lit.wf, IntKind.min, IntKind.max, IntKind.signed, IntKind.bits] at h
  omega
theorem i64_wf {x : Int} (h : (Lit.int .i64 x).wf = true) : in64 x := by
  simp [Lit.wf, IntKind.min, IntKind.max, IntKind.signed, IntKind.bits] at h
  unfold in64
  omega
/-- Bytes that lie somewhere. -/
def KvU (w : World) (a : Option Addr) (l : List UInt8) : Prop := (a = none ∧ l = []) ∨ ∃ b off, a = some ⟨b, off, none⟩ ∧ ∀ j (hj : j < l.length), b < w.heap.size ∧ w.cell? ⟨b, off + j, none⟩ = some (.int .u8 (l[j].toNat : Int))
theorem KvU.cvt {w : World} {a : Option Addr} {l : List UInt8} (h : KvU w a l) (c : Nat) : Cvt w a l.length c l := fun w' hb dst hd => by
  rcases h with ⟨rfl, rfl⟩ | ⟨b, off, rfl, h2⟩
  · exact Lib.run_convert_nil_bytes w' _ _ _ c Tryd.underlying95 Tryd.underlying5 hd
  · exact run_convert_bytes_back (P := Tryd.prog) w' 95 dst 5 ⟨b, off, none⟩ c l Tryd.underlying95 Tryd.underlying5 hd (fun j hj => by
      rw [scr_add]
      exact (hb.cell (p := ⟨b, off + j, none⟩) (h2 j hj).1).trans (h2 j hj).2)
section
variable {H : Type} {enc : TypeId × Value → H} {W : World}
set_option maxRecDepth 100000 in
theorem scr_c1 : Tryd.prog.cellsOf 5 = 1 := by kernel_rfl
set_option maxRecDepth 100000 in
theorem scr_c2 : Tryd.prog.cellsOf 9 = 1 := by kernel_rfl
set_option maxRecDepth 100000 in
theorem scr_c3 : Tryd.prog.cellsOf 3 = 1 := by kernel_rfl
set_option maxRecDepth 100000 in
theorem scr_c4 : Tryd.prog.cellsOf 4 = 1 := by kernel_rfl
set_option maxRecDepth 100000 in
theorem scr_c5 : Tryd.prog.cellsOf 95 = 1 := by kernel_rfl
set_option maxRecDepth 100000 in
theorem scr_c6 : Tryd.prog.cellsOf 36 = 1 := by kernel_rfl
set_option maxRecDepth 100000 in
theorem scr_c7 : Tryd.prog.cellsOf 97 = 2 := by kernel_rfl
set_option maxRecDepth 100000 in
theorem scr_c8 : Tryd.prog.cellsOf 38 = 5 := by kernel_rfl
set_option maxRecDepth 100000 in
theorem scr_c9 : Tryd.prog.cellsOf 23 = 10 := by kernel_rfl
set_option maxRecDepth 100000 in
theorem scr_c10 : Tryd.prog.cellsOf 27 = 12 := by kernel_rfl
set_option maxRecDepth 100000 in
theorem scr_c11 : Tryd.prog.cellsOf 24 = 1 := by kernel_rfl
set_option maxRecDepth 100000 in
theorem scr_c12 : Tryd.prog.cellsOf 25 = 1 := by kernel_rfl
theorem trod_u8l {v0 : Value} {fuel : Nat} {x : DataW H × List MemPlace} (hf : DataW.trod enc Tryd.prog W 0 (fun _ => true) true fuel 95 [v0] = some x) :
    ∃ (l : List UInt8) (a : Option Addr) (c : Nat), v0 = .slice a l.length c ∧ Cvt W a l.length c l ∧ l.length ≤ 9223372036854775807 := by
  rcases open_slice Tryd.underlying95 hf with ⟨hcs, _⟩ | ⟨a, len, cap, m, n, D, Pl, hcs, _, hl, hm, hmm, _, hx⟩
  · obtain rfl : v0 = .slice none 0 0 := by simpa using hcs
    exact ⟨[], none, 0, rfl, KvU.cvt (.inl ⟨rfl, rfl⟩) 0, by simp⟩
  · obtain rfl : v0 = .slice (some a) len cap := by simpa using hcs
    have hlm : len ≤ m := by rw [hmm]; split <;> omega
    have key : ∀ i, i < len → ∃ q : UInt8, W.cell? (a.add i) = some (.int .u8 (q.toNat : Int)) := by
      intro i hi
      obtain ⟨cs', h1, h2⟩ := hx i (by omega)
      rw [scr_c1] at h1
      obtain ⟨_, hlen, hcell⟩ := World.cells?_some h1
      obtain ⟨x0, hx0, _, wn⟩ := DataW.trod_int Tryd.underlying5 h2
      have e0 := hcell 0 (by omega)
      rw [add_add] at e0
      have hb := u8_wf wn
      refine ⟨UInt8.ofNat x0.toNat, ?_⟩
      have e : ((UInt8.ofNat x0.toNat).toNat : Int) = x0 := by
        rw [UInt8.toNat_ofNat']
        omega
      rw [e]
      simpa [hx0] using e0
    obtain ⟨F, hF⟩ : ∃ F : Nat → UInt8, ∀ i, i < len → W.cell? (a.add i) = some (.int .u8 ((F i).toNat : Int)) :=
      ⟨fun i => if h : i < len then (key i h).choose else 0, fun i hi => by simp only [dif_pos hi]; exact (key i hi).choose_spec⟩
    clear key
    obtain ⟨l, hlD⟩ : ∃ l, (List.range len).map F = l := ⟨_, rfl⟩
    have hll : l.length = len := by rw [← hlD]; simp
    subst hll
    refine ⟨l, some a, cap, rfl, ?_, by unfold maxLen at hm; omega⟩
    by_cases h0 : l = []
    · subst h0
      intro w' hb dst hd
      exact run_convert_bytes_back (P := Tryd.prog) w' 95 dst 5 a cap [] Tryd.underlying95 Tryd.underlying5 hd (fun j hj => absurd hj (Nat.not_lt_zero j))
    · have hp := List.length_pos_iff.2 h0
      obtain ⟨b, off, sp⟩ := a
      have hsp : sp = none := by
        have h1 : W.cell? ⟨b, off, sp⟩ = some (.int .u8 ((F 0).toNat : Int)) := by simpa [Addr.add] using hF 0 hp
        exact scr_spot h1 (by intro x h; cases h)
      subst hsp
      refine KvU.cvt (.inr ⟨b, off, rfl, fun j hj => ?_⟩) cap
      have := hF j hj
      rw [scr_add] at this
      have e : l[j] = F j := by
        have h2 : l[j]? = some (F j) := by rw [← hlD, List.getElem?_map, List.getElem?_range hj]; rfl
        rw [List.getElem?_eq_getElem hj] at h2
        exact Option.some.inj h2
      rw [e]
      exact ⟨block_lt_of_cell this, this⟩
theorem trod_strl {v0 : Value} {fuel : Nat} {x : DataW H × List MemPlace} (hf : DataW.trod enc Tryd.prog W 0 (fun _ => true) true fuel 36 [v0] = some x) :
    ∃ (l : List (List UInt8)) (a : Option Addr) (c : Nat), v0 = .slice a l.length c ∧ StI W a (l.map mkL) ∧ l.length ≤ 9223372036854775807 ∧ ∀ y, y ∈ l → y.length ≤ 9223372036854775807 := by
  rcases open_slice Tryd.underlying36 hf with ⟨hcs, _⟩ | ⟨a, len, cap, m, n, D, Pl, hcs, _, hl, hm, hmm, _, hx⟩
  · obtain rfl : v0 = .slice none 0 0 := by simpa using hcs
    exact ⟨[], none, 0, rfl, sti_nil W none, by simp, fun y hy => (by cases hy)⟩
  · obtain rfl : v0 = .slice (some a) len cap := by simpa using hcs
    have hlm : len ≤ m := by rw [hmm]; split <;> omega
    have key : ∀ i, i < len → ∃ q : List UInt8, W.cell? (a.add i) = some (.string (mkL q)) ∧ q.length ≤ 9223372036854775807 := by
      intro i hi
      obtain ⟨cs', h1, h2⟩ := hx i (by omega)
      rw [scr_c2] at h1
      obtain ⟨_, hlen, hcell⟩ := World.cells?_some h1
      obtain ⟨x0, hx0, _, hx1⟩ := DataW.trod_string Tryd.underlying9 h2
      have e0 := hcell 0 (by omega)
      rw [add_add] at e0
      refine ⟨x0.data.toList, ?_, ?_⟩
      · rw [mk_of]; simpa [hx0] using e0
      · unfold maxLen at hx1
        have : x0.data.toList.length = x0.size := by rw [Array.length_toList]; rfl
        omega
    obtain ⟨F, hF⟩ : ∃ F : Nat → List UInt8, ∀ i, i < len → W.cell? (a.add i) = some (.string (mkL (F i))) ∧ (F i).length ≤ 9223372036854775807 :=
      ⟨fun i => if h : i < len then (key i h).choose else [], fun i hi => by simp only [dif_pos hi]; exact (key i hi).choose_spec⟩
    clear key
    refine ⟨(List.range len).map F, some a, cap, by simp, ?_, by simp; unfold maxLen at hm; omega, ?_⟩
    · intro j hj
      have hj2 : j < len := by simpa using hj
      have c0 := (hF j hj2).1
      obtain ⟨b, off, sp⟩ := a
      have hsp : sp = none := by
        have c00 := (hF 0 (by omega)).1
        have h1 : W.cell? ⟨b, off, sp⟩ = some (.string (mkL (F 0))) := by simpa [Addr.add] using c00
        exact scr_spot h1 (by intro x h; cases h)
      subst hsp
      rw [scr_add] at c0
      have hg : (((List.range len).map F).map mkL).getD j ⟨#[]⟩ = mkL (F j) := by
        rw [List.getD, List.getElem?_map, List.getElem?_map, List.getElem?_range hj2]; rfl
      rw [hg]
      exact ⟨b, off, rfl, block_lt_of_cell c0, c0⟩
    · intro y hy
      obtain ⟨i, hi, rfl⟩ := List.mem_map.1 hy
      exact (hF i (List.mem_range.1 hi)).2
/-- What a machine holds. -/
def scM (C : List Crs) (S : List Stp) : Prop := C.length ≤ 9223372036854775807 ∧ S.length ≤ 9223372036854775807 ∧ (∀ c ∈ C, in64 c.1 ∧ c.2.length ≤ 9223372036854775807) ∧ ∀ x ∈ S, tsOk x ∧ x.2.1.length ≤ 9223372036854775807 ∧ x.2.2.2.2.length ≤ 9223372036854775807 ∧ ∀ y, y ∈ x.2.2.2.2 → y.length ≤ 9223372036854775807
theorem trod_crashes {v0 : Value} {fuel : Nat} {x : DataW H × List MemPlace} (hf : DataW.trod enc Tryd.prog W 0 (fun _ => true) true fuel 24 [v0] = some x) :
    ∃ (l : List Crs) (a : Option Addr) (c : Nat), v0 = .slice a l.length c ∧ CrI W a l ∧ l.length ≤ 9223372036854775807 ∧ ∀ c ∈ l, in64 c.1 ∧ c.2.length ≤ 9223372036854775807 := by
  rcases open_slice Tryd.underlying24 hf with ⟨hcs, _⟩ | ⟨a, len, cap, m, n, D, Pl, hcs, _, hl, hm, hmm, _, hx⟩
  · obtain rfl : v0 = .slice none 0 0 := by simpa using hcs
    exact ⟨[], none, 0, rfl, fun j hj => absurd hj (Nat.not_lt_zero j), by simp, fun y hy => (by cases hy)⟩
  · obtain rfl : v0 = .slice (some a) len cap := by simpa using hcs
    have hlm : len ≤ m := by rw [hmm]; split <;> omega
    have key : ∀ i, i < len → ∃ q : Crs × Option Addr × Nat, W.cell? (a.add (i * 2)) = some (.int .i64 q.1.1) ∧ W.cell? (a.add (i * 2 + 1)) = some (.slice q.2.1 q.1.2.length q.2.2) ∧ Cvt W q.2.1 q.1.2.length q.2.2 q.1.2 ∧ in64 q.1.1 ∧ q.1.2.length ≤ 9223372036854775807 := by
      intro i hi
      obtain ⟨cs', h1, h2⟩ := hx i (by omega)
      rw [scr_c7] at h1
      obtain ⟨_, hlen, hcell⟩ := World.cells?_some h1
      obtain ⟨xs, k, hk, hxy, _, hxl, hf⟩ := DataW.trod_struct Tryd.underlying97 h2
      match xs, hxl, cs', hlen with
      | [y0, y1], _, [u0, u1], _ =>
        have g0 := hf 0 _ rfl
        have g1 := hf 1 _ rfl
        simp [scr_c3, scr_c5] at g0 g1
        have e0 := hcell 0 (by omega)
        have e1 := hcell 1 (by omega)
        rw [add_add] at e0 e1
        obtain ⟨x0, hx0, _, w0⟩ := DataW.trod_int Tryd.underlying3 g0
        obtain ⟨l, a1, c1, hy, hin, hll⟩ := trod_u8l g1
        obtain rfl : u0 = .int .i64 x0 := by simpa using hx0
        subst hy
        exact ⟨((x0, l), a1, c1), by simpa using e0, by simpa using e1, hin, i64_wf w0, hll⟩
    obtain ⟨F, hF⟩ : ∃ F : Nat → Crs × Option Addr × Nat, ∀ i, i < len → W.cell? (a.add (i * 2)) = some (.int .i64 (F i).1.1) ∧ W.cell? (a.add (i * 2 + 1)) = some (.slice (F i).2.1 (F i).1.2.length (F i).2.2) ∧ Cvt W (F i).2.1 (F i).1.2.length (F i).2.2 (F i).1.2 ∧ in64 (F i).1.1 ∧ (F i).1.2.length ≤ 9223372036854775807 :=
      ⟨fun i => if h : i < len then (key i h).choose else ((0, []), none, 0), fun i hi => by simp only [dif_pos hi]; exact (key i hi).choose_spec⟩
    clear key
    refine ⟨(List.range len).map fun i => (F i).1, some a, cap, by simp, ?_, by simp; unfold maxLen at hm; omega, ?_⟩
    · intro j hj
      have hj2 : j < len := by simpa using hj
      obtain ⟨c0, c1, hin, _⟩ := hF j hj2
      obtain ⟨b, off, sp⟩ := a
      have hsp : sp = none := by
        obtain ⟨c00, _⟩ := hF 0 (by omega)
        have h1 : W.cell? ⟨b, off, sp⟩ = some (.int .i64 (F 0).1.1) := by simpa [Addr.add] using c00
        exact scr_spot h1 (by intro x h; cases h)
      subst hsp
      rw [scr_add] at c0 c1
      have hg : ((List.range len).map fun i => ((F i).1 : Crs)).getD j (0, []) = (F j).1 := by
        rw [List.getD, List.getElem?_map, List.getElem?_range hj2]; rfl
      rw [hg]
      exact ⟨b, off, (F j).2.1, (F j).2.2, rfl, block_lt_of_cell c0, c0, c1, hin⟩
    · intro y hy
      obtain ⟨i, hi, rfl⟩ := List.mem_map.1 hy
      exact (hF i (List.mem_range.1 hi)).2.2.2
theorem trod_steps {v0 : Value} {fuel : Nat} {x : DataW H × List MemPlace} (hf : DataW.trod enc Tryd.prog W 0 (fun _ => true) true fuel 25 [v0] = some x) :
    ∃ (l : List Stp) (a : Option Addr) (c : Nat), v0 = .slice a l.length c ∧ SpI W a l ∧ l.length ≤ 9223372036854775807 ∧ ∀ x ∈ l, tsOk x ∧ x.2.1.length ≤ 9223372036854775807 ∧ x.2.2.2.2.length ≤ 9223372036854775807 ∧ ∀ y, y ∈ x.2.2.2.2 → y.length ≤ 9223372036854775807 := by
  rcases open_slice Tryd.underlying25 hf with ⟨hcs, _⟩ | ⟨a, len, cap, m, n, D, Pl, hcs, _, hl, hm, hmm, _, hx⟩
  · obtain rfl : v0 = .slice none 0 0 := by simpa using hcs
    exact ⟨[], none, 0, rfl, fun j hj => absurd hj (Nat.not_lt_zero j), by simp, fun y hy => (by cases hy)⟩
  · obtain rfl : v0 = .slice (some a) len cap := by simpa using hcs
    have hlm : len ≤ m := by rw [hmm]; split <;> omega
    have key : ∀ i, i < len → ∃ q : Stp × Option Addr × Nat, W.cell? (a.add (i * 5)) = some (.int .i64 q.1.1) ∧ W.cell? (a.add (i * 5 + 1)) = some (.string (mkL q.1.2.1)) ∧ W.cell? (a.add (i * 5 + 2)) = some (.int .i64 q.1.2.2.1) ∧ W.cell? (a.add (i * 5 + 3)) = some (.int .i64 q.1.2.2.2.1) ∧ W.cell? (a.add (i * 5 + 4)) = some (.slice q.2.1 q.1.2.2.2.2.length q.2.2) ∧ StI W q.2.1 (q.1.2.2.2.2.map mkL) ∧ tsOk q.1 ∧ q.1.2.1.length ≤ 9223372036854775807 ∧ q.1.2.2.2.2.length ≤ 9223372036854775807 ∧ ∀ y, y ∈ q.1.2.2.2.2 → y.length ≤ 9223372036854775807 := by
      intro i hi
      obtain ⟨cs', h1, h2⟩ := hx i (by omega)
      rw [scr_c8] at h1
      obtain ⟨_, hlen, hcell⟩ := World.cells?_some h1
      obtain ⟨xs, k, hk, hxy, _, hxl, hf⟩ := DataW.trod_struct Tryd.underlying38 h2
      match xs, hxl, cs', hlen with
      | [y0, y1, y2, y3, y4], _, [u0, u1, u2, u3, u4], _ =>
        have g0 := hf 0 _ rfl
        have g1 := hf 1 _ rfl
        have g2 := hf 2 _ rfl
        have g3 := hf 3 _ rfl
        have g4 := hf 4 _ rfl
        simp [scr_c3, scr_c2, scr_c6] at g0 g1 g2 g3 g4
        have e0 := hcell 0 (by omega)
        have e1 := hcell 1 (by omega)
        have e2 := hcell 2 (by omega)
        have e3 := hcell 3 (by omega)
        have e4 := hcell 4 (by omega)
        rw [add_add] at e0 e1 e2 e3 e4
        obtain ⟨x0, hx0, _, w0⟩ := DataW.trod_int Tryd.underlying3 g0
        obtain ⟨t, ht, _, wt⟩ := DataW.trod_string Tryd.underlying9 g1
        obtain ⟨x2, hx2, _, w2⟩ := DataW.trod_int Tryd.underlying3 g2
        obtain ⟨x3, hx3, _, w3⟩ := DataW.trod_int Tryd.underlying3 g3
        obtain ⟨l, a1, c1, hy, hin, hll, hle⟩ := trod_strl g4
        obtain rfl : u0 = .int .i64 x0 := by simpa using hx0
        obtain rfl : u1 = .string t := by simpa using ht
        obtain rfl : u2 = .int .i64 x2 := by simpa using hx2
        obtain rfl : u3 = .int .i64 x3 := by simpa using hx3
        subst hy
        obtain ⟨t, rfl⟩ : ∃ q, mkL q = t := ⟨t.data.toList, mk_of t⟩
        refine ⟨((x0, t, x2, x3, l), a1, c1), by simpa using e0, by simpa using e1, by simpa using e2, by simpa using e3, by simpa using e4, hin, ⟨i64_wf w0, i64_wf w2, i64_wf w3⟩, ?_, hll, hle⟩
        unfold maxLen at wt
        rw [mkL_size] at wt
        dsimp only
        omega
    obtain ⟨F, hF⟩ : ∃ F : Nat → Stp × Option Addr × Nat, ∀ i, i < len → W.cell? (a.add (i * 5)) = some (.int .i64 (F i).1.1) ∧ W.cell? (a.add (i * 5 + 1)) = some (.string (mkL (F i).1.2.1)) ∧ W.cell? (a.add (i * 5 + 2)) = some (.int .i64 (F i).1.2.2.1) ∧ W.cell? (a.add (i * 5 + 3)) = some (.int .i64 (F i).1.2.2.2.1) ∧ W.cell? (a.add (i * 5 + 4)) = some (.slice (F i).2.1 (F i).1.2.2.2.2.length (F i).2.2) ∧ StI W (F i).2.1 ((F i).1.2.2.2.2.map mkL) ∧ tsOk (F i).1 ∧ (F i).1.2.1.length ≤ 9223372036854775807 ∧ (F i).1.2.2.2.2.length ≤ 9223372036854775807 ∧ ∀ y, y ∈ (F i).1.2.2.2.2 → y.length ≤ 9223372036854775807 :=
      ⟨fun i => if h : i < len then (key i h).choose else (st0, none, 0), fun i hi => by simp only [dif_pos hi]; exact (key i hi).choose_spec⟩
    clear key
    refine ⟨(List.range len).map fun i => (F i).1, some a, cap, by simp, ?_, by simp; unfold maxLen at hm; omega, ?_⟩
    · intro j hj
      have hj2 : j < len := by simpa using hj
      obtain ⟨c0, c1, c2, c3, c4, hin, _⟩ := hF j hj2
      obtain ⟨b, off, sp⟩ := a
      have hsp : sp = none := by
        obtain ⟨c00, _⟩ := hF 0 (by omega)
        have h1 : W.cell? ⟨b, off, sp⟩ = some (.int .i64 (F 0).1.1) := by simpa [Addr.add] using c00
        exact scr_spot h1 (by intro x h; cases h)
      subst hsp
      rw [scr_add] at c0 c1 c2 c3 c4
      have hg : ((List.range len).map fun i => ((F i).1 : Stp)).getD j st0 = (F j).1 := by
        rw [List.getD, List.getElem?_map, List.getElem?_range hj2]; rfl
      rw [hg]
      exact ⟨b, off, (F j).2.1, (F j).2.2, rfl, block_lt_of_cell c0, c0, c1, c2, c3, c4, hin⟩
    · intro y hy
      obtain ⟨i, hi, rfl⟩ := List.mem_map.1 hy
      exact (hF i (List.mem_range.1 hi)).2.2.2.2.2.2
theorem array12S {α : Type} {cs : Array α} (h : cs.size = 12) : ∃ c0 c1 c2 c3 c4 c5 c6 c7 c8 c9 c10 c11, cs = #[c0, c1, c2, c3, c4, c5, c6, c7, c8, c9, c10, c11] := by
  obtain ⟨l⟩ := cs
  match l, h with
  | [c0, c1, c2, c3, c4, c5, c6, c7, c8, c9, c10, c11], _ => exact ⟨c0, c1, c2, c3, c4, c5, c6, c7, c8, c9, c10, c11, rfl⟩
set_option maxRecDepth 100000 in
theorem arg_script {base : Nat} {v0 : Value} {d0 : DataW H} {p : List MemPlace} (hv : Value.okWide Tryd.prog W .any base 27 v0) (h : DataW.Trod enc Tryd.prog W 0 (fun _ => true) true 27 v0 d0 p) :
    ∃ (n0 n1 n2 n3 n4 n5 n6 n7 : Int) (vi : Bool) (p : List UInt8) (C : List Crs) (S : List Stp) (ca sa : Option Addr) (cc sc : Nat), v0 = .agg #[.int .i64 n0, .int .i64 n1, .int .i64 n2, .int .i64 n3, .int .i64 n4, .int .i64 n5, .int .i64 n6, .int .i64 n7, .bool vi, .string (mkL p), .slice ca C.length cc, .slice sa S.length sc] ∧ (∀ x, x ∈ [n0, n1, n2, n3, n4, n5, n6, n7] → in64 x) ∧ p.length ≤ 9223372036854775807 ∧ CrI W ca C ∧ SpI W sa S ∧ scM C S := by
  obtain ⟨cs, rfl, hsz⟩ := okWide_struct Tryd.underlying27 hv
  obtain ⟨c0, c1, c2, c3, c4, c5, c6, c7, c8, c9, c10, c11, rfl⟩ := array12S (hsz.trans scr_c10)
  obtain ⟨fuel, hf⟩ := h
  obtain ⟨xs, n, _, _, hl, hlen, hf⟩ := DataW.trod_struct Tryd.underlying27 hf
  match xs, hlen with
  | [y0, y1, y2], _ =>
    have g0 := hf 0 _ rfl
    have g1 := hf 1 _ rfl
    have g2 := hf 2 _ rfl
    simp [Value.cells, scr_c9, scr_c11, scr_c12] at g0 g1 g2
    obtain ⟨xs', n', _, _, hl', hlen', hf'⟩ := DataW.trod_struct Tryd.underlying23 g0
    obtain ⟨C, ca, cc, rfl, hC, hCl, hCb⟩ := trod_crashes g1
    obtain ⟨S, sa, sc, rfl, hS, hSl, hSb⟩ := trod_steps g2
    match xs', hlen' with
    | [z0, z1, z2, z3, z4, z5, z6, z7, z8, z9], _ =>
      have k0 := hf' 0 _ rfl
      have k1 := hf' 1 _ rfl
      have k2 := hf' 2 _ rfl
      have k3 := hf' 3 _ rfl
      have k4 := hf' 4 _ rfl
      have k5 := hf' 5 _ rfl
      have k6 := hf' 6 _ rfl
      have k7 := hf' 7 _ rfl
      have k8 := hf' 8 _ rfl
      have k9 := hf' 9 _ rfl
      simp [scr_c3, scr_c4, scr_c2] at k0 k1 k2 k3 k4 k5 k6 k7 k8 k9
      obtain ⟨n0, h0, _, w0⟩ := DataW.trod_int Tryd.underlying3 k0
      obtain ⟨n1, h1, _, w1⟩ := DataW.trod_int Tryd.underlying3 k1
      obtain ⟨n2, h2, _, w2⟩ := DataW.trod_int Tryd.underlying3 k2
      obtain ⟨n3, h3, _, w3⟩ := DataW.trod_int Tryd.underlying3 k3
      obtain ⟨n4, h4, _, w4⟩ := DataW.trod_int Tryd.underlying3 k4
      obtain ⟨n5, h5, _, w5⟩ := DataW.trod_int Tryd.underlying3 k5
      obtain ⟨n6, h6, _, w6⟩ := DataW.trod_int Tryd.underlying3 k6
      obtain ⟨n7, h7, _, w7⟩ := DataW.trod_int Tryd.underlying3 k7
      obtain ⟨b8, h8, _⟩ := DataW.trod_bool Tryd.underlying4 k8
      obtain ⟨t9, h9, _, w9⟩ := DataW.trod_string Tryd.underlying9 k9
      obtain rfl : c0 = .int .i64 n0 := by simpa using h0
      obtain rfl : c1 = .int .i64 n1 := by simpa using h1
      obtain rfl : c2 = .int .i64 n2 := by simpa using h2
      obtain rfl : c3 = .int .i64 n3 := by simpa using h3
      obtain rfl : c4 = .int .i64 n4 := by simpa using h4
      obtain rfl : c5 = .int .i64 n5 := by simpa using h5
      obtain rfl : c6 = .int .i64 n6 := by simpa using h6
      obtain rfl : c7 = .int .i64 n7 := by simpa using h7
      obtain rfl : c8 = .bool b8 := by simpa using h8
      obtain rfl : c9 = .string t9 := by simpa using h9
      obtain ⟨t, rfl⟩ : ∃ q, mkL q = t9 := ⟨t9.data.toList, mk_of t9⟩
      refine ⟨n0, n1, n2, n3, n4, n5, n6, n7, b8, t, C, S, ca, sa, cc, sc, rfl, ?_, ?_, hC, hS, hCl, hSl, hCb, hSb⟩
      · intro x hx
        simp only [List.mem_cons, List.not_mem_nil, or_false] at hx
        rcases hx with rfl | rfl | rfl | rfl | rfl | rfl | rfl | rfl <;> exact i64_wf (by assumption)
      · unfold maxLen at w9
        rw [mkL_size] at w9
        omega
end
end Go.Proofs.YtnpiooaiceegmaaDoor
set_option linter.unusedVariables false
set_option linter.unusedSimpArgs false
namespace Go.Proofs.YtnpiooaiceegmaaDoor
open Go.RowKit
set_option maxRecDepth 100000 in
set_option maxHeartbeats 16000000 in
theorem tt_none (n0 n1 n2 n3 n4 n5 n6 n7 : Int) (b : Bool) (p : List UInt8) (m0 m1 m2 m3 m4 m5 m6 m7 : Int) (b2 : Bool) (p2 : List UInt8) (C D : List Crs) (S U : List Stp) (ca sa cb sb : Option Addr) (cc sc cd sd : Nat) (w : World)
    (hN : ∀ x, x ∈ [n0, n1, n2, n3, n4, n5, n6, n7] → in64 x) (hM : scM C S) (hM2 : scM D U) (h1 : CrI w ca C) (h2 : SpI w sa S) (h3 : CrI w cb D) (h4 : SpI w sb U) (hl1 : lgA p C S) (hl2 : lgA p2 D U)
    (hsc : scT (([n0, n1, n2, n3, n4, n5, n6, n7], b, p), C, S) = none) :
    Calls Tryd.prog 3 #[.agg #[.int .i64 n0, .int .i64 n1, .int .i64 n2, .int .i64 n3, .int .i64 n4, .int .i64 n5, .int .i64 n6, .int .i64 n7, .bool b, .string (mkL p), .slice ca C.length cc, .slice sa S.length sc], .agg #[.int .i64 m0, .int .i64 m1, .int .i64 m2, .int .i64 m3, .int .i64 m4, .int .i64 m5, .int .i64 m6, .int .i64 m7, .bool b2, .string (mkL p2), .slice cb D.length cd, .slice sb U.length sd]] w fun e w' => e = .returned (.bool true) ∧ Below w.heap.size w w' := by
  have b0 := below_alloc w (.cells #[.int .i64 n0, .int .i64 n1, .int .i64 n2, .int .i64 n3, .int .i64 n4, .int .i64 n5, .int .i64 n6, .int .i64 n7, .bool b, .string (mkL p), .slice ca C.length cc, .slice sa S.length sc] 27)
  have r0 := heap_alloc_new w (.cells #[.int .i64 n0, .int .i64 n1, .int .i64 n2, .int .i64 n3, .int .i64 n4, .int .i64 n5, .int .i64 n6, .int .i64 n7, .bool b, .string (mkL p), .slice ca C.length cc, .slice sa S.length sc] 27)
  obtain ⟨W0, hW0⟩ : ∃ W0, w.alloc (.cells #[.int .i64 n0, .int .i64 n1, .int .i64 n2, .int .i64 n3, .int .i64 n4, .int .i64 n5, .int .i64 n6, .int .i64 n7, .bool b, .string (mkL p), .slice ca C.length cc, .slice sa S.length sc] 27) = W0 := ⟨_, rfl⟩
  rw [hW0] at b0 r0
  have b1 := below_alloc W0 (.cells #[.int .i64 m0, .int .i64 m1, .int .i64 m2, .int .i64 m3, .int .i64 m4, .int .i64 m5, .int .i64 m6, .int .i64 m7, .bool b2, .string (mkL p2), .slice cb D.length cd, .slice sb U.length sd] 27)
  have r1 := heap_alloc_new W0 (.cells #[.int .i64 m0, .int .i64 m1, .int .i64 m2, .int .i64 m3, .int .i64 m4, .int .i64 m5, .int .i64 m6, .int .i64 m7, .bool b2, .string (mkL p2), .slice cb D.length cd, .slice sb U.length sd] 27)
  obtain ⟨BN, hBN⟩ : ∃ BN, W0.heap.size = BN := ⟨_, rfl⟩
  obtain ⟨W1, hW1⟩ : ∃ W1, W0.alloc (.cells #[.int .i64 m0, .int .i64 m1, .int .i64 m2, .int .i64 m3, .int .i64 m4, .int .i64 m5, .int .i64 m6, .int .i64 m7, .bool b2, .string (mkL p2), .slice cb D.length cd, .slice sb U.length sd] 27) = W1 := ⟨_, rfl⟩
  rw [hW1] at b1 r1
  have N1 := Lib.hid (seqB b0 b1)
  have QA1 := Lib.hid (blk_below r0 b1)
  rw [hBN] at r1
  have QB1 := Lib.hid r1
  have NB := seqB b0 b1
  have hB := lg_B (fun c hc => (hM.2.2.1 c hc).1) (fun x hx => (hM.2.2.2 x hx).1) hl1
  have LA := Lib.hid (fun (w' : World) (hb : Below w.heap.size w w') => (by
    have h := slight_any n0 n1 n2 n3 n4 n5 n6 n7 b p C S ca sa cc sc w' (fun x hx => (hM.2.2.2 x hx).2.2.2) (h1.below hb) (h2.below hb)
    unfold LgP at h; rw [lgD_yes hl1] at h; exact h : Calls Tryd.prog 9 #[.agg #[.int .i64 n0, .int .i64 n1, .int .i64 n2, .int .i64 n3, .int .i64 n4, .int .i64 n5, .int .i64 n6, .int .i64 n7, .bool b, .string (mkL p), .slice ca C.length cc, .slice sa S.length sc]] w' fun e w2 => e = .returned (.bool true) ∧ Below w'.heap.size w' w2))
  have LB := Lib.hid (fun (w' : World) (hb : Below w.heap.size w w') => (by
    have h := slight_any m0 m1 m2 m3 m4 m5 m6 m7 b2 p2 D U cb sb cd sd w' (fun x hx => (hM2.2.2.2 x hx).2.2.2) (h3.below hb) (h4.below hb)
    unfold LgP at h; rw [lgD_yes hl2] at h; exact h : Calls Tryd.prog 9 #[.agg #[.int .i64 m0, .int .i64 m1, .int .i64 m2, .int .i64 m3, .int .i64 m4, .int .i64 m5, .int .i64 m6, .int .i64 m7, .bool b2, .string (mkL p2), .slice cb D.length cd, .slice sb U.length sd]] w' fun e w2 => e = .returned (.bool true) ∧ Below w'.heap.size w' w2))
  have TX := Lib.hid (fun (w' : World) (hb : Below w.heap.size w w') => ttext_any n0 n1 n2 n3 n4 n5 n6 n7 b p C S ca sa C.length cc S.length sc w' rfl rfl (by have := hl1.1; omega) hN hB.1 (h1.below hb) (h2.below hb))
  have RX := Lib.hid (fun (w' : World) (hb : Below w.heap.size w w') => rtext_all n0 n1 n2 n3 n4 n5 n6 n7 b p C S ca sa C.length cc S.length sc w' rfl rfl (by have := hl1.1; omega) hN hB.2 (h1.below hb) (h2.below hb))
  have lB : ∀ {X : List Stp}, (∀ x, x ∈ X → lgS x) → ∀ x ∈ X, x.2.2.2.2.length ≤ 1000000 := fun h x hx => by have := (h x hx).2.1; omega
  have SM := Lib.hid (fun (w' : World) (hb : Below w.heap.size w w') => tsm_all n0 n1 n2 n3 n4 n5 n6 n7 b p m0 m1 m2 m3 m4 m5 m6 m7 b2 p2 C D S U ca sa cb sb cc sc cd sd w' (by have := hl1.2.1; omega) (by have := hl2.2.1; omega) (by have := hl1.2.2.1; omega) (by have := hl2.2.2.1; omega) (lB hl1.2.2.2.2) (lB hl2.2.2.2.2) (h1.below hb) (h2.below hb) (h3.below hb) (h4.below hb))
  have RM := Lib.hid (fun (w' : World) (hb : Below w.heap.size w w') => rsm_all n0 n1 n2 n3 n4 n5 n6 n7 b p m0 m1 m2 m3 m4 m5 m6 m7 b2 p2 C D S U ca sa cb sb cc sc cd sd w' (by have := hl1.2.1; omega) (by have := hl2.2.1; omega) (by have := hl1.2.2.1; omega) (by have := hl2.2.2.1; omega) (lB hl1.2.2.2.2) (lB hl2.2.2.2.2) (h1.below hb) (h2.below hb) (h3.below hb) (h4.below hb))
  unfold TsPost at TX
  unfold LnPost at RX
  rw [hsc] at TX RX
  have TX2 : Hid (∀ w', Below w.heap.size w w' → Calls Tryd.prog 11 #[.agg #[.int .i64 n0, .int .i64 n1, .int .i64 n2, .int .i64 n3, .int .i64 n4, .int .i64 n5, .int .i64 n6, .int .i64 n7, .bool b, .string (mkL p), .slice ca C.length cc, .slice sa S.length sc]] w' fun e w2 => e = .returned (.tuple #[.string ⟨#[]⟩, .int .i64 2]) ∧ Below w'.heap.size w' w2) := TX
  have RX2 : Hid (∀ w', Below w.heap.size w w' → Calls Tryd.prog 12 #[.agg #[.int .i64 n0, .int .i64 n1, .int .i64 n2, .int .i64 n3, .int .i64 n4, .int .i64 n5, .int .i64 n6, .int .i64 n7, .bool b, .string (mkL p), .slice ca C.length cc, .slice sa S.length sc]] w' fun e w2 => e = .returned (.string ⟨#[]⟩) ∧ Below w'.heap.size w' w2) := RX
  obtain ⟨r, hr⟩ : ∃ r, scEq ([n0, n1, n2, n3, n4, n5, n6, n7], b, p) ([m0, m1, m2, m3, m4, m5, m6, m7], b2, p2) C D S U = r := ⟨_, rfl⟩
  rw [hr] at SM RM
  have EQB : ∀ (w : World), (binOp .neq 4 (.bool r) (.bool r)).run Tryd.prog w = .ok (.bool false) w := fun w => by cases r <;> simp [go_sem]
  have HB := Lib.hid hB.1
  have HS := Lib.hid h2
  obtain ⟨ls, hls⟩ : ∃ n, S.length = n := ⟨_, rfl⟩
  have HLS := Lib.hid hls
  have hls30 : ls ≤ 30 := by rw [← hls]; exact hl1.2.2.1
  clear hr hB hN hM hM2 h1 h2 h3 h4 hl1 hl2 hsc TX RX lB r0 r1 b0 b1 NB
  rw [hls] at LA TX2 RX2 SM RM QA1 hW0 ⊢
  clear hls
  generalize C.length = lc at *
  generalize D.length = ld at *
  generalize U.length = lu at *
  generalize mkL p = mp at *
  generalize mkL p2 = mp2 at *
  have ky := fun i => cell_of_row _ _ i _ _ _ QA1.out; have kz := fun i => cell_of_row _ _ i _ _ _ QB1.out; have ya0 := ky 0; have ya1 := ky 1; have ya2 := ky 2; have ya3 := ky 3; have ya4 := ky 4; have ya5 := ky 5; have ya6 := ky 6; have ya7 := ky 7; have ya8 := ky 8; have ya9 := ky 9; have ya10 := ky 10; have ya11 := ky 11; have yb0 := kz 0; have yb1 := kz 1; have yb2 := kz 2; have yb3 := kz 3; have yb4 := kz 4; have yb5 := kz 5; have yb6 := kz 6; have yb7 := kz 7; have yb8 := kz 8; have yb9 := kz 9; have yb10 := kz 10; have yb11 := kz 11; dsimp at ya0 ya1 ya2 ya3 ya4 ya5 ya6 ya7 ya8 ya9 ya10 ya11 yb0 yb1 yb2 yb3 yb4 yb5 yb6 yb7 yb8 yb9 yb10 yb11; clear ky kz
  go_enter Tryd.func3, Tryd.ntmps3
  go_upto_region 3 with (first
    | (go_at_call 9; (with_reducible refine (LA.out _ N1.out).mono ?_); rintro e w2 ⟨rfl, hb2⟩; have N2 := Lib.hid (seqB N1.out hb2); have QA2 := Lib.hid (blk_below QA1.out hb2); have QB2 := Lib.hid (blk_below QB1.out hb2); clear ya0 ya1 ya2 ya3 ya4 ya5 ya6 ya7 ya8 ya9 ya10 ya11 yb0 yb1 yb2 yb3 yb4 yb5 yb6 yb7 yb8 yb9 yb10 yb11 hb2 LA; have ky := fun i => cell_of_row _ _ i _ _ _ QA2.out; have kz := fun i => cell_of_row _ _ i _ _ _ QB2.out; have ua0 := ky 0; have ua1 := ky 1; have ua2 := ky 2; have ua3 := ky 3; have ua4 := ky 4; have ua5 := ky 5; have ua6 := ky 6; have ua7 := ky 7; have ua8 := ky 8; have ua9 := ky 9; have ua10 := ky 10; have ua11 := ky 11; have ub0 := kz 0; have ub1 := kz 1; have ub2 := kz 2; have ub3 := kz 3; have ub4 := kz 4; have ub5 := kz 5; have ub6 := kz 6; have ub7 := kz 7; have ub8 := kz 8; have ub9 := kz 9; have ub10 := kz 10; have ub11 := kz 11; dsimp at ua0 ua1 ua2 ua3 ua4 ua5 ua6 ua7 ua8 ua9 ua10 ua11 ub0 ub1 ub2 ub3 ub4 ub5 ub6 ub7 ub8 ub9 ub10 ub11; clear ky kz)
    | (go_at_call 9; (with_reducible refine (LB.out _ N2.out).mono ?_); rintro e w3 ⟨rfl, hb3⟩; have N3 := Lib.hid (seqB N2.out hb3); have QA3 := Lib.hid (blk_below QA2.out hb3); have QB3 := Lib.hid (blk_below QB2.out hb3); clear ua0 ua1 ua2 ua3 ua4 ua5 ua6 ua7 ua8 ua9 ua10 ua11 ub0 ub1 ub2 ub3 ub4 ub5 ub6 ub7 ub8 ub9 ub10 ub11 hb3 LB; have ky := fun i => cell_of_row _ _ i _ _ _ QA3.out; have kz := fun i => cell_of_row _ _ i _ _ _ QB3.out; have va0 := ky 0; have va1 := ky 1; have va2 := ky 2; have va3 := ky 3; have va4 := ky 4; have va5 := ky 5; have va6 := ky 6; have va7 := ky 7; have va8 := ky 8; have va9 := ky 9; have va10 := ky 10; have va11 := ky 11; have vb0 := kz 0; have vb1 := kz 1; have vb2 := kz 2; have vb3 := kz 3; have vb4 := kz 4; have vb5 := kz 5; have vb6 := kz 6; have vb7 := kz 7; have vb8 := kz 8; have vb9 := kz 9; have vb10 := kz 10; have vb11 := kz 11; dsimp at va0 va1 va2 va3 va4 va5 va6 va7 va8 va9 va10 va11 vb0 vb1 vb2 vb3 vb4 vb5 vb6 vb7 vb8 vb9 vb10 vb11; clear ky kz))
  go_upto_region 5 with (first
    | (go_at_call 11; (with_reducible refine (TX2.out _ N3.out).mono ?_); rintro e w4 ⟨rfl, hb4⟩; have N4 := Lib.hid (seqB N3.out hb4); have QA4 := Lib.hid (blk_below QA3.out hb4); have QB4 := Lib.hid (blk_below QB3.out hb4); clear va0 va1 va2 va3 va4 va5 va6 va7 va8 va9 va10 va11 vb0 vb1 vb2 vb3 vb4 vb5 vb6 vb7 vb8 vb9 vb10 vb11 hb4 TX2; have ky := fun i => cell_of_row _ _ i _ _ _ QA4.out; have kz := fun i => cell_of_row _ _ i _ _ _ QB4.out; have xa0 := ky 0; have xa1 := ky 1; have xa2 := ky 2; have xa3 := ky 3; have xa4 := ky 4; have xa5 := ky 5; have xa6 := ky 6; have xa7 := ky 7; have xa8 := ky 8; have xa9 := ky 9; have xa10 := ky 10; have xa11 := ky 11; have xb0 := kz 0; have xb1 := kz 1; have xb2 := kz 2; have xb3 := kz 3; have xb4 := kz 4; have xb5 := kz 5; have xb6 := kz 6; have xb7 := kz 7; have xb8 := kz 8; have xb9 := kz 9; have xb10 := kz 10; have xb11 := kz 11; dsimp at xa0 xa1 xa2 xa3 xa4 xa5 xa6 xa7 xa8 xa9 xa10 xa11 xb0 xb1 xb2 xb3 xb4 xb5 xb6 xb7 xb8 xb9 xb10 xb11; clear ky kz)
    | (go_at_call 12; (with_reducible refine (RX2.out _ N4.out).mono ?_); rintro e w5 ⟨rfl, hb5⟩; have N5 := Lib.hid (seqB N4.out hb5); have QA5 := Lib.hid (blk_below QA4.out hb5); have QB5 := Lib.hid (blk_below QB4.out hb5); clear xa0 xa1 xa2 xa3 xa4 xa5 xa6 xa7 xa8 xa9 xa10 xa11 xb0 xb1 xb2 xb3 xb4 xb5 xb6 xb7 xb8 xb9 xb10 xb11 hb5 RX2; have ky := fun i => cell_of_row _ _ i _ _ _ QA5.out; have kz := fun i => cell_of_row _ _ i _ _ _ QB5.out; have ra0 := ky 0; have ra1 := ky 1; have ra2 := ky 2; have ra3 := ky 3; have ra4 := ky 4; have ra5 := ky 5; have ra6 := ky 6; have ra7 := ky 7; have ra8 := ky 8; have ra9 := ky 9; have ra10 := ky 10; have ra11 := ky 11; have rb0 := kz 0; have rb1 := kz 1; have rb2 := kz 2; have rb3 := kz 3; have rb4 := kz 4; have rb5 := kz 5; have rb6 := kz 6; have rb7 := kz 7; have rb8 := kz 8; have rb9 := kz 9; have rb10 := kz 10; have rb11 := kz 11; dsimp at ra0 ra1 ra2 ra3 ra4 ra5 ra6 ra7 ra8 ra9 ra10 ra11 rb0 rb1 rb2 rb3 rb4 rb5 rb6 rb7 rb8 rb9 rb10 rb11; clear ky kz))
  go_region_held3 (fun w' => w'.cell? ⟨w.heap.size, 0, none⟩ = some (.int .i64 n0) ∧ w'.cell? ⟨w.heap.size, 1, none⟩ = some (.int .i64 n1) ∧ w'.cell? ⟨w.heap.size, 2, none⟩ = some (.int .i64 n2) ∧ w'.cell? ⟨w.heap.size, 3, none⟩ = some (.int .i64 n3) ∧ w'.cell? ⟨w.heap.size, 4, none⟩ = some (.int .i64 n4) ∧ w'.cell? ⟨w.heap.size, 5, none⟩ = some (.int .i64 n5) ∧ w'.cell? ⟨w.heap.size, 6, none⟩ = some (.int .i64 n6) ∧ w'.cell? ⟨w.heap.size, 7, none⟩ = some (.int .i64 n7) ∧ w'.cell? ⟨w.heap.size, 8, none⟩ = some (.bool b) ∧ w'.cell? ⟨w.heap.size, 9, none⟩ = some (.string mp) ∧ w'.cell? ⟨w.heap.size, 10, none⟩ = some (.slice ca lc cc) ∧ w'.cell? ⟨w.heap.size, 11, none⟩ = some (.slice sa ls sc) ∧ w'.cell? ⟨BN, 0, none⟩ = some (.int .i64 m0) ∧ w'.cell? ⟨BN, 1, none⟩ = some (.int .i64 m1) ∧ w'.cell? ⟨BN, 2, none⟩ = some (.int .i64 m2) ∧ w'.cell? ⟨BN, 3, none⟩ = some (.int .i64 m3) ∧ w'.cell? ⟨BN, 4, none⟩ = some (.int .i64 m4) ∧ w'.cell? ⟨BN, 5, none⟩ = some (.int .i64 m5) ∧ w'.cell? ⟨BN, 6, none⟩ = some (.int .i64 m6) ∧ w'.cell? ⟨BN, 7, none⟩ = some (.int .i64 m7) ∧ w'.cell? ⟨BN, 8, none⟩ = some (.bool b2) ∧ w'.cell? ⟨BN, 9, none⟩ = some (.string mp2) ∧ w'.cell? ⟨BN, 10, none⟩ = some (.slice cb ld cd) ∧ w'.cell? ⟨BN, 11, none⟩ = some (.slice sb lu sd)) (first | exact ⟨ra0, ra1, ra2, ra3, ra4, ra5, ra6, ra7, ra8, ra9, ra10, ra11, rb0, rb1, rb2, rb3, rb4, rb5, rb6, rb7, rb8, rb9, rb10, rb11⟩ | exact ⟨sa0, sa1, sa2, sa3, sa4, sa5, sa6, sa7, sa8, sa9, sa10, sa11, sb0, sb1, sb2, sb3, sb4, sb5, sb6, sb7, sb8, sb9, sb10, sb11⟩ | exact ⟨qa0, qa1, qa2, qa3, qa4, qa5, qa6, qa7, qa8, qa9, qa10, qa11, qb0, qb1, qb2, qb3, qb4, qb5, qb6, qb7, qb8, qb9, qb10, qb11⟩ | go_keep)
    (first
      | (go_at_call 13
         with_reducible refine (SM.out w5.drew N5.out.drew).mono ?_
         rintro e w6 ⟨rfl, hb6⟩
         have N6 := Lib.hid (seqB N5.out.drew hb6)
         have QA6 := Lib.hid (blk_below (w := w5) QA5.out (seqB (Below.refl _ _).drew hb6))
         have QB6 := Lib.hid (blk_below (w := w5) QB5.out (seqB (Below.refl _ _).drew hb6))
         have ky := fun i => cell_of_row _ _ i _ _ _ QA6.out; have kz := fun i => cell_of_row _ _ i _ _ _ QB6.out; have sa0 := ky 0; have sa1 := ky 1; have sa2 := ky 2; have sa3 := ky 3; have sa4 := ky 4; have sa5 := ky 5; have sa6 := ky 6; have sa7 := ky 7; have sa8 := ky 8; have sa9 := ky 9; have sa10 := ky 10; have sa11 := ky 11; have sb0 := kz 0; have sb1 := kz 1; have sb2 := kz 2; have sb3 := kz 3; have sb4 := kz 4; have sb5 := kz 5; have sb6 := kz 6; have sb7 := kz 7; have sb8 := kz 8; have sb9 := kz 9; have sb10 := kz 10; have sb11 := kz 11; dsimp at sa0 sa1 sa2 sa3 sa4 sa5 sa6 sa7 sa8 sa9 sa10 sa11 sb0 sb1 sb2 sb3 sb4 sb5 sb6 sb7 sb8 sb9 sb10 sb11; clear ky kz
         clear hb6)
      | (go_at_call 14
         with_reducible refine (RM.out _ N6.out).mono ?_
         rintro e w7 ⟨rfl, hb7⟩
         have N7 := Lib.hid (seqB N6.out hb7); have QA7 := Lib.hid (blk_below QA6.out hb7); have QB7 := Lib.hid (blk_below QB6.out hb7)
         have ky := fun i => cell_of_row _ _ i _ _ _ QA7.out; have kz := fun i => cell_of_row _ _ i _ _ _ QB7.out; have qa0 := ky 0; have qa1 := ky 1; have qa2 := ky 2; have qa3 := ky 3; have qa4 := ky 4; have qa5 := ky 5; have qa6 := ky 6; have qa7 := ky 7; have qa8 := ky 8; have qa9 := ky 9; have qa10 := ky 10; have qa11 := ky 11; have qb0 := kz 0; have qb1 := kz 1; have qb2 := kz 2; have qb3 := kz 3; have qb4 := kz 4; have qb5 := kz 5; have qb6 := kz 6; have qb7 := kz 7; have qb8 := kz 8; have qb9 := kz 9; have qb10 := kz 10; have qb11 := kz 11; dsimp at qa0 qa1 qa2 qa3 qa4 qa5 qa6 qa7 qa8 qa9 qa10 qa11 qb0 qb1 qb2 qb3 qb4 qb5 qb6 qb7 qb8 qb9 qb10 qb11; clear ky kz
         clear hb7))
  all_goals
    clear ra0 ra1 ra2 ra3 ra4 ra5 ra6 ra7 ra8 ra9 ra10 ra11 rb0 rb1 rb2 rb3 rb4 rb5 rb6 rb7 rb8 rb9 rb10 rb11 sa0 sa1 sa2 sa3 sa4 sa5 sa6 sa7 sa8 sa9 sa10 sa11 sb0 sb1 sb2 sb3 sb4 sb5 sb6 sb7 sb8 sb9 sb10 sb11 qa0 qa1 qa2 qa3 qa4 qa5 qa6 qa7 qa8 qa9 qa10 qa11 qb0 qb1 qb2 qb3 qb4 qb5 qb6 qb7 qb8 qb9 qb10 qb11 SM RM N1 N2 N3 N4 N5 N6 QA1 QA2 QA3 QA4 QA5 QA6 QB1 QB2 QB3 QB4 QB5 QB6
    obtain ⟨CA, hCA⟩ : ∃ CA, #[Value.int .i64 n0, .int .i64 n1, .int .i64 n2, .int .i64 n3, .int .i64 n4, .int .i64 n5, .int .i64 n6, .int .i64 n7, .bool b, .string mp, .slice ca lc cc, .slice sa ls sc] = CA := ⟨_, rfl⟩
    have qa11 := Lib.hid (show CA[11]? = some (.slice sa ls sc) by rw [← hCA]; rfl)
    have HCA := Lib.hid hCA
    rw [hCA] at QA7
    clear hCA hW0 hW1 hBN
    have f11 := (cell_of_row _ _ 11 _ _ _ QA7.out).trans qa11.out
    go_upto_region 8 with fail
    clear f11
    go_loopw [8, 9, 10] (fun iv _ _ wr => ∃ k : Nat, k ≤ ls ∧ iv = .int .i64 (k : Int) ∧ Hid (wr.heap[w.heap.size]? = some (.cells CA 27 (0, 0))) ∧ Hid (Below w.heap.size w wr)) (fun iv _ _ _ => ls - (intOf iv).toNat)
    case atStart => exact ⟨0, Nat.zero_le _, rfl, QA7, N7⟩
    case round =>
      obtain ⟨k, hk, rfl, HR, HW⟩ := hrel
      have f11 := (cell_of_row _ _ 11 _ _ _ HR.out).trans qa11.out
      by_cases hlt : k < ls
      · have hk1 : (k : Int) < ls := by omega
        have hk0 : (0 : Int) ≤ k := by omega
        have hkL : k < S.length := by rw [HLS.out]; exact hlt
        obtain ⟨b1, o1, a1, e1, rfl, hb1, c0, c1, c2, c3, c4, hs1⟩ := (HS.out.below HW.out) k hkL
        have hri := HB.out.2.2.2 _ (getD_memX st0 hkL)
        obtain ⟨v, hv⟩ : ∃ v, S.getD k st0 = v := ⟨_, rfl⟩
        rw [hv] at c0 c1 c2 c3 c4 hs1 hri
        obtain ⟨vk, vt, vn, vm, vl⟩ := v
        have ST := tstep_any (vk, vt, vn, vm, vl) a1 e1 wr hri hs1
        have RL := fun (w' : World) (hb : Below wr.heap.size wr w') => rline_all (vk, vt, vn, vm, vl) a1 e1 w' hri (hs1.below hb)
        unfold StPost at ST
        unfold LnPost at RL
        unfold tsV at ST RL
        dsimp only at ST RL c0 c1 c2 c3 c4
        clear hs1 hri hv hkL
        generalize vl.length = vln at *
        generalize mkL vt = mvt at *
        cases hq : stLn (vk, vt, vn, vm, vl) with
        | none =>
          rw [show stLs (vk, vt, vn, vm, vl) = [] by unfold stLs; rw [hq]; rfl, hq] at ST
          rw [show stLs (vk, vt, vn, vm, vl) = [] by unfold stLs; rw [hq]; rfl] at RL
          have STh : Hid (Calls Tryd.prog 15 #[.agg #[.int .i64 vk, .string mvt, .int .i64 vn, .int .i64 vm, .slice a1 vln e1]] wr fun e w' => e = .returned (.tuple #[.string ⟨#[]⟩, .int .i64 2]) ∧ Below wr.heap.size wr w') := Lib.hid ST
          have RLh : Hid (∀ w', Below wr.heap.size wr w' → Calls Tryd.prog 16 #[.agg #[.int .i64 vk, .string mvt, .int .i64 vn, .int .i64 vm, .slice a1 vln e1]] w' fun e w2 => e = .returned (.string ⟨#[]⟩) ∧ Below w'.heap.size w' w2) := Lib.hid RL
          clear ST RL hq
          go_wp2_with (first
            | (go_at_call 15; refine STh.out.mono ?_; rintro e w8 ⟨rfl, hb8⟩; have N8 := Lib.hid (seqB HW.out hb8); have R8 := Lib.hid (blk_below HR.out hb8); have f8 := (cell_of_row _ _ 11 _ _ _ R8.out).trans qa11.out; have d0 := (hb8.cell (p := ⟨b1, o1 + k * 5, none⟩) hb1).trans c0; have d1 := (hb8.cell (p := ⟨b1, o1 + k * 5 + 1, none⟩) hb1).trans c1; have d2 := (hb8.cell (p := ⟨b1, o1 + k * 5 + 2, none⟩) hb1).trans c2; have d3 := (hb8.cell (p := ⟨b1, o1 + k * 5 + 3, none⟩) hb1).trans c3; have d4 := (hb8.cell (p := ⟨b1, o1 + k * 5 + 4, none⟩) hb1).trans c4; have RL2 := Lib.hid (RLh.out _ hb8); clear hb8 c0 c1 c2 c3 c4 f11 RLh)
            | (go_at_call 16; refine RL2.out.mono ?_; rintro e w9 ⟨rfl, hb9⟩; have N9 := Lib.hid (seqB N8.out hb9); have R9 := Lib.hid (blk_below R8.out hb9); clear hb9))
          go_roundw
          case rel => exact ⟨k + 1, by omega, by go_num, R9, N9⟩
          case measure => (simp [intOf]; try omega)
        | some l =>
          rw [show stLs (vk, vt, vn, vm, vl) = l by unfold stLs; rw [hq]; rfl, hq] at ST
          rw [show stLs (vk, vt, vn, vm, vl) = l by unfold stLs; rw [hq]; rfl] at RL
          have hne := stLn_ne hq
          have g1 := (mkL_ne hne : ¬ mkL l = mkL [])
          have g2 : (mkL l).toList.isEmpty = false := by
            rw [mkL_toList]
            cases l with
            | nil => exact absurd rfl hne
            | cons a b => rfl
          have g3 : ¬ (mkL l).toList = [] := by rw [mkL_toList]; exact hne
          have STh : Hid (Calls Tryd.prog 15 #[.agg #[.int .i64 vk, .string mvt, .int .i64 vn, .int .i64 vm, .slice a1 vln e1]] wr fun e w' => e = .returned (.tuple #[.string (mkL l), .int .i64 0]) ∧ Below wr.heap.size wr w') := Lib.hid ST
          have RLh : Hid (∀ w', Below wr.heap.size wr w' → Calls Tryd.prog 16 #[.agg #[.int .i64 vk, .string mvt, .int .i64 vn, .int .i64 vm, .slice a1 vln e1]] w' fun e w2 => e = .returned (.string (mkL l)) ∧ Below w'.heap.size w' w2) := Lib.hid RL
          clear ST RL hq hne
          generalize mkL l = ml at *
          go_wp2_with (first
            | (go_at_call 15; refine STh.out.mono ?_; rintro e w8 ⟨rfl, hb8⟩; have N8 := Lib.hid (seqB HW.out hb8); have R8 := Lib.hid (blk_below HR.out hb8); have f8 := (cell_of_row _ _ 11 _ _ _ R8.out).trans qa11.out; have d0 := (hb8.cell (p := ⟨b1, o1 + k * 5, none⟩) hb1).trans c0; have d1 := (hb8.cell (p := ⟨b1, o1 + k * 5 + 1, none⟩) hb1).trans c1; have d2 := (hb8.cell (p := ⟨b1, o1 + k * 5 + 2, none⟩) hb1).trans c2; have d3 := (hb8.cell (p := ⟨b1, o1 + k * 5 + 3, none⟩) hb1).trans c3; have d4 := (hb8.cell (p := ⟨b1, o1 + k * 5 + 4, none⟩) hb1).trans c4; have RL2 := Lib.hid (RLh.out _ hb8); clear hb8 c0 c1 c2 c3 c4 f11 RLh)
            | (go_at_call 16; refine RL2.out.mono ?_; rintro e w9 ⟨rfl, hb9⟩; have N9 := Lib.hid (seqB N8.out hb9); have R9 := Lib.hid (blk_below R8.out hb9); clear hb9))
          go_roundw
          case rel => exact ⟨k + 1, by omega, by go_num, R9, N9⟩
          case measure => (simp [intOf]; try omega)
      · obtain rfl : k = ls := by omega
        have hmm : ¬ (k : Int) < (k : Int) := by omega
        go_wp2_with (go_at_call 10; refine (tawake_any _).mono ?_; rintro e w8 ⟨rfl, hb8⟩; have N8 := Lib.hid (seqB HW.out hb8); clear hb8)
        try go_ret
        exact ⟨rfl, N8.out⟩
set_option maxRecDepth 100000 in
set_option maxHeartbeats 16000000 in
theorem tt_some (n0 n1 n2 n3 n4 n5 n6 n7 : Int) (b : Bool) (p : List UInt8) (m0 m1 m2 m3 m4 m5 m6 m7 : Int) (b2 : Bool) (p2 : List UInt8) (C D : List Crs) (S U : List Stp) (ca sa cb sb : Option Addr) (cc sc cd sd : Nat) (w : World)
    (hN : ∀ x, x ∈ [n0, n1, n2, n3, n4, n5, n6, n7] → in64 x) (hM : scM C S) (hM2 : scM D U) (h1 : CrI w ca C) (h2 : SpI w sa S) (h3 : CrI w cb D) (h4 : SpI w sb U) (hl1 : lgA p C S) (hl2 : lgA p2 D U)
    (t : List UInt8) (hsc : scT (([n0, n1, n2, n3, n4, n5, n6, n7], b, p), C, S) = some t) :
    Calls Tryd.prog 3 #[.agg #[.int .i64 n0, .int .i64 n1, .int .i64 n2, .int .i64 n3, .int .i64 n4, .int .i64 n5, .int .i64 n6, .int .i64 n7, .bool b, .string (mkL p), .slice ca C.length cc, .slice sa S.length sc], .agg #[.int .i64 m0, .int .i64 m1, .int .i64 m2, .int .i64 m3, .int .i64 m4, .int .i64 m5, .int .i64 m6, .int .i64 m7, .bool b2, .string (mkL p2), .slice cb D.length cd, .slice sb U.length sd]] w fun e w' => e = .returned (.bool true) ∧ Below w.heap.size w w' := by
  have b0 := below_alloc w (.cells #[.int .i64 n0, .int .i64 n1, .int .i64 n2, .int .i64 n3, .int .i64 n4, .int .i64 n5, .int .i64 n6, .int .i64 n7, .bool b, .string (mkL p), .slice ca C.length cc, .slice sa S.length sc] 27)
  have r0 := heap_alloc_new w (.cells #[.int .i64 n0, .int .i64 n1, .int .i64 n2, .int .i64 n3, .int .i64 n4, .int .i64 n5, .int .i64 n6, .int .i64 n7, .bool b, .string (mkL p), .slice ca C.length cc, .slice sa S.length sc] 27)
  obtain ⟨W0, hW0⟩ : ∃ W0, w.alloc (.cells #[.int .i64 n0, .int .i64 n1, .int .i64 n2, .int .i64 n3, .int .i64 n4, .int .i64 n5, .int .i64 n6, .int .i64 n7, .bool b, .string (mkL p), .slice ca C.length cc, .slice sa S.length sc] 27) = W0 := ⟨_, rfl⟩
  rw [hW0] at b0 r0
  have b1 := below_alloc W0 (.cells #[.int .i64 m0, .int .i64 m1, .int .i64 m2, .int .i64 m3, .int .i64 m4, .int .i64 m5, .int .i64 m6, .int .i64 m7, .bool b2, .string (mkL p2), .slice cb D.length cd, .slice sb U.length sd] 27)
  have r1 := heap_alloc_new W0 (.cells #[.int .i64 m0, .int .i64 m1, .int .i64 m2, .int .i64 m3, .int .i64 m4, .int .i64 m5, .int .i64 m6, .int .i64 m7, .bool b2, .string (mkL p2), .slice cb D.length cd, .slice sb U.length sd] 27)
  obtain ⟨BN, hBN⟩ : ∃ BN, W0.heap.size = BN := ⟨_, rfl⟩
  obtain ⟨W1, hW1⟩ : ∃ W1, W0.alloc (.cells #[.int .i64 m0, .int .i64 m1, .int .i64 m2, .int .i64 m3, .int .i64 m4, .int .i64 m5, .int .i64 m6, .int .i64 m7, .bool b2, .string (mkL p2), .slice cb D.length cd, .slice sb U.length sd] 27) = W1 := ⟨_, rfl⟩
  rw [hW1] at b1 r1
  have N1 := Lib.hid (seqB b0 b1)
  have QA1 := Lib.hid (blk_below r0 b1)
  rw [hBN] at r1
  have QB1 := Lib.hid r1
  have NB := seqB b0 b1
  have hB := lg_B (fun c hc => (hM.2.2.1 c hc).1) (fun x hx => (hM.2.2.2 x hx).1) hl1
  have LA := Lib.hid (fun (w' : World) (hb : Below w.heap.size w w') => (by
    have h := slight_any n0 n1 n2 n3 n4 n5 n6 n7 b p C S ca sa cc sc w' (fun x hx => (hM.2.2.2 x hx).2.2.2) (h1.below hb) (h2.below hb)
    unfold LgP at h; rw [lgD_yes hl1] at h; exact h : Calls Tryd.prog 9 #[.agg #[.int .i64 n0, .int .i64 n1, .int .i64 n2, .int .i64 n3, .int .i64 n4, .int .i64 n5, .int .i64 n6, .int .i64 n7, .bool b, .string (mkL p), .slice ca C.length cc, .slice sa S.length sc]] w' fun e w2 => e = .returned (.bool true) ∧ Below w'.heap.size w' w2))
  have LB := Lib.hid (fun (w' : World) (hb : Below w.heap.size w w') => (by
    have h := slight_any m0 m1 m2 m3 m4 m5 m6 m7 b2 p2 D U cb sb cd sd w' (fun x hx => (hM2.2.2.2 x hx).2.2.2) (h3.below hb) (h4.below hb)
    unfold LgP at h; rw [lgD_yes hl2] at h; exact h : Calls Tryd.prog 9 #[.agg #[.int .i64 m0, .int .i64 m1, .int .i64 m2, .int .i64 m3, .int .i64 m4, .int .i64 m5, .int .i64 m6, .int .i64 m7, .bool b2, .string (mkL p2), .slice cb D.length cd, .slice sb U.length sd]] w' fun e w2 => e = .returned (.bool true) ∧ Below w'.heap.size w' w2))
  have TX := Lib.hid (fun (w' : World) (hb : Below w.heap.size w w') => ttext_any n0 n1 n2 n3 n4 n5 n6 n7 b p C S ca sa C.length cc S.length sc w' rfl rfl (by have := hl1.1; omega) hN hB.1 (h1.below hb) (h2.below hb))
  have RX := Lib.hid (fun (w' : World) (hb : Below w.heap.size w w') => rtext_all n0 n1 n2 n3 n4 n5 n6 n7 b p C S ca sa C.length cc S.length sc w' rfl rfl (by have := hl1.1; omega) hN hB.2 (h1.below hb) (h2.below hb))
  have lB : ∀ {X : List Stp}, (∀ x, x ∈ X → lgS x) → ∀ x ∈ X, x.2.2.2.2.length ≤ 1000000 := fun h x hx => by have := (h x hx).2.1; omega
  have SM := Lib.hid (fun (w' : World) (hb : Below w.heap.size w w') => tsm_all n0 n1 n2 n3 n4 n5 n6 n7 b p m0 m1 m2 m3 m4 m5 m6 m7 b2 p2 C D S U ca sa cb sb cc sc cd sd w' (by have := hl1.2.1; omega) (by have := hl2.2.1; omega) (by have := hl1.2.2.1; omega) (by have := hl2.2.2.1; omega) (lB hl1.2.2.2.2) (lB hl2.2.2.2.2) (h1.below hb) (h2.below hb) (h3.below hb) (h4.below hb))
  have RM := Lib.hid (fun (w' : World) (hb : Below w.heap.size w w') => rsm_all n0 n1 n2 n3 n4 n5 n6 n7 b p m0 m1 m2 m3 m4 m5 m6 m7 b2 p2 C D S U ca sa cb sb cc sc cd sd w' (by have := hl1.2.1; omega) (by have := hl2.2.1; omega) (by have := hl1.2.2.1; omega) (by have := hl2.2.2.1; omega) (lB hl1.2.2.2.2) (lB hl2.2.2.2.2) (h1.below hb) (h2.below hb) (h3.below hb) (h4.below hb))
  unfold TsPost at TX
  unfold LnPost at RX
  rw [hsc] at TX RX
  have TX2 : Hid (∀ w', Below w.heap.size w w' → Calls Tryd.prog 11 #[.agg #[.int .i64 n0, .int .i64 n1, .int .i64 n2, .int .i64 n3, .int .i64 n4, .int .i64 n5, .int .i64 n6, .int .i64 n7, .bool b, .string (mkL p), .slice ca C.length cc, .slice sa S.length sc]] w' fun e w2 => e = .returned (.tuple #[.string (mkL t), .int .i64 0]) ∧ Below w'.heap.size w' w2) := TX
  have RX2 : Hid (∀ w', Below w.heap.size w w' → Calls Tryd.prog 12 #[.agg #[.int .i64 n0, .int .i64 n1, .int .i64 n2, .int .i64 n3, .int .i64 n4, .int .i64 n5, .int .i64 n6, .int .i64 n7, .bool b, .string (mkL p), .slice ca C.length cc, .slice sa S.length sc]] w' fun e w2 => e = .returned (.string (mkL t)) ∧ Below w'.heap.size w' w2) := RX
  have hok : scOk (([n0, n1, n2, n3, n4, n5, n6, n7], b, p), C, S) := ⟨⟨rfl, hN⟩, fun c hc => (hM.2.2.1 c hc).1, fun x hx => (hM.2.2.2 x hx).1⟩
  have hpt := prT_good hsc hok
  have hlen : t.length ≤ 200000 := by
    have h := lg_len (f := ([n0, n1, n2, n3, n4, n5, n6, n7], b, p)) rfl hl1
    unfold scT at hsc
    split at hsc
    · rw [← Option.some.inj hsc]; exact h
    · cases hsc
  obtain ⟨q, hq⟩ : ∃ q, t = q ++ [10] := by
    unfold prT at hpt
    split at hpt
    · rename_i hg
      obtain ⟨ys, h⟩ := List.getLast?_eq_some_iff.1 hg
      exact ⟨ys, h⟩
    · cases hpt
  have hpa : prA (pcB 10 q) = some (([n0, n1, n2, n3, n4, n5, n6, n7], b, p), C, S) := by
    unfold prT at hpt
    rw [hq, if_pos (by simp), List.dropLast_concat] at hpt
    exact hpt
  have hqt : t ≠ [] := by rw [hq]; simp
  have hql : q.length ≤ 200000 := by rw [hq, List.length_append, List.length_singleton] at hlen; omega
  have PAR := Lib.hid (fun (w' : World) => (by
    have h := tparse_ten q w' hql
    rw [hpa, ← hq] at h
    refine h.mono ?_
    rintro e w2 ⟨⟨k0, k1, k2, k3, k4, k5, k6, k7, y, r, a1, a2, d1, d2, g1, g2, g3, g4⟩, g5⟩
    have g6 : (([n0, n1, n2, n3, n4, n5, n6, n7], b, p) : Cf) = ([k0, k1, k2, k3, k4, k5, k6, k7], y, r) := g1
    simp only [Prod.mk.injEq, List.cons.injEq, and_true] at g6
    obtain ⟨⟨rfl, rfl, rfl, rfl, rfl, rfl, rfl, rfl⟩, rfl, rfl⟩ := g6
    exact ⟨a1, a2, d1, d2, g2, g3, g4, g5⟩ : Calls Tryd.prog 17 #[.string (mkL t)] w' fun e w2 => ∃ a1 a2 d1 d2, e = .returned (.tuple #[.agg #[.int .i64 n0, .int .i64 n1, .int .i64 n2, .int .i64 n3, .int .i64 n4, .int .i64 n5, .int .i64 n6, .int .i64 n7, .bool b, .string (mkL p), .slice a1 C.length d1, .slice a2 S.length d2], .int .i64 0]) ∧ CrI w2 a1 C ∧ SpI w2 a2 S ∧ Below w'.heap.size w' w2))
  have RS := Lib.hid (fun (w' : World) (hb : Below w.heap.size w w') (a1 a2 : Option Addr) (d1 d2 : Nat) (g1 : CrI w' a1 C) (g2 : SpI w' a2 S) => (by
    have h := rsm_all n0 n1 n2 n3 n4 n5 n6 n7 b p n0 n1 n2 n3 n4 n5 n6 n7 b p C C S S a1 a2 ca sa d1 d2 cc sc w' (by have := hl1.2.1; omega) (by have := hl1.2.1; omega) (by have := hl1.2.2.1; omega) (by have := hl1.2.2.1; omega) (lB hl1.2.2.2.2) (lB hl1.2.2.2.2) g1 g2 (h1.below hb) (h2.below hb)
    rw [scEq_refl] at h
    exact h : Calls Tryd.prog 14 #[.agg #[.int .i64 n0, .int .i64 n1, .int .i64 n2, .int .i64 n3, .int .i64 n4, .int .i64 n5, .int .i64 n6, .int .i64 n7, .bool b, .string (mkL p), .slice a1 C.length d1, .slice a2 S.length d2], .agg #[.int .i64 n0, .int .i64 n1, .int .i64 n2, .int .i64 n3, .int .i64 n4, .int .i64 n5, .int .i64 n6, .int .i64 n7, .bool b, .string (mkL p), .slice ca C.length cc, .slice sa S.length sc]] w' fun e w2 => e = .returned (.bool true) ∧ Below w'.heap.size w' w2))
  have t1 := (mkL_ne hqt : ¬ mkL t = mkL [])
  have t2 : (mkL t).toList.isEmpty = false := by
    rw [mkL_toList]
    cases t with
    | nil => exact absurd rfl hqt
    | cons a b => rfl
  have t3 : ¬ (mkL t).toList = [] := by rw [mkL_toList]; exact hqt
  clear hok hpt hlen hpa hql hqt hq
  generalize mkL t = mt at *
  obtain ⟨r, hr⟩ : ∃ r, scEq ([n0, n1, n2, n3, n4, n5, n6, n7], b, p) ([m0, m1, m2, m3, m4, m5, m6, m7], b2, p2) C D S U = r := ⟨_, rfl⟩
  rw [hr] at SM RM
  have EQB : ∀ (w : World), (binOp .neq 4 (.bool r) (.bool r)).run Tryd.prog w = .ok (.bool false) w := fun w => by cases r <;> simp [go_sem]
  have HB := Lib.hid hB.1
  have HS := Lib.hid h2
  obtain ⟨ls, hls⟩ : ∃ n, S.length = n := ⟨_, rfl⟩
  have HLS := Lib.hid hls
  have hls30 : ls ≤ 30 := by rw [← hls]; exact hl1.2.2.1
  clear hr hB hN hM hM2 h1 h2 h3 h4 hl1 hl2 hsc TX RX lB r0 r1 b0 b1 NB
  rw [hls] at LA TX2 RX2 SM RM QA1 hW0 ⊢ RS PAR
  clear hls
  generalize C.length = lc at *
  generalize D.length = ld at *
  generalize U.length = lu at *
  generalize mkL p = mp at *
  generalize mkL p2 = mp2 at *
  have ky := fun i => cell_of_row _ _ i _ _ _ QA1.out; have kz := fun i => cell_of_row _ _ i _ _ _ QB1.out; have ya0 := ky 0; have ya1 := ky 1; have ya2 := ky 2; have ya3 := ky 3; have ya4 := ky 4; have ya5 := ky 5; have ya6 := ky 6; have ya7 := ky 7; have ya8 := ky 8; have ya9 := ky 9; have ya10 := ky 10; have ya11 := ky 11; have yb0 := kz 0; have yb1 := kz 1; have yb2 := kz 2; have yb3 := kz 3; have yb4 := kz 4; have yb5 := kz 5; have yb6 := kz 6; have yb7 := kz 7; have yb8 := kz 8; have yb9 := kz 9; have yb10 := kz 10; have yb11 := kz 11; dsimp at ya0 ya1 ya2 ya3 ya4 ya5 ya6 ya7 ya8 ya9 ya10 ya11 yb0 yb1 yb2 yb3 yb4 yb5 yb6 yb7 yb8 yb9 yb10 yb11; clear ky kz
  go_enter Tryd.func3, Tryd.ntmps3
  go_upto_region 3 with (first
    | (go_at_call 9; (with_reducible refine (LA.out _ N1.out).mono ?_); rintro e w2 ⟨rfl, hb2⟩; have N2 := Lib.hid (seqB N1.out hb2); have QA2 := Lib.hid (blk_below QA1.out hb2); have QB2 := Lib.hid (blk_below QB1.out hb2); clear ya0 ya1 ya2 ya3 ya4 ya5 ya6 ya7 ya8 ya9 ya10 ya11 yb0 yb1 yb2 yb3 yb4 yb5 yb6 yb7 yb8 yb9 yb10 yb11 hb2 LA; have ky := fun i => cell_of_row _ _ i _ _ _ QA2.out; have kz := fun i => cell_of_row _ _ i _ _ _ QB2.out; have ua0 := ky 0; have ua1 := ky 1; have ua2 := ky 2; have ua3 := ky 3; have ua4 := ky 4; have ua5 := ky 5; have ua6 := ky 6; have ua7 := ky 7; have ua8 := ky 8; have ua9 := ky 9; have ua10 := ky 10; have ua11 := ky 11; have ub0 := kz 0; have ub1 := kz 1; have ub2 := kz 2; have ub3 := kz 3; have ub4 := kz 4; have ub5 := kz 5; have ub6 := kz 6; have ub7 := kz 7; have ub8 := kz 8; have ub9 := kz 9; have ub10 := kz 10; have ub11 := kz 11; dsimp at ua0 ua1 ua2 ua3 ua4 ua5 ua6 ua7 ua8 ua9 ua10 ua11 ub0 ub1 ub2 ub3 ub4 ub5 ub6 ub7 ub8 ub9 ub10 ub11; clear ky kz)
    | (go_at_call 9; (with_reducible refine (LB.out _ N2.out).mono ?_); rintro e w3 ⟨rfl, hb3⟩; have N3 := Lib.hid (seqB N2.out hb3); have QA3 := Lib.hid (blk_below QA2.out hb3); have QB3 := Lib.hid (blk_below QB2.out hb3); clear ua0 ua1 ua2 ua3 ua4 ua5 ua6 ua7 ua8 ua9 ua10 ua11 ub0 ub1 ub2 ub3 ub4 ub5 ub6 ub7 ub8 ub9 ub10 ub11 hb3 LB; have ky := fun i => cell_of_row _ _ i _ _ _ QA3.out; have kz := fun i => cell_of_row _ _ i _ _ _ QB3.out; have va0 := ky 0; have va1 := ky 1; have va2 := ky 2; have va3 := ky 3; have va4 := ky 4; have va5 := ky 5; have va6 := ky 6; have va7 := ky 7; have va8 := ky 8; have va9 := ky 9; have va10 := ky 10; have va11 := ky 11; have vb0 := kz 0; have vb1 := kz 1; have vb2 := kz 2; have vb3 := kz 3; have vb4 := kz 4; have vb5 := kz 5; have vb6 := kz 6; have vb7 := kz 7; have vb8 := kz 8; have vb9 := kz 9; have vb10 := kz 10; have vb11 := kz 11; dsimp at va0 va1 va2 va3 va4 va5 va6 va7 va8 va9 va10 va11 vb0 vb1 vb2 vb3 vb4 vb5 vb6 vb7 vb8 vb9 vb10 vb11; clear ky kz))
  go_upto_region 5 with (first
    | (go_at_call 11; (with_reducible refine (TX2.out _ N3.out).mono ?_); rintro e w4 ⟨rfl, hb4⟩; have N4 := Lib.hid (seqB N3.out hb4); have QA4 := Lib.hid (blk_below QA3.out hb4); have QB4 := Lib.hid (blk_below QB3.out hb4); clear va0 va1 va2 va3 va4 va5 va6 va7 va8 va9 va10 va11 vb0 vb1 vb2 vb3 vb4 vb5 vb6 vb7 vb8 vb9 vb10 vb11 hb4 TX2; have ky := fun i => cell_of_row _ _ i _ _ _ QA4.out; have kz := fun i => cell_of_row _ _ i _ _ _ QB4.out; have xa0 := ky 0; have xa1 := ky 1; have xa2 := ky 2; have xa3 := ky 3; have xa4 := ky 4; have xa5 := ky 5; have xa6 := ky 6; have xa7 := ky 7; have xa8 := ky 8; have xa9 := ky 9; have xa10 := ky 10; have xa11 := ky 11; have xb0 := kz 0; have xb1 := kz 1; have xb2 := kz 2; have xb3 := kz 3; have xb4 := kz 4; have xb5 := kz 5; have xb6 := kz 6; have xb7 := kz 7; have xb8 := kz 8; have xb9 := kz 9; have xb10 := kz 10; have xb11 := kz 11; dsimp at xa0 xa1 xa2 xa3 xa4 xa5 xa6 xa7 xa8 xa9 xa10 xa11 xb0 xb1 xb2 xb3 xb4 xb5 xb6 xb7 xb8 xb9 xb10 xb11; clear ky kz)
    | (go_at_call 12; (with_reducible refine (RX2.out _ N4.out).mono ?_); rintro e w5 ⟨rfl, hb5⟩; have N5 := Lib.hid (seqB N4.out hb5); have QA5 := Lib.hid (blk_below QA4.out hb5); have QB5 := Lib.hid (blk_below QB4.out hb5); clear xa0 xa1 xa2 xa3 xa4 xa5 xa6 xa7 xa8 xa9 xa10 xa11 xb0 xb1 xb2 xb3 xb4 xb5 xb6 xb7 xb8 xb9 xb10 xb11 hb5 RX2; have ky := fun i => cell_of_row _ _ i _ _ _ QA5.out; have kz := fun i => cell_of_row _ _ i _ _ _ QB5.out; have ra0 := ky 0; have ra1 := ky 1; have ra2 := ky 2; have ra3 := ky 3; have ra4 := ky 4; have ra5 := ky 5; have ra6 := ky 6; have ra7 := ky 7; have ra8 := ky 8; have ra9 := ky 9; have ra10 := ky 10; have ra11 := ky 11; have rb0 := kz 0; have rb1 := kz 1; have rb2 := kz 2; have rb3 := kz 3; have rb4 := kz 4; have rb5 := kz 5; have rb6 := kz 6; have rb7 := kz 7; have rb8 := kz 8; have rb9 := kz 9; have rb10 := kz 10; have rb11 := kz 11; dsimp at ra0 ra1 ra2 ra3 ra4 ra5 ra6 ra7 ra8 ra9 ra10 ra11 rb0 rb1 rb2 rb3 rb4 rb5 rb6 rb7 rb8 rb9 rb10 rb11; clear ky kz))
  go_region_held3 (fun w' => w'.cell? ⟨w.heap.size, 0, none⟩ = some (.int .i64 n0) ∧ w'.cell? ⟨w.heap.size, 1, none⟩ = some (.int .i64 n1) ∧ w'.cell? ⟨w.heap.size, 2, none⟩ = some (.int .i64 n2) ∧ w'.cell? ⟨w.heap.size, 3, none⟩ = some (.int .i64 n3) ∧ w'.cell? ⟨w.heap.size, 4, none⟩ = some (.int .i64 n4) ∧ w'.cell? ⟨w.heap.size, 5, none⟩ = some (.int .i64 n5) ∧ w'.cell? ⟨w.heap.size, 6, none⟩ = some (.int .i64 n6) ∧ w'.cell? ⟨w.heap.size, 7, none⟩ = some (.int .i64 n7) ∧ w'.cell? ⟨w.heap.size, 8, none⟩ = some (.bool b) ∧ w'.cell? ⟨w.heap.size, 9, none⟩ = some (.string mp) ∧ w'.cell? ⟨w.heap.size, 10, none⟩ = some (.slice ca lc cc) ∧ w'.cell? ⟨w.heap.size, 11, none⟩ = some (.slice sa ls sc) ∧ w'.cell? ⟨BN, 0, none⟩ = some (.int .i64 m0) ∧ w'.cell? ⟨BN, 1, none⟩ = some (.int .i64 m1) ∧ w'.cell? ⟨BN, 2, none⟩ = some (.int .i64 m2) ∧ w'.cell? ⟨BN, 3, none⟩ = some (.int .i64 m3) ∧ w'.cell? ⟨BN, 4, none⟩ = some (.int .i64 m4) ∧ w'.cell? ⟨BN, 5, none⟩ = some (.int .i64 m5) ∧ w'.cell? ⟨BN, 6, none⟩ = some (.int .i64 m6) ∧ w'.cell? ⟨BN, 7, none⟩ = some (.int .i64 m7) ∧ w'.cell? ⟨BN, 8, none⟩ = some (.bool b2) ∧ w'.cell? ⟨BN, 9, none⟩ = some (.string mp2) ∧ w'.cell? ⟨BN, 10, none⟩ = some (.slice cb ld cd) ∧ w'.cell? ⟨BN, 11, none⟩ = some (.slice sb lu sd)) (first | exact ⟨ra0, ra1, ra2, ra3, ra4, ra5, ra6, ra7, ra8, ra9, ra10, ra11, rb0, rb1, rb2, rb3, rb4, rb5, rb6, rb7, rb8, rb9, rb10, rb11⟩ | exact ⟨sa0, sa1, sa2, sa3, sa4, sa5, sa6, sa7, sa8, sa9, sa10, sa11, sb0, sb1, sb2, sb3, sb4, sb5, sb6, sb7, sb8, sb9, sb10, sb11⟩ | exact ⟨qa0, qa1, qa2, qa3, qa4, qa5, qa6, qa7, qa8, qa9, qa10, qa11, qb0, qb1, qb2, qb3, qb4, qb5, qb6, qb7, qb8, qb9, qb10, qb11⟩ | go_keep)
    (first
      | (go_at_call 13
         with_reducible refine (SM.out w5.drew N5.out.drew).mono ?_
         rintro e w6 ⟨rfl, hb6⟩
         have N6 := Lib.hid (seqB N5.out.drew hb6)
         have QA6 := Lib.hid (blk_below (w := w5) QA5.out (seqB (Below.refl _ _).drew hb6))
         have QB6 := Lib.hid (blk_below (w := w5) QB5.out (seqB (Below.refl _ _).drew hb6))
         have ky := fun i => cell_of_row _ _ i _ _ _ QA6.out; have kz := fun i => cell_of_row _ _ i _ _ _ QB6.out; have sa0 := ky 0; have sa1 := ky 1; have sa2 := ky 2; have sa3 := ky 3; have sa4 := ky 4; have sa5 := ky 5; have sa6 := ky 6; have sa7 := ky 7; have sa8 := ky 8; have sa9 := ky 9; have sa10 := ky 10; have sa11 := ky 11; have sb0 := kz 0; have sb1 := kz 1; have sb2 := kz 2; have sb3 := kz 3; have sb4 := kz 4; have sb5 := kz 5; have sb6 := kz 6; have sb7 := kz 7; have sb8 := kz 8; have sb9 := kz 9; have sb10 := kz 10; have sb11 := kz 11; dsimp at sa0 sa1 sa2 sa3 sa4 sa5 sa6 sa7 sa8 sa9 sa10 sa11 sb0 sb1 sb2 sb3 sb4 sb5 sb6 sb7 sb8 sb9 sb10 sb11; clear ky kz
         clear hb6)
      | (go_at_call 14
         with_reducible refine (RM.out _ N6.out).mono ?_
         rintro e w7 ⟨rfl, hb7⟩
         have N7 := Lib.hid (seqB N6.out hb7); have QA7 := Lib.hid (blk_below QA6.out hb7); have QB7 := Lib.hid (blk_below QB6.out hb7)
         have ky := fun i => cell_of_row _ _ i _ _ _ QA7.out; have kz := fun i => cell_of_row _ _ i _ _ _ QB7.out; have qa0 := ky 0; have qa1 := ky 1; have qa2 := ky 2; have qa3 := ky 3; have qa4 := ky 4; have qa5 := ky 5; have qa6 := ky 6; have qa7 := ky 7; have qa8 := ky 8; have qa9 := ky 9; have qa10 := ky 10; have qa11 := ky 11; have qb0 := kz 0; have qb1 := kz 1; have qb2 := kz 2; have qb3 := kz 3; have qb4 := kz 4; have qb5 := kz 5; have qb6 := kz 6; have qb7 := kz 7; have qb8 := kz 8; have qb9 := kz 9; have qb10 := kz 10; have qb11 := kz 11; dsimp at qa0 qa1 qa2 qa3 qa4 qa5 qa6 qa7 qa8 qa9 qa10 qa11 qb0 qb1 qb2 qb3 qb4 qb5 qb6 qb7 qb8 qb9 qb10 qb11; clear ky kz
         clear hb7))
  all_goals
    clear ra0 ra1 ra2 ra3 ra4 ra5 ra6 ra7 ra8 ra9 ra10 ra11 rb0 rb1 rb2 rb3 rb4 rb5 rb6 rb7 rb8 rb9 rb10 rb11 sa0 sa1 sa2 sa3 sa4 sa5 sa6 sa7 sa8 sa9 sa10 sa11 sb0 sb1 sb2 sb3 sb4 sb5 sb6 sb7 sb8 sb9 sb10 sb11 qa0 qa1 qa2 qa3 qa4 qa5 qa6 qa7 qa8 qa9 qa10 qa11 qb0 qb1 qb2 qb3 qb4 qb5 qb6 qb7 qb8 qb9 qb10 qb11 SM RM N1 N2 N3 N4 N5 N6 QA1 QA2 QA3 QA4 QA5 QA6 QB1 QB2 QB3 QB4 QB5 QB6
    obtain ⟨CA, hCA⟩ : ∃ CA, #[Value.int .i64 n0, .int .i64 n1, .int .i64 n2, .int .i64 n3, .int .i64 n4, .int .i64 n5, .int .i64 n6, .int .i64 n7, .bool b, .string mp, .slice ca lc cc, .slice sa ls sc] = CA := ⟨_, rfl⟩
    have qa11 := Lib.hid (show CA[11]? = some (.slice sa ls sc) by rw [← hCA]; rfl)
    have HCA := Lib.hid hCA
    rw [hCA] at QA7
    clear hCA hW0 hW1 hBN
    have f11 := (cell_of_row _ _ 11 _ _ _ QA7.out).trans qa11.out
    go_upto_region 8 with fail
    clear f11
    go_loopw [8, 9, 10] (fun iv _ _ wr => ∃ k : Nat, k ≤ ls ∧ iv = .int .i64 (k : Int) ∧ Hid (wr.heap[w.heap.size]? = some (.cells CA 27 (0, 0))) ∧ Hid (Below w.heap.size w wr)) (fun iv _ _ _ => ls - (intOf iv).toNat)
    case atStart => exact ⟨0, Nat.zero_le _, rfl, QA7, N7⟩
    case round =>
      obtain ⟨k, hk, rfl, HR, HW⟩ := hrel
      have f11 := (cell_of_row _ _ 11 _ _ _ HR.out).trans qa11.out
      by_cases hlt : k < ls
      · have hk1 : (k : Int) < ls := by omega
        have hk0 : (0 : Int) ≤ k := by omega
        have hkL : k < S.length := by rw [HLS.out]; exact hlt
        obtain ⟨b1, o1, a1, e1, rfl, hb1, c0, c1, c2, c3, c4, hs1⟩ := (HS.out.below HW.out) k hkL
        have hri := HB.out.2.2.2 _ (getD_memX st0 hkL)
        obtain ⟨v, hv⟩ : ∃ v, S.getD k st0 = v := ⟨_, rfl⟩
        rw [hv] at c0 c1 c2 c3 c4 hs1 hri
        obtain ⟨vk, vt, vn, vm, vl⟩ := v
        have ST := tstep_any (vk, vt, vn, vm, vl) a1 e1 wr hri hs1
        have RL := fun (w' : World) (hb : Below wr.heap.size wr w') => rline_all (vk, vt, vn, vm, vl) a1 e1 w' hri (hs1.below hb)
        unfold StPost at ST
        unfold LnPost at RL
        unfold tsV at ST RL
        dsimp only at ST RL c0 c1 c2 c3 c4
        clear hs1 hri hv hkL
        generalize vl.length = vln at *
        generalize mkL vt = mvt at *
        cases hq : stLn (vk, vt, vn, vm, vl) with
        | none =>
          rw [show stLs (vk, vt, vn, vm, vl) = [] by unfold stLs; rw [hq]; rfl, hq] at ST
          rw [show stLs (vk, vt, vn, vm, vl) = [] by unfold stLs; rw [hq]; rfl] at RL
          have STh : Hid (Calls Tryd.prog 15 #[.agg #[.int .i64 vk, .string mvt, .int .i64 vn, .int .i64 vm, .slice a1 vln e1]] wr fun e w' => e = .returned (.tuple #[.string ⟨#[]⟩, .int .i64 2]) ∧ Below wr.heap.size wr w') := Lib.hid ST
          have RLh : Hid (∀ w', Below wr.heap.size wr w' → Calls Tryd.prog 16 #[.agg #[.int .i64 vk, .string mvt, .int .i64 vn, .int .i64 vm, .slice a1 vln e1]] w' fun e w2 => e = .returned (.string ⟨#[]⟩) ∧ Below w'.heap.size w' w2) := Lib.hid RL
          clear ST RL hq
          go_wp2_with (first
            | (go_at_call 15; refine STh.out.mono ?_; rintro e w8 ⟨rfl, hb8⟩; have N8 := Lib.hid (seqB HW.out hb8); have R8 := Lib.hid (blk_below HR.out hb8); have f8 := (cell_of_row _ _ 11 _ _ _ R8.out).trans qa11.out; have d0 := (hb8.cell (p := ⟨b1, o1 + k * 5, none⟩) hb1).trans c0; have d1 := (hb8.cell (p := ⟨b1, o1 + k * 5 + 1, none⟩) hb1).trans c1; have d2 := (hb8.cell (p := ⟨b1, o1 + k * 5 + 2, none⟩) hb1).trans c2; have d3 := (hb8.cell (p := ⟨b1, o1 + k * 5 + 3, none⟩) hb1).trans c3; have d4 := (hb8.cell (p := ⟨b1, o1 + k * 5 + 4, none⟩) hb1).trans c4; have RL2 := Lib.hid (RLh.out _ hb8); clear hb8 c0 c1 c2 c3 c4 f11 RLh)
            | (go_at_call 16; refine RL2.out.mono ?_; rintro e w9 ⟨rfl, hb9⟩; have N9 := Lib.hid (seqB N8.out hb9); have R9 := Lib.hid (blk_below R8.out hb9); clear hb9))
          go_roundw
          case rel => exact ⟨k + 1, by omega, by go_num, R9, N9⟩
          case measure => (simp [intOf]; try omega)
        | some l =>
          rw [show stLs (vk, vt, vn, vm, vl) = l by unfold stLs; rw [hq]; rfl, hq] at ST
          rw [show stLs (vk, vt, vn, vm, vl) = l by unfold stLs; rw [hq]; rfl] at RL
          have hne := stLn_ne hq
          have g1 := (mkL_ne hne : ¬ mkL l = mkL [])
          have g2 : (mkL l).toList.isEmpty = false := by
            rw [mkL_toList]
            cases l with
            | nil => exact absurd rfl hne
            | cons a b => rfl
          have g3 : ¬ (mkL l).toList = [] := by rw [mkL_toList]; exact hne
          have STh : Hid (Calls Tryd.prog 15 #[.agg #[.int .i64 vk, .string mvt, .int .i64 vn, .int .i64 vm, .slice a1 vln e1]] wr fun e w' => e = .returned (.tuple #[.string (mkL l), .int .i64 0]) ∧ Below wr.heap.size wr w') := Lib.hid ST
          have RLh : Hid (∀ w', Below wr.heap.size wr w' → Calls Tryd.prog 16 #[.agg #[.int .i64 vk, .string mvt, .int .i64 vn, .int .i64 vm, .slice a1 vln e1]] w' fun e w2 => e = .returned (.string (mkL l)) ∧ Below w'.heap.size w' w2) := Lib.hid RL
          clear ST RL hq hne
          generalize mkL l = ml at *
          go_wp2_with (first
            | (go_at_call 15; refine STh.out.mono ?_; rintro e w8 ⟨rfl, hb8⟩; have N8 := Lib.hid (seqB HW.out hb8); have R8 := Lib.hid (blk_below HR.out hb8); have f8 := (cell_of_row _ _ 11 _ _ _ R8.out).trans qa11.out; have d0 := (hb8.cell (p := ⟨b1, o1 + k * 5, none⟩) hb1).trans c0; have d1 := (hb8.cell (p := ⟨b1, o1 + k * 5 + 1, none⟩) hb1).trans c1; have d2 := (hb8.cell (p := ⟨b1, o1 + k * 5 + 2, none⟩) hb1).trans c2; have d3 := (hb8.cell (p := ⟨b1, o1 + k * 5 + 3, none⟩) hb1).trans c3; have d4 := (hb8.cell (p := ⟨b1, o1 + k * 5 + 4, none⟩) hb1).trans c4; have RL2 := Lib.hid (RLh.out _ hb8); clear hb8 c0 c1 c2 c3 c4 f11 RLh)
            | (go_at_call 16; refine RL2.out.mono ?_; rintro e w9 ⟨rfl, hb9⟩; have N9 := Lib.hid (seqB N8.out hb9); have R9 := Lib.hid (blk_below R8.out hb9); clear hb9))
          go_roundw
          case rel => exact ⟨k + 1, by omega, by go_num, R9, N9⟩
          case measure => (simp [intOf]; try omega)
      · obtain rfl : k = ls := by omega
        have hmm : ¬ (k : Int) < (k : Int) := by omega
        go_upto_region 16 with (go_at_call 17; refine (PAR.out _).mono ?_; rintro e w8 ⟨a1, a2, d1, d2, rfl, hC8, hS8, hb8⟩; have N8 := Lib.hid (seqB HW.out hb8); have R8 := Lib.hid (blk_below HR.out hb8); have HC8 := Lib.hid hC8; have HS8 := Lib.hid hS8; clear hb8 hC8 hS8)
        have b9 := below_alloc w8 (.cells #[.int .i64 n0, .int .i64 n1, .int .i64 n2, .int .i64 n3, .int .i64 n4, .int .i64 n5, .int .i64 n6, .int .i64 n7, .bool b, .string mp, .slice a1 lc d1, .slice a2 k d2] 27)
        have r9 := heap_alloc_new w8 (.cells #[.int .i64 n0, .int .i64 n1, .int .i64 n2, .int .i64 n3, .int .i64 n4, .int .i64 n5, .int .i64 n6, .int .i64 n7, .bool b, .string mp, .slice a1 lc d1, .slice a2 k d2] 27)
        obtain ⟨Y, hY⟩ : ∃ Y, w8.heap.size = Y := ⟨_, rfl⟩
        obtain ⟨W9, hW9⟩ : ∃ W9, w8.alloc (.cells #[.int .i64 n0, .int .i64 n1, .int .i64 n2, .int .i64 n3, .int .i64 n4, .int .i64 n5, .int .i64 n6, .int .i64 n7, .bool b, .string mp, .slice a1 lc d1, .slice a2 k d2] 27) = W9 := ⟨_, rfl⟩
        have HC9 := Lib.hid (HC8.out.below b9)
        have HS9 := Lib.hid (HS8.out.below b9)
        have N9 := Lib.hid (seqB N8.out b9)
        have R9 := Lib.hid (blk_below R8.out b9)
        rw [hW9] at HC9 HS9 N9 R9 r9 ⊢
        rw [hY] at r9 ⊢
        have X9 := Lib.hid r9
        clear b9 hY hW9 HC8 HS8 N8 R8 r9
        go_wp2_with (first
          | (go_at_call 10; refine (tawake_any _).mono ?_; rintro e w10 ⟨rfl, hb10⟩; have N10 := Lib.hid (seqB N9.out hb10); have HC10 := Lib.hid (HC9.out.below hb10); have HS10 := Lib.hid (HS9.out.below hb10); have QA10 := Lib.hid (show w10.heap[w.heap.size]? = some (.cells #[.int .i64 n0, .int .i64 n1, .int .i64 n2, .int .i64 n3, .int .i64 n4, .int .i64 n5, .int .i64 n6, .int .i64 n7, .bool b, .string mp, .slice ca lc cc, .slice sa k sc] 27 (0, 0)) from (blk_below R9.out hb10).trans (by rw [HCA.out])); have QB10 := Lib.hid (blk_below X9.out hb10); clear hb10; have ky := fun i => cell_of_row _ _ i _ _ _ QA10.out; have kz := fun i => cell_of_row _ _ i _ _ _ QB10.out; have ga0 := ky 0; have ga1 := ky 1; have ga2 := ky 2; have ga3 := ky 3; have ga4 := ky 4; have ga5 := ky 5; have ga6 := ky 6; have ga7 := ky 7; have ga8 := ky 8; have ga9 := ky 9; have ga10 := ky 10; have ga11 := ky 11; have gb0 := kz 0; have gb1 := kz 1; have gb2 := kz 2; have gb3 := kz 3; have gb4 := kz 4; have gb5 := kz 5; have gb6 := kz 6; have gb7 := kz 7; have gb8 := kz 8; have gb9 := kz 9; have gb10 := kz 10; have gb11 := kz 11; dsimp at ga0 ga1 ga2 ga3 ga4 ga5 ga6 ga7 ga8 ga9 ga10 ga11 gb0 gb1 gb2 gb3 gb4 gb5 gb6 gb7 gb8 gb9 gb10 gb11; clear ky kz)
          | (go_at_call 14; (with_reducible refine (RS.out _ N10.out _ _ _ _ HC10.out HS10.out).mono ?_); rintro e w11 ⟨rfl, hb11⟩; have N11 := Lib.hid (seqB N10.out hb11); clear hb11))
        try go_ret
        exact ⟨rfl, N11.out⟩
end Go.Proofs.YtnpiooaiceegmaaDoor
set_option linter.unusedVariables false
set_option linter.unusedSimpArgs false
namespace Go.Proofs.YtnpiooaiceegmaaDoor
open Go.RowKit
set_option maxRecDepth 100000 in
set_option maxHeartbeats 16000000 in
theorem tt_no1 (n0 n1 n2 n3 n4 n5 n6 n7 : Int) (b : Bool) (p : List UInt8) (m0 m1 m2 m3 m4 m5 m6 m7 : Int) (b2 : Bool) (p2 : List UInt8) (C D : List Crs) (S U : List Stp) (ca sa cb sb : Option Addr) (cc sc cd sd : Nat) (w : World)
    (hM : scM C S) (hM2 : scM D U) (h1 : CrI w ca C) (h2 : SpI w sa S) (h3 : CrI w cb D) (h4 : SpI w sb U) (hl1 : ¬ lgA p C S) :
    Calls Tryd.prog 3 #[.agg #[.int .i64 n0, .int .i64 n1, .int .i64 n2, .int .i64 n3, .int .i64 n4, .int .i64 n5, .int .i64 n6, .int .i64 n7, .bool b, .string (mkL p), .slice ca C.length cc, .slice sa S.length sc], .agg #[.int .i64 m0, .int .i64 m1, .int .i64 m2, .int .i64 m3, .int .i64 m4, .int .i64 m5, .int .i64 m6, .int .i64 m7, .bool b2, .string (mkL p2), .slice cb D.length cd, .slice sb U.length sd]] w fun e w' => e = .returned (.bool true) ∧ Below w.heap.size w w' := by
  have b0 := below_alloc w (.cells #[.int .i64 n0, .int .i64 n1, .int .i64 n2, .int .i64 n3, .int .i64 n4, .int .i64 n5, .int .i64 n6, .int .i64 n7, .bool b, .string (mkL p), .slice ca C.length cc, .slice sa S.length sc] 27)
  have r0 := heap_alloc_new w (.cells #[.int .i64 n0, .int .i64 n1, .int .i64 n2, .int .i64 n3, .int .i64 n4, .int .i64 n5, .int .i64 n6, .int .i64 n7, .bool b, .string (mkL p), .slice ca C.length cc, .slice sa S.length sc] 27)
  obtain ⟨W0, hW0⟩ : ∃ W0, w.alloc (.cells #[.int .i64 n0, .int .i64 n1, .int .i64 n2, .int .i64 n3, .int .i64 n4, .int .i64 n5, .int .i64 n6, .int .i64 n7, .bool b, .string (mkL p), .slice ca C.length cc, .slice sa S.length sc] 27) = W0 := ⟨_, rfl⟩
  rw [hW0] at b0 r0
  have b1 := below_alloc W0 (.cells #[.int .i64 m0, .int .i64 m1, .int .i64 m2, .int .i64 m3, .int .i64 m4, .int .i64 m5, .int .i64 m6, .int .i64 m7, .bool b2, .string (mkL p2), .slice cb D.length cd, .slice sb U.length sd] 27)
  have r1 := heap_alloc_new W0 (.cells #[.int .i64 m0, .int .i64 m1, .int .i64 m2, .int .i64 m3, .int .i64 m4, .int .i64 m5, .int .i64 m6, .int .i64 m7, .bool b2, .string (mkL p2), .slice cb D.length cd, .slice sb U.length sd] 27)
  obtain ⟨BN, hBN⟩ : ∃ BN, W0.heap.size = BN := ⟨_, rfl⟩
  obtain ⟨W1, hW1⟩ : ∃ W1, W0.alloc (.cells #[.int .i64 m0, .int .i64 m1, .int .i64 m2, .int .i64 m3, .int .i64 m4, .int .i64 m5, .int .i64 m6, .int .i64 m7, .bool b2, .string (mkL p2), .slice cb D.length cd, .slice sb U.length sd] 27) = W1 := ⟨_, rfl⟩
  rw [hW1] at b1 r1
  have N1 := Lib.hid (seqB b0 b1)
  have QA1 := Lib.hid (blk_below r0 b1)
  rw [hBN] at r1
  have QB1 := Lib.hid r1
  have LA := Lib.hid (fun (w' : World) (hb : Below w.heap.size w w') => (by
    have h := slight_any n0 n1 n2 n3 n4 n5 n6 n7 b p C S ca sa cc sc w' (fun x hx => (hM.2.2.2 x hx).2.2.2) (h1.below hb) (h2.below hb)
    unfold LgP at h; rw [lgD_no hl1] at h; exact h : Calls Tryd.prog 9 #[.agg #[.int .i64 n0, .int .i64 n1, .int .i64 n2, .int .i64 n3, .int .i64 n4, .int .i64 n5, .int .i64 n6, .int .i64 n7, .bool b, .string (mkL p), .slice ca C.length cc, .slice sa S.length sc]] w' fun e w2 => e = .returned (.bool false) ∧ Below w'.heap.size w' w2))
  clear hM hM2 h1 h2 h3 h4 r0 r1 b0 b1
  generalize C.length = lc at *
  generalize D.length = ld at *
  generalize S.length = ls at *
  generalize U.length = lu at *
  generalize mkL p = mp at *
  generalize mkL p2 = mp2 at *
  have ky := fun i => cell_of_row _ _ i _ _ _ QA1.out; have kz := fun i => cell_of_row _ _ i _ _ _ QB1.out; have ya0 := ky 0; have ya1 := ky 1; have ya2 := ky 2; have ya3 := ky 3; have ya4 := ky 4; have ya5 := ky 5; have ya6 := ky 6; have ya7 := ky 7; have ya8 := ky 8; have ya9 := ky 9; have ya10 := ky 10; have ya11 := ky 11; have yb0 := kz 0; have yb1 := kz 1; have yb2 := kz 2; have yb3 := kz 3; have yb4 := kz 4; have yb5 := kz 5; have yb6 := kz 6; have yb7 := kz 7; have yb8 := kz 8; have yb9 := kz 9; have yb10 := kz 10; have yb11 := kz 11; dsimp at ya0 ya1 ya2 ya3 ya4 ya5 ya6 ya7 ya8 ya9 ya10 ya11 yb0 yb1 yb2 yb3 yb4 yb5 yb6 yb7 yb8 yb9 yb10 yb11; clear ky kz
  go_enter Tryd.func3, Tryd.ntmps3
  go_wp2_with (first
    | (go_at_call 9; (with_reducible refine (LA.out _ N1.out).mono ?_); rintro e w2 ⟨rfl, hb2⟩; have N2 := Lib.hid (seqB N1.out hb2); clear hb2)
    | (go_at_call 10; refine (tawake_any _).mono ?_; rintro e w8 ⟨rfl, hb8⟩; have N8 := Lib.hid (seqB N2.out hb8); clear hb8))
  try go_ret
  exact ⟨rfl, N8.out⟩
set_option maxRecDepth 100000 in
set_option maxHeartbeats 16000000 in
theorem tt_no2 (n0 n1 n2 n3 n4 n5 n6 n7 : Int) (b : Bool) (p : List UInt8) (m0 m1 m2 m3 m4 m5 m6 m7 : Int) (b2 : Bool) (p2 : List UInt8) (C D : List Crs) (S U : List Stp) (ca sa cb sb : Option Addr) (cc sc cd sd : Nat) (w : World)
    (hM : scM C S) (hM2 : scM D U) (h1 : CrI w ca C) (h2 : SpI w sa S) (h3 : CrI w cb D) (h4 : SpI w sb U) (hl1 : lgA p C S) (hl2 : ¬ lgA p2 D U) :
    Calls Tryd.prog 3 #[.agg #[.int .i64 n0, .int .i64 n1, .int .i64 n2, .int .i64 n3, .int .i64 n4, .int .i64 n5, .int .i64 n6, .int .i64 n7, .bool b, .string (mkL p), .slice ca C.length cc, .slice sa S.length sc], .agg #[.int .i64 m0, .int .i64 m1, .int .i64 m2, .int .i64 m3, .int .i64 m4, .int .i64 m5, .int .i64 m6, .int .i64 m7, .bool b2, .string (mkL p2), .slice cb D.length cd, .slice sb U.length sd]] w fun e w' => e = .returned (.bool true) ∧ Below w.heap.size w w' := by
  have b0 := below_alloc w (.cells #[.int .i64 n0, .int .i64 n1, .int .i64 n2, .int .i64 n3, .int .i64 n4, .int .i64 n5, .int .i64 n6, .int .i64 n7, .bool b, .string (mkL p), .slice ca C.length cc, .slice sa S.length sc] 27)
  have r0 := heap_alloc_new w (.cells #[.int .i64 n0, .int .i64 n1, .int .i64 n2, .int .i64 n3, .int .i64 n4, .int .i64 n5, .int .i64 n6, .int .i64 n7, .bool b, .string (mkL p), .slice ca C.length cc, .slice sa S.length sc] 27)
  obtain ⟨W0, hW0⟩ : ∃ W0, w.alloc (.cells #[.int .i64 n0, .int .i64 n1, .int .i64 n2, .int .i64 n3, .int .i64 n4, .int .i64 n5, .int .i64 n6, .int .i64 n7, .bool b, .string (mkL p), .slice ca C.length cc, .slice sa S.length sc] 27) = W0 := ⟨_, rfl⟩
  rw [hW0] at b0 r0
  have b1 := below_alloc W0 (.cells #[.int .i64 m0, .int .i64 m1, .int .i64 m2, .int .i64 m3, .int .i64 m4, .int .i64 m5, .int .i64 m6, .int .i64 m7, .bool b2, .string (mkL p2), .slice cb D.length cd, .slice sb U.length sd] 27)
  have r1 := heap_alloc_new W0 (.cells #[.int .i64 m0, .int .i64 m1, .int .i64 m2, .int .i64 m3, .int .i64 m4, .int .i64 m5, .int .i64 m6, .int .i64 m7, .bool b2, .string (mkL p2), .slice cb D.length cd, .slice sb U.length sd] 27)
  obtain ⟨BN, hBN⟩ : ∃ BN, W0.heap.size = BN := ⟨_, rfl⟩
  obtain ⟨W1, hW1⟩ : ∃ W1, W0.alloc (.cells #[.int .i64 m0, .int .i64 m1, .int .i64 m2, .int .i64 m3, .int .i64 m4, .int .i64 m5, .int .i64 m6, .int .i64 m7, .bool b2, .string (mkL p2), .slice cb D.length cd, .slice sb U.length sd] 27) = W1 := ⟨_, rfl⟩
  rw [hW1] at b1 r1
  have N1 := Lib.hid (seqB b0 b1)
  have QA1 := Lib.hid (blk_below r0 b1)
  rw [hBN] at r1
  have QB1 := Lib.hid r1
  have LA := Lib.hid (fun (w' : World) (hb : Below w.heap.size w w') => (by
    have h := slight_any n0 n1 n2 n3 n4 n5 n6 n7 b p C S ca sa cc sc w' (fun x hx => (hM.2.2.2 x hx).2.2.2) (h1.below hb) (h2.below hb)
    unfold LgP at h; rw [lgD_yes hl1] at h; exact h : Calls Tryd.prog 9 #[.agg #[.int .i64 n0, .int .i64 n1, .int .i64 n2, .int .i64 n3, .int .i64 n4, .int .i64 n5, .int .i64 n6, .int .i64 n7, .bool b, .string (mkL p), .slice ca C.length cc, .slice sa S.length sc]] w' fun e w2 => e = .returned (.bool true) ∧ Below w'.heap.size w' w2))
  have LB := Lib.hid (fun (w' : World) (hb : Below w.heap.size w w') => (by
    have h := slight_any m0 m1 m2 m3 m4 m5 m6 m7 b2 p2 D U cb sb cd sd w' (fun x hx => (hM2.2.2.2 x hx).2.2.2) (h3.below hb) (h4.below hb)
    unfold LgP at h; rw [lgD_no hl2] at h; exact h : Calls Tryd.prog 9 #[.agg #[.int .i64 m0, .int .i64 m1, .int .i64 m2, .int .i64 m3, .int .i64 m4, .int .i64 m5, .int .i64 m6, .int .i64 m7, .bool b2, .string (mkL p2), .slice cb D.length cd, .slice sb U.length sd]] w' fun e w2 => e = .returned (.bool false) ∧ Below w'.heap.size w' w2))
  clear hM hM2 h1 h2 h3 h4 r0 r1 b0 b1
  generalize C.length = lc at *
  generalize D.length = ld at *
  generalize S.length = ls at *
  generalize U.length = lu at *
  generalize mkL p = mp at *
  generalize mkL p2 = mp2 at *
  have ky := fun i => cell_of_row _ _ i _ _ _ QA1.out; have kz := fun i => cell_of_row _ _ i _ _ _ QB1.out; have ya0 := ky 0; have ya1 := ky 1; have ya2 := ky 2; have ya3 := ky 3; have ya4 := ky 4; have ya5 := ky 5; have ya6 := ky 6; have ya7 := ky 7; have ya8 := ky 8; have ya9 := ky 9; have ya10 := ky 10; have ya11 := ky 11; have yb0 := kz 0; have yb1 := kz 1; have yb2 := kz 2; have yb3 := kz 3; have yb4 := kz 4; have yb5 := kz 5; have yb6 := kz 6; have yb7 := kz 7; have yb8 := kz 8; have yb9 := kz 9; have yb10 := kz 10; have yb11 := kz 11; dsimp at ya0 ya1 ya2 ya3 ya4 ya5 ya6 ya7 ya8 ya9 ya10 ya11 yb0 yb1 yb2 yb3 yb4 yb5 yb6 yb7 yb8 yb9 yb10 yb11; clear ky kz
  go_enter Tryd.func3, Tryd.ntmps3
  go_wp2_with (first
    | (go_at_call 9; (with_reducible refine (LA.out _ N1.out).mono ?_); rintro e w2 ⟨rfl, hb2⟩; have N2 := Lib.hid (seqB N1.out hb2); have QA2 := Lib.hid (blk_below QA1.out hb2); have QB2 := Lib.hid (blk_below QB1.out hb2); clear ya0 ya1 ya2 ya3 ya4 ya5 ya6 ya7 ya8 ya9 ya10 ya11 yb0 yb1 yb2 yb3 yb4 yb5 yb6 yb7 yb8 yb9 yb10 yb11 hb2 LA; have ky := fun i => cell_of_row _ _ i _ _ _ QA2.out; have kz := fun i => cell_of_row _ _ i _ _ _ QB2.out; have ua0 := ky 0; have ua1 := ky 1; have ua2 := ky 2; have ua3 := ky 3; have ua4 := ky 4; have ua5 := ky 5; have ua6 := ky 6; have ua7 := ky 7; have ua8 := ky 8; have ua9 := ky 9; have ua10 := ky 10; have ua11 := ky 11; have ub0 := kz 0; have ub1 := kz 1; have ub2 := kz 2; have ub3 := kz 3; have ub4 := kz 4; have ub5 := kz 5; have ub6 := kz 6; have ub7 := kz 7; have ub8 := kz 8; have ub9 := kz 9; have ub10 := kz 10; have ub11 := kz 11; dsimp at ua0 ua1 ua2 ua3 ua4 ua5 ua6 ua7 ua8 ua9 ua10 ua11 ub0 ub1 ub2 ub3 ub4 ub5 ub6 ub7 ub8 ub9 ub10 ub11; clear ky kz)
    | (go_at_call 9; (with_reducible refine (LB.out _ N2.out).mono ?_); rintro e w3 ⟨rfl, hb3⟩; have N3 := Lib.hid (seqB N2.out hb3); clear hb3)
    | (go_at_call 10; refine (tawake_any _).mono ?_; rintro e w8 ⟨rfl, hb8⟩; have N8 := Lib.hid (seqB N3.out hb8); clear hb8))
  try go_ret
  exact ⟨rfl, N8.out⟩
theorem tapetexts_any (n0 n1 n2 n3 n4 n5 n6 n7 : Int) (b : Bool) (p : List UInt8) (m0 m1 m2 m3 m4 m5 m6 m7 : Int) (b2 : Bool) (p2 : List UInt8) (C D : List Crs) (S U : List Stp) (ca sa cb sb : Option Addr) (cc sc cd sd : Nat) (w : World)
    (hN : ∀ x, x ∈ [n0, n1, n2, n3, n4, n5, n6, n7] → in64 x) (hM : scM C S) (hM2 : scM D U) (h1 : CrI w ca C) (h2 : SpI w sa S) (h3 : CrI w cb D) (h4 : SpI w sb U) :
    Calls Tryd.prog 3 #[.agg #[.int .i64 n0, .int .i64 n1, .int .i64 n2, .int .i64 n3, .int .i64 n4, .int .i64 n5, .int .i64 n6, .int .i64 n7, .bool b, .string (mkL p), .slice ca C.length cc, .slice sa S.length sc], .agg #[.int .i64 m0, .int .i64 m1, .int .i64 m2, .int .i64 m3, .int .i64 m4, .int .i64 m5, .int .i64 m6, .int .i64 m7, .bool b2, .string (mkL p2), .slice cb D.length cd, .slice sb U.length sd]] w fun e w' => e = .returned (.bool true) ∧ Below w.heap.size w w' := by
  by_cases hl1 : lgA p C S
  · by_cases hl2 : lgA p2 D U
    · cases hsc : scT (([n0, n1, n2, n3, n4, n5, n6, n7], b, p), C, S) with
      | none => exact tt_none n0 n1 n2 n3 n4 n5 n6 n7 b p m0 m1 m2 m3 m4 m5 m6 m7 b2 p2 C D S U ca sa cb sb cc sc cd sd w hN hM hM2 h1 h2 h3 h4 hl1 hl2 hsc
      | some t => exact tt_some n0 n1 n2 n3 n4 n5 n6 n7 b p m0 m1 m2 m3 m4 m5 m6 m7 b2 p2 C D S U ca sa cb sb cc sc cd sd w hN hM hM2 h1 h2 h3 h4 hl1 hl2 t hsc
    · exact tt_no2 n0 n1 n2 n3 n4 n5 n6 n7 b p m0 m1 m2 m3 m4 m5 m6 m7 b2 p2 C D S U ca sa cb sb cc sc cd sd w hM hM2 h1 h2 h3 h4 hl1 hl2
  · exact tt_no1 n0 n1 n2 n3 n4 n5 n6 n7 b p m0 m1 m2 m3 m4 m5 m6 m7 b2 p2 C D S U ca sa cb sb cc sc cd sd w hM hM2 h1 h2 h3 h4 hl1
end Go.Proofs.YtnpiooaiceegmaaDoor
