/-
  Joined: ArgS Bj0 Sp4 Sp5 Es1 Bj1 Es2 Es3 Es4 Es5 Es6 Un1.
-/
import Derived.Test.YtldblffhkokhlaaDoorJV01
import Derived.Test.YtldblffhkokhlaaDoorJV03
import Derived.Test.YtldblffhkokhlaaDoorJV04
import Derived.Test.YtldblffhkokhlaaDoorJV05
import Derived.Test.YtldblffhkokhlaaDoorJV06
import Derived.Deep.SlicePairs
import Derived.ChangeArms
import Derived.Lib.LaidTab
import Derived.Lib.LaidU8
import Derived.Lib.SmallJoins
import Derived.Test.YtldblffhkokhlaaDoorShelf
import Derived.Shelf.Strings.Builder2
import Derived.Lib.UnsafeStr
import Derived.Deep.Cut
import Derived.Deep.CutRange
import Derived.Deep.RegionHeld3
import Derived.BigQuiet
import Derived.Deep.Onto
set_option linter.unusedVariables false
set_option linter.unusedSimpArgs false
set_option maxRecDepth 100000
set_option linter.unusedVariables false
set_option linter.unusedSimpArgs false
namespace Go.Proofs.YtldblffhkokhlaaDoor
open Go.ChangeShapes Go.WideShapes Go.ChangeAt Go.RowKit Go.Deep Go.Joins
section
variable {H : Type} {enc : TypeId × Value → H} {W : World}
theorem addS_none (b off k : Nat) : (⟨b, off, none⟩ : Addr).add k = ⟨b, off + k, none⟩ := by unfold Addr.add; split <;> simp_all
set_option maxRecDepth 100000 in
theorem cellsIntS : Tryd.prog.cellsOf 3 = 1 := by kernel_rfl
set_option maxRecDepth 100000 in
theorem cellsSign : Tryd.prog.cellsOf 77 = 2 := by kernel_rfl
set_option maxRecDepth 100000 in
theorem arg_signs0 {base : Nat} {v0 : Value} {d0 : DataW H} {p : List MemPlace} (hv : Value.okWide Tryd.prog W .any base 22 v0) (h : DataW.Trod enc Tryd.prog W 0 (fun _ => true) true 22 v0 d0 p) :
    ∃ (l : List (Int × Int)) (a : Option Addr) (c : Nat), v0 = .slice a l.length c ∧ Signs W a l ∧ l.length ≤ 9223372036854775807 ∧ (a = none → c = 0) := by
  obtain ⟨a0, len, cap, rfl⟩ := okWide_slice Tryd.underlying22 hv
  obtain ⟨fuel, hf⟩ := h
  rcases open_slice_pairs Tryd.underlying22 Tryd.underlying77 cellsSign rfl rfl cellsIntS cellsIntS hf with ⟨hcs, _⟩ | ⟨a, len', cap', m, n, V0, V1, D0, D1, P0, P1, hcs, _, hl, hm, hmm, _, hcell⟩
  · simp [Value.cells] at hcs
    obtain ⟨rfl, rfl, rfl⟩ := hcs
    exact ⟨[], none, 0, rfl, fun j hj => absurd hj (Nat.not_lt_zero j), by simp, fun _ => rfl⟩
  · simp [Value.cells] at hcs
    obtain ⟨rfl, rfl, rfl⟩ := hcs
    have hlm : len ≤ m := by rw [hmm]; split <;> omega
    have key : ∀ i, i < len → ∃ q : Int × Int, V0 i = .int .i64 q.1 ∧ V1 i = .int .i64 q.2 := fun i hi => by
      obtain ⟨_, _, h1, h2⟩ := hcell i (by omega)
      obtain ⟨x, hx, _, _⟩ := DataW.trod_int Tryd.underlying3 h1
      obtain ⟨y, hy, _, _⟩ := DataW.trod_int Tryd.underlying3 h2
      exact ⟨(x, y), by simpa using hx, by simpa using hy⟩
    obtain ⟨F, hF⟩ : ∃ F : Nat → Int × Int, ∀ i, i < len → V0 i = .int .i64 (F i).1 ∧ V1 i = .int .i64 (F i).2 :=
      ⟨fun i => if h : i < len then (key i h).choose else (0, 0), fun i hi => by simp only [dif_pos hi]; exact (key i hi).choose_spec⟩
    clear key
    refine ⟨(List.range len).map F, some a, cap, by simp, ?_, by simp; unfold maxLen at hm; omega, fun h => by cases h⟩
    intro j hj
    have hj2 : j < len := by simpa using hj
    obtain ⟨c0, c1, _, _⟩ := hcell j (by omega)
    have hk := hF j hj2
    obtain ⟨b, off, sp⟩ := a
    have hsp : sp = none := by
      obtain ⟨c00, _⟩ := hcell 0 (by omega)
      have h1 : W.cell? ⟨b, off, sp⟩ = some (V0 0) := by simpa [Addr.add] using c00
      exact cell_spot h1
    subst hsp
    rw [addS_none] at c0 c1
    have hg : ((List.range len).map F).getD j (0, 0) = F j := by
      rw [List.getD, List.getElem?_map, List.getElem?_range hj2]; rfl
    rw [hg]
    refine ⟨b, off, rfl, block_lt_of_cell c0, ?_, ?_⟩
    · rw [c0, hk.1]
    · rw [show off + j * 2 + 1 = off + (j * 2 + 1) by omega, c1, hk.2]
theorem arg_signs {base : Nat} {v0 : Value} {d0 : DataW H} {p : List MemPlace} (hv : Value.okWide Tryd.prog W .any base 22 v0) (h : DataW.Trod enc Tryd.prog W 0 (fun _ => true) true 22 v0 d0 p) :
    ∃ (l : List (Int × Int)) (a : Option Addr) (c : Nat), v0 = .slice a l.length c ∧ Signs W a l ∧ l.length ≤ 9223372036854775807 := by
  obtain ⟨l, a, c, h1, h2, h3, _⟩ := arg_signs0 hv h
  exact ⟨l, a, c, h1, h2, h3⟩
theorem arg_sign {base : Nat} {v0 : Value} {d0 : DataW H} {p : List MemPlace} (hv : Value.okWide Tryd.prog W .any base 77 v0) (h : DataW.Trod enc Tryd.prog W 0 (fun _ => true) true 77 v0 d0 p) :
    ∃ (x y : Int), v0 = .agg #[.int .i64 x, .int .i64 y] := by
  obtain ⟨a0, a1, y0, y1, n, rfl, rfl, rfl, h0, h1⟩ := open_agg2 Tryd.underlying77 (by kernel_rfl) cellsSign hv h
  obtain ⟨x, hx, _, _⟩ := DataW.trod_int Tryd.underlying3 h0
  obtain ⟨y, hy, _, _⟩ := DataW.trod_int Tryd.underlying3 h1
  obtain rfl : a0 = .int .i64 x := by simpa using hx
  obtain rfl : a1 = .int .i64 y := by simpa using hy
  exact ⟨x, y, rfl⟩
end
end Go.Proofs.YtldblffhkokhlaaDoor
set_option linter.unusedVariables false
set_option linter.unusedSimpArgs false
namespace Go.Proofs.YtldblffhkokhlaaDoor
open Go.RowKit
/-- Strings lie in memory. -/
def StI (w : World) (a : Option Addr) (E : List ByteArray) : Prop := ∀ i, i < E.length → ∃ b off, a = some ⟨b, off, none⟩ ∧ b < w.heap.size ∧ w.cell? ⟨b, off + i, none⟩ = some (.string (E.getD i ⟨#[]⟩))
theorem StI.below {w w' : World} {a : Option Addr} {E : List ByteArray} (h : StI w a E) (hb : Below w.heap.size w w') : StI w' a E := fun i hi => by
  obtain ⟨b, off, e, hlt, h1⟩ := h i hi
  exact ⟨b, off, e, Nat.lt_of_lt_of_le hlt hb.size, (hb.cell (p := ⟨b, off + i, none⟩) hlt).trans h1⟩
def bysL (s : ByteArray) : List UInt8 := s.data.toList
theorem bys_len (s : ByteArray) : (bysL s).length = s.size := by unfold bysL; rw [Array.length_toList]; rfl
/-- The first k texts, with sep between. -/
def joK (sep : ByteArray) (E : List ByteArray) : Nat → List UInt8
  | 0 => []
  | 1 => bysL (E.getD 0 ⟨#[]⟩)
  | k + 2 => joK sep E (k + 1) ++ bysL sep ++ bysL (E.getD (k + 1) ⟨#[]⟩)
theorem joK_len (sep : ByteArray) (E : List ByteArray) (M : Nat) (hs : sep.size ≤ M) (hE : ∀ i, (E.getD i ⟨#[]⟩).size ≤ M) : ∀ k, (joK sep E k).length ≤ 2 * k * M
  | 0 => Nat.zero_le _
  | 1 => by
    have := hE 0
    show (bysL _).length ≤ _
    have e : (bysL (E.getD 0 ⟨#[]⟩)).length = (E.getD 0 ⟨#[]⟩).size := bys_len _
    rw [e]; omega
  | k + 2 => by
    have h1 := joK_len sep E M hs hE (k + 1)
    have h2 := hE (k + 1)
    have e1 : (bysL (E.getD (k + 1) ⟨#[]⟩)).length = (E.getD (k + 1) ⟨#[]⟩).size := bys_len _
    have e2 : (bysL sep).length = sep.size := bys_len _
    show (joK sep E (k + 1) ++ bysL sep ++ bysL (E.getD (k + 1) ⟨#[]⟩)).length ≤ _
    rw [List.length_append, List.length_append, e1, e2]
    have : 2 * (k + 2) * M = 2 * (k + 1) * M + M + M := by rw [show 2 * (k + 2) = 2 * (k + 1) + 1 + 1 by omega, Nat.add_mul, Nat.add_mul]; omega
    omega
theorem bgrow_fresh (B b n : Nat) (w : World) (hB : B ≤ b) (hbk : w.heap[b]? = some (.cells #[.pointer none, .slice none 0 0] 103 (0, 0))) (hBw : B ≤ w.heap.size) (h0 : 0 < n) (hn : n ≤ 281474976710656) :
    Calls Tryd.prog 78 #[.pointer (some ⟨b, 0, none⟩), .int .i64 (n : Int)] w fun e w' => e = .returned (.tuple #[]) ∧ BldAt B b (.pointer (some ⟨b, 0, none⟩)) [] w' ∧ Below B w w' := by
  have C := Lib.hid (bcheck_fresh b w (by rw [Lib.cell_of_heap hbk]; rfl) (by simp [World.shape?, hbk]) (Lib.frozen_of_heap hbk 0))
  have hbk1 := blk_set hbk 0 (.pointer (some ⟨b, 0, none⟩))
  have hb1 : Below B w (w.setCell ⟨b, 0, none⟩ (.pointer (some ⟨b, 0, none⟩))) := (Below.refl B w).setCell (p := ⟨b, 0, none⟩) hB _
  obtain ⟨w1, hw1⟩ : ∃ v, w.setCell ⟨b, 0, none⟩ (.pointer (some ⟨b, 0, none⟩)) = v := ⟨_, rfl⟩
  rw [hw1] at C hbk1 hb1
  have c1 : w1.cell? ⟨b, 1, none⟩ = some (.slice none 0 0) := cell_of_row _ _ 1 _ _ _ hbk1
  have hni : (0 : Int) < (n : Int) := by omega
  have HBK := Lib.hid hbk1
  have HB1 := Lib.hid hb1
  have GR := Lib.hid fun (w' : World) (h : w'.heap[b]? = some (.cells #[.pointer (some ⟨b, 0, none⟩), .slice none 0 0] 103 (0, 0))) (hBw : B ≤ w'.heap.size) => Tryd.Builder_grow_fresh B b n w' hB h hBw hn
  clear hbk hbk1 hb1 hw1
  go_enter Tryd.func78, Tryd.ntmps78
  go_wp2_with (go_at_call 87; refine C.out.mono ?_; rintro e w2 ⟨rfl, rfl⟩)
  go_quiet (fail)
  have BD : Below w2.heap.size w2 (w2.drewN nq) := drewN_below (Below.refl w2.heap.size w2) nq
  have BD2 : Below B w2 (w2.drewN nq) := drewN_below (Below.refl B w2) nq
  have GR2 := Lib.hid (GR.out (w2.drewN nq) (blk_below HBK.out BD) (Nat.le_trans (Nat.le_trans hBw HB1.out.size) BD.size))
  have HD := Lib.hid (HB1.out.trans BD2)
  clear BD BD2
  generalize w2.drewN nq = W at *
  go_wp2_with (go_at_call 107; refine GR2.out.mono ?_; rintro e w3 ⟨rfl, hI, hb⟩; have HI := Lib.hid hI; have HB3 := Lib.hid hb; clear hI hb)
  go_end0
  exact ⟨rfl, HI.out, HD.out.trans HB3.out⟩
end Go.Proofs.YtldblffhkokhlaaDoor
set_option linter.unusedVariables false
set_option linter.unusedSimpArgs false
namespace Go.Proofs.YtldblffhkokhlaaDoor
open Go.RowKit
theorem blS_below {B b : Nat} {bs : List Value} {w w' : World} (h : IsBld B b bs w) (hb : Below w.heap.size w w') : IsBld B b bs w' := by
  rcases h with ⟨hB, v, h1, h2, h3⟩ | ⟨hB, v, h1, h2, h3⟩
  · exact Or.inl ⟨hB, v, blk_below h1 hb, own_below h2 hb, h3⟩
  · exact Or.inr ⟨hB, v, blk_below h1 hb, own_below h2 hb, h3⟩
theorem blS_new (w : World) : IsBld w.heap.size w.heap.size [] (w.alloc (.cells #[.pointer none, .slice none 0 0] 103)) :=
  Or.inl ⟨Nat.le_refl _, _, heap_alloc_new w _, World.ownsRow_nil _ _ _ _, by simp [Value.ownBlock]⟩
/-- A builder whose row's block is not another one. -/
theorem blS_iter {B b : Nat} {bs : List Value} {w : World} {R : Nat} {s : ByteArray} {i : Nat} (h : IsBld B b bs w) (hb : w.heap[R]? = some (.stringIter s i)) (j : Nat) : IsBld B b bs (w.iterAt R s j) := by
  have hne : ∀ v p, w.heap[b]? = some (.cells #[p, v] 103 (0, 0)) → b ≠ R := fun v p h1 e => by rw [e, hb] at h1; cases h1
  rcases h with ⟨hB, v, h1, h2, h3⟩ | ⟨hB, v, h1, h2, h3⟩
  · exact Or.inl ⟨hB, v, (Lib.iterAt_other w R b s j (hne _ _ h1)).trans h1, own_iter h2 hb j, h3⟩
  · exact Or.inr ⟨hB, v, (Lib.iterAt_other w R b s j (hne _ _ h1)).trans h1, own_iter h2 hb j, h3⟩
theorem bldAt_apart {B b : Nat} {p : Value} {bs : List Value} {w : World} {R : Nat} {s : ByteArray} {i : Nat} (h : BldAt B b p bs w) (hb : w.heap[R]? = some (.stringIter s i)) : b ≠ R := by
  obtain ⟨hB, v, h1, h2, h3⟩ := h
  intro e; rw [e, hb] at h1; cases h1
theorem bcheck_iter (B b : Nat) (bs : List Value) (w : World) (h : IsBld B b bs w) :
    Calls Tryd.prog 87 #[.pointer (some ⟨b, 0, none⟩)] w fun e w' => e = .returned (.tuple #[]) ∧ BldAt B b (.pointer (some ⟨b, 0, none⟩)) bs w' ∧ Below B w w' ∧ ∀ R, R ≠ b → w'.heap[R]? = w.heap[R]? := by
  rcases h with h | h
  · refine (bcheck_fresh b w h.cell0 h.shape h.frozen0).mono ?_
    rintro e w' ⟨rfl, rfl⟩
    exact ⟨rfl, h.used _, (Below.refl B w).setCell (p := ⟨b, 0, none⟩) h.1 _, fun R hR => Below.heap_setCell _ _ _ _ hR⟩
  · refine (bcheck_used b w h.cell0).mono ?_
    rintro e w' ⟨rfl, rfl⟩
    exact ⟨rfl, h, Below.refl B _, fun _ _ => rfl⟩
set_option maxHeartbeats 2000000 in
set_option maxRecDepth 100000 in
/-- A text comes behind what a builder has; an iterator stays. -/
theorem bwrite_iter (B b : Nat) (bs : List Value) (s : ByteArray) (w : World) (h : IsBld B b bs w) (R : Nat) (t : ByteArray) (i : Nat) (hR : w.heap[R]? = some (.stringIter t i)) (hlen : bs.length + s.size ≤ 140737488355328) (hBw : B ≤ w.heap.size) :
    Calls Tryd.prog 57 #[.pointer (some ⟨b, 0, none⟩), .string s] w fun e w' => e = .returned (.tuple #[.int .i64 s.size, .nilIface]) ∧ IsBld B b (bs ++ Lib.strCells s) w' ∧ Below B w w' ∧ w'.heap[R]? = some (.stringIter t i) := by
  obtain ⟨i0, hi, hz0, hz1, hz2⟩ := info_parts infoU8
  have C := Lib.hid (bcheck_iter B b bs w h)
  have hRb : R ≠ b := fun e => by
    rcases h with ⟨_, v, h1, _⟩ | ⟨_, v, h1, _⟩
    · rw [← e, hR] at h1; cases h1
    · rw [← e, hR] at h1; cases h1
  have HR := Lib.hid hR
  have hRl := blk_lt hR
  clear h hR
  go_enter Tryd.func57, Tryd.ntmps57
  go_wp2_with (go_at_call 87; refine C.out.mono ?_)
  rintro e w1 ⟨rfl, hB1, hb1, hk1⟩
  obtain ⟨hB, v, hbk, hown, hne⟩ := hB1
  have hR1 := (hk1 R hRb).trans HR.out
  have c0 := Lib.cell_of_heap hbk 0; have c1 := Lib.cell_of_heap hbk 1
  dsimp at c0 c1
  have HR1 := Lib.hid hR1
  have hap := Lib.hid (own_apart hown hR1)
  clear hR1 hk1
  go_wp2_with (at_builtin; refine Lib.wpList_append_own_string _ rfl _ _ 59 9 rfl B 5 i0 Tryd.underlying59 Tryd.underlying9 hi hz0 hz1 hz2 _ _ _ rfl hown s rfl ?g3 ?g4 ?g5 ?_)
  case g3 => unfold maxLen; omega
  case g4 => omega
  case g5 => have := hb1.size; omega
  intro v' w2 hown' hgrow _
  have hlt := blk_lt hbk
  have hb2 : w2.heap[b]? = some (.cells #[.pointer (some ⟨b, 0, none⟩), v] 103 (0, 0)) := (hgrow.block b hlt (fun e => hne e.symm)).trans hbk
  have hR2 : Hid (w2.heap[R]? = some (.stringIter t i)) := Lib.hid ((hgrow.block R (blk_lt HR1.out) (fun e => hap.out e.symm)).trans HR1.out)
  have d0 := Lib.cell_of_heap hb2 0
  have d1 := Lib.cell_of_heap hb2 1
  have f1 : w2.frozen? ⟨b, 1, none⟩ = false := Lib.frozen_of_heap hb2 1
  dsimp at d0 d1
  obtain ⟨ao, n', cap, rfl⟩ : ∃ ao n' cap, v' = .slice ao n' cap := by
    rcases hown'.2 with ⟨hv, _⟩ | ⟨g, cap, cur, hv, _⟩
    · exact ⟨_, _, _, hv⟩
    · exact ⟨_, _, _, hv⟩
  go_wp2
  go_ret2
  refine ⟨rfl, Or.inr ?_, ?_, (Below.heap_setCell _ _ _ _ hRb).trans hR2.out⟩
  · exact Lib.BuilderAt.put (T := 103) (e := 5) hB hb2 (bs' := bs ++ Lib.strCells s) (by simpa [Lib.strCells_length] using hown') (by decide)
  · exact (hb1.grown hgrow (by have := hb1.size; omega) (fun k hk => (hown.lt k hk).1)).setCell (p := ⟨b, 1, none⟩) hB _
end Go.Proofs.YtldblffhkokhlaaDoor
set_option linter.unusedVariables false
set_option linter.unusedSimpArgs false
namespace Go.Proofs.YtldblffhkokhlaaDoor
open Go.RowKit
structure SpInv (f : Int → List UInt8) (s : ByteArray) (w : World) (R : Nat) (i n : Nat) (acc : List Int) (wr : World) : Prop where
  b : IsBld w.heap.size w.heap.size (Lib.byteCells (tellL f acc)) wr
  it : wr.heap[R]? = some (.stringIter s i)
  bel : Below w.heap.size w wr
  ac : acc ++ valsF s n i = valsS s
  le : i ≤ s.size
  fu : s.size ≤ i + n
  al : acc.length ≤ i
theorem one_at (s : ByteArray) (i : Nat) (w : World) (hT : UT w) (hs : s.size ≤ 100000) (hi : i < s.size) : Calls Tryd.prog 117 #[.string (s.extract i s.size)] w fun e w' => e = .returned (.tuple #[.int .i64 ((vAt s i).1 : Int), .int .i64 ((vAt s i).2 : Int)]) ∧ Below w.heap.size w w' := by
  have h := one_any (s.extract i s.size) w hT (by rw [ext_size]; omega)
  have e : oneS (s.extract i s.size) = vAt s i := by
    unfold oneS; rw [if_neg (by rw [ext_size]; omega), vAt_tail s i 0 (by omega)]; rfl
  rw [e] at h
  exact h
end Go.Proofs.YtldblffhkokhlaaDoor
set_option linter.unusedVariables false
set_option linter.unusedSimpArgs false
namespace Go.Proofs.YtldblffhkokhlaaDoor
open Go.RowKit
/-- A value's letters. -/
def leF (v : Int) : List UInt8 := if v = 92 then [92, 92] else if 32 ≤ v ∧ v ≤ 126 then [v.toNat.toUInt8] else 92 :: 117 :: hexS v 6
def lnL (l : List (Int × Int)) : List UInt8 := l.flatMap fun p => leF p.1
theorem right_rng {v : Int} (h : rightB v = true) : 0 ≤ v ∧ v ≤ 1114367 := by
  unfold rightB at h
  rw [Bool.or_eq_true, ptB_iff, stB_iff] at h
  omega
theorem hex6 {v : Int} (h : rightB v = true) : hexS v 6 = hexL v 6 ∧ (hexL v 6).length = 6 ∧ uhR (hexL v 6) = v ∧ uhE (hexL v 6) = 0 ∧ ∀ c ∈ hexL v 6, 48 ≤ c.toNat ∧ c.toNat ≤ 70 := by
  have hr := right_rng h
  have hl := hexL_len v 6 6 (Nat.lt_of_le_of_lt (show v.toNat ≤ 1114367 by omega) (by decide)) (by decide) (by decide)
  have hn : (hexL v 6).length = 6 := by
    have : (6 : Int).toNat = 6 := rfl
    omega
  have hu := uh_hex v 6 hr.1 (by omega) (by rw [hexN_L v 6 (by omega)]; omega)
  rw [hexN_L v 6 (by omega)] at hu
  exact ⟨hexS_L v 6 hr.1 (by omega) (by omega), hn, hu.1, hu.2, hexL_ascii v 6⟩
theorem leF_ascii {v : Int} (h : rightB v = true) : ∀ c ∈ leF v, 32 ≤ c.toNat ∧ c.toNat ≤ 126 := by
  intro c hc
  unfold leF at hc
  split at hc
  · simp at hc; subst hc; decide
  · split at hc
    · rename_i h1 h2
      rw [List.mem_singleton] at hc
      subst hc
      have := u8_nat (x := v) (by omega) (by omega)
      omega
    · rw [(hex6 h).1] at hc
      simp only [List.mem_cons] at hc
      rcases hc with rfl | rfl | hc
      · decide
      · decide
      · have := (hex6 h).2.2.2.2 c hc; omega
theorem leF_len {v : Int} (h : rightB v = true) : 1 ≤ (leF v).length ∧ (leF v).length ≤ 8 := by
  unfold leF
  split
  · simp
  · split
    · simp
    · rw [(hex6 h).1]; simp [(hex6 h).2.1]
theorem sg_right {l : List (Int × Int)} (h : sgC l = true) : ∀ p ∈ l, rightB p.1 = true := by
  intro p hp
  unfold sgC at h
  rw [List.all_eq_true] at h
  have := h p hp
  unfold sgR at this
  rw [Bool.and_eq_true, Bool.and_eq_true] at this
  exact this.2.2
theorem lnL_ascii {l : List (Int × Int)} (h : sgC l = true) : ∀ c ∈ lnL l, 32 ≤ c.toNat ∧ c.toNat ≤ 126 := by
  intro c hc
  unfold lnL at hc
  rw [List.mem_flatMap] at hc
  obtain ⟨p, hp, hc⟩ := hc
  exact leF_ascii (sg_right h p hp) c hc
theorem lnL_cons (p : Int × Int) (l : List (Int × Int)) : lnL (p :: l) = leF p.1 ++ lnL l := rfl
theorem lnL_app (a b : List (Int × Int)) : lnL (a ++ b) = lnL a ++ lnL b := by unfold lnL; rw [List.flatMap_append]
theorem lnL_len {l : List (Int × Int)} (h : ∀ p ∈ l, rightB p.1 = true) : (lnL l).length ≤ 8 * l.length := by
  induction l with
  | nil => exact Nat.zero_le _
  | cons p l ih =>
    rw [lnL_cons, List.length_append, List.length_cons]
    have := (leF_len (h p (List.mem_cons_self ..))).2
    have := ih (fun q hq => h q (List.mem_cons_of_mem _ hq))
    omega
/-- The next value of letters, and of how many bytes it is. -/
def nxF (l : List UInt8) : Int × Nat :=
  if l.take 2 = [92, 92] then (92, 2)
  else if l.take 2 = [92, 117] ∧ 8 ≤ l.length ∧ uhE ((l.drop 2).take 6) = 0 ∧ rightB (uhR ((l.drop 2).take 6)) = true then (uhR ((l.drop 2).take 6), 8)
  else (((l.headD 0).toNat : Int), 1)
theorem nx_le {v : Int} (h : rightB v = true) (r : List UInt8) : nxF (leF v ++ r) = (v, (leF v).length) := by
  unfold nxF leF
  by_cases h1 : v = 92
  · subst h1; rw [if_pos rfl]; rfl
  · rw [if_neg h1]
    by_cases h2 : 32 ≤ v ∧ v ≤ 126
    · rw [if_pos h2]
      have hne : v.toNat.toUInt8 ≠ 92 := fun e => by
        have := u8_nat (x := v) (by omega) (by omega)
        rw [e] at this
        have : (92 : UInt8).toNat = 92 := rfl
        omega
      have ht : ∀ x, ([v.toNat.toUInt8] ++ r).take 2 ≠ [92, x] := fun x e => by
        cases r with
        | nil => simp at e
        | cons y r => simp at e; exact hne e.1
      rw [if_neg (ht 92), if_neg (fun e => ht 117 e.1)]
      have := u8_nat (x := v) (by omega) (by omega)
      show (((v.toNat.toUInt8).toNat : Int), 1) = _
      rw [this]
      refine Prod.ext ?_ rfl
      show ((v.toNat : Nat) : Int) = v
      omega
    · rw [if_neg h2]
      obtain ⟨e1, e2, e3, e4, _⟩ := hex6 h
      rw [e1]
      have ht : (92 :: 117 :: hexL v 6 ++ r).take 2 = [92, 117] := rfl
      have hd : ((92 :: 117 :: hexL v 6 ++ r).drop 2).take 6 = hexL v 6 := by
        show (hexL v 6 ++ r).take 6 = hexL v 6
        rw [List.take_append_of_le_length (by omega), List.take_of_length_le (by omega)]
      rw [ht, hd, if_neg (by decide), if_pos ⟨rfl, by simp [e2], e4, by rw [e3]; exact h⟩, e3]
      refine Prod.ext rfl ?_
      simp [e2]
/-- The values of letters, at most so many. -/
def unF : Nat → List UInt8 → Nat → List Int
  | 0, _, _ => []
  | f + 1, l, k => if l = [] then [] else match k with
    | 0 => []
    | k + 1 => (nxF l).1 :: unF f (l.drop (nxF l).2) k
theorem nx_pos (l : List UInt8) : 1 ≤ (nxF l).2 := by
  unfold nxF; split
  · show 1 ≤ 2; omega
  · split
    · show 1 ≤ 8; omega
    · show 1 ≤ 1; omega
theorem un_ln {l : List (Int × Int)} (h : ∀ p ∈ l, rightB p.1 = true) : ∀ f k, (lnL l).length ≤ f → l.length ≤ k → unF f (lnL l) k = l.map (·.1) := by
  induction l with
  | nil =>
    intro f k hf hk
    cases f with
    | zero => rfl
    | succ f => unfold unF; rw [if_pos (show lnL [] = [] from rfl)]; rfl
  | cons p l ih =>
    intro f k hf hk
    have hp := h p (List.mem_cons_self ..)
    have hl := leF_len hp
    rw [lnL_cons, List.length_append] at hf
    obtain ⟨g, rfl⟩ : ∃ g, f = g + 1 := ⟨f - 1, by omega⟩
    obtain ⟨m, rfl⟩ : ∃ m, k = m + 1 := ⟨k - 1, by simp at hk; omega⟩
    rw [lnL_cons]
    unfold unF
    rw [if_neg (fun e => by have := congrArg List.length e; rw [List.length_append] at this; simp at this; have := this.1; rw [this] at hl; simp at hl)]
    show (nxF _).1 :: unF g _ m = _
    rw [nx_le hp, List.drop_append_of_le_length (Nat.le_refl _), List.drop_of_length_le (Nat.le_refl _), List.nil_append, ih (fun q hq => h q (List.mem_cons_of_mem _ hq)) g m (by omega) (by simp at hk; omega)]
    rfl
/-- Unlike entries have unlike lines. -/
theorem ln_inj {a b : List (Int × Int)} (ha : ∀ p ∈ a, rightB p.1 = true) (hb : ∀ p ∈ b, rightB p.1 = true) (h : lnL a = lnL b) : a.map (·.1) = b.map (·.1) := by
  rw [← un_ln ha ((lnL a).length + (lnL b).length) (a.length + b.length) (by omega) (by omega), ← un_ln hb ((lnL a).length + (lnL b).length) (a.length + b.length) (by omega) (by omega), h]
theorem ln_vals {a b : List (Int × Int)} (h : a.map (·.1) = b.map (·.1)) : lnL a = lnL b := by
  have key : ∀ l : List (Int × Int), lnL l = (l.map (·.1)).flatMap leF := fun l => by
    unfold lnL; rw [List.flatMap_map]
  rw [key, key, h]
end Go.Proofs.YtldblffhkokhlaaDoor
set_option linter.unusedVariables false
set_option linter.unusedSimpArgs false
namespace Go.Proofs.YtldblffhkokhlaaDoor
open Go.RowKit
theorem jbld_below {B b : Nat} {bs : List Value} {w w' : World} (h : IsBld B b bs w) (hb : Below w.heap.size w w') : IsBld B b bs w' := by
  rcases h with ⟨hB, v, h1, h2, h3⟩ | ⟨hB, v, h1, h2, h3⟩
  · exact Or.inl ⟨hB, v, blk_below h1 hb, own_below h2 hb, h3⟩
  · exact Or.inr ⟨hB, v, blk_below h1 hb, own_below h2 hb, h3⟩
def szK (E : List ByteArray) : Nat → Nat
  | 0 => 0
  | k + 1 => szK E k + (E.getD k ⟨#[]⟩).size
theorem szK_le (E : List ByteArray) (M : Nat) (hE : ∀ i, (E.getD i ⟨#[]⟩).size ≤ M) : ∀ k, szK E k ≤ k * M
  | 0 => Nat.zero_le _
  | k + 1 => by
    have h1 := szK_le E M hE k
    have h2 := hE k
    show szK E k + (E.getD k ⟨#[]⟩).size ≤ _
    rw [Nat.add_mul]; omega
theorem elemST : Tryd.prog.elem 83 = 9 := by kernel_rfl
theorem sizeST (w : World) : (sizeOf 9).run Tryd.prog w = .ok 1 w := by kernel_rfl
theorem run_cutST (w : World) (a : Option Addr) (n c f : Nat) (h : f ≤ n) : (Instr.slice 83 (.slice a n c) (some (.int .i64 (f : Int))) none none).run Tryd.prog w = .ok (.slice (if c = f then a else a.map (·.add (f * 1))) (n - f) (c - f)) w := by
  rw [run_slice_l (P := Tryd.prog) w 83 a n c (by kernel_rfl) .i64 (f : Int) (by omega) (by omega), elemST, sizeST]
  rfl
theorem run_cutST1 (w : World) (b off n c : Nat) (h : 2 ≤ n) (hc : n ≤ c) : (Instr.slice 83 (.slice (some ⟨b, off, none⟩) n c) (some (.int .i64 1)) none none).run Tryd.prog w = .ok (.slice (some ⟨b, off + 1, none⟩) (n - 1) (c - 1)) w := by
  have := run_cutST w (some ⟨b, off, none⟩) n c 1 (by omega)
  rw [if_neg (by omega)] at this
  rw [show (some (Value.int .i64 ((1 : Nat) : Int))) = some (.int .i64 1) from rfl] at this
  rw [this, Option.map_some]
  have hadd : (⟨b, off, none⟩ : Addr).add (1 * 1) = ⟨b, off + 1, none⟩ := by unfold Addr.add; split <;> simp_all
  rw [hadd]
theorem bys_cells (l : List UInt8) (s : ByteArray) : Lib.byteCells (l ++ bysL s) = Lib.byteCells l ++ Lib.strCells s := by rw [Lib.byteCells_append]; rfl
theorem quo_big (k : Nat) (h0 : 0 < k) (h : k ≤ 1000000) : (1000000 : Int) < 9223372036854775807 / (k : Int) := by
  have h1 : (0 : Int) < (k : Int) := by omega
  have h2 : (9223372036854 : Int) ≤ 9223372036854775807 / (k : Int) := by
    apply Int.le_ediv_of_mul_le h1
    have : (9223372036854 : Int) * (k : Int) ≤ 9223372036854 * 1000000 := by omega
    omega
  omega
set_option maxHeartbeats 4000000 in
theorem join_any (sep : ByteArray) (E : List ByteArray) (a : Option Addr) (c : Nat) (w : World) (hs0 : 0 < sep.size) (hs : sep.size ≤ 1000000) (hE : ∀ i, (E.getD i ⟨#[]⟩).size ≤ 1000000) (h2 : 2 ≤ E.length) (hm : E.length ≤ 1000000) (hc : E.length ≤ c) (h : StI w a E) :
    Calls Tryd.prog 43 #[.slice a E.length c, .string sep] w fun e w' => e = .returned (.string ⟨(joK sep E E.length).toArray⟩) ∧ Below w.heap.size w w' := by
  obtain ⟨b, off, rfl, hbl, h0⟩ := h 0 (by omega)
  have hb0 := hbl
  rw [Nat.add_zero] at h0
  have HI := Lib.hid h
  have HE := Lib.hid hE
  have hq := quo_big (E.length - 1) (by omega) (by omega)
  have hqc : ((E.length - 1 : Nat) : Int) = (E.length : Int) - 1 := by omega
  rw [hqc] at hq
  have hq2 : ¬ (9223372036854775807 / ((E.length : Int) - 1) ≤ (sep.size : Int)) := by omega
  have hl1 : ¬ ((E.length : Int) = 0) := by omega
  have hl2 : ¬ ((E.length : Int) = 1) := by omega
  have hl3 : ¬ ((E.length : Int) - 1 = 0) := by omega
  obtain ⟨n0, hn0⟩ : ∃ n0 : Nat, sep.size * (E.length - 1) = n0 := ⟨_, rfl⟩
  have hn1 : (sep.size : Int) * ((E.length : Int) - 1) = (n0 : Int) := by rw [← hqc, ← hn0, Int.natCast_mul]
  have hn2 : n0 ≤ 1000000000000 := by have := Nat.mul_le_mul hs (show E.length - 1 ≤ 1000000 by omega); omega
  have hn3 : 0 < n0 := by have := Nat.mul_pos hs0 (show 0 < E.length - 1 by omega); omega
  clear h hE hn0 hqc
  go_enter Tryd.func43, Tryd.ntmps43
  go_wp2
  go_loopw [5, 41] (fun sv iv wr => ∃ k : Nat, k ≤ E.length ∧ sv = .int .i64 ((n0 : Int) + (szK E k : Int)) ∧ iv = .int .i64 (k : Int) ∧ w = wr) (fun _ iv _ => E.length - (intOf iv).toNat)
  case atStart => exact ⟨0, Nat.zero_le _, by simp [szK], rfl, rfl⟩
  case round =>
    obtain ⟨k, hk, rfl, rfl, rfl⟩ := hrel
    have hsz := szK_le E 1000000 HE.out k
    have hz2 : szK E k ≤ 1000000000000 := by omega
    by_cases hlt : k < E.length
    · obtain ⟨b', off', e', hbl', hck⟩ := HI.out k hlt
      obtain ⟨rfl, rfl⟩ : b = b' ∧ off = off' := by simpa using e'
      have hk1 : (k : Int) < E.length := by omega
      have hk0 : (0 : Int) ≤ k := by omega
      have hek := HE.out k
      have hsk : szK E (k + 1) = szK E k + (E.getD k ⟨#[]⟩).size := rfl
      have HSK := Lib.hid hsk
      clear hsk e'
      generalize E.getD k ⟨#[]⟩ = u at *
      generalize szK E k = z at *
      go_wp2
      go_roundw
      case rel => exact ⟨k + 1, by omega, by rw [HSK.out]; go_num, by go_num, trivial⟩
      case measure => (simp [intOf]; try omega)
    · obtain rfl : k = E.length := by omega
      have hN0 : 0 < n0 + szK E E.length := by omega
      have hN1 : n0 + szK E E.length ≤ 281474976710656 := by omega
      have hNc : (n0 : Int) + (szK E E.length : Int) = ((n0 + szK E E.length : Nat) : Int) := by omega
      rw [hNc]
      generalize n0 + szK E E.length = N at *
      have B0 := below_alloc w (.cells #[.pointer none, .slice none 0 0] 103)
      have G0 := Lib.hid (bgrow_fresh w.heap.size w.heap.size N (w.alloc (.cells #[.pointer none, .slice none 0 0] 103)) (Nat.le_refl _) (heap_alloc_new w _) B0.size hN0 hN1)
      have HB0 := Lib.hid B0
      have HI0 := Lib.hid (HI.out.below B0)
      have hcut : ∀ w : World, (Instr.slice 83 (.slice (some ⟨b, off, none⟩) E.length c) (some (.int .i64 1)) none none).run Tryd.prog w = .ok (.slice (some ⟨b, off + 1, none⟩) (E.length - 1) (c - 1)) w := fun w => run_cutST1 w b off _ _ h2 hc
      clear hn1 hn2 hn3 hq hq2 hz2 hsz hNc hN0 hN1 B0
      have WR := Lib.hid (fun (bs : List Value) (s : ByteArray) (w' : World) h hl hB => bwrite_any w.heap.size w.heap.size bs s w' h hl hB)
      have hz0 : (E.getD 0 ⟨#[]⟩).size ≤ 1000000 := HE.out 0
      have jl0 : Hid (Lib.byteCells (joK sep E 1) = [] ++ Lib.strCells (E.getD 0 ⟨#[]⟩)) := Lib.hid rfl
      obtain ⟨u0, hu0⟩ : ∃ u0, E.getD 0 ⟨#[]⟩ = u0 := ⟨_, rfl⟩
      rw [hu0] at hz0 jl0 h0
      clear hu0
      have HZ0 := Lib.hid (show ([] : List Value).length + u0.size ≤ 140737488355328 by rw [List.length_nil]; omega)
      clear hz0
      go_wp2_with (first
        | (go_at_call 78; refine G0.out.mono ?_; rintro e w2 ⟨rfl, hI2, hb2⟩; have I2 := Lib.hid (Or.inr hI2 : IsBld w.heap.size w.heap.size [] w2); have N2 := Lib.hid (HB0.out.trans hb2); have c2 : w2.cell? ⟨b, off, none⟩ = some (.string u0) := (N2.out.cell (p := ⟨b, off, none⟩) hb0).trans h0)
        | (go_at_call 57; refine (WR.out _ _ _ I2.out HZ0.out N2.out.size).mono ?_; rintro e w3 ⟨rfl, hI3, hb3⟩; have I3 := Lib.hid hI3; have N3 := Lib.hid (N2.out.trans hb3)))
      have HS := Lib.hid hs
      have H0 := Lib.hid h0
      clear hs h0 hcut
      go_loopw [65] (fun iv wr => ∃ k : Nat, k + 1 ≤ E.length ∧ iv = .int .i64 (k : Int) ∧ Hid (IsBld w.heap.size w.heap.size (Lib.byteCells (joK sep E (k + 1))) wr) ∧ Below w.heap.size w wr) (fun iv _ => E.length - (intOf iv).toNat)
      case atStart => exact ⟨0, by omega, rfl, Lib.hid (Or.inr (by rw [jl0.out]; exact I3.out)), N3.out⟩
      case round =>
        obtain ⟨k, hk, rfl, hI, hb⟩ := hrel
        by_cases hlt : k + 1 < E.length
        · obtain ⟨b', off', e', hbl', hck⟩ := HI.out (k + 1) hlt
          obtain ⟨rfl, rfl⟩ : b = b' ∧ off = off' := by simpa using e'
          have ck : wr.cell? ⟨b, off + 1 + k, none⟩ = some (.string (E.getD (k + 1) ⟨#[]⟩)) := by
            rw [show off + 1 + k = off + (k + 1) by omega]; exact (hb.cell (p := ⟨b, off + (k + 1), none⟩) hbl').trans hck
          have hk1 : (k : Int) < ((E.length - 1 : Nat) : Int) := by omega
          have hk0 : (0 : Int) ≤ k := by omega
          have hek := HE.out (k + 1)
          have hjl := joK_len sep E 1000000 HS.out HE.out (k + 1)
          have hnx : Hid (Lib.byteCells (joK sep E (k + 1 + 1)) = (Lib.byteCells (joK sep E (k + 1)) ++ Lib.strCells sep) ++ Lib.strCells (E.getD (k + 1) ⟨#[]⟩)) := Lib.hid (by
            show Lib.byteCells (joK sep E (k + 1) ++ bysL sep ++ bysL (E.getD (k + 1) ⟨#[]⟩)) = _
            rw [bys_cells, bys_cells])
          have hcl : Hid ((Lib.byteCells (joK sep E (k + 1))).length ≤ 2 * (k + 1) * 1000000) := Lib.hid (by rw [Lib.byteCells_length]; exact hjl)
          clear e' hck hjl
          have HEK := Lib.hid hek
          generalize E.getD (k + 1) ⟨#[]⟩ = u at *
          generalize Lib.byteCells (joK sep E (k + 1)) = bs at *
          have hl1 : bs.length + sep.size ≤ 140737488355328 := by have := hcl.out; have := HS.out; omega
          have hl2 : (bs ++ Lib.strCells sep).length + u.size ≤ 140737488355328 := by rw [List.length_append, Lib.strCells_length]; have := hcl.out; have := HS.out; have := HEK.out; omega
          have HL1 := Lib.hid hl1
          have HL2 := Lib.hid hl2
          have HB := Lib.hid hb
          clear hl1 hl2 hek
          go_wp2_with (first
            | (go_at_call 57; refine (WR.out _ sep _ hI.out HL1.out HB.out.size).mono ?_; rintro e w4 ⟨rfl, hI4, hb4⟩; have I4 := Lib.hid (Or.inr hI4 : IsBld w.heap.size w.heap.size _ w4); have N4 := Lib.hid (HB.out.trans hb4); clear HL1 hI4 hb4)
            | (go_at_call 57; refine (WR.out _ u _ I4.out HL2.out N4.out.size).mono ?_; rintro e w5 ⟨rfl, hI5, hb5⟩; have I5 := Lib.hid hI5; have N5 := Lib.hid (N4.out.trans hb5); clear hI5 hb5))
          go_roundw
          case rel => exact ⟨k + 1, by omega, by go_num, Lib.hid (Or.inr (by rw [hnx.out]; exact I5.out)), N5.out⟩
          case measure => (simp [intOf]; try omega)
        · have hkE : k + 1 = E.length := by omega
          have hk1 : ¬ ((k : Int) < ((E.length - 1 : Nat) : Int)) := by omega
          rw [hkE] at hI
          have ST2 := Lib.hid (Tryd.Builder_String_any w.heap.size w.heap.size (joK sep E E.length) wr hI.out hb.size)
          have HB := Lib.hid hb
          go_wp2_with (go_at_call 58; refine ST2.out.mono ?_; rintro e w6 ⟨rfl, hb6⟩; have N6 := Lib.hid (HB.out.trans hb6); clear hb6)
          go_ret
          exact ⟨rfl, N6.out⟩
end Go.Proofs.YtldblffhkokhlaaDoor
set_option linter.unusedVariables false
set_option linter.unusedSimpArgs false
namespace Go.Proofs.YtldblffhkokhlaaDoor
open Go.RowKit
theorem letters_any (v : Int) (w : World) (hr : rightB v = true) : Calls Tryd.prog 77 #[.int .i64 v] w fun e w' => e = .returned (.string (mkL (leF v))) ∧ Below w.heap.size w w' := by
  have hg := right_rng hr
  unfold leF
  by_cases h1 : v = 92
  · subst h1
    rw [if_pos rfl]
    go_enter Tryd.func77, Tryd.ntmps77
    go_wp2
    go_ret
    exact ⟨rfl, Below.refl _ _⟩
  · have h1b : (v == 92) = false := beq_eq_false_iff_ne.2 h1
    rw [if_neg h1]
    by_cases h2 : 32 ≤ v ∧ v ≤ 126
    · rw [if_pos h2]
      have h3 : (32 : Int) ≤ v := h2.1
      have h4 : v ≤ (126 : Int) := h2.2
      have hcv : ∀ dst, Tryd.prog.underlying dst = some .string → (convert 59 dst (.slice (some ⟨w.heap.size, 0, none⟩) 1 1)).run Tryd.prog (w.alloc (Obj.cells #[.int .u8 v] 5)) = .ok (.string (mkL [v.toNat.toUInt8])) (w.alloc (Obj.cells #[.int .u8 v] 5)) := conv_new w [v] 1 rfl
      clear h2 hr hg h1
      go_enter Tryd.func77, Tryd.ntmps77
      go_wp2
      go_ret
      exact ⟨rfl, below_alloc _ _⟩
    · rw [if_neg h2]
      have HX := fun w => hex_any v 6 w (by omega) (by omega)
      have hcat : (⟨#[92, 117]⟩ : ByteArray) ++ ⟨(hexS v 6).toArray⟩ = mkL (92 :: 117 :: hexS v 6) := ba_app [92, 117] _
      have hsz : (⟨(hexS v 6).toArray⟩ : ByteArray).size ≤ 20 := by
        rw [size_list, (hex6 hr).1]
        have := (hex6 hr).2.1
        omega
      rw [← hcat]
      clear hcat
      generalize (⟨(hexS v 6).toArray⟩ : ByteArray) = u at *
      replace HX := Lib.hid HX
      clear hr
      by_cases h3 : (32 : Int) ≤ v
      · have h4 : ¬ v ≤ (126 : Int) := fun h => h2 ⟨h3, h⟩
        clear h2 hg h1
        go_enter Tryd.func77, Tryd.ntmps77
        go_wp2_with (go_at_call 106; refine (HX.out _).mono ?_; rintro e w1 ⟨rfl, hb1⟩)
        go_ret
        exact ⟨rfl, hb1⟩
      · clear h2 hg h1
        go_enter Tryd.func77, Tryd.ntmps77
        go_wp2_with (go_at_call 106; refine (HX.out _).mono ?_; rintro e w1 ⟨rfl, hb1⟩)
        go_ret
        exact ⟨rfl, hb1⟩
theorem ln_take (l : List (Int × Int)) (k : Nat) (h : k < l.length) : lnL (l.take (k + 1)) = lnL (l.take k) ++ leF (l.getD k (0, 0)).1 := by
  rw [List.take_succ_eq_append_getElem h, lnL_app, List.getD, List.getElem?_eq_getElem h]
  unfold lnL
  rw [List.flatMap_cons, List.flatMap_nil, List.append_nil]; rfl
set_option maxRecDepth 100000 in
set_option maxHeartbeats 4000000 in
theorem eline_any (l : List (Int × Int)) (a : Option Addr) (c : Nat) (w : World) (hl : l.length ≤ 100000) (hs : Signs w a l) (hok : sgC l = true) : Calls Tryd.prog 42 #[.slice a l.length c] w fun e w' => e = .returned (.tuple #[.string (mkL (lnL l)), .int .i64 0]) ∧ Below w.heap.size w w' := by
  have CH := scheck_any l a c w (by omega) hs
  rw [sgE_yes hok] at CH
  have HS := Lib.hid hs
  have HR := Lib.hid (sg_right hok)
  replace CH := Lib.hid CH
  clear hs hok
  go_enter Tryd.func42, Tryd.ntmps42
  go_upto_region 5 with (go_at_call 49; refine CH.out.mono ?_; rintro e w0 ⟨rfl, hb0⟩)
  have B0 := below_alloc w0 (.cells #[.pointer none, .slice none 0 0] 103)
  have I0 := blS_new w0
  have N0 := seqB hb0 B0
  obtain ⟨W0, hW0⟩ : ∃ W0, w0.alloc (.cells #[.pointer none, .slice none 0 0] 103) = W0 := ⟨_, rfl⟩
  rw [hW0] at B0 I0 N0 ⊢
  obtain ⟨B, hB⟩ : ∃ B, w0.heap.size = B := ⟨_, rfl⟩
  rw [hB] at I0 ⊢
  have hBw : Hid (w.heap.size ≤ B) := Lib.hid (by have := hb0.size; omega)
  have HI0 := Lib.hid I0
  have HN0 := Lib.hid N0
  clear B0 I0 N0 hW0 hb0 hB
  go_upto_region 6 with fail
  go_loopw [15] (fun iv wr => ∃ k : Nat, k ≤ l.length ∧ iv = .int .i64 (k : Int) ∧ Hid (IsBld B B (Lib.byteCells (lnL (l.take k))) wr) ∧ Hid (B ≤ wr.heap.size) ∧ Hid (Below w.heap.size w wr)) (fun iv _ => l.length - (intOf iv).toNat)
  case atStart => exact ⟨0, Nat.zero_le _, rfl, HI0, Lib.hid (by rcases HI0.out with ⟨h, v, h1, _⟩ | ⟨h, v, h1, _⟩ <;> exact Nat.le_of_lt (blk_lt h1)), HN0⟩
  case round =>
    obtain ⟨k, hk, rfl, HI, HBs, HB⟩ := hrel
    clear HI0 HN0
    by_cases hlt : k < l.length
    · have hk1 : (k : Int) < l.length := by omega
      have hk0 : (0 : Int) ≤ k := by omega
      obtain ⟨bb, off, rfl, hblt, c0, c1⟩ := (HS.out.below HB.out) k hlt
      have htk := ln_take l k hlt
      have hr := HR.out (l.getD k (0, 0)) (by rw [List.getD, List.getElem?_eq_getElem hlt]; exact List.getElem_mem hlt)
      have hlen := lnL_len (l := l.take k) (fun p hp => HR.out p (List.mem_of_mem_take hp))
      rw [List.length_take] at hlen
      obtain ⟨v, u, hp⟩ : ∃ v u, l.getD k (0, 0) = (v, u) := ⟨_, _, rfl⟩
      rw [hp] at c0 c1 htk hr
      dsimp only at c0 c1 htk hr
      have LE := fun w => letters_any v w hr
      have hle := leF_len hr
      have hs8 : (mkL (leF v)).size = (leF v).length := size_list _
      have hcell : Hid (Lib.byteCells (lnL (l.take (k + 1))) = Lib.byteCells (lnL (l.take k)) ++ Lib.strCells (mkL (leF v))) := Lib.hid (by rw [htk, Lib.byteCells_append]; rfl)
      have hbl : (Lib.byteCells (lnL (l.take k))).length + (mkL (leF v)).size ≤ 140737488355328 := by rw [Lib.byteCells_length]; omega
      have WR := Lib.hid (fun (w : World) h hB => bwrite_any B B (Lib.byteCells (lnL (l.take k))) (mkL (leF v)) w h hbl hB)
      have B1 := below_alloc wr (.cells #[.int .i64 v, .int .i64 u] 77)
      have q1 := heap_alloc_new wr (.cells #[.int .i64 v, .int .i64 u] 77)
      have I1 := Lib.hid (blS_below HI.out B1)
      have N1 := Lib.hid (HB.out.trans (B1.mono HB.out.size))
      have S1 := Lib.hid (Nat.le_trans HBs.out B1.size)
      clear htk hlen hle hs8 hbl hp HI
      generalize mkL (leF v) = t at *
      generalize Lib.byteCells (lnL (l.take k)) = bs at *
      replace LE := Lib.hid LE
      clear hr
      go_wp2_with (first
        | (go_at_call 77; refine (LE.out _).mono ?_; rintro e w2 ⟨rfl, hb2⟩; have I2 := Lib.hid (blS_below I1.out hb2); have N2 := Lib.hid (N1.out.trans (hb2.mono N1.out.size)); have S2 := Lib.hid (Nat.le_trans S1.out hb2.size); clear hb2)
        | (go_at_call 57; refine (WR.out _ I2.out S2.out).mono ?_; rintro e w3 ⟨rfl, hI3, hb3⟩; have N3 := Lib.hid (N2.out.trans (hb3.mono hBw.out)); have I3 := Lib.hid hI3; have S3 := Lib.hid (Nat.le_trans S2.out hb3.size); clear hI3 hb3))
      go_roundw
      case rel => exact ⟨k + 1, by omega, by go_num, Lib.hid (Or.inr (by rw [hcell.out]; exact I3.out)), S3, N3⟩
      case measure => (simp [intOf]; try omega)
    · obtain rfl : k = l.length := by omega
      rw [List.take_length] at HI
      have ST := Lib.hid (fun (w : World) h hB => Tryd.Builder_String_any B B (lnL l) w h hB)
      have hmk : Hid ((⟨(lnL l).toArray⟩ : ByteArray) = mkL (lnL l)) := Lib.hid rfl
      have hkl : ¬ (l.length : Int) < (l.length : Int) := by omega
      generalize hls : lnL l = ls at *
      have HLS := Lib.hid hls; clear hls
      go_wp2_with (go_at_call 58; refine (ST.out _ HI.out HBs.out).mono ?_; rintro e w2 ⟨rfl, hb2⟩; rw [hmk.out])
      refine bodyPost_ret (v := .tuple #[.string (mkL ls), .int .i64 0]) (by simp [results, Tryd.results42, go_sem]) rfl ?_
      exact ⟨by rw [HLS.out], HB.out.trans (hb2.mono hBw.out)⟩
end Go.Proofs.YtldblffhkokhlaaDoor
set_option linter.unusedVariables false
set_option linter.unusedSimpArgs false
namespace Go.Proofs.YtldblffhkokhlaaDoor
open Go.RowKit
/-- Bytes below 128. -/
def Asc (l : List UInt8) : Prop := ∀ c ∈ l, c.toNat < 128
theorem mkL_ext (l : List UInt8) (a b : Nat) : (mkL l).extract a b = mkL ((l.drop a).take (b - a)) := by
  apply ByteArray.ext
  rw [ByteArray.data_extract]
  apply Array.ext'
  simp [mkL, List.extract_eq_take_drop]
theorem mkL_size (l : List UInt8) : (mkL l).size = l.length := size_list l
theorem mkL_txt (l : List UInt8) : mkL l = txt (l.map fun c => (c.toNat : Int)) := by
  unfold mkL txt
  congr 2
  rw [List.map_map]
  conv => lhs; rw [← List.map_id l]
  exact List.map_congr_left fun c _ => (u8_back c).symm
/-- Among such bytes each stands for itself. -/
theorem asc_at {l : List UInt8} (h : Asc l) {i : Nat} (hi : i < l.length) : vAt (mkL l) i = ((l.getD i 0).toNat, 1) := by
  have hs : i < (mkL l).size := by rw [mkL_size]; exact hi
  have hc := h (l.getD i 0) (by rw [List.getD, List.getElem?_eq_getElem hi]; exact List.getElem_mem hi)
  have e1 : vAt (mkL l) i = vAt ((mkL l).extract i (mkL l).size) 0 := by rw [vAt_tail _ i 0 (by omega)]; rfl
  have e2 : (mkL l).extract i (mkL l).size = txt (oneI ((l.getD i 0).toNat : Int) ++ ((l.drop (i + 1)).map fun c => (c.toNat : Int))) := by
    rw [mkL_ext, mkL_size, mkL_txt, List.take_of_length_le (by rw [List.length_drop]; exact Nat.le_refl _), ascii_one (by omega) (by omega), List.drop_eq_getElem_cons hi, List.map_cons, List.getD, List.getElem?_eq_getElem hi]; rfl
  rw [e1, e2, vAt_enc _ _ ((ptB_iff _).2 (by omega)), ascii_one (by omega) (by omega)]
  rfl
theorem asc_drop {l : List UInt8} (h : Asc l) (n : Nat) : Asc (l.drop n) := fun c hc => h c (List.mem_of_mem_drop hc)
theorem asc_one {l : List UInt8} (h : Asc l) (hl : l ≠ []) : oneS (mkL l) = ((l.headD 0).toNat, 1) := by
  have hp := List.length_pos_iff.2 hl
  unfold oneS
  rw [if_neg (by rw [mkL_size]; omega), asc_at h hp]
  cases l with
  | nil => exact absurd rfl hl
  | cons c l => rfl
theorem pre2 (x y : UInt8) (l : List UInt8) : Lib.hasPrefix l [x, y] = decide (l.take 2 = [x, y]) := by
  unfold Lib.hasPrefix
  rw [Bool.eq_iff_iff, decide_eq_true_eq]
  match l with
  | [] => simp
  | [a] => simp [List.isPrefixOf]
  | a :: b :: r => simp [List.isPrefixOf]; constructor <;> (rintro ⟨h1, h2⟩; exact ⟨h1.symm, h2.symm⟩)
theorem pre_any (l : List UInt8) (x y : UInt8) (w : World) : Calls Tryd.prog 115 #[.string (mkL l), .string ⟨#[x, y]⟩] w fun e w' => e = .returned (.bool (decide (l.take 2 = [x, y]))) ∧ w = w' := by
  refine (Tryd.strings_HasPrefix (mkL l) ⟨#[x, y]⟩ w).mono ?_
  rintro e w' ⟨rfl, rfl⟩
  exact ⟨by rw [show (mkL l).data.toList = l from rfl, show (⟨#[x, y]⟩ : ByteArray).data.toList = [x, y] from rfl, pre2], rfl⟩
set_option maxHeartbeats 4000000 in
theorem next_any (l : List UInt8) (w : World) (hT : UT w) (h : Asc l) (hne : l ≠ []) (hl : l.length ≤ 100000) : Calls Tryd.prog 84 #[.string (mkL l)] w fun e w' => e = .returned (.tuple #[.int .i64 (nxF l).1, .int .i64 ((nxF l).2 : Int)]) ∧ Below w.heap.size w w' := by
  have P1 := fun w => pre_any l 92 92 w
  have P2 := fun w => pre_any l 92 117 w
  have ON := fun w hT => one_any (mkL l) w hT (by rw [mkL_size]; omega)
  rw [asc_one h hne] at ON
  have UH := fun w => unhex_any ((l.drop 2).take 6) w (by rw [List.length_take]; omega)
  unfold UhPost at UH
  have RT := fun w => right_any (uhR ((l.drop 2).take 6)) w
  have hext : (mkL l).extract 2 8 = mkL ((l.drop 2).take 6) := mkL_ext l 2 8
  have hszi : ((mkL l).size : Int) = (l.length : Int) := by rw [mkL_size]
  have hux : uhE ((l.drop 2).take 6) = 0 ∨ uhE ((l.drop 2).take 6) = 6 := by unfold uhE; split <;> simp
  have HT := Lib.hid hT
  have hnx : Hid (nxF l = if l.take 2 = [92, 92] then (92, 2) else if l.take 2 = [92, 117] ∧ 8 ≤ l.length ∧ uhE ((l.drop 2).take 6) = 0 ∧ rightB (uhR ((l.drop 2).take 6)) = true then (uhR ((l.drop 2).take 6), 8) else (((l.headD 0).toNat : Int), 1)) := Lib.hid rfl
  change ∀ w, Calls Tryd.prog 116 #[.string (mkL ((l.drop 2).take 6))] w _ at UH
  rw [← hext] at UH
  have hb28 : 8 ≤ l.length → 8 ≤ (mkL l).size := fun h => by rw [mkL_size]; exact h
  generalize uhR ((l.drop 2).take 6) = ur at *
  generalize uhE ((l.drop 2).take 6) = ue at *
  generalize nxF l = nx at *
  generalize (l.headD 0).toNat = hd at *
  generalize mkL l = s at *
  generalize hlen : l.length = n at *
  clear hT h hne
  replace ON := Lib.hid ON
  by_cases h1 : l.take 2 = [92, 92]
  · rw [decide_eq_true h1] at P1
    have hr : Hid (nx = (92, 2)) := Lib.hid (by rw [hnx.out, if_pos h1])
    replace P1 := Lib.hid P1
    clear h1 P2 UH RT
    go_enter Tryd.func84, Tryd.ntmps84
    go_wp2_with (go_at_call 115; refine (P1.out _).mono ?_; rintro e w1 ⟨rfl, h1⟩; subst h1)
    refine bodyPost_ret (v := .tuple #[.int .i64 92, .int .i64 2]) (by simp [results, Tryd.results84, go_sem]) rfl ?_
    rw [hr.out]
    exact ⟨rfl, Below.refl _ _⟩
  · rw [decide_eq_false h1] at P1
    replace P1 := Lib.hid P1
    by_cases h2 : l.take 2 = [92, 117]
    · rw [decide_eq_true h2] at P2
      replace P2 := Lib.hid P2
      by_cases h3 : 8 ≤ n
      · have h3i : (8 : Int) ≤ (n : Int) := by omega
        have h8 := hb28 h3
        rcases hux with rfl | rfl
        · cases hr : rightB ur
          · rw [hr] at RT
            have hx : Hid (nx = ((hd : Int), 1)) := Lib.hid (by rw [hnx.out, if_neg h1, if_neg (by rw [hr]; simp)])
            replace RT := Lib.hid RT; replace UH := Lib.hid UH
            clear h1 h2 hext
            go_enter Tryd.func84, Tryd.ntmps84
            go_wp2_with (first
              | (go_at_call 115; (with_reducible refine (P1.out _).mono ?_); rintro e w1 ⟨rfl, h1⟩; subst h1; clear P1)
              | (go_at_call 115; (with_reducible refine (P2.out _).mono ?_); rintro e w1 ⟨rfl, h1⟩; subst h1; clear P2)
              | (go_at_call 116; refine (UH.out _).mono ?_; rintro e w2 ⟨rfl, b2⟩)
              | (go_at_call 108; refine (RT.out _).mono ?_; rintro e w3 ⟨rfl, h3⟩; subst h3)
              | (go_at_call 117; refine (ON.out _ (HT.out.below b2)).mono ?_; rintro e w4 ⟨rfl, b4⟩))
            refine bodyPost_ret (v := .tuple #[.int .i64 (hd : Int), .int .i64 1]) (by simp [results, Tryd.results84, go_sem]) rfl ?_
            rw [hx.out]
            exact ⟨rfl, seqB b2 b4⟩
          · rw [hr] at RT
            have hx : Hid (nx = (ur, 8)) := Lib.hid (by rw [hnx.out, if_neg h1, if_pos ⟨h2, h3, rfl, hr⟩])
            replace RT := Lib.hid RT; replace UH := Lib.hid UH
            clear h1 h2 hext
            go_enter Tryd.func84, Tryd.ntmps84
            go_wp2_with (first
              | (go_at_call 115; (with_reducible refine (P1.out _).mono ?_); rintro e w1 ⟨rfl, h1⟩; subst h1; clear P1)
              | (go_at_call 115; (with_reducible refine (P2.out _).mono ?_); rintro e w1 ⟨rfl, h1⟩; subst h1; clear P2)
              | (go_at_call 116; refine (UH.out _).mono ?_; rintro e w2 ⟨rfl, b2⟩)
              | (go_at_call 108; refine (RT.out _).mono ?_; rintro e w3 ⟨rfl, h3⟩; subst h3))
            refine bodyPost_ret (v := .tuple #[.int .i64 ur, .int .i64 8]) (by simp [results, Tryd.results84, go_sem]) rfl ?_
            rw [hx.out]
            exact ⟨rfl, b2⟩
        · have hx : Hid (nx = ((hd : Int), 1)) := Lib.hid (by rw [hnx.out, if_neg h1, if_neg (by omega)])
          replace UH := Lib.hid UH
          clear h1 h2 hext RT
          go_enter Tryd.func84, Tryd.ntmps84
          go_wp2_with (first
            | (go_at_call 115; (with_reducible refine (P1.out _).mono ?_); rintro e w1 ⟨rfl, h1⟩; subst h1; clear P1)
            | (go_at_call 115; (with_reducible refine (P2.out _).mono ?_); rintro e w1 ⟨rfl, h1⟩; subst h1; clear P2)
            | (go_at_call 116; refine (UH.out _).mono ?_; rintro e w2 ⟨rfl, b2⟩)
            | (go_at_call 117; refine (ON.out _ (HT.out.below b2)).mono ?_; rintro e w4 ⟨rfl, b4⟩))
          refine bodyPost_ret (v := .tuple #[.int .i64 (hd : Int), .int .i64 1]) (by simp [results, Tryd.results84, go_sem]) rfl ?_
          rw [hx.out]
          exact ⟨rfl, seqB b2 b4⟩
      · have h3i : ¬ (8 : Int) ≤ (n : Int) := by omega
        have hx : Hid (nx = ((hd : Int), 1)) := Lib.hid (by rw [hnx.out, if_neg h1, if_neg (by omega)])
        clear h1 h2 hext RT UH hb28
        go_enter Tryd.func84, Tryd.ntmps84
        go_wp2_with (first
          | (go_at_call 115; (with_reducible refine (P1.out _).mono ?_); rintro e w1 ⟨rfl, h1⟩; subst h1; clear P1)
          | (go_at_call 115; (with_reducible refine (P2.out _).mono ?_); rintro e w1 ⟨rfl, h1⟩; subst h1; clear P2)
          | (go_at_call 117; refine (ON.out _ HT.out).mono ?_; rintro e w4 ⟨rfl, b4⟩))
        refine bodyPost_ret (v := .tuple #[.int .i64 (hd : Int), .int .i64 1]) (by simp [results, Tryd.results84, go_sem]) rfl ?_
        rw [hx.out]
        exact ⟨rfl, b4⟩
    · rw [decide_eq_false h2] at P2
      replace P2 := Lib.hid P2
      have hx : Hid (nx = ((hd : Int), 1)) := Lib.hid (by rw [hnx.out, if_neg h1, if_neg (fun h => h2 h.1)])
      clear h1 h2 hext RT UH hb28
      go_enter Tryd.func84, Tryd.ntmps84
      go_wp2_with (first
        | (go_at_call 115; (with_reducible refine (P1.out _).mono ?_); rintro e w1 ⟨rfl, h1⟩; subst h1; clear P1)
        | (go_at_call 115; (with_reducible refine (P2.out _).mono ?_); rintro e w1 ⟨rfl, h1⟩; subst h1; clear P2)
        | (go_at_call 117; refine (ON.out _ HT.out).mono ?_; rintro e w4 ⟨rfl, b4⟩))
      refine bodyPost_ret (v := .tuple #[.int .i64 (hd : Int), .int .i64 1]) (by simp [results, Tryd.results84, go_sem]) rfl ?_
      rw [hx.out]
      exact ⟨rfl, b4⟩
end Go.Proofs.YtldblffhkokhlaaDoor
set_option linter.unusedVariables false
set_option linter.unusedSimpArgs false
namespace Go.Proofs.YtldblffhkokhlaaDoor
open Go.RowKit
/-- All blocks below B stay, but p. -/
structure KeepB (B p : Nat) (w w' : World) : Prop where
  os : w'.os = w.os
  tape : w'.tape = w.tape
  output : w'.output = w.output
  size : w.heap.size ≤ w'.heap.size
  block : ∀ k, k < B → k ≠ p → w'.heap[k]? = w.heap[k]?
theorem KeepB.refl (B p : Nat) (w : World) : KeepB B p w w := ⟨rfl, rfl, rfl, Nat.le_refl _, fun _ _ _ => rfl⟩
theorem KeepB.trans {B p : Nat} {w w' w'' : World} (h : KeepB B p w w') (h2 : KeepB B p w' w'') : KeepB B p w w'' :=
  ⟨h2.os.trans h.os, h2.tape.trans h.tape, h2.output.trans h.output, Nat.le_trans h.size h2.size, fun k hk hp => (h2.block k hk hp).trans (h.block k hk hp)⟩
theorem KeepB.below {B p : Nat} {w w' : World} (h : Below w.heap.size w w') (hB : B ≤ w.heap.size) : KeepB B p w w' := ⟨h.os, h.tape, h.output, h.size, fun k hk _ => h.block k (by omega)⟩
/-- The line's variable at p, the function's own two at q and r. -/
structure LnSt (p q r : Nat) (long : Int) (l : List (Int × Int)) (B : Nat) (w : World) : Prop where
  v : ∃ v, w.heap[p]? = some (.cells #[v] 22 (0, 0)) ∧ OwS w B v l
  c0 : w.cell? ⟨q, 0, none⟩ = some (.pointer (some ⟨p, 0, none⟩))
  c1 : w.cell? ⟨r, 0, none⟩ = some (.int .i64 long)
  lt : p < B ∧ q < B ∧ r < B ∧ q ≠ p ∧ r ≠ p
  le : B ≤ w.heap.size
theorem cell_blk {w w' : World} {b : Nat} (h : w'.heap[b]? = w.heap[b]?) (i : Nat) : w'.cell? ⟨b, i, none⟩ = w.cell? ⟨b, i, none⟩ := by
  unfold World.cell?; rw [h]
theorem ows_below {w w' : World} {B : Nat} {v : Value} {l : List (Int × Int)} (h : OwS w B v l) (hb : Below w.heap.size w w') : OwS w' B v l := own_below h hb
theorem LnSt.below {p q r : Nat} {long : Int} {l : List (Int × Int)} {B : Nat} {w w' : World} (h : LnSt p q r long l B w) (hb : Below w.heap.size w w') : LnSt p q r long l B w' := by
  obtain ⟨v, h1, h2⟩ := h.v
  have hl := h.lt; have hle := h.le
  exact ⟨⟨v, blk_below h1 hb, ows_below h2 hb⟩, (hb.cell (p := ⟨q, 0, none⟩) (by show q < _; omega)).trans h.c0, (hb.cell (p := ⟨r, 0, none⟩) (by show r < _; omega)).trans h.c1, hl, Nat.le_trans hle hb.size⟩
theorem ows_ge {w : World} {B : Nat} {v : Value} {l : List (Int × Int)} (h : OwS w B v l) {k : Nat} (hk : k < B) : some k ≠ v.ownBlock := fun e => by
  have := (h.lt k e.symm).1; omega
/-- What the append and the store leave. -/
theorem lnst_next {p q r : Nat} {long : Int} {l m : List (Int × Int)} {B : Nat} {w w1 : World} {v u : Value} (h : LnSt p q r long l B w) (hv : OwS w B v l) (ho : OwS w1 B u m) (hg : w.grownBy w1 v.ownBlock) :
    LnSt p q r long m B (w1.setCell ⟨p, 0, none⟩ u) ∧ KeepB B p w (w1.setCell ⟨p, 0, none⟩ u) := by
  have hl := h.lt; have hle := h.le
  have hb := fun k (hk : k < B) => hg.block k (by omega) (ows_ge hv hk)
  obtain ⟨x, hx, _⟩ := h.v
  have hp1 : w1.heap[p]? = some (.cells #[x] 22 (0, 0)) := (hb p hl.1).trans hx
  have hs : ∀ k, k ≠ p → (w1.setCell ⟨p, 0, none⟩ u).heap[k]? = w1.heap[k]? := fun k hk => Below.heap_setCell w1 ⟨p, 0, none⟩ u k hk
  have hz : (w1.setCell ⟨p, 0, none⟩ u).heap.size = w1.heap.size := by simp [World.setCell]
  refine ⟨⟨⟨u, blk_set hp1 0 u, ?_⟩, ?_, ?_, hl, ?_⟩, ⟨hg.os, hg.tape, hg.output, by rw [hz]; exact hg.size, fun k hk hkp => (hs k hkp).trans (hb k hk)⟩⟩
  · refine ⟨ho.1, ?_⟩
    rcases ho.2 with h0 | ⟨g, cap, cur, h0, hB, hgg, h3⟩
    · exact .inl h0
    · exact .inr ⟨g, cap, cur, h0, hB, (hs g (by omega)).trans hgg, h3⟩
  · exact (cell_blk ((hs q hl.2.2.2.1).trans (hb q hl.2.1)) 0).trans h.c0
  · exact (cell_blk ((hs r hl.2.2.2.2).trans (hb r hl.2.2.1)) 0).trans h.c1
  · rw [hz]; exact Nat.le_trans hle hg.size
theorem sg_new1 (w : World) (v u : Int) (w' : World) (hb : Below (w.alloc (.cells #[.int .i64 v, .int .i64 u] 77)).heap.size (w.alloc (.cells #[.int .i64 v, .int .i64 u] 77)) w') : Signs w' (some ⟨w.heap.size, 0, none⟩) [(v, u)] := by
  have h := blk_below (heap_alloc_new w (.cells #[.int .i64 v, .int .i64 u] 77)) hb
  intro i hi
  obtain rfl : i = 0 := by simpa using hi
  refine ⟨_, _, rfl, blk_lt h, ?_, ?_⟩ <;> (rw [cell_of_row _ _ _ _ _ _ h]; rfl)
set_option maxHeartbeats 8000000 in
theorem adder1_yes (v : Int) (p q r : Nat) (long : Int) (l : List (Int × Int)) (B : Nat) (w : World) (h : LnSt p q r long l B w) (hlt : (l.length : Int) < long) (hle : l.length ≤ 100000) :
    Calls Tryd.prog 114 #[.int .i64 v, .pointer (some ⟨q, 0, none⟩), .pointer (some ⟨r, 0, none⟩)] w fun e w' => e = .returned (.bool true) ∧ LnSt p q r long (l ++ [(v, 3)]) B w' ∧ KeepB B p w w' := by
  have H := Lib.hid h
  obtain ⟨x, hx, ho⟩ := h.v
  obtain ⟨ad, cp, rfl⟩ := ho.form rfl
  have O := Lib.hid ho
  have y := cell_of_row _ _ 0 _ _ _ hx; have c0 := y; clear y; dsimp at c0
  have c1 := h.c0; have c2 := h.c1
  have hng : ¬ (long ≤ (l.length : Int)) := by omega
  have X := Lib.hid hx
  have hl0 := Lib.hid hle
  clear h hx ho hlt hle
  go_enter Tryd.func114, Tryd.ntmps114
  go_upto_region 1 with fail
  go_quiet (fail)
  go_upto_region 3 with fail
  have B0 : Below w.heap.size w (w.drewN nq) := ⟨rfl, rfl, rfl, Nat.le_refl _, fun _ _ => rfl⟩
  obtain ⟨W, hW⟩ : ∃ W, w.drewN nq = W := ⟨_, rfl⟩
  rw [hW] at B0 ⊢
  have H0 := Lib.hid (H.out.below B0)
  have d0 : W.cell? ⟨p, 0, none⟩ = some (.slice ad l.length cp) := (B0.cell (p := ⟨p, 0, none⟩) (blk_lt X.out)).trans c0
  have O0 := ows_below O.out B0
  have hpW : p < W.heap.size := by have := H0.out.lt; have := H0.out.le; omega
  have d1 : W.drew.cell? ⟨q, 0, none⟩ = some (.pointer (some ⟨p, 0, none⟩)) := H0.out.c0
  have B1 := below_alloc W.drew (.cells #[.int .i64 v, .int .i64 3] 77)
  have B1' := (Below.refl _ W).drew.trans B1
  have O1 := Lib.hid (ows_below O0 B1')
  have H1 := Lib.hid (H0.out.below B1')
  have S1 := Lib.hid (sg_new1 W.drew v 3 _ (Below.refl _ _))
  have d2 : W.drew.cell? ⟨p, 0, none⟩ = some (.slice ad l.length cp) := d0
  have d3 : (W.drew.alloc (.cells #[.int .i64 v, .int .i64 3] 77)).cell? ⟨p, 0, none⟩ = some (.slice ad l.length cp) := (B1.cell (p := ⟨p, 0, none⟩) hpW).trans d0
  have d4 : (W.drew.alloc (.cells #[.int .i64 v, .int .i64 3] 77)).cell? ⟨q, 0, none⟩ = some (.pointer (some ⟨p, 0, none⟩)) := H1.out.c0
  have K1 := Lib.hid ((KeepB.below B0 H.out.le).trans (KeepB.below (p := p) B1' H0.out.le))
  have dq0 : W.cell? ⟨q, 0, none⟩ = some (.pointer (some ⟨p, 0, none⟩)) := H0.out.c0
  have hqW : q < W.heap.size := by have := H0.out.lt; have := H0.out.le; omega
  clear c0 c1 c2 X O B1 B1' hW O0 B0 d1 d2
  go_region_law
    (first
      | (refine step_app_signs (by rfl) _ _ (by rfl) B (.slice ad l.length cp) l.length l (by rfl) rfl O1.out (some ⟨W.heap.size, 0, none⟩) 1 1 [(v, 3)] (by rfl) rfl S1.out (fun e => (by cases e)) ?c3 H1.out.le ?_
         case c3 => have := hl0.out; omega
         intro ad5 c5 w5 o5 g5
         have z0 : w5.cell? ⟨q, 0, none⟩ = some (.pointer (some ⟨p, 0, none⟩)) := (cell_blk (g5.block q (Nat.lt_of_lt_of_le H1.out.lt.2.1 H1.out.le) (ows_ge O1.out H1.out.lt.2.1)) 0).trans d4
         have hp5 := g5.block p (Nat.lt_of_lt_of_le H1.out.lt.1 H1.out.le) (ows_ge O1.out H1.out.lt.1)
         have z2 : w5.cell? ⟨p, 0, none⟩ = some (.slice ad l.length cp) := (cell_blk hp5 0).trans d3
         have zf : w5.frozen? ⟨p, 0, none⟩ = false := by
           obtain ⟨x, hx, _⟩ := H1.out.v
           exact frozen_of_row _ p 0 _ _ (hp5.trans hx)
         have HN := Lib.hid (lnst_next H1.out O1.out (o5 : OwS _ _ _ _) g5)
         have z1 := HN.out.1.c0
         clear o5 g5 hp5))
  all_goals go_wp2
  all_goals go_ret
  all_goals exact ⟨rfl, HN.out.1, K1.out.trans HN.out.2⟩
/-- The function is made. -/
theorem adder_any (p : Nat) (long : Int) (w : World) (hp : w.heap[p]? = some (.cells #[.slice none 0 0] 22 (0, 0))) :
    Calls Tryd.prog 83 #[.pointer (some ⟨p, 0, none⟩), .int .i64 long] w fun e w' => ∃ q r, e = .returned (.func (.func 114) #[] #[.pointer (some ⟨q, 0, none⟩), .pointer (some ⟨r, 0, none⟩)]) ∧ (∀ B, w'.heap.size ≤ B → ∀ w2, Below w'.heap.size w' w2 → B ≤ w2.heap.size → LnSt p q r long [] B w2) ∧ Below w.heap.size w w' := by
  have hmf : ∀ (fn : Fn) (first cap : Array Value) (w : World), (Instr.makeFunc fn first cap).run Tryd.prog w = .ok (.func fn first cap) w := fun _ _ _ _ => rfl
  have hpl := blk_lt hp
  have B1 := below_alloc w (.cells #[.pointer (some ⟨p, 0, none⟩)] 143)
  have h1 := heap_alloc_new w (.cells #[.pointer (some ⟨p, 0, none⟩)] 143)
  have hs1 : (w.alloc (.cells #[.pointer (some ⟨p, 0, none⟩)] 143)).heap.size = w.heap.size + 1 := by simp
  have B2 := below_alloc (w.alloc (.cells #[.pointer (some ⟨p, 0, none⟩)] 143)) (.cells #[.int .i64 long] 3)
  have h2 := heap_alloc_new (w.alloc (.cells #[.pointer (some ⟨p, 0, none⟩)] 143)) (.cells #[.int .i64 long] 3)
  have hs2 : ((w.alloc (.cells #[.pointer (some ⟨p, 0, none⟩)] 143)).alloc (.cells #[.int .i64 long] 3)).heap.size = w.heap.size + 1 + 1 := by simp
  rw [hs1] at h2
  have hp2 := blk_below (blk_below hp B1) B2
  have h12 := blk_below h1 B2
  have HF : Hid (∀ B, ((w.alloc (.cells #[.pointer (some ⟨p, 0, none⟩)] 143)).alloc (.cells #[.int .i64 long] 3)).heap.size ≤ B → ∀ w2, Below ((w.alloc (.cells #[.pointer (some ⟨p, 0, none⟩)] 143)).alloc (.cells #[.int .i64 long] 3)).heap.size ((w.alloc (.cells #[.pointer (some ⟨p, 0, none⟩)] 143)).alloc (.cells #[.int .i64 long] 3)) w2 → B ≤ w2.heap.size → LnSt p w.heap.size (w.heap.size + 1) long [] B w2) := Lib.hid (fun B hB w2 hb hle => by
    refine ⟨⟨_, blk_below hp2 hb, World.ownsRow_nil _ _ _ _⟩, ?_, ?_, ?_, hle⟩
    · rw [cell_of_row _ _ _ _ _ _ (blk_below h12 hb)]; rfl
    · rw [cell_of_row _ _ _ _ _ _ (blk_below h2 hb)]; rfl
    · omega)
  have BF := Lib.hid (seqB B1 B2)
  clear B1 B2 h1 h2 hp2 h12 hs1 hs2 hp
  go_enter Tryd.func83, Tryd.ntmps83
  go_wp2
  go_ret
  exact ⟨_, _, rfl, HF.out, BF.out⟩
end Go.Proofs.YtldblffhkokhlaaDoor
set_option linter.unusedVariables false
set_option linter.unusedSimpArgs false
namespace Go.Proofs.YtldblffhkokhlaaDoor
open Go.RowKit
theorem nx_size {l : List UInt8} (h : l ≠ []) : (nxF l).2 ≤ l.length := by
  have hp := List.length_pos_iff.2 h
  unfold nxF; split
  · rename_i h1
    have := congrArg List.length h1
    rw [List.length_take] at this
    simp at this
    show 2 ≤ _; omega
  · split
    · rename_i h2; exact h2.2.1
    · exact hp
theorem un_fuel : ∀ (f g : Nat) (l : List UInt8) (k : Nat), l.length ≤ f → l.length ≤ g → unF f l k = unF g l k := by
  intro f
  induction f with
  | zero =>
    intro g l k hf hg
    obtain rfl := List.length_eq_zero_iff.1 (Nat.le_zero.1 hf)
    cases g with
    | zero => rfl
    | succ g => unfold unF; rfl
  | succ f ih =>
    intro g l k hf hg
    cases g with
    | zero =>
      obtain rfl := List.length_eq_zero_iff.1 (Nat.le_zero.1 hg)
      unfold unF; rfl
    | succ g =>
      unfold unF
      by_cases hl : l = []
      · rw [if_pos hl, if_pos hl]
      · rw [if_neg hl, if_neg hl]
        cases k with
        | zero => rfl
        | succ k =>
          have := nx_pos l
          show _ :: unF f _ k = _ :: unF g _ k
          rw [ih g _ k (by rw [List.length_drop]; omega) (by rw [List.length_drop]; omega)]
/-- The values of a line, at most so many. -/
def unS (l : List UInt8) (k : Nat) : List Int := unF l.length l k
theorem unS_nil (k : Nat) : unS [] k = [] := rfl
theorem unS_zero (l : List UInt8) : unS l 0 = [] := by
  unfold unS
  cases h : l.length with
  | zero => rfl
  | succ n => unfold unF; split <;> rfl
theorem unS_step {l : List UInt8} (h : l ≠ []) (k : Nat) : unS l (k + 1) = (nxF l).1 :: unS (l.drop (nxF l).2) k := by
  unfold unS
  have hp := List.length_pos_iff.2 h
  obtain ⟨n, hn⟩ : ∃ n, l.length = n + 1 := ⟨l.length - 1, by omega⟩
  rw [hn]
  conv => lhs; unfold unF
  rw [if_neg h]
  show _ :: unF n _ k = _
  have := nx_pos l
  rw [un_fuel n _ _ k (by rw [List.length_drop]; omega) (Nat.le_refl _)]
theorem unS_len (l : List UInt8) (k : Nat) : (unS l k).length ≤ k := by
  have key : ∀ f l k, (unF f l k).length ≤ k := by
    intro f
    induction f with
    | zero => intro l k; exact Nat.zero_le _
    | succ f ih =>
      intro l k
      unfold unF
      split
      · exact Nat.zero_le _
      · cases k with
        | zero => exact Nat.le_refl _
        | succ k => exact Nat.succ_le_succ (ih _ k)
  exact key _ l k
theorem unS_ln {l : List (Int × Int)} (h : ∀ p ∈ l, rightB p.1 = true) (k : Nat) (hk : l.length ≤ k) : unS (lnL l) k = l.map (·.1) := un_ln h _ k (Nat.le_refl _) hk
/-- Signs of a history. -/
def hsL (l : List Int) : List (Int × Int) := l.map fun v => (v, 3)
theorem hsL_len (l : List Int) : (hsL l).length = l.length := by simp [hsL]
theorem hsL_app (l : List Int) (v : Int) : hsL (l ++ [v]) = hsL l ++ [(v, 3)] := by simp [hsL]
theorem asc_dec {l : List UInt8} (h : Asc l) {i : Nat} (hi : i < l.length) : (Utf8.decode (mkL l) i).2 = 1 := by
  rw [← vAt_size _ _ (by rw [mkL_size]; exact hi), asc_at h hi]
theorem below_keepB {n B p : Nat} {w w1 w2 : World} (h : Below n w w1) (k : KeepB B p w1 w2) (hB : n ≤ B) (hp : n ≤ p) : Below n w w2 :=
  ⟨k.os.trans h.os, k.tape.trans h.tape, k.output.trans h.output, Nat.le_trans h.size k.size, fun j hj => (k.block j (by omega) (by omega)).trans (h.block j hj)⟩
theorem adder1_no (v : Int) (p q r : Nat) (long : Int) (l : List (Int × Int)) (B : Nat) (w : World) (h : LnSt p q r long l B w) (hlt : long ≤ (l.length : Int)) :
    Calls Tryd.prog 114 #[.int .i64 v, .pointer (some ⟨q, 0, none⟩), .pointer (some ⟨r, 0, none⟩)] w fun e w' => e = .returned (.bool false) ∧ Below w.heap.size w w' := by
  obtain ⟨x, hx, ho⟩ := h.v
  obtain ⟨ad, cp, rfl⟩ := ho.form rfl
  have y := cell_of_row _ _ 0 _ _ _ hx; have c0 := y; clear y; dsimp at c0
  have c1 := h.c0; have c2 := h.c1
  clear h hx ho
  go_enter Tryd.func114, Tryd.ntmps114
  go_upto_region 1 with fail
  go_quiet (fail)
  go_wp2
  go_ret
  exact ⟨rfl, drewN_below (Below.refl _ w) nq⟩
structure UlInv (l : List UInt8) (k p q r R : Nat) (w : World) (i rd : Nat) (acc : List Int) (wr : World) : Prop where
  it : wr.heap[R]? = some (.stringIter (mkL l) i)
  st : LnSt p q r (k : Int) (hsL acc) (R + 1) wr
  bel : Below w.heap.size w wr
  ac : acc ++ unS (l.drop rd) (k - acc.length) = unS l k
  le : i ≤ rd
  rl : rd ≤ l.length
  al : acc.length ≤ k
theorem LnSt.cell {p q r : Nat} {long : Int} {l : List (Int × Int)} {B : Nat} {w : World} (h : LnSt p q r long l B w) : ∃ v, w.cell? ⟨p, 0, none⟩ = some v ∧ OwS w B v l := by
  obtain ⟨v, h1, h2⟩ := h.v
  exact ⟨v, by rw [cell_of_row _ _ _ _ _ _ h1]; rfl, h2⟩
theorem ul_start {l : List UInt8} {k p q r : Nat} {w w1 : World} (hp : w.heap.size ≤ p) (hst : ∀ B, w1.heap.size ≤ B → ∀ w2, Below w1.heap.size w1 w2 → B ≤ w2.heap.size → LnSt p q r (k : Int) [] B w2) (hb : Below w.heap.size w w1) : UlInv l k p q r w1.heap.size w 0 0 [] (w1.iter (mkL l) 0) := by
  have B1 : Below w1.heap.size w1 (w1.iter (mkL l) 0) := below_alloc _ _
  have hs : (w1.iter (mkL l) 0).heap.size = w1.heap.size + 1 := by simp [World.iter]
  exact ⟨World.iter_heap _ _ _, hst _ (Nat.le_succ _) _ B1 (Nat.le_of_eq hs.symm), seqB hb B1, by simp, Nat.le_refl _, Nat.zero_le _, Nat.zero_le _⟩
theorem lnst_iter {p q r : Nat} {long : Int} {l : List (Int × Int)} {B R : Nat} {w : World} {s : ByteArray} {i : Nat} (h : LnSt p q r long l B w) (hR : w.heap[R]? = some (.stringIter s i)) (j : Nat) : LnSt p q r long l B (w.iterAt R s j) := by
  have hs : (w.iterAt R s j).heap.size = w.heap.size := Lib.iterAt_size _ _ _ _
  obtain ⟨v, h1, h2⟩ := h.v
  have ho := fun k (hk : k ≠ R) => Lib.iterAt_other w R k s j hk
  have hne : ∀ (k : Nat) (c : Array Value) (t : TypeId) (f : Nat × Nat), w.heap[k]? = some (.cells c t f) → k ≠ R := fun k c t f hk e => by rw [e, hR] at hk; cases hk
  have hcl : ∀ (k : Nat) (v : Value), w.cell? ⟨k, 0, none⟩ = some v → k ≠ R := fun k v hk e => by
    rw [e] at hk; simp [World.cell?, hR] at hk
  refine ⟨⟨v, (ho p (hne _ _ _ _ h1)).trans h1, own_iter h2 hR j⟩, ?_, ?_, h.lt, by rw [hs]; exact h.le⟩
  · exact (cell_blk (ho q (hcl _ _ h.c0)) 0).trans h.c0
  · exact (cell_blk (ho r (hcl _ _ h.c1)) 0).trans h.c1
theorem UlInv.next {l : List UInt8} {k p q r R : Nat} {w : World} {i rd : Nat} {acc : List Int} {wr : World} (h : UlInv l k p q r R w i rd acc wr) (hlt : i < l.length) (hR : w.heap.size ≤ R) :
    (wr.iterAt R (mkL l) (i + 1)).heap[R]? = some (.stringIter (mkL l) (i + 1)) ∧ LnSt p q r (k : Int) (hsL acc) (R + 1) (wr.iterAt R (mkL l) (i + 1)) ∧ Below w.heap.size w (wr.iterAt R (mkL l) (i + 1)) :=
  ⟨Lib.iterAt_heap _ _ _ _ _ h.it, lnst_iter h.st h.it _, Lib.below_iterAt h.bel hR _ _⟩
set_option maxRecDepth 100000 in
set_option maxHeartbeats 4000000 in
theorem unline_any (l : List UInt8) (k : Nat) (w : World) (hT : UT w) (h : Asc l) (hl : l.length ≤ 100000) (hk : k ≤ 100000) :
    Calls Tryd.prog 54 #[.string (mkL l), .int .i64 (k : Int)] w fun e w' => ∃ v, e = .returned v ∧ OwS w' w.heap.size v (hsL (unS l k)) ∧ Below w.heap.size w w' := by
  have HT := Lib.hid hT
  have HA := Lib.hid h
  have hsz : (mkL l).size = l.length := mkL_size l
  have B0 := below_alloc w (.cells #[.slice none 0 0] 22)
  have p0 := heap_alloc_new w (.cells #[.slice none 0 0] 22)
  obtain ⟨W0, hW0⟩ : ∃ W0, w.alloc (.cells #[.slice none 0 0] 22) = W0 := ⟨_, rfl⟩
  rw [hW0] at B0 p0
  have AD := Lib.hid (adder_any w.heap.size (k : Int) W0 p0)
  have HB0 := Lib.hid B0
  have hmf : ∀ (fn : Fn) (first cap : Array Value) (w : World), (Instr.makeFunc fn first cap).run Tryd.prog w = .ok (.func fn first cap) w := fun _ _ _ _ => rfl
  clear hT h p0 B0
  go_enter Tryd.func54, Tryd.ntmps54
  go_upto_region 2 with fail
  go_upto_region 3 with (go_at_call 83; refine AD.out.mono ?_; rintro e w1 ⟨q, r, rfl, hst, hb1⟩)
  have S0 := Lib.hid (ul_start (l := l) (Nat.le_refl w.heap.size) hst (seqB HB0.out hb1))
  have hRw : w.heap.size ≤ w1.heap.size := (seqB HB0.out hb1).size
  obtain ⟨p, hp⟩ : ∃ p, w.heap.size = p := ⟨_, rfl⟩
  obtain ⟨R, hR⟩ : ∃ R, w1.heap.size = R := ⟨_, rfl⟩
  rw [hR] at S0 hRw
  clear hst hb1 AD HB0
  have hpw : w.heap.size ≤ p := Nat.le_of_eq hp
  rw [hp] at S0 ⊢
  have HPW := Lib.hid hpw; have HRW := Lib.hid hRw
  clear hp hW0
  go_wp2
  go_loopw [7] (fun rv wr => ∃ i rd acc, rv = .int .i64 ((rd : Nat) : Int) ∧ Hid (UlInv l k p q r R w i rd acc wr)) (fun _ wr => l.length - wr.iterPos R)
  case atStart => exact ⟨0, 0, [], rfl, S0⟩
  case round =>
    obtain ⟨i, rd, acc, rfl, HI⟩ := hrel
    clear hR
    have hRl : R < wr.heap.size := blk_lt HI.out.it
    have hip : wr.iterPos R = i := by simp [World.iterPos, HI.out.it]
    by_cases hlt : i < l.length
    · have hdec := asc_dec HA.out hlt
      have hnx : ∀ ty, (Instr.next (.pointer (some ⟨R, 0, none⟩)) true ty).run Tryd.prog wr = _ := fun ty => Lib.run_next_any_at wr R (mkL l) i ty HI.out.it (by rw [hsz]; exact hlt)
      rw [hdec] at hnx
      obtain ⟨it1, st1, bel1⟩ := HI.out.next hlt HRW.out
      by_cases hrd : i < rd
      · have hrd1 : (i : Int) < (rd : Int) := by omega
        have HN : Hid (UlInv l k p q r R w (i + 1) rd acc (wr.iterAt R (mkL l) (i + 1))) := Lib.hid ⟨it1, st1, bel1, HI.out.ac, by omega, HI.out.rl, HI.out.al⟩
        have hip1 : (wr.iterAt R (mkL l) (i + 1)).iterPos R = i + 1 := by simp [World.iterPos, it1]
        clear HI it1 st1 bel1 hdec S0
        generalize wr.iterAt R (mkL l) (i + 1) = W1 at *
        go_wp2
        go_roundw
        case rel => exact ⟨i + 1, rd, acc, rfl, HN⟩
        case measure => omega
      · obtain rfl : rd = i := by have := HI.out.le; omega
        have hRp : R ≠ p := fun e => by
          obtain ⟨v, h1, _⟩ := st1.v
          rw [← e, it1] at h1; cases h1
        have hlen : (l.drop rd).length = l.length - rd := List.length_drop
        have hne : l.drop rd ≠ [] := fun e => by rw [e] at hlen; simp at hlen; omega
        have NX := next_any (l.drop rd) (wr.iterAt R (mkL l) (rd + 1)) (HT.out.below bel1) (asc_drop HA.out rd) hne (by omega)
        have hext : (mkL l).extract rd (mkL l).size = mkL (l.drop rd) := by
          rw [mkL_ext, mkL_size, List.take_of_length_le (by omega)]
        rw [← hext] at NX
        have hn1 := nx_pos (l.drop rd)
        have hn2 := nx_size hne
        have hst := unS_step hne (k - acc.length - 1)
        rw [List.drop_drop] at hst
        have hac := HI.out.ac; have hal := HI.out.al
        generalize hnx2 : nxF (l.drop rd) = vn at *
        obtain ⟨v, n⟩ := vn
        dsimp only at NX hn1 hn2 hst
        have HIT := Lib.hid it1; have HST := Lib.hid st1; have HBL := Lib.hid bel1
        by_cases hful : acc.length < k
        · have AY := Lib.hid (fun (w : World) h => adder1_yes v p q r (k : Int) (hsL acc) (R + 1) w h (by rw [hsL_len]; omega) (by rw [hsL_len]; omega))
          have hac2 : Hid ((acc ++ [v]) ++ unS (l.drop (rd + n)) (k - (acc ++ [v]).length) = unS l k) := Lib.hid (by
            rw [← hac, show k - acc.length = (k - acc.length - 1) + 1 by omega, hst, List.append_assoc, List.length_append, List.length_singleton, show k - (acc.length + 1) = k - acc.length - 1 by omega]; rfl)
          have hal2 : (acc ++ [v]).length ≤ k := by simp; omega
          rw [hlen] at hn2
          have Hn := Lib.hid (And.intro hn1 hn2); clear hn1 hn2
          have hsn := hsL_app acc v
          replace NX := Lib.hid NX
          clear HI it1 st1 bel1 hdec S0 hac hst hne hlen hal hnx2
          generalize wr.iterAt R (mkL l) (rd + 1) = W1 at *
          generalize hac3 : acc ++ [v] = acc2 at *
          rw [← hsn] at AY
          clear hsn hac3 hful
          have Hal := Lib.hid hal2; clear hal2
          go_wp2_with (first
            | (go_at_call 84; refine NX.out.mono ?_; rintro e w2 ⟨rfl, hb2⟩; have st2 := Lib.hid (HST.out.below hb2); have it2 := Lib.hid (blk_below HIT.out hb2); have bl2 := Lib.hid (seqB HBL.out hb2); clear hb2 NX)
            | (go_at_call 114; refine (AY.out _ st2.out).mono ?_; rintro e w3 ⟨rfl, st3, k3⟩; have it3 := (k3.block R (Nat.lt_succ_self R) hRp).trans it2.out; have st4 := Lib.hid st3; have bl3 := Lib.hid (below_keepB bl2.out k3 (Nat.le_succ_of_le HRW.out) HPW.out); clear st3 k3))
          go_roundw
          case rel => exact ⟨rd + 1, rd + n, acc2, (by have := Hn.out; exact retV (by show wrap64 _ = _; unfold wrap64; omega)), Lib.hid ⟨it3, st4.out, bl3.out, hac2.out, by have := Hn.out; omega, by have := Hn.out; omega, Hal.out⟩⟩
          case measure => simp only [World.iterPos, it3]; simp only [World.iterPos] at hip; omega
        · obtain hke : acc.length = k := by omega
          rw [hke, Nat.sub_self, unS_zero, List.append_nil] at hac
          have AN := Lib.hid (fun (w : World) h => adder1_no v p q r (k : Int) (hsL acc) (R + 1) w h (by rw [hsL_len]; omega))
          replace NX := Lib.hid NX
          have hac2 := Lib.hid hac
          clear HI it1 st1 bel1 hdec S0 hac hst hne hlen hal hnx2 hke hful
          generalize wr.iterAt R (mkL l) (rd + 1) = W1 at *
          go_wp2_with (first
            | (go_at_call 84; refine NX.out.mono ?_; rintro e w2 ⟨rfl, hb2⟩; have st2 := Lib.hid (HST.out.below hb2); have bl2 := Lib.hid (seqB HBL.out hb2); clear hb2 NX)
            | (go_at_call 114; refine (AN.out _ st2.out).mono ?_; rintro e w3 ⟨rfl, hb3⟩; have st3 := Lib.hid (st2.out.below hb3); have bl3 := Lib.hid (seqB bl2.out hb3); obtain ⟨x, c0, ho⟩ := st3.out.cell; clear hb3))
          go_ret
          exact ⟨_, rfl, by rw [← hac2.out]; exact World.ownsRow.mono ho (Nat.le_succ_of_le HRW.out), bl3.out⟩
    · have hnx : ∀ ty, (Instr.next (.pointer (some ⟨R, 0, none⟩)) true ty).run Tryd.prog wr = _ := fun ty => Lib.run_next_end_at wr R (mkL l) i ty HI.out.it (by rw [hsz]; exact hlt)
      have hrl := HI.out.rl; have hle := HI.out.le
      have hac := HI.out.ac
      rw [List.drop_of_length_le (by omega), unS_nil, List.append_nil] at hac
      have hac2 := Lib.hid hac
      obtain ⟨x, c0, ho⟩ := HI.out.st.cell
      have HO := Lib.hid ho
      have bl := Lib.hid HI.out.bel
      clear HI hac hrl hle S0 ho
      go_wp2
      go_ret
      exact ⟨_, rfl, by rw [← hac2.out]; exact World.ownsRow.mono HO.out (Nat.le_succ_of_le HRW.out), bl.out⟩
end Go.Proofs.YtldblffhkokhlaaDoor
set_option linter.unusedVariables false
set_option linter.unusedSimpArgs false
namespace Go.Proofs.YtldblffhkokhlaaDoor
open Go.RowKit
/-- Lists of signs lie in memory. -/
def SgsIn (w : World) (a : Option Addr) (h : List (List (Int × Int))) : Prop :=
  ∀ i, i < h.length → ∃ b off ai ci, a = some ⟨b, off, none⟩ ∧ b < w.heap.size ∧ w.cell? ⟨b, off + i, none⟩ = some (.slice ai (h.getD i []).length ci) ∧ Signs w ai (h.getD i [])
theorem SgsIn.below {w w' : World} {a : Option Addr} {h : List (List (Int × Int))} (s : SgsIn w a h) (hb : Below w.heap.size w w') : SgsIn w' a h := fun i hi => by
  obtain ⟨b, off, ai, ci, e, hlt, h1, h2⟩ := s i hi
  exact ⟨b, off, ai, ci, e, Nat.lt_of_lt_of_le hlt hb.size, (hb.cell (p := ⟨b, off + i, none⟩) hlt).trans h1, h2.below hb⟩
/-- A history's text. -/
def txL (h : List (List (Int × Int))) : List UInt8 := h.flatMap fun l => lnL l ++ [10]
theorem tx_take (h : List (List (Int × Int))) (k : Nat) (hk : k < h.length) : txL (h.take (k + 1)) = txL (h.take k) ++ lnL (h.getD k []) ++ [10] := by
  unfold txL
  rw [List.take_succ_eq_append_getElem hk, List.flatMap_append, List.getD, List.getElem?_eq_getElem hk, List.flatMap_cons, List.flatMap_nil, List.append_nil, List.append_assoc]; rfl
theorem tx_len {h : List (List (Int × Int))} (hs : ∀ l ∈ h, l.length ≤ 100 ∧ sgC l = true) : (txL h).length ≤ 801 * h.length := by
  induction h with
  | nil => exact Nat.zero_le _
  | cons l h ih =>
    have h1 := hs l (List.mem_cons_self ..)
    have h2 := lnL_len (sg_right h1.2)
    have h3 := ih (fun m hm => hs m (List.mem_cons_of_mem _ hm))
    unfold txL at h3 ⊢
    rw [List.flatMap_cons, List.length_append, List.length_append, List.length_singleton, List.length_cons]
    omega
theorem getD_memL {h : List (List (Int × Int))} {k : Nat} (hk : k < h.length) : h.getD k [] ∈ h := by
  rw [List.getD, List.getElem?_eq_getElem hk]; exact List.getElem_mem hk
end Go.Proofs.YtldblffhkokhlaaDoor
set_option linter.unusedVariables false
set_option linter.unusedSimpArgs false
namespace Go.Proofs.YtldblffhkokhlaaDoor
open Go.RowKit
/-- The next value of letters, and of how many bytes it is: of any text. -/
def nxG (l : List UInt8) : Int × Nat :=
  if l.take 2 = [92, 92] then (92, 2)
  else if l.take 2 = [92, 117] ∧ 8 ≤ l.length ∧ uhE ((l.drop 2).take 6) = 0 ∧ rightB (uhR ((l.drop 2).take 6)) = true then (uhR ((l.drop 2).take 6), 8)
  else (((oneS (mkL l)).1 : Int), (oneS (mkL l)).2)
theorem asc_pt {l : List UInt8} {i : Nat} (hi : i < l.length) (hc : (l.getD i 0).toNat < 128) : vAt (mkL l) i = ((l.getD i 0).toNat, 1) := by
  have hs : i < (mkL l).size := by rw [mkL_size]; exact hi
  have e1 : vAt (mkL l) i = vAt ((mkL l).extract i (mkL l).size) 0 := by rw [vAt_tail _ i 0 (by omega)]; rfl
  have e2 : (mkL l).extract i (mkL l).size = txt (oneI ((l.getD i 0).toNat : Int) ++ ((l.drop (i + 1)).map fun c => (c.toNat : Int))) := by
    rw [mkL_ext, mkL_size, mkL_txt, List.take_of_length_le (by rw [List.length_drop]; exact Nat.le_refl _), ascii_one (by omega) (by omega), List.drop_eq_getElem_cons hi, List.map_cons, List.getD, List.getElem?_eq_getElem hi]; rfl
  rw [e1, e2, vAt_enc _ _ ((ptB_iff _).2 (by omega)), ascii_one (by omega) (by omega)]
  rfl
theorem one_vAt {l : List UInt8} (hl : l ≠ []) : oneS (mkL l) = vAt (mkL l) 0 := by
  have hp := List.length_pos_iff.2 hl
  unfold oneS
  rw [if_neg (by rw [mkL_size]; omega)]
theorem asc_pt_one {l : List UInt8} (hl : l ≠ []) (hc : (l.headD 0).toNat < 128) : oneS (mkL l) = ((l.headD 0).toNat, 1) := by
  have hp := List.length_pos_iff.2 hl
  rw [one_vAt hl]
  cases l with
  | nil => exact absurd rfl hl
  | cons c l => exact asc_pt hp hc
theorem nxG_F {l : List UInt8} (hl : l ≠ []) (hc : (l.headD 0).toNat < 128) : nxG l = nxF l := by
  unfold nxG nxF
  rw [asc_pt_one hl hc]
theorem hex_lt {c : UInt8} (h : worth (c.toNat : Int) < 16) : c.toNat < 128 := by
  unfold worth at h
  split at h
  · omega
  · split at h
    · omega
    · omega
theorem uh_asc {l : List UInt8} (h : uhE l = 0) : ∀ c ∈ l, c.toNat < 128 := by
  have h1 : uhOk l = true := by
    unfold uhE at h
    cases hu : uhOk l
    · rw [hu] at h; simp at h
    · rfl
  unfold uhOk at h1
  rw [Bool.and_eq_true] at h1
  have h2 := h1.1
  unfold readOk at h2
  rw [Bool.and_eq_true] at h2
  have h3 := h2.1
  unfold digs at h3
  rw [List.all_eq_true] at h3
  exact fun c hc => hex_lt (of_decide_eq_true (h3 c hc))
/-- How far the next value goes: what a range over the text steps over is of it, and the rest of it are bytes below 128. -/
theorem nxG_go {l : List UInt8} (hl : l ≠ []) : 1 ≤ (Utf8.decode (mkL l) 0).2 ∧ (Utf8.decode (mkL l) 0).2 ≤ (nxG l).2 ∧ (nxG l).2 ≤ l.length ∧ ∀ j, (Utf8.decode (mkL l) 0).2 ≤ j → j < (nxG l).2 → (l.getD j 0).toNat < 128 := by
  have hp := List.length_pos_iff.2 hl
  have hd := dec_pos (mkL l) 0 (by rw [mkL_size]; omega)
  rw [mkL_size] at hd
  have hv := vAt_size (mkL l) 0 (by rw [mkL_size]; omega)
  unfold nxG
  split
  · rename_i h
    obtain ⟨r, hr⟩ : ∃ r, l = 92 :: 92 :: r := by
      match l, h with
      | [], h => cases h
      | [a], h => simp at h
      | a :: b :: r, h => simp at h; exact ⟨r, by rw [h.1, h.2]⟩
    subst hr
    have h1 : (Utf8.decode (mkL (92 :: 92 :: r)) 0).2 = 1 := by rw [← hv, asc_pt hp (show (92 : UInt8).toNat < 128 by decide)]
    rw [h1]
    refine ⟨Nat.le_refl _, by decide, by simp, fun j h1 h2 => ?_⟩
    obtain rfl : j = 1 := by dsimp only at h2; omega
    exact (show (92 : UInt8).toNat < 128 by decide)
  · split
    · rename_i h0 h
      obtain ⟨r, hr⟩ : ∃ r, l = 92 :: 117 :: r := by
        match l, h.1 with
        | [], h => cases h
        | [a], h => simp at h
        | a :: b :: r, h => simp at h; exact ⟨r, by rw [h.1, h.2]⟩
      subst hr
      have h1 : (Utf8.decode (mkL (92 :: 117 :: r)) 0).2 = 1 := by rw [← hv, asc_pt hp (show (92 : UInt8).toNat < 128 by decide)]
      rw [h1]
      refine ⟨Nat.le_refl _, (show 1 ≤ 8 by decide), h.2.1, fun j h1 h2 => ?_⟩
      dsimp only at h2
      by_cases hj : j = 1
      · subst hj; exact (show (117 : UInt8).toNat < 128 by decide)
      · obtain ⟨i, rfl⟩ : ∃ i, j = i + 2 := ⟨j - 2, by omega⟩
        have hlen := h.2.1
        simp only [List.length_cons] at hlen
        have hm : r.getD i 0 ∈ ((92 :: 117 :: r).drop 2).take 6 := by
          show r.getD i 0 ∈ r.take 6
          rw [List.getD, List.getElem?_eq_getElem (by omega)]
          exact List.mem_take_iff_getElem.2 ⟨i, by omega, rfl⟩
        have := uh_asc h.2.2.1 _ hm
        exact this
    · rw [one_vAt hl, hv]
      exact ⟨hd.1, Nat.le_refl _, by omega, fun j h1 h2 => absurd h2 (by omega)⟩
set_option maxHeartbeats 4000000 in
theorem next_gen (l : List UInt8) (w : World) (hT : UT w) (hl : l.length ≤ 100000) : Calls Tryd.prog 84 #[.string (mkL l)] w fun e w' => e = .returned (.tuple #[.int .i64 (nxG l).1, .int .i64 ((nxG l).2 : Int)]) ∧ Below w.heap.size w w' := by
  have P1 := fun w => pre_any l 92 92 w
  have P2 := fun w => pre_any l 92 117 w
  have ON := fun w hT => one_any (mkL l) w hT (by rw [mkL_size]; omega)
  have UH := fun w => unhex_any ((l.drop 2).take 6) w (by rw [List.length_take]; omega)
  unfold UhPost at UH
  have RT := fun w => right_any (uhR ((l.drop 2).take 6)) w
  have hext : (mkL l).extract 2 8 = mkL ((l.drop 2).take 6) := mkL_ext l 2 8
  have hszi : ((mkL l).size : Int) = (l.length : Int) := by rw [mkL_size]
  have hux : uhE ((l.drop 2).take 6) = 0 ∨ uhE ((l.drop 2).take 6) = 6 := by unfold uhE; split <;> simp
  have HT := Lib.hid hT
  have hnx : Hid (nxG l = if l.take 2 = [92, 92] then (92, 2) else if l.take 2 = [92, 117] ∧ 8 ≤ l.length ∧ uhE ((l.drop 2).take 6) = 0 ∧ rightB (uhR ((l.drop 2).take 6)) = true then (uhR ((l.drop 2).take 6), 8) else (((oneS (mkL l)).1 : Int), (oneS (mkL l)).2)) := Lib.hid rfl
  change ∀ w, Calls Tryd.prog 116 #[.string (mkL ((l.drop 2).take 6))] w _ at UH
  rw [← hext] at UH
  have hb28 : 8 ≤ l.length → 8 ≤ (mkL l).size := fun h => by rw [mkL_size]; exact h
  generalize uhR ((l.drop 2).take 6) = ur at *
  generalize uhE ((l.drop 2).take 6) = ue at *
  generalize nxG l = nx at *
  generalize (oneS (mkL l)).2 = hn2 at *
  generalize (oneS (mkL l)).1 = hd at *
  generalize mkL l = s at *
  generalize hlen : l.length = n at *
  clear hT
  replace ON := Lib.hid ON
  by_cases h1 : l.take 2 = [92, 92]
  · rw [decide_eq_true h1] at P1
    have hr : Hid (nx = (92, 2)) := Lib.hid (by rw [hnx.out, if_pos h1])
    replace P1 := Lib.hid P1
    clear h1 P2 UH RT
    go_enter Tryd.func84, Tryd.ntmps84
    go_wp2_with (go_at_call 115; refine (P1.out _).mono ?_; rintro e w1 ⟨rfl, h1⟩; subst h1)
    refine bodyPost_ret (v := .tuple #[.int .i64 92, .int .i64 2]) (by simp [results, Tryd.results84, go_sem]) rfl ?_
    rw [hr.out]
    exact ⟨rfl, Below.refl _ _⟩
  · rw [decide_eq_false h1] at P1
    replace P1 := Lib.hid P1
    by_cases h2 : l.take 2 = [92, 117]
    · rw [decide_eq_true h2] at P2
      replace P2 := Lib.hid P2
      by_cases h3 : 8 ≤ n
      · have h3i : (8 : Int) ≤ (n : Int) := by omega
        have h8 := hb28 h3
        rcases hux with rfl | rfl
        · cases hr : rightB ur
          · rw [hr] at RT
            have hx : Hid (nx = ((hd : Int), hn2)) := Lib.hid (by rw [hnx.out, if_neg h1, if_neg (by rw [hr]; simp)])
            replace RT := Lib.hid RT; replace UH := Lib.hid UH
            clear h1 h2 hext
            go_enter Tryd.func84, Tryd.ntmps84
            go_wp2_with (first
              | (go_at_call 115; (with_reducible refine (P1.out _).mono ?_); rintro e w1 ⟨rfl, h1⟩; subst h1; clear P1)
              | (go_at_call 115; (with_reducible refine (P2.out _).mono ?_); rintro e w1 ⟨rfl, h1⟩; subst h1; clear P2)
              | (go_at_call 116; refine (UH.out _).mono ?_; rintro e w2 ⟨rfl, b2⟩)
              | (go_at_call 108; refine (RT.out _).mono ?_; rintro e w3 ⟨rfl, h3⟩; subst h3)
              | (go_at_call 117; refine (ON.out _ (HT.out.below b2)).mono ?_; rintro e w4 ⟨rfl, b4⟩))
            refine bodyPost_ret (v := .tuple #[.int .i64 (hd : Int), .int .i64 (hn2 : Int)]) (by simp [results, Tryd.results84, go_sem]) rfl ?_
            rw [hx.out]
            exact ⟨rfl, seqB b2 b4⟩
          · rw [hr] at RT
            have hx : Hid (nx = (ur, 8)) := Lib.hid (by rw [hnx.out, if_neg h1, if_pos ⟨h2, h3, rfl, hr⟩])
            replace RT := Lib.hid RT; replace UH := Lib.hid UH
            clear h1 h2 hext
            go_enter Tryd.func84, Tryd.ntmps84
            go_wp2_with (first
              | (go_at_call 115; (with_reducible refine (P1.out _).mono ?_); rintro e w1 ⟨rfl, h1⟩; subst h1; clear P1)
              | (go_at_call 115; (with_reducible refine (P2.out _).mono ?_); rintro e w1 ⟨rfl, h1⟩; subst h1; clear P2)
              | (go_at_call 116; refine (UH.out _).mono ?_; rintro e w2 ⟨rfl, b2⟩)
              | (go_at_call 108; refine (RT.out _).mono ?_; rintro e w3 ⟨rfl, h3⟩; subst h3))
            refine bodyPost_ret (v := .tuple #[.int .i64 ur, .int .i64 8]) (by simp [results, Tryd.results84, go_sem]) rfl ?_
            rw [hx.out]
            exact ⟨rfl, b2⟩
        · have hx : Hid (nx = ((hd : Int), hn2)) := Lib.hid (by rw [hnx.out, if_neg h1, if_neg (by omega)])
          replace UH := Lib.hid UH
          clear h1 h2 hext RT
          go_enter Tryd.func84, Tryd.ntmps84
          go_wp2_with (first
            | (go_at_call 115; (with_reducible refine (P1.out _).mono ?_); rintro e w1 ⟨rfl, h1⟩; subst h1; clear P1)
            | (go_at_call 115; (with_reducible refine (P2.out _).mono ?_); rintro e w1 ⟨rfl, h1⟩; subst h1; clear P2)
            | (go_at_call 116; refine (UH.out _).mono ?_; rintro e w2 ⟨rfl, b2⟩)
            | (go_at_call 117; refine (ON.out _ (HT.out.below b2)).mono ?_; rintro e w4 ⟨rfl, b4⟩))
          refine bodyPost_ret (v := .tuple #[.int .i64 (hd : Int), .int .i64 (hn2 : Int)]) (by simp [results, Tryd.results84, go_sem]) rfl ?_
          rw [hx.out]
          exact ⟨rfl, seqB b2 b4⟩
      · have h3i : ¬ (8 : Int) ≤ (n : Int) := by omega
        have hx : Hid (nx = ((hd : Int), hn2)) := Lib.hid (by rw [hnx.out, if_neg h1, if_neg (by omega)])
        clear h1 h2 hext RT UH hb28
        go_enter Tryd.func84, Tryd.ntmps84
        go_wp2_with (first
          | (go_at_call 115; (with_reducible refine (P1.out _).mono ?_); rintro e w1 ⟨rfl, h1⟩; subst h1; clear P1)
          | (go_at_call 115; (with_reducible refine (P2.out _).mono ?_); rintro e w1 ⟨rfl, h1⟩; subst h1; clear P2)
          | (go_at_call 117; refine (ON.out _ HT.out).mono ?_; rintro e w4 ⟨rfl, b4⟩))
        refine bodyPost_ret (v := .tuple #[.int .i64 (hd : Int), .int .i64 (hn2 : Int)]) (by simp [results, Tryd.results84, go_sem]) rfl ?_
        rw [hx.out]
        exact ⟨rfl, b4⟩
    · rw [decide_eq_false h2] at P2
      replace P2 := Lib.hid P2
      have hx : Hid (nx = ((hd : Int), hn2)) := Lib.hid (by rw [hnx.out, if_neg h1, if_neg (fun h => h2 h.1)])
      clear h1 h2 hext RT UH hb28
      go_enter Tryd.func84, Tryd.ntmps84
      go_wp2_with (first
        | (go_at_call 115; (with_reducible refine (P1.out _).mono ?_); rintro e w1 ⟨rfl, h1⟩; subst h1; clear P1)
        | (go_at_call 115; (with_reducible refine (P2.out _).mono ?_); rintro e w1 ⟨rfl, h1⟩; subst h1; clear P2)
        | (go_at_call 117; refine (ON.out _ HT.out).mono ?_; rintro e w4 ⟨rfl, b4⟩))
      refine bodyPost_ret (v := .tuple #[.int .i64 (hd : Int), .int .i64 (hn2 : Int)]) (by simp [results, Tryd.results84, go_sem]) rfl ?_
      rw [hx.out]
      exact ⟨rfl, b4⟩
end Go.Proofs.YtldblffhkokhlaaDoor
