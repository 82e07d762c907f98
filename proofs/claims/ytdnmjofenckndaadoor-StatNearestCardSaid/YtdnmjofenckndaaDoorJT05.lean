/-
  Joined: Ki2 Ki3 St3 St6 St8 St11 St7 St9 St10 ArgS.
-/
import Derived.Test.YtdnmjofenckndaaDoorJT01
import Derived.Test.YtdnmjofenckndaaDoorJT03
import Derived.Test.YtdnmjofenckndaaDoorJT04
import Derived.Carry
import Derived.BigQuiet
import Derived.Deep.RegionHeld3
import Derived.Laws.Cover2
import Derived.Laws.FloatArith
import Derived.Deep.SlicePairs
import Derived.ChangeArms
import Derived.Lib.LaidTab
import Derived.Lib.LaidU8
import Derived.Lib.SmallJoins
set_option linter.unusedVariables false
set_option linter.unusedSimpArgs false
set_option maxRecDepth 100000
set_option linter.unusedVariables false
set_option linter.unusedSimpArgs false
namespace Go.Proofs.YtdnmjofenckndaaDoor
open Go.RowKit
abbrev Sg2 := Int × Int
/-- The blocks S stay as they are. -/
structure KeptK (S : Nat → Prop) (w w' : World) : Prop where
  os : w'.os = w.os
  tape : w'.tape = w.tape
  output : w'.output = w.output
  size : w.heap.size ≤ w'.heap.size
  block : ∀ k, S k → w'.heap[k]? = w.heap[k]?
theorem KeptK.trans {S : Nat → Prop} {w w1 w2 : World} (h : KeptK S w w1) (k : KeptK S w1 w2) : KeptK S w w2 :=
  ⟨k.os.trans h.os, k.tape.trans h.tape, k.output.trans h.output, Nat.le_trans h.size k.size, fun j hj => (k.block j hj).trans (h.block j hj)⟩
theorem KeptK.below {S : Nat → Prop} {w w' : World} (h : KeptK S w w') (B : Nat) (hS : ∀ k, k < B → S k) : Below B w w' :=
  ⟨h.os, h.tape, h.output, h.size, fun k hk => h.block k (hS k hk)⟩
theorem KeptK.of {S : Nat → Prop} {w w' : World} (h : Below w.heap.size w w') (hS : ∀ k, S k → k < w.heap.size) : KeptK S w w' := ⟨h.os, h.tape, h.output, h.size, fun k hk => h.block k (hS k hk)⟩
/-- The ring's texts. -/
def RiT (w : World) (P b : Nat) (T : List (List Sg2)) (vs : List SlV) : Prop := vs.length = T.length ∧ ∀ j, j < T.length → (vs.getD j sl0).2.1 = (T.getD j []).length ∧ SlS (fun k => k < w.heap.size ∧ k ≠ P ∧ k ≠ b) w (vs.getD j sl0).1 (T.getD j []) (vs.getD j sl0).2.2
/-- A ring lies at P: its texts, the oldest's number, its hand; the blocks S are none of its own. -/
structure RiS (S : Nat → Prop) (P : Nat) (M : Int) (o : Int) (T : List (List Sg2)) (h : Nat) (w : World) : Prop where
  ex : ∃ b vs, w.heap[P]? = some (.cells #[.int .i64 M, .map (some b), .int .i64 o, .int .i64 (o + T.length), .int .i64 (o + h)] 118 (0, 0)) ∧ MapF w b o vs ∧ RiT w P b T vs ∧ b ≠ P ∧ ∀ k, S k → k < w.heap.size ∧ k ≠ P ∧ k ≠ b
  hh : h < T.length ∨ (T = [] ∧ h = 0)
  ne : ∀ t ∈ T, t ≠ [] ∧ t.length ≤ 65536
theorem RiT.keep {w w' : World} {P b : Nat} {T : List (List Sg2)} {vs : List SlV} (h : RiT w P b T vs) (hs : w.heap.size ≤ w'.heap.size) (hk : ∀ k, k < w.heap.size → k ≠ P → k ≠ b → w'.heap[k]? = w.heap[k]?) : RiT w' P b T vs :=
  ⟨h.1, fun j hj => ⟨(h.2 j hj).1, ((h.2 j hj).2.keep hs (fun k hk' => hk k hk'.1 hk'.2.1 hk'.2.2)).mono (fun k hk' => ⟨Nat.lt_of_lt_of_le hk'.1 hs, hk'.2⟩)⟩⟩
section
variable {S : Nat → Prop} {P : Nat} {M o : Int} {T : List (List Sg2)} {h : Nat} {w w' : World}
theorem RiS.grow (hr : RiS S P M o T h w) (hb : Below w.heap.size w w') {Q : Nat → Prop} (hQ : ∀ k, Q k → S k ∨ (w.heap.size ≤ k ∧ k < w'.heap.size)) : RiS Q P M o T h w' := by
  obtain ⟨b, vs, h1, h2, h3, h4, h5⟩ := hr.ex
  refine ⟨⟨b, vs, blk_below h1 hb, h2.below hb, h3.keep hb.size (fun k hk _ _ => hb.block k hk), h4, fun k hk => ?_⟩, hr.hh, hr.ne⟩
  rcases hQ k hk with hk | ⟨hk1, hk2⟩
  · have := h5 k hk
    exact ⟨Nat.lt_of_lt_of_le this.1 hb.size, this.2⟩
  · have := blk_lt h1; have := h2.lt
    exact ⟨hk2, by omega, by omega⟩
theorem RiS.below (hr : RiS S P M o T h w) (hb : Below w.heap.size w w') : RiS S P M o T h w' := hr.grow hb (fun _ hk => Or.inl hk)
theorem RiS.lt (hr : RiS S P M o T h w) : ∀ k, S k → k < w.heap.size := fun k hk => by
  obtain ⟨_, _, _, _, _, _, h5⟩ := hr.ex
  exact (h5 k hk).1
theorem RiS.bd (hr : RiS S P M o T h w) : 0 ≤ o ∧ o + T.length ≤ 1000000000 := by
  obtain ⟨b, vs, _, h2, h3, _⟩ := hr.ex
  have := h2.lo; have := h2.hi
  rw [h3.1] at this
  omega
theorem ri_len (hr : RiS S P M o T h w) : Calls Tryd.prog 95 #[.pointer (some ⟨P, 0, none⟩)] w fun e w' => e = .returned (.int .i64 T.length) ∧ w = w' := by
  obtain ⟨b, vs, h1, h2, h3, _⟩ := hr.ex
  have y := cell_of_row _ _ 1 _ _ _ h1; have c1 := y; clear y; dsimp at c1
  have hl := fun ty => h2.len ty
  rw [h3.1] at hl
  clear hr h1 h2 h3
  go_enter Tryd.func95, Tryd.ntmps95
  go_wp2
  go_ret
  exact ⟨rfl, rfl⟩
theorem kept_setK {S : Nat → Prop} {P : Nat} {w : World} (hP : ∀ k, S k → k ≠ P) (i : Nat) (v : Value) : KeptK S w (w.setCell ⟨P, i, none⟩ v) :=
  ⟨rfl, rfl, rfl, by simp [World.setCell], fun k hk => Below.heap_setCell _ _ _ _ (hP k hk)⟩
/-- The hand is set. -/
theorem RiS.hand (hr : RiS S P M o T h w) (h' : Nat) (hl : h' < T.length) : RiS S P M o T h' (w.setCell ⟨P, 4, none⟩ (.int .i64 (o + h'))) ∧ KeptK S w (w.setCell ⟨P, 4, none⟩ (.int .i64 (o + h'))) := by
  obtain ⟨b, vs, h1, h2, h3, h4, h5⟩ := hr.ex
  have hz : (w.setCell ⟨P, 4, none⟩ (.int .i64 (o + h'))).heap.size = w.heap.size := by simp [World.setCell]
  exact ⟨⟨⟨b, vs, blk_set h1 4 _, h2.blk (Below.heap_setCell _ _ _ _ h4), h3.keep (Nat.le_of_eq hz.symm) (fun k _ hk _ => Below.heap_setCell _ _ _ _ hk), h4, fun k hk => by rw [hz]; exact h5 k hk⟩, Or.inl hl, hr.ne⟩, kept_setK (fun k hk => (h5 k hk).2.1) _ _⟩
theorem RiS.hand2 (hr : RiS S P M o T h w) (u : Value) (m : Nat) (h' : Nat) (hl : h' < T.length) : RiS S P M o T h' (((w.setCell ⟨P, 4, none⟩ u).drewN m).setCell ⟨P, 4, none⟩ (.int .i64 (o + h'))) ∧ KeptK S w (((w.setCell ⟨P, 4, none⟩ u).drewN m).setCell ⟨P, 4, none⟩ (.int .i64 (o + h'))) := by
  obtain ⟨b, vs, h1, h2, h3, h4, h5⟩ := hr.ex
  have hz1 : (w.setCell ⟨P, 4, none⟩ u).heap.size = w.heap.size := by simp [World.setCell]
  have hd := drewN_below (Below.refl (w.setCell ⟨P, 4, none⟩ u).heap.size (w.setCell ⟨P, 4, none⟩ u)) m
  have b1 := blk_below (blk_set h1 4 u) hd
  have hz : (((w.setCell ⟨P, 4, none⟩ u).drewN m).setCell ⟨P, 4, none⟩ (.int .i64 (o + h'))).heap.size = ((w.setCell ⟨P, 4, none⟩ u).drewN m).heap.size := by simp [World.setCell]
  have hk : ∀ k, k < w.heap.size → k ≠ P → (((w.setCell ⟨P, 4, none⟩ u).drewN m).setCell ⟨P, 4, none⟩ (.int .i64 (o + h'))).heap[k]? = w.heap[k]? := fun k hk1 hk2 =>
    (Below.heap_setCell _ _ _ _ hk2).trans ((hd.block k (by rw [hz1]; exact hk1)).trans (Below.heap_setCell _ _ _ _ hk2))
  have hs : w.heap.size ≤ (((w.setCell ⟨P, 4, none⟩ u).drewN m).setCell ⟨P, 4, none⟩ (.int .i64 (o + h'))).heap.size := by rw [hz, ← hz1]; exact hd.size
  exact ⟨⟨⟨b, vs, blk_set b1 4 _, h2.blk (hk b h2.lt h4), h3.keep hs (fun k hk1 hk2 _ => hk k hk1 hk2), h4, fun k hk' => ⟨Nat.lt_of_lt_of_le (h5 k hk').1 hs, (h5 k hk').2⟩⟩, Or.inl hl, hr.ne⟩, ⟨hd.os, hd.tape, hd.output, hs, fun k hk' => hk k (h5 k hk').1 (h5 k hk').2.1⟩⟩
theorem ri_turn_no (hr : RiS S P M o [] h w) : Calls Tryd.prog 94 #[.pointer (some ⟨P, 0, none⟩)] w fun e w' => e = .returned (.bool false) ∧ w = w' := by
  have LE := Lib.hid (ri_len hr)
  clear hr
  go_enter Tryd.func94, Tryd.ntmps94
  go_wp2_with (go_at_call 95; refine LE.out.mono ?_; rintro e w1 ⟨rfl, rfl⟩)
  go_ret
  exact ⟨rfl, rfl⟩
/-- Where a turned hand is. -/
def tuH (h n : Nat) : Nat := if h = 0 then n - 1 else h - 1
theorem ri_turn (hr : RiS S P M o T h w) (hT : T ≠ []) : Calls Tryd.prog 94 #[.pointer (some ⟨P, 0, none⟩)] w fun e w' => e = .returned (.bool true) ∧ RiS S P M o T (tuH h T.length) w' ∧ KeptK S w w' := by
  have hp := List.length_pos_iff.2 hT
  have LE := Lib.hid (ri_len hr)
  have hlo := hr.bd.1; have hhi := hr.bd.2
  have hh : h < T.length := by
    rcases hr.hh with h1 | h1
    · exact h1
    · exact absurd h1.1 hT
  obtain ⟨b, vs, h1, h2, h3, h4, h5⟩ := hr.ex
  have y := fun i => cell_of_row _ _ i _ _ _ h1
  have c2 := y 2; have c3 := y 3; have c4 := y 4; clear y; dsimp at c2 c3 c4
  have f4 := frozen_of_row _ P 4 _ _ h1
  by_cases h0 : h = 0
  · subst h0
    have R1 := Lib.hid fun m => hr.hand2 (.int .i64 (o - 1)) m (T.length - 1) (by omega)
    have hv : Hid (o + ((T.length - 1 : Nat) : Int) = o + T.length - 1) := Lib.hid (by omega)
    have htu : Hid (tuH 0 T.length = T.length - 1) := Lib.hid rfl
    have b1 := blk_set h1 4 (.int .i64 (o - 1))
    have d2 : (w.setCell ⟨P, 4, none⟩ (.int .i64 (o - 1))).cell? ⟨P, 2, none⟩ = some (.int .i64 o) := by rw [cell_of_row _ _ _ _ _ _ b1]; rfl
    have d3 : (w.setCell ⟨P, 4, none⟩ (.int .i64 (o - 1))).cell? ⟨P, 3, none⟩ = some (.int .i64 (o + T.length)) := by rw [cell_of_row _ _ _ _ _ _ b1]; rfl
    have d4 : (w.setCell ⟨P, 4, none⟩ (.int .i64 (o - 1))).cell? ⟨P, 4, none⟩ = some (.int .i64 (o - 1)) := by rw [cell_of_row _ _ _ _ _ _ b1]; rfl
    have g4 := frozen_of_row _ P 4 _ _ b1
    rw [hv.out] at R1
    simp only [Int.natCast_zero, Int.add_zero] at c4
    clear hr h1 h2 h3 h5 b1
    generalize hn : T.length = n at *
    have Hn := Lib.hid hn; clear hn
    have hlt : o - 1 < o := by omega
    have hne : ¬ (n : Int) = 0 := by omega
    go_enter Tryd.func94, Tryd.ntmps94
    go_wp2_with (go_at_call 95; refine LE.out.mono ?_; rintro e w1 ⟨rfl, rfl⟩)
    go_quiet (fail)
    go_wp2
    go_ret
    rw [htu.out]
    exact ⟨rfl, R1.out nq⟩
  · have R1 := hr.hand (h - 1) (by omega)
    have hv : o + ((h - 1 : Nat) : Int) = o + (h : Int) - 1 := by omega
    rw [hv] at R1
    have hR := Lib.hid R1
    have htu : Hid (tuH h T.length = h - 1) := Lib.hid (by unfold tuH; rw [if_neg h0])
    have b1 := blk_set h1 4 (.int .i64 (o + (h : Int) - 1))
    have d2 : (w.setCell ⟨P, 4, none⟩ (.int .i64 (o + (h : Int) - 1))).cell? ⟨P, 2, none⟩ = some (.int .i64 o) := by rw [cell_of_row _ _ _ _ _ _ b1]; rfl
    have d4 : (w.setCell ⟨P, 4, none⟩ (.int .i64 (o + (h : Int) - 1))).cell? ⟨P, 4, none⟩ = some (.int .i64 (o + (h : Int) - 1)) := by rw [cell_of_row _ _ _ _ _ _ b1]; rfl
    have hSl := Lib.hid hr.lt
    have hz1 : (w.setCell ⟨P, 4, none⟩ (.int .i64 (o + (h : Int) - 1))).heap.size = w.heap.size := by simp [World.setCell]
    have HZ := Lib.hid hz1
    clear hr h1 h2 h3 h5 b1 R1 hv hz1
    generalize hn : T.length = n at *
    have Hn := Lib.hid hn; clear hn
    have hlt : ¬ o + (h : Int) - 1 < o := by omega
    have hne : ¬ (n : Int) = 0 := by omega
    go_enter Tryd.func94, Tryd.ntmps94
    go_wp2_with (go_at_call 95; refine LE.out.mono ?_; rintro e w1 ⟨rfl, rfl⟩)
    go_quiet (fail)
    go_wp2
    go_ret
    rw [htu.out]
    have hd := drewN_below (Below.refl (w.setCell ⟨P, 4, none⟩ (.int .i64 (o + (h : Int) - 1))).heap.size (w.setCell ⟨P, 4, none⟩ (.int .i64 (o + (h : Int) - 1)))) nq
    exact ⟨rfl, hR.out.1.below hd, hR.out.2.trans (KeptK.of hd (fun k hk => by rw [HZ.out]; exact hSl.out k hk))⟩
theorem ri_new_no (M : Int) (w : World) (hM : M < 1 ∨ 60 < M) : Calls Tryd.prog 31 #[.int .i64 M] w fun e w' => e = .returned (.tuple #[.pointer none, .int .i64 3]) ∧ w = w' := by
  by_cases h1 : M < 1
  · clear hM
    go_enter Tryd.func31, Tryd.ntmps31
    go_wp2
    refine bodyPost_ret (v := .tuple #[.pointer none, .int .i64 3]) (by simp [results, Tryd.results31, go_sem]) rfl ?_
    exact ⟨rfl, rfl⟩
  · have h2 : (60 : Int) < M := by omega
    clear hM
    go_enter Tryd.func31, Tryd.ntmps31
    go_wp2
    refine bodyPost_ret (v := .tuple #[.pointer none, .int .i64 3]) (by simp [results, Tryd.results31, go_sem]) rfl ?_
    exact ⟨rfl, rfl⟩
theorem ri_new (M : Int) (w : World) (h1 : 1 ≤ M) (h2 : M ≤ 60) : Calls Tryd.prog 31 #[.int .i64 M] w fun e w' => ∃ P, e = .returned (.tuple #[.pointer (some ⟨P, 0, none⟩), .int .i64 0]) ∧ (∀ S : Nat → Prop, (∀ k, S k → k < w.heap.size) → RiS S P M 0 [] 0 w') ∧ w.heap.size ≤ P ∧ P < w'.heap.size ∧ Below w.heap.size w w' := by
  have hmm := @run_makeMap Tryd.prog
  have h1i : ¬ M < 1 := by omega
  have h2i : ¬ 60 < M := by omega
  have hm := MapF.made w
  have s1 : (w.alloc (.map #[] 0)).heap.size = w.heap.size + 1 := by simp
  have B1 := below_alloc w (.map #[] 0)
  have B2 := below_alloc (w.alloc (.map #[] 0)) (.cells #[.int .i64 M, .map (some w.heap.size), .int .i64 0, .int .i64 0, .int .i64 0] 118)
  have hn := heap_alloc_new (w.alloc (.map #[] 0)) (.cells #[.int .i64 M, .map (some w.heap.size), .int .i64 0, .int .i64 0, .int .i64 0] 118)
  rw [s1] at hn
  have s2 : ((w.alloc (.map #[] 0)).alloc (.cells #[.int .i64 M, .map (some w.heap.size), .int .i64 0, .int .i64 0, .int .i64 0] 118)).heap.size = w.heap.size + 1 + 1 := by simp
  have HR : Hid (∀ S : Nat → Prop, (∀ k, S k → k < w.heap.size) → RiS S (w.heap.size + 1) M 0 [] 0 ((w.alloc (.map #[] 0)).alloc (.cells #[.int .i64 M, .map (some w.heap.size), .int .i64 0, .int .i64 0, .int .i64 0] 118))) := Lib.hid fun S hS =>
    ⟨⟨w.heap.size, [], hn, hm.below B2, ⟨rfl, fun j hj => absurd hj (Nat.not_lt_zero j)⟩, by omega, fun k hk => by have := hS k hk; rw [s2]; omega⟩, Or.inr ⟨rfl, rfl⟩, fun t ht => absurd ht (List.not_mem_nil)⟩
  have HB := Lib.hid (seqB B1 B2)
  have HS2 := Lib.hid s2
  clear hm B1 B2 hn s1 s2
  go_enter Tryd.func31, Tryd.ntmps31
  go_wp2
  refine bodyPost_ret (v := .tuple #[.pointer (some ⟨w.heap.size + 1, 0, none⟩), .int .i64 0]) (by simp [results, Tryd.results31, go_sem]) rfl ?_
  exact ⟨_, rfl, HR.out, by omega, by rw [HS2.out]; omega, HB.out⟩
end
end Go.Proofs.YtdnmjofenckndaaDoor
set_option linter.unusedVariables false
set_option linter.unusedSimpArgs false
namespace Go.Proofs.YtdnmjofenckndaaDoor
open Go.RowKit
/-- Lists of signs lie in memory, each with its room. -/
def SgsK (S : Nat → Prop) (w : World) (a : Option Addr) (H : List (List Sg2)) : Prop :=
  ∀ i, i < H.length → ∃ b off ai ci, a = some ⟨b, off, none⟩ ∧ S b ∧ b < w.heap.size ∧ w.cell? ⟨b, off + i, none⟩ = some (.slice ai (H.getD i []).length ci) ∧ SlS S w ai (H.getD i []) ci
theorem SgsK.below {S : Nat → Prop} {w w' : World} {a : Option Addr} {H : List (List Sg2)} (s : SgsK S w a H) (hb : Below w.heap.size w w') : SgsK S w' a H := fun i hi => by
  obtain ⟨b, off, ai, ci, e, hS, hlt, h1, h2⟩ := s i hi
  exact ⟨b, off, ai, ci, e, hS, Nat.lt_of_lt_of_le hlt hb.size, (hb.cell (p := ⟨b, off + i, none⟩) hlt).trans h1, h2.below hb⟩
theorem SgsK.mono {S Q : Nat → Prop} {w : World} {a : Option Addr} {H : List (List Sg2)} (s : SgsK S w a H) (hQ : ∀ k, S k → Q k) : SgsK Q w a H := fun i hi => by
  obtain ⟨b, off, ai, ci, e, hS, hlt, h1, h2⟩ := s i hi
  exact ⟨b, off, ai, ci, e, hQ b hS, hlt, h1, h2.mono hQ⟩
theorem SgsK.keep {S : Nat → Prop} {w w' : World} {a : Option Addr} {H : List (List Sg2)} (s : SgsK S w a H) (hz : w.heap.size ≤ w'.heap.size) (hk : ∀ k, S k → w'.heap[k]? = w.heap[k]?) : SgsK S w' a H := fun i hi => by
  obtain ⟨b, off, ai, ci, e, hS, hlt, h1, h2⟩ := s i hi
  refine ⟨b, off, ai, ci, e, hS, Nat.lt_of_lt_of_le hlt hz, ?_, h2.keep hz hk⟩
  rw [← h1]; unfold World.cell?; rw [hk b hS]
/-- Lists under way: a row of slices, each of the call's own. -/
structure RdK (B : Nat) (v : Value) (E : List (List Sg2)) (w : World) : Prop where
  ex : ∃ vs : List Value, w.ownsRow B 22 1 v E.length vs ∧ ∀ i, i < E.length → ∃ x, vs[i]? = some x ∧ OwS w B x (E.getD i [])
  le : B ≤ w.heap.size
theorem RdK.below {B : Nat} {v : Value} {E : List (List Sg2)} {w w' : World} (h : RdK B v E w) (hb : Below w.heap.size w w') : RdK B v E w' := by
  obtain ⟨vs, h1, h2⟩ := h.ex
  refine ⟨⟨vs, World.ownsRow.kept h1 (row := none) ⟨hb.os, hb.tape, hb.output, hb.size, fun k hk _ => hb.block k hk⟩ (by cases v.ownBlock <;> simp), fun i hi => by obtain ⟨x, e, hx⟩ := h2 i hi; exact ⟨x, e, ows_keep hx hb⟩⟩, Nat.le_trans h.le hb.size⟩
theorem infoSl : (Tryd.prog.info? 22).map (fun i => (i.zero, i.size, i.bytes)) = some (some (.slice none 0 0), 1, 24) := by kernel_rfl
theorem RdK.form {B : Nat} {v : Value} {E : List (List Sg2)} {w : World} (h : RdK B v E w) : ∃ a c, v = .slice a E.length c := by
  obtain ⟨vs, h1, _⟩ := h.ex
  rcases h1.2 with ⟨rfl, h0⟩ | ⟨g, cap, cur, rfl, _⟩
  · exact ⟨none, 0, by rw [h0]⟩
  · exact ⟨_, cap, rfl⟩
theorem RdK.sgs {B : Nat} {v : Value} {E : List (List Sg2)} {w : World} (h : RdK B v E w) : ∃ a c, v = .slice a E.length c ∧ E.length ≤ c ∧ (a = none → c = 0) ∧ SgsK (fun k => B ≤ k ∧ k < w.heap.size) w a E := by
  obtain ⟨vs, h1, h2⟩ := h.ex
  rcases h1.2 with ⟨rfl, h0⟩ | ⟨g, cap, cur, rfl, hB, hg, hle, _⟩
  · exact ⟨none, 0, by rw [h0], by omega, fun _ => rfl, fun j hj => by omega⟩
  · refine ⟨_, cap, rfl, hle, fun e => (by cases e), fun i hi => ?_⟩
    obtain ⟨x, e, hx⟩ := h2 i hi
    obtain ⟨ai, ci, rfl, hs⟩ := hx.sl
    exact ⟨g, 0, ai, ci, rfl, ⟨hB, blk_lt hg⟩, blk_lt hg, by rw [Nat.zero_add, h1.cellAt i (by omega)]; exact e, hs⟩
theorem RdK.next {B : Nat} {v x : Value} {E : List (List Sg2)} {L : List Sg2} {w w1 : World} {v' : Value} {vs : List Value} (h2 : ∀ i, i < E.length → ∃ x, vs[i]? = some x ∧ OwS w B x (E.getD i [])) (hvl : vs.length = E.length) (hw : w.ownsRow B 22 1 v E.length vs) (hx : OwS w B x L)
    (ho : w1.ownsRow B 22 1 v' (E.length + 1) (vs ++ [x])) (hg : w.grownBy w1 v.ownBlock) (hle : B ≤ w.heap.size) : RdK B v' (E ++ [L]) w1 := by
  have hk : ∀ y M, OwS w B y M → OwS w1 B y M := fun y M hy => World.ownsRow.kept hy hg (own_ne_own hy hw (by decide))
  refine ⟨⟨vs ++ [x], by rw [List.length_append]; exact ho, fun i hi => ?_⟩, Nat.le_trans hle hg.size⟩
  rw [List.length_append, List.length_singleton] at hi
  by_cases hlt : i < E.length
  · obtain ⟨y, e, hy⟩ := h2 i hlt
    refine ⟨y, by rw [List.getElem?_append_left (by omega)]; exact e, ?_⟩
    rw [show (E ++ [L]).getD i [] = E.getD i [] by rw [List.getD, List.getElem?_append_left hlt, List.getD]]
    exact hk _ _ hy
  · obtain rfl : i = E.length := by omega
    refine ⟨x, by rw [List.getElem?_append_right (by omega), hvl, Nat.sub_self]; rfl, ?_⟩
    rw [show (E ++ [L]).getD E.length [] = L by rw [List.getD, List.getElem?_append_right (Nat.le_refl _), Nat.sub_self]; rfl]
    exact hk _ _ hx
section
variable {S : Nat → Prop} {P : Nat} {M o : Int} {T : List (List Sg2)} {h : Nat} {w w' : World}
theorem ri_teller (P : Nat) (w : World) : Calls Tryd.prog 97 #[.pointer (some ⟨P, 0, none⟩)] w fun e w' => e = .returned (.func (.func 172) #[] #[.pointer (some ⟨w.heap.size, 0, none⟩)]) ∧ w.alloc (.cells #[.pointer (some ⟨P, 0, none⟩)] 45) = w' := by
  have hmf : ∀ (fn : Fn) (first cap : Array Value) (w : World), (Instr.makeFunc fn first cap).run Tryd.prog w = .ok (.func fn first cap) w := fun _ _ _ _ => rfl
  go_enter Tryd.func97, Tryd.ntmps97
  go_wp2
  go_ret
  exact ⟨rfl, rfl⟩
theorem getD_memT {T : List (List Sg2)} {j : Nat} (hj : j < T.length) : T.getD j [] ∈ T := by
  rw [List.getD, List.getElem?_eq_getElem hj]; exact List.getElem_mem hj
theorem ri_text (hr : RiS S P M o T h w) (q j : Nat) (i : Int) (hi : i = o + j) (hq : w.cell? ⟨q, 0, none⟩ = some (.pointer (some ⟨P, 0, none⟩))) (hj : j < T.length) :
    Calls Tryd.prog 172 #[.int .i64 i, .pointer (some ⟨q, 0, none⟩)] w fun e w' => ∃ b d, e = .returned (.slice b (T.getD j []).length d) ∧ OwS w' w.heap.size (.slice b (T.getD j []).length d) (T.getD j []) ∧ Below w.heap.size w w' := by
  obtain ⟨b, vs, h1, h2, h3, _⟩ := hr.ex
  have y := cell_of_row _ _ 1 _ _ _ h1; have c1 := y; clear y; dsimp at c1
  have hlk := h2.look (j := j) (by rw [h3.1]; exact hj)
  rw [← hi] at hlk
  obtain ⟨e1, e2⟩ := h3.2 j hj
  have hsz := (hr.ne _ (getD_memT hj)).2
  generalize vs.getD j sl0 = s at *
  obtain ⟨sa, sn, sc⟩ := s
  dsimp only at e1 e2
  have hlk2 : (Instr.lookup 116 (.map (some b)) (.int .i64 i) false).run Tryd.prog w = .ok (.slice sa sn sc) w := hlk
  rw [← e1] at hsz ⊢
  have CL := Lib.hid (clone_sg (T.getD j []) sa sn sc _ w e1.symm (by omega) e2)
  clear hr h1 h2 h3 hlk e1 e2 hi
  go_enter Tryd.func172, Tryd.ntmps172
  go_wp2_with (go_at_call 92; refine CL.out.mono ?_; rintro e w1 ⟨b1, d1, rfl, ho, hb⟩)
  go_ret
  exact ⟨_, _, rfl, ho, hb⟩
theorem ri_now_no (hr : RiS S P M o [] h w) : Calls Tryd.prog 33 #[.pointer (some ⟨P, 0, none⟩)] w fun e w' => e = .returned (.slice none 0 0) ∧ w = w' := by
  have LE := Lib.hid (ri_len hr)
  clear hr
  go_enter Tryd.func33, Tryd.ntmps33
  go_wp2_with (go_at_call 95; refine LE.out.mono ?_; rintro e w1 ⟨rfl, rfl⟩)
  go_ret
  exact ⟨rfl, rfl⟩
set_option maxHeartbeats 1000000 in
theorem ri_now (hr : RiS S P M o T h w) (hT : T ≠ []) : Calls Tryd.prog 33 #[.pointer (some ⟨P, 0, none⟩)] w fun e w' => ∃ b d, e = .returned (.slice b (T.getD h []).length d) ∧ OwS w' w.heap.size (.slice b (T.getD h []).length d) (T.getD h []) ∧ Below w.heap.size w w' := by
  have hp := List.length_pos_iff.2 hT
  have LE := Lib.hid (ri_len hr)
  have hh : h < T.length := by
    rcases hr.hh with h1 | h1
    · exact h1
    · exact absurd h1.1 hT
  have hne : ¬ (T.length : Int) = 0 := by omega
  have HR := Lib.hid hr
  have TE := Lib.hid fun w => ri_teller P w
  obtain ⟨b, vs, h1, _⟩ := hr.ex
  have y := cell_of_row _ _ 4 _ _ _ h1; have c4 := y; clear y; dsimp at c4
  have HP := Lib.hid (blk_lt h1)
  have HH := Lib.hid hh
  obtain ⟨m, hm⟩ : ∃ m, (T.getD h []).length = m := ⟨_, rfl⟩
  have TX : Hid (∀ (w' : World) (q : Nat), RiS S P M o T h w' → w'.cell? ⟨q, 0, none⟩ = some (.pointer (some ⟨P, 0, none⟩)) → Calls Tryd.prog 172 #[.int .i64 (o + h), .pointer (some ⟨q, 0, none⟩)] w' fun e w'' => ∃ b d, e = .returned (.slice b m d) ∧ OwS w'' w'.heap.size (.slice b m d) (T.getD h []) ∧ Below w'.heap.size w' w'') := Lib.hid fun w' q h' hq => by
    have := ri_text h' q h _ rfl hq hh
    rw [hm] at this; exact this
  rw [hm]
  clear hr h1 hh hT hp hm
  go_enter Tryd.func33, Tryd.ntmps33
  go_upto_region 3 with (go_at_call 95; refine LE.out.mono ?_; rintro e w1 ⟨rfl, rfl⟩)
  have Bd : Below w.heap.size w w.drew := (Below.refl _ _).drew
  have R1 := Lib.hid (HR.out.below Bd)
  have d4 : w.drew.cell? ⟨P, 4, none⟩ = some (.int .i64 (o + h)) := c4
  go_region_held3 (fun w' => w'.cell? ⟨P, 4, none⟩ = some (.int .i64 (o + h))) (first | exact d4 | exact d42 | exact d43 | go_keep)
    (first
      | (go_at_call 97; refine (TE.out _).mono ?_; rintro e w2 ⟨rfl, hw2⟩; have B2 := below_alloc w.drew (.cells #[.pointer (some ⟨P, 0, none⟩)] 45); have q2 := heap_alloc_new w.drew (.cells #[.pointer (some ⟨P, 0, none⟩)] 45); rw [hw2] at B2 q2; have R2 := Lib.hid (R1.out.below B2); have N2 := Lib.hid (Bd.trans B2); have cq : w2.cell? ⟨w.drew.heap.size, 0, none⟩ = some (.pointer (some ⟨P, 0, none⟩)) := (by rw [cell_of_row _ _ _ _ _ _ q2]; rfl); have CQ := Lib.hid cq; have d42 := (B2.cell (p := ⟨P, 4, none⟩) HP.out).trans d4; clear B2 q2 cq hw2)
      | (go_at_call 172; refine (TX.out _ _ R2.out CQ.out).mono ?_; rintro e w3 ⟨b3, d3, rfl, ho3, hb3⟩; have HO3 := Lib.hid ho3; have N3 := Lib.hid (seqB N2.out hb3); have S2 := Lib.hid N2.out.size; have d43 := (hb3.cell (p := ⟨P, 4, none⟩) (Nat.lt_of_lt_of_le HP.out N2.out.size)).trans d42; clear ho3 hb3))
  all_goals go_wp2
  all_goals go_ret
  all_goals
    exact ⟨b3, d3, rfl, OwS.mono HO3.out S2.out, N3.out⟩
theorem ri_all_no (hr : RiS S P M o [] h w) : Calls Tryd.prog 34 #[.pointer (some ⟨P, 0, none⟩)] w fun e w' => e = .returned (.slice none 0 0) ∧ w = w' := by
  have LE := Lib.hid (ri_len hr)
  clear hr
  go_enter Tryd.func34, Tryd.ntmps34
  go_wp2_with (go_at_call 95; refine LE.out.mono ?_; rintro e w1 ⟨rfl, rfl⟩)
  go_ret
  exact ⟨rfl, rfl⟩
set_option maxHeartbeats 2000000 in
theorem ri_all (hr : RiS S P M o T h w) (hT : T ≠ []) (hl : T.length ≤ 1000) : Calls Tryd.prog 34 #[.pointer (some ⟨P, 0, none⟩)] w fun e w' => ∃ b d, e = .returned (.slice b T.length d) ∧ SgsK (fun k => w.heap.size ≤ k ∧ k < w'.heap.size) w' b T ∧ Below w.heap.size w w' := by
  obtain ⟨i1, hj, hy0, hy1, hy2⟩ := info_parts infoSl
  have hp := List.length_pos_iff.2 hT
  have LE := Lib.hid fun (w' : World) (h' : RiS S P M o T h w') => ri_len h'
  have hne : ¬ (T.length : Int) = 0 := by omega
  have HR := Lib.hid hr
  have TE := Lib.hid fun w => ri_teller P w
  have HB := Lib.hid hr.bd
  clear hr hT
  go_enter Tryd.func34, Tryd.ntmps34
  go_upto_region 4 with (first
    | (go_at_call 95; refine (LE.out _ HR.out).mono ?_; rintro e w1 ⟨rfl, rfl⟩)
    | (go_at_call 97; refine (TE.out _).mono ?_; rintro e w2 ⟨rfl, hw2⟩))
  have B2 := below_alloc w (.cells #[.pointer (some ⟨P, 0, none⟩)] 45)
  have q2 := heap_alloc_new w (.cells #[.pointer (some ⟨P, 0, none⟩)] 45)
  rw [hw2] at B2 q2
  obtain ⟨Q, hQ⟩ : ∃ Q, w.heap.size = Q := ⟨_, rfl⟩
  rw [hQ] at q2 ⊢
  have HQ := Lib.hid q2
  have R2 := Lib.hid (HR.out.below B2)
  have N2 := Lib.hid B2
  have hQe := Lib.hid hQ
  clear B2 q2 hw2 hQ
  go_wp2_with (first
    | (go_at_call 95; refine (LE.out _ R2.out).mono ?_; rintro e w1 ⟨rfl, rfl⟩)
    | (at_make; refine wpList_make_own _ rfl _ _ 43 rfl w2.heap.size 22 i1 (.slice none 0 0) 1 Tryd.underlying43 hj hy0 hy1 _ _ _ T.length rfl rfl (by omega) ?b2 ?b3 (Nat.le_refl _) ?_))
  case b2 => rw [hy2]; omega
  case b3 => unfold maxLen; omega
  intro w3 hown3 hgrow3
  have B3 : Below w2.heap.size w2 w3 := (Below.refl _ w2).grown hgrow3 (Nat.le_refl _) (fun k h => by cases h)
  obtain ⟨B, hB⟩ : ∃ B, w2.heap.size = B := ⟨_, rfl⟩
  rw [hB] at hown3 ⊢
  have R3 := Lib.hid (R2.out.below B3)
  rw [hB] at B3
  have RD3 : Hid (RdK B _ [] w3) := Lib.hid ⟨⟨[], hown3, fun i hi => absurd hi (Nat.not_lt_zero i)⟩, by rw [← hB]; exact B3.size⟩
  have N3 := Lib.hid B3
  have HBe := Lib.hid hB
  have HwB : Hid (w.heap.size ≤ B) := Lib.hid (by rw [← hB]; exact N2.out.size)
  have HQB : Hid (Q < B) := Lib.hid (by rw [← hB]; exact blk_lt HQ.out)
  clear hown3 hgrow3 B3 LE TE hB
  have hcP := Lib.hid fun (wr : World) (h' : RiS S P M o T h wr) => (by
    obtain ⟨b, vs, h1, _⟩ := h'.ex
    have y := fun i => cell_of_row _ _ i _ _ _ h1
    exact ⟨y 2, y 3⟩ : wr.cell? ⟨P, 2, none⟩ = some (.int .i64 o) ∧ wr.cell? ⟨P, 3, none⟩ = some (.int .i64 (o + T.length)))
  have c2 := (hcP.out _ R3.out).1
  go_wp2
  go_loopw [4, 5] (fun sv iv wr => ∃ i : Nat, i ≤ T.length ∧ iv = .int .i64 (o + (i : Int)) ∧ Hid (RdK B sv (T.take i) wr) ∧ Hid (Below B w2 wr)) (fun _ iv _ => (o + T.length - intOf iv).toNat)
  case atStart => exact ⟨0, Nat.zero_le _, by simp, RD3, N3⟩
  case round =>
    obtain ⟨i, hi, rfl, HD, HN⟩ := hrel
    clear RD3 N3 c2
    have Rr := Lib.hid (R2.out.below (by have := HN.out; rw [← HBe.out] at this; exact this))
    have c3 := (hcP.out _ Rr.out).2
    obtain ⟨a0, d0, rfl⟩ := HD.out.form
    have hlen : (T.take i).length = i := by rw [List.length_take]; omega
    rw [hlen]
    have hbd := HB.out
    by_cases hlt : i < T.length
    · have hlt1 : o + (i : Int) < o + (T.length : Int) := by omega
      have cq : wr.cell? ⟨Q, 0, none⟩ = some (.pointer (some ⟨P, 0, none⟩)) := by
        rw [HN.out.cell (p := ⟨Q, 0, none⟩) HQB.out, cell_of_row _ _ _ _ _ _ HQ.out]; rfl
      have TX := Lib.hid (ri_text Rr.out Q i (o + (i : Int)) rfl cq hlt)
      have htk : Hid (T.take (i + 1) = T.take i ++ [T.getD i []]) := Lib.hid (by rw [List.take_succ_eq_append_getElem hlt, List.getD, List.getElem?_eq_getElem hlt]; rfl)
      have HBr := Lib.hid HD.out.le
      have Hl := Lib.hid hlen
      obtain ⟨m, hm⟩ : ∃ m, (T.getD i []).length = m := ⟨_, rfl⟩
      rw [hm] at TX
      have hwr : o + (i : Int) + 1 ≤ 1000000001 := by omega
      clear cq hlen hm
      go_wp2_with (first
        | (go_at_call 172; refine TX.out.mono ?_; rintro e w4 ⟨ax, cx, rfl, hox, hb4⟩; have D4 := Lib.hid (HD.out.below hb4); have N4 := Lib.hid (HN.out.trans (hb4.mono HBr.out)); have BA := below_alloc w4 (.cells #[.slice ax m cx] 22); have OX := Lib.hid (ows_keep (OwS.mono hox HBr.out) BA); have D5 := Lib.hid (D4.out.below BA); have N5 := Lib.hid (N4.out.trans (BA.mono D4.out.le)); have hnew : ∀ j x, ([Value.slice ax m cx] : List Value)[j]? = some x → (w4.alloc (.cells #[.slice ax m cx] 22)).cell? ((⟨w4.heap.size, 0, none⟩ : Addr).add j) = some x := (fun j x hj => app_cells rfl hj); have D5x := D5.out.ex; clear hox hb4 BA TX)
        | (at_builtin; obtain ⟨vs, hwv, hvs⟩ := D5x; rw [Hl.out] at hwv; refine wpList_append_own _ rfl _ _ 43 rfl B 22 i1 _ 1 24 Tryd.underlying43 hj hy0 hy1 hy2 rfl (by decide) _ _ _ rfl hwv ⟨_, 0, none⟩ 1 1 [.slice ax m cx] rfl rfl hnew (by simp [Value.oneCell']) ?g3 ?g4 D5.out.le ?_))
      case g3 => unfold maxLen; omega
      case g4 => omega
      intro v' w6 hown hgrow _
      have hvl : vs.length = (T.take i).length := by have := hwv.1; rw [Hl.out]; omega
      have hwv' := hwv
      rw [← Hl.out] at hwv' hown
      have hgrow' : (w4.alloc (.cells #[.slice ax m cx] 22)).grownBy w6 (Value.slice a0 i d0).ownBlock := hgrow
      have D6 := Lib.hid (RdK.next hvs hvl hwv' OX.out hown (by rw [Hl.out]; exact hgrow) D5.out.le)
      have N6 := Lib.hid (N5.out.grown hgrow D5.out.le (fun k hk => (hwv.lt k hk).1))
      clear hown hgrow hwv hvs hwv' hgrow' hvl
      go_wp2
      go_roundw
      case rel => exact ⟨i + 1, by omega, by go_num, Lib.hid (by rw [htk.out]; exact D6.out), N6⟩
      case measure => (simp [intOf]; try omega)
    · obtain rfl : i = T.length := by omega
      rw [List.take_length] at HD
      have hkl : ¬ o + (T.length : Int) < o + (T.length : Int) := by omega
      obtain ⟨a', c', e, _, _, hs⟩ := HD.out.sgs
      obtain ⟨rfl, rfl⟩ : a0 = a' ∧ d0 = c' := by
        first | (injection e with e1 e2 e3; exact ⟨e1, e3⟩) | (rw [hlen] at e; injection e with e1 e2 e3; exact ⟨e1, e3⟩)
      have HS := Lib.hid (hs.mono (Q := fun k => w.heap.size ≤ k ∧ k < wr.heap.size) (fun k hk => ⟨Nat.le_trans HwB.out hk.1, hk.2⟩))
      have NF := Lib.hid (N2.out.trans (HN.out.mono HwB.out))
      clear hs e HD
      go_wp2
      go_ret
      exact ⟨a0, ⟨d0, rfl⟩, HS.out, NF.out⟩
end
end Go.Proofs.YtdnmjofenckndaaDoor
set_option linter.unusedVariables false
set_option linter.unusedSimpArgs false
namespace Go.Proofs.YtdnmjofenckndaaDoor
open Go.RowKit
theorem farS {w : World} {p q i k : Nat} {u : Value} (h : p ≠ q) : (w.setCell ⟨p, i, none⟩ u).cell? ⟨q, k, none⟩ = w.cell? ⟨q, k, none⟩ := by
  unfold World.cell?
  rw [Below.heap_setCell _ _ _ _ (Ne.symm h)]
/-- What a distance's loops keep. -/
structure DsI (w1 : World) (G P : Nat) (N : Nat) (R : List Int) (wr : World) : Prop where
  b : Below w1.heap.size w1 wr
  g : wr.heap[G]? = some (.cells (iRow R) 3 (0, 0))
  p : wr.heap[P]? = some (.cells #[.slice (some ⟨G, 0, none⟩) N N] 59 (0, 0))
  n : R.length = N
  hG : w1.heap.size ≤ G
theorem DsI.below {w1 wr w' : World} {G P N : Nat} {R : List Int} (h : DsI w1 G P N R wr) (hb : Below wr.heap.size wr w') : DsI w1 G P N R w' :=
  ⟨seqB h.b hb, blk_below h.g hb, blk_below h.p hb, h.n, h.hG⟩
theorem DsI.put {w1 wr : World} {G P N : Nat} {R : List Int} (h : DsI w1 G P N R wr) (k : Nat) (x : Int) : DsI w1 G P N (R.set k x) (wr.setCell ⟨G, k, none⟩ (.int .i64 x)) := by
  have ne : P ≠ G := fun e => by have h1 := h.p; rw [e, h.g] at h1; simp at h1
  refine ⟨h.b.setCell (p := ⟨G, k, none⟩) h.hG _, ?_, ?_, by rw [List.length_set]; exact h.n, h.hG⟩
  · rw [← iRow_set]; exact blk_set h.g k _
  · rw [Below.heap_setCell _ _ _ _ ne]; exact h.p
theorem vL_at (L : List (Int × Int)) (i : Nat) (h : i < L.length) : (vL L).getD i 0 = (L.getD i (0, 0)).1 := by
  unfold vL
  rw [List.getD, List.getElem?_map, List.getD, List.getElem?_eq_getElem h]; rfl
set_option maxHeartbeats 8000000 in
theorem dist_any (S : Nat → Prop) (L M : List (Int × Int)) (a b : Option Addr) (n m c d : Nat) (w : World) (hn : L.length = n) (hm : M.length = m) (hl : n ≤ 1000000) (hl2 : m ≤ 8796093022208) (ha : SlS S w a L c) (hb : SlS S w b M d) :
    Calls Tryd.prog 66 #[.slice a n c, .slice b m d] w fun e w' => e = .returned (.int .i64 ((lev (vL L) (vL M) : Nat) : Int)) ∧ Below w.heap.size w w' := by
  obtain ⟨i0, hi, hz0, hz1, hz2⟩ := info_parts infoIntS
  have UN := Lib.hid (unlike_any S L M a b n m c d w hn hm hl hl2 ha hb)
  generalize lev (vL L) (vL M) = D at *
  clear ha hb hn hm
  go_enter Tryd.func66, Tryd.ntmps66
  go_upto_region 2 with (go_at_call 151; refine UN.out.mono ?_; rintro e w1 ⟨a1, b1, n1, m1, c1, d1, L1, M1, rfl, hu, hln, hlm, hb⟩; have HU := Lib.hid hu; have HB := Lib.hid hb; clear hu hb UN)
  have hmk : ∀ w : World, (Instr.makeSlice 59 (.int .i64 ((m1 : Int) + 1)) (.int .i64 ((m1 : Int) + 1))).run Tryd.prog w = .ok (.slice (some ⟨w.heap.size, 0, none⟩) (m1 + 1) (m1 + 1)) (w.alloc (.cells (iRow (inL 0 m1)) 3)) := fun w => by
    have h := make_rowN (P := Tryd.prog) 59 3 i0 _ Tryd.underlying59 hi hz0 (m1 + 1) (by rw [hz2]; omega) (by omega) w
    rw [hz1] at h
    have e : madeCells (Value.int .i64 0).cells ((m1 + 1) * 1) = iRow (inL 0 m1) := by
      rw [show (Value.int .i64 0).cells = #[.int .i64 0] from rfl, made_ints, in_0]
    rw [e] at h
    exact h
  have hmw : IntKind.i64.wrap ((m1 : Int) + 1) = (m1 : Int) + 1 := by rw [IntKind.wrap_i64]; omega
  have g0 := heap_alloc_new w1 (.cells (iRow (inL 0 m1)) 3)
  have b0 := below_alloc w1 (.cells (iRow (inL 0 m1)) 3)
  go_upto_region 3 with fail
  obtain ⟨w2, hw2⟩ : ∃ w2, w1.alloc (.cells (iRow (inL 0 m1)) 3) = w2 := ⟨_, rfl⟩
  rw [hw2] at g0 b0 ⊢
  obtain ⟨G, hG⟩ : ∃ G, w1.heap.size = G := ⟨_, rfl⟩
  rw [hG] at g0 ⊢
  have HG := Lib.hid hG
  clear hmk hw2 hG
  go_wp2_with fail
  go_loopw [25] (fun iv wr => ∃ k : Nat, k ≤ m1 + 1 ∧ iv = .int .i64 (k : Int) ∧ Hid (wr.heap[G]? = some (.cells (iRow (inL k m1)) 3 (0, 0))) ∧ Hid (Below w1.heap.size w1 wr)) (fun iv _ => m1 + 1 - (intOf iv).toNat)
  case atStart => exact ⟨0, Nat.zero_le _, rfl, Lib.hid g0, Lib.hid b0⟩
  case round =>
    clear g0 b0
    obtain ⟨k, hk, rfl, HC, HB1⟩ := hrel
    by_cases hlt : k ≤ m1
    · have hk1 : (k : Int) < (m1 : Int) + 1 := by omega
      have hk0 : (0 : Int) ≤ k := by omega
      have gc := i_cell HC.out (k := k) (by rw [in_len]; omega)
      have gf := fun i => frozen_of_row _ G i _ _ HC.out
      have HN : Hid ((wr.setCell ⟨G, k, none⟩ (.int .i64 (k : Int))).heap[G]? = some (.cells (iRow (inL (k + 1) m1)) 3 (0, 0))) := Lib.hid (by
        rw [← in_next k m1 hlt, ← iRow_set]; exact blk_set HC.out k _)
      have HB2 : Hid (Below w1.heap.size w1 (wr.setCell ⟨G, k, none⟩ (.int .i64 (k : Int)))) := Lib.hid (HB1.out.setCell (p := ⟨G, k, none⟩) (by show w1.heap.size ≤ G; rw [HG.out]; exact Nat.le_refl _) _)
      generalize (inL k m1).getD k 0 = old at *
      clear HC HB1
      go_wp2_with fail
      go_roundw
      case rel => exact ⟨k + 1, by omega, by go_num, HN, HB2⟩
      case measure => (simp [intOf]; try omega)
    · obtain rfl : k = m1 + 1 := by omega
      have hk1 : ¬ ((m1 + 1 : Nat) : Int) < (m1 : Int) + 1 := by omega
      have SP := Lib.hid fun w => stepper_any G (m1 + 1) w
      obtain ⟨A, hA⟩ : ∃ A, vL L1 = A := ⟨_, rfl⟩
      obtain ⟨B, hB⟩ : ∃ B, vL M1 = B := ⟨_, rfl⟩
      have hAn : A.length = n1 := by rw [← hA]; unfold vL; rw [List.length_map]; exact HU.out.hn
      have hBn : B.length = m1 := by rw [← hB]; unfold vL; rw [List.length_map]; exact HU.out.hm
      have HD : Hid (lev A B = D) := Lib.hid (by rw [← hA, ← hB]; exact HU.out.lv)
      have HAB := Lib.hid (And.intro hA hB)
      have HLn := Lib.hid (And.intro hAn hBn)
      go_upto_region 9 with (go_at_call 152; refine (SP.out _).mono ?_; rintro e w4 ⟨rfl, hw4⟩; have I4 : Hid (DsI w1 G wr.heap.size (m1 + 1) (rwL A B 0 0 m1) w4) := Lib.hid (by rw [← hw4]; exact ⟨seqB HB1.out (below_alloc _ _), by rw [← in_full A B m1 HLn.out.2]; exact blk_below HC.out (below_alloc _ _), heap_alloc_new _ _, rw_len _ _ _ _ _, by rw [HG.out]; exact Nat.le_refl _⟩); clear hw4 SP)
      obtain ⟨P, hP⟩ : ∃ P, wr.heap.size = P := ⟨_, rfl⟩
      rw [hP] at I4 ⊢
      clear hP HC HB1 hA hB hAn hBn
      go_wp2_with fail
      go_loopw [37] (fun iv wr => ∃ i : Nat, i ≤ n1 ∧ iv = .int .i64 (i : Int) ∧ Hid (DsI w1 G P (m1 + 1) (rwL A B i 0 m1) wr)) (fun iv _ => n1 - (intOf iv).toNat)
      case atStart => exact ⟨0, Nat.zero_le _, rfl, I4⟩
      case round =>
        clear I4
        obtain ⟨i, hi, rfl, HI⟩ := hrel
        by_cases hlt2 : i < n1
        · have hi1 : (i : Int) < n1 := by omega
          have hi0 : (0 : Int) ≤ i := by omega
          obtain ⟨b2, o2, rfl, hb2, p1, p2⟩ := (HU.out.sa.s.below HI.out.b) i (by rw [HU.out.hn]; exact hlt2)
          have hva := vL_at L1 i (by rw [HU.out.hn]; exact hlt2)
          rw [HAB.out.1] at hva
          obtain ⟨v, hv⟩ : ∃ v, A.getD i 0 = v := ⟨_, rfl⟩
          rw [← hva, hv] at p1
          have HV := Lib.hid hv
          generalize (L1.getD i (0, 0)).2 = lab at *
          have gi := HI.out.g
          have gc := i_cell gi (k := 0) (by rw [rw_len]; omega)
          rw [rw_at _ _ _ _ _ _ (Nat.zero_le _), if_neg (Nat.lt_irrefl _), dp_c _ _ _ (by rw [HLn.out.1]; omega)] at gc
          have I5 := Lib.hid (HI.out.below (below_alloc wr (.cells #[.int .i64 v, .int .i64 lab] 39)))
          have gc5 := (World.cell?_alloc_lt wr (.cells #[.int .i64 v, .int .i64 lab] 39) (⟨G, 0, none⟩ : Addr) (blk_lt gi)).trans gc
          have gf5 := fun i => frozen_of_row _ G i _ _ I5.out.g
          have hiw : IntKind.i64.wrap ((i : Int) + 1) = (i : Int) + 1 := by rw [IntKind.wrap_i64]; omega
          have I6 : Hid (DsI w1 G P (m1 + 1) (rwL A B i 1 m1) ((wr.alloc (.cells #[.int .i64 v, .int .i64 lab] 39)).setCell ⟨G, 0, none⟩ (.int .i64 ((i : Int) + 1)))) := Lib.hid (by
            have h := I5.out.put 0 ((i : Int) + 1)
            have e := rw_next A B i 0 m1 (Nat.zero_le _)
            rw [dp_c _ _ _ (by rw [HLn.out.1]; omega)] at e
            rw [← e]
            exact h)
          have X6 : Hid (((wr.alloc (.cells #[.int .i64 v, .int .i64 lab] 39)).setCell ⟨G, 0, none⟩ (.int .i64 ((i : Int) + 1))).heap[wr.heap.size]? = some (.cells #[.int .i64 v, .int .i64 lab] 39 (0, 0))) := Lib.hid (by
            rw [Below.heap_setCell _ _ _ _ (by have := blk_lt gi; show wr.heap.size ≠ G; omega)]; exact heap_alloc_new _ _)
          clear hva hv gi HI
          go_upto_region 14 with fail
          generalize hw7 : World.setCell _ _ _ = w7
          rw [hw7] at I6 X6
          clear hw7 gc gc5 gf5 I5 p1 p2
          obtain ⟨X, hX⟩ : ∃ X, wr.heap.size = X := ⟨_, rfl⟩
          rw [hX] at X6 ⊢
          clear hX
          have hc0 : Hid ((dpL A B i 0 : Nat) = i) := Lib.hid (dp_c _ _ _ (by rw [HLn.out.1]; omega))
          go_wp2_with fail
          go_loopw [11, 10] (fun kv cv wr => ∃ k : Nat, 1 ≤ k ∧ k ≤ m1 + 1 ∧ kv = .int .i64 (k : Int) ∧ cv = .int .i64 ((dpL A B i (k - 1) : Nat) : Int) ∧ Hid (DsI w1 G P (m1 + 1) (rwL A B i k m1) wr) ∧ Hid (wr.heap[X]? = some (.cells #[.int .i64 v, .int .i64 lab] 39 (0, 0)))) (fun kv _ _ => m1 + 1 - (intOf kv).toNat)
          case atStart => exact ⟨1, Nat.le_refl _, by omega, rfl, by rw [Nat.sub_self, hc0.out], I6, X6⟩
          case round =>
            clear I6 X6
            obtain ⟨k, hk0, hk, rfl, rfl, HI, HX⟩ := hrel
            by_cases hlt3 : k ≤ m1
            · obtain ⟨j, rfl⟩ : ∃ j, k = j + 1 := ⟨k - 1, by omega⟩
              rw [Nat.add_sub_cancel]
              have e1 : j < B.length := by rw [HLn.out.2]; omega
              have e2 : i < A.length := by rw [HLn.out.1]; omega
              obtain ⟨b3, o3, rfl, hb3, q1, _⟩ := (HU.out.sb.s.below HI.out.b) j (by rw [HU.out.hm]; omega)
              have hva := vL_at M1 j (by rw [HU.out.hm]; omega)
              rw [HAB.out.2] at hva
              obtain ⟨u, hu⟩ : ∃ u, B.getD j 0 = u := ⟨_, rfl⟩
              rw [← hva, hu] at q1
              have hst := dp_step A B i j e2 e1
              rw [HV.out, hu] at hst
              have hl1 := dp_le A B i (j + 1)
              have hl2 := dp_le A B (i + 1) j
              have hl3 := dp_le A B i j
              have hR1 : (rwL A B i (j + 1) m1).getD (j + 1) 0 = ((dpL A B i (j + 1) : Nat) : Int) := by rw [rw_at _ _ _ _ _ _ (by omega), if_neg (Nat.lt_irrefl _)]
              have hR2 : (rwL A B i (j + 1) m1).getD (j + 1 - 1) 0 = ((dpL A B (i + 1) j : Nat) : Int) := by rw [Nat.add_sub_cancel, rw_at _ _ _ _ _ _ (by omega), if_pos (Nat.lt_succ_self _)]
              have HNX := Lib.hid (rw_next A B i (j + 1) m1 hlt3)
              have gc := i_cell HI.out.g (k := j + 1) (by rw [rw_len]; omega)
              rw [hR1] at gc
              generalize hxe : dpL A B i (j + 1) = x at *
              have HXE := Lib.hid hxe
              clear hxe
              generalize dpL A B (i + 1) j = y at *
              generalize dpL A B i j = c at *
              generalize dpL A B (i + 1) (j + 1) = r at *
              have hr : min ((c : Int) + (if (v == u) = true then 0 else 1)) (min ((x : Int) + 1) ((y : Int) + 1)) = (r : Int) := by
                by_cases hvu : v = u
                · rw [if_pos hvu] at hst
                  rw [if_pos (by simp [hvu])]; omega
                · rw [if_neg hvu] at hst
                  rw [if_neg (by simp [hvu])]; omega
              have ST := Lib.hid fun (w' : World) (h : DsI w1 G P (m1 + 1) (rwL A B i (j + 1) m1) w') => step_any P G (m1 + 1) (j + 1) (rwL A B i (j + 1) m1) (c : Int) (v == u) (x : Int) (y : Int) (r : Int) w' h.p h.g h.n (by omega) (by omega) (by omega) hR1 hR2 (by omega) (by omega) (by omega) hr
              obtain ⟨k, hkj⟩ : ∃ k, j + 1 = k := ⟨_, rfl⟩
              have hk1 : (k : Int) - 1 = (j : Int) := by omega
              have hk2 : IntKind.i64.wrap ((k : Int) - 1) = (j : Int) := by rw [IntKind.wrap_i64]; omega
              have hjw : IntKind.i64.wrap (j : Int) = (j : Int) := by rw [IntKind.wrap_i64]; omega
              have hk3 : (0 : Int) ≤ k := by omega
              have hk4 : (k : Int) < (m1 : Int) + 1 := by omega
              have hj3 : (0 : Int) ≤ j := by omega
              have hj4 : (j : Int) < m1 := by omega
              have HK := Lib.hid hkj
              rw [hkj] at gc ST HI HNX ⊢
              have x0 := cell_of_row _ _ 0 _ _ _ HX.out
              dsimp at x0
              have HXl : Hid (X < wr.heap.size) := Lib.hid (blk_lt HX.out)
              have hbl : Hid (b3 < wr.heap.size) := Lib.hid hb3
              have neX : Hid (G ≠ X ∧ G ≠ b3) := Lib.hid ⟨fun e => by have h1 := HX.out; rw [← e, HI.out.g] at h1; have h2 := congrArg (fun o => match o with | some (Obj.cells _ t _) => t | _ => 0) h1; simp at h2, fun e => by have h1 := HU.out.sb.s j (by rw [HU.out.hm]; omega); obtain ⟨b4, o4, e4, hb4, _⟩ := h1; injection e4 with e4; injection e4 with e4 _; rw [← e4, ← e] at hb4; have := HI.out.hG; omega⟩
              clear hst hl1 hl2 hl3 hR1 hR2 hr hva hu e1 e2 hkj hb3 hk0 hk
              go_upto_region 18 with fail
              go_region_held3 (fun w' => w'.cell? ⟨X, 0, none⟩ = some (.int .i64 v) ∧ w'.cell? ⟨b3, o3 + j * 2, none⟩ = some (.int .i64 u)) (first | exact ⟨x0, q1⟩ | exact ⟨x06, q16⟩ | exact ⟨(farS neX.out.1).trans x06, (farS neX.out.2).trans q16⟩ | go_keep)
                (first | (go_at_call 209; refine (ST.out _ (HI.out.below (Below.refl _ _).drew)).mono ?_; rintro e w6 ⟨rfl, _, hb⟩; have D6 := (Below.refl wr.heap.size wr).drew.trans hb; have I6 := Lib.hid (HI.out.below D6); have HX6 := Lib.hid (blk_below HX.out D6); have x06 := (hb.cell (p := ⟨X, 0, none⟩) HXl.out).trans x0; have q16 := (hb.cell (p := ⟨b3, o3 + j * 2, none⟩) hbl.out).trans q1; have gc6 := (hb.cell (p := ⟨G, k, none⟩) (blk_lt HI.out.g)).trans gc; have gf6 := fun i => frozen_of_row _ G i _ _ I6.out.g; clear hb D6))
              have I7 : Hid (DsI w1 G P (m1 + 1) (rwL A B i (k + 1) m1) (w6.setCell ⟨G, k, none⟩ (.int .i64 (r : Int)))) := Lib.hid (by rw [← HNX.out]; exact I6.out.put k (r : Int))
              have HX7 : Hid ((w6.setCell ⟨G, k, none⟩ (.int .i64 (r : Int))).heap[X]? = some (.cells #[.int .i64 v, .int .i64 lab] 39 (0, 0))) := Lib.hid (by rw [Below.heap_setCell _ _ _ _ (Ne.symm neX.out.1)]; exact HX6.out)
              clear HI HX I6 HX6 x0 x06 q1 q16 gc gc6 gf6 ST
              go_wp2_with fail
              go_roundw
              case rel => exact ⟨k + 1, by omega, by omega, by go_num, by rw [Nat.add_sub_cancel, ← HK.out, HXE.out], I7, HX7⟩
              case measure => (simp [intOf]; try omega)
            · obtain rfl : k = m1 + 1 := by omega
              have hk1 : ¬ ((m1 + 1 : Nat) : Int) < (m1 : Int) + 1 := by omega
              have I8 : Hid (DsI w1 G P (m1 + 1) (rwL A B (i + 1) 0 m1) wr) := Lib.hid (by rw [← rw_full]; exact HI.out)
              go_wp2_with fail
              go_roundw
              case rel => exact ⟨i + 1, by omega, by go_num, I8⟩
              case measure => (simp [intOf]; try omega)
        · obtain rfl : i = n1 := by omega
          have hi1 : ¬ (i : Int) < i := by omega
          have gc := i_cell HI.out.g (k := m1) (by rw [rw_len]; omega)
          rw [rw_at _ _ _ _ _ _ (Nat.le_refl _), if_neg (by omega)] at gc
          have he : dpL A B i m1 = D := by
            have := dp_all A B
            rw [HLn.out.1, HLn.out.2, HD.out] at this
            exact this
          rw [he] at gc
          have hm0 : (0 : Int) ≤ m1 := by omega
          have hm1 : (m1 : Int) < (m1 : Int) + 1 := by omega
          have NF := Lib.hid (seqB HB.out HI.out.b)
          clear he
          go_wp2_with fail
          go_ret
          exact ⟨rfl, NF.out⟩
end Go.Proofs.YtdnmjofenckndaaDoor
set_option linter.unusedVariables false
set_option linter.unusedSimpArgs false
namespace Go.Proofs.YtdnmjofenckndaaDoor
open Go.RowKit
theorem fbits_aw : floatBits .quo .f64 (floatOfInt .f64 1) (floatOfInt .f64 4) = some 4598175219545276416 ∧ floatBits .quo .f64 (floatOfInt .f64 3) (floatOfInt .f64 4) = some 4604930618986332160 ∧ floatBits .quo .f64 (floatOfInt .f64 0) (floatOfInt .f64 4) = some 0 ∧ floatBits .quo .f64 (floatOfInt .f64 0) (floatOfInt .f64 6) = some 0 ∧ floatBits .quo .f64 (floatOfInt .f64 1) (floatOfInt .f64 0) = some 9218868437227405312 ∧ floatBits .sub .f64 4607182418800017408 0 = some 4607182418800017408 ∧ floatBits .add .f64 0 4607182418800017408 = some 4607182418800017408 ∧ floatBits .add .f64 4607182418800017408 4611686018427387904 = some 4613937818241073152 ∧ floatBits .quo .f64 4613937818241073152 (floatOfInt .f64 2) = some 4609434218613702656 := by decide +kernel
theorem share_any (n o : Int) (r : Nat) (h : floatBits .quo .f64 (floatOfInt .f64 n) (floatOfInt .f64 o) = some r) (w : World) : Calls Tryd.prog 150 #[.int .i64 n, .int .i64 o] w fun e w' => e = .returned (.float .f64 r) ∧ w = w' := by
  have hop : ∀ t w, (Go.binOp .quo t (.float .f64 (floatOfInt .f64 n)) (.float .f64 (floatOfInt .f64 o))).run Tryd.prog w = .ok (.float .f64 r) w := fun t w => run_float_arith w .quo t .f64 _ _ r h
  clear h
  go_enter Tryd.func150, Tryd.ntmps150
  go_wp2_with fail
  go_ret
  exact ⟨rfl, rfl⟩
set_option maxHeartbeats 2000000 in
theorem like_any (S : Nat → Prop) (L M : List (Int × Int)) (a b : Option Addr) (n m c d N : Nat) (q r : Nat) (w : World) (hn : L.length = n) (hm : M.length = m) (hl : n ≤ 1000000) (hl2 : m ≤ 1000000) (ha : SlS S w a L c) (hb : SlS S w b M d) (hN : max n m = N)
    (h1 : floatBits .quo .f64 (floatOfInt .f64 ((lev (vL L) (vL M) : Nat) : Int)) (floatOfInt .f64 (N : Int)) = some q) (h2 : floatBits .sub .f64 4607182418800017408 q = some r) :
    Calls Tryd.prog 67 #[.slice a n c, .slice b m d] w fun e w' => e = .returned (.float .f64 r) ∧ Below w.heap.size w w' := by
  have DS := Lib.hid (dist_any S L M a b n m c d w hn hm hl (by omega) ha hb)
  have SH := Lib.hid fun w => share_any _ _ q h1 w
  have hop : ∀ t w, (Go.binOp .sub t (.float .f64 4607182418800017408) (.float .f64 q)).run Tryd.prog w = .ok (.float .f64 r) w := fun t w => run_float_arith w .sub t .f64 _ _ r h2
  have e1 : (if (n : Int) < (m : Int) then (m : Int) else (n : Int)) = (N : Int) := by split <;> omega
  have e2 : max (n : Int) (m : Int) = (N : Int) := by omega
  have e3 : (if (m : Int) < (n : Int) then (n : Int) else (m : Int)) = (N : Int) := by split <;> omega
  generalize lev (vL L) (vL M) = D at *
  clear h1 h2 hN ha hb
  go_enter Tryd.func67, Tryd.ntmps67
  go_wp2_with (first
    | (go_at_call 66; refine DS.out.mono ?_; rintro e w1 ⟨rfl, hb⟩; have N1 := Lib.hid hb; clear hb)
    | (go_at_call 150; refine (SH.out _).mono ?_; rintro e w2 ⟨rfl, h⟩; subst h))
  go_ret
  exact ⟨rfl, N1.out⟩
theorem isnan_no (x : Nat) (hx : (FloatKind.f64.format.order x x != some .eq) = false) (w : World) : Calls Tryd.prog 208 #[.float .f64 x] w fun e w' => e = .returned (.bool false) ∧ w = w' := by
  go_enter Tryd.func208, Tryd.ntmps208
  go_wp2_with fail
  go_ret
  exact ⟨by simp [hx], rfl⟩
def mnS : List Nat := [0, 4607182418800017408, 4613937818241073152]
set_option maxHeartbeats 2000000 in
theorem mean_aw (A : Nat) (w : World) (hA : w.heap[A]? = some (.cells #[.float .f64 4607182418800017408, .float .f64 4611686018427387904] 92 (0, 0))) :
    Calls Tryd.prog 149 #[.slice (some ⟨A, 0, none⟩) 2 2] w fun e w' => e = .returned (.float .f64 4609434218613702656) ∧ w = w' := by
  have yy := fun i => cell_of_row _ _ i _ _ _ hA
  have d0 := yy 0; have d1 := yy 1
  dsimp at d0 d1
  have I1 := Lib.hid fun w => isnan_no 4607182418800017408 (by decide +kernel) w
  have I2 := Lib.hid fun w => isnan_no 4611686018427387904 (by decide +kernel) w
  have h1 : ∀ t w, (Go.binOp .add t (.float .f64 0) (.float .f64 4607182418800017408)).run Tryd.prog w = .ok (.float .f64 4607182418800017408) w := fun t w => run_float_arith w .add t .f64 _ _ _ fbits_aw.2.2.2.2.2.2.1
  have h2 : ∀ t w, (Go.binOp .add t (.float .f64 4607182418800017408) (.float .f64 4611686018427387904)).run Tryd.prog w = .ok (.float .f64 4613937818241073152) w := fun t w => run_float_arith w .add t .f64 _ _ _ fbits_aw.2.2.2.2.2.2.2.1
  have h3 : ∀ t w, (Go.binOp .quo t (.float .f64 4613937818241073152) (.float .f64 (floatOfInt .f64 2))).run Tryd.prog w = .ok (.float .f64 4609434218613702656) w := fun t w => run_float_arith w .quo t .f64 _ _ _ fbits_aw.2.2.2.2.2.2.2.2
  clear yy hA
  go_enter Tryd.func149, Tryd.ntmps149
  go_wp2_with fail
  go_loopw [3, 4, 9] (fun sv nv iv wr => w = wr ∧ ((sv = .float .f64 0 ∧ nv = .int .i64 0 ∧ iv = .int .i64 0) ∨ (sv = .float .f64 4607182418800017408 ∧ nv = .int .i64 1 ∧ iv = .int .i64 1) ∨ (sv = .float .f64 4613937818241073152 ∧ nv = .int .i64 2 ∧ iv = .int .i64 2))) (fun _ _ iv _ => 2 - (intOf iv).toNat)
  case atStart => exact ⟨rfl, Or.inl ⟨rfl, rfl, rfl⟩⟩
  case round =>
    obtain ⟨rfl, ⟨rfl, rfl, rfl⟩ | ⟨rfl, rfl, rfl⟩ | ⟨rfl, rfl, rfl⟩⟩ := hrel
    · go_wp2_with (go_at_call 208; refine (I1.out _).mono ?_; rintro e w2 ⟨rfl, h⟩; subst h)
      go_roundw
      case rel => exact ⟨trivial, Or.inr (Or.inl ⟨rfl, rfl, rfl⟩)⟩
      case measure => simp [intOf]
    · go_wp2_with (go_at_call 208; refine (I2.out _).mono ?_; rintro e w2 ⟨rfl, h⟩; subst h)
      go_roundw
      case rel => exact ⟨trivial, Or.inr (Or.inr ⟨rfl, rfl, rfl⟩)⟩
      case measure => simp [intOf]
    · go_wp2_with fail
      go_ret
      exact ⟨rfl, rfl⟩
end Go.Proofs.YtdnmjofenckndaaDoor
set_option linter.unusedVariables false
set_option linter.unusedSimpArgs false
namespace Go.Proofs.YtdnmjofenckndaaDoor
open Go.RowKit
/-- The nearest of the first k lists. -/
def NrS (x : List Int) (D : Nat → Nat) (k : Nat) (near : Int) (least : Nat) : Prop :=
  (k = 0 ∧ near = -1) ∨ ∃ i : Nat, i < k ∧ near = (i : Int) ∧ least = D i ∧ (∀ j, j < k → D i ≤ D j) ∧ ∀ j, j < i → D i < D j
theorem nrs_0 (x : List Int) (D : Nat → Nat) : NrS x D 0 (-1) 0 := Or.inl ⟨rfl, rfl⟩
theorem nrs_first {x : List Int} {D : Nat → Nat} {k : Nat} {near : Int} {least : Nat} (h : NrS x D k near least) (hn : near < 0) : NrS x D (k + 1) (k : Int) (D k) := by
  rcases h with ⟨h1, h2⟩ | ⟨i, h1, h2, _⟩
  · subst h1
    exact Or.inr ⟨0, by omega, rfl, rfl, fun j hj => by rw [show j = 0 by omega]; exact Nat.le_refl _, fun j hj => by omega⟩
  · omega
theorem nrs_less {x : List Int} {D : Nat → Nat} {k : Nat} {near : Int} {least : Nat} (h : NrS x D k near least) (hn : ¬ near < 0) (hd : D k < least) : NrS x D (k + 1) (k : Int) (D k) := by
  rcases h with ⟨h1, h2⟩ | ⟨i, h1, h2, h3, h4, h5⟩
  · omega
  · refine Or.inr ⟨k, by omega, rfl, rfl, fun j hj => ?_, fun j hj => ?_⟩
    · by_cases e : j = k
      · rw [e]; exact Nat.le_refl _
      · have := h4 j (by omega); omega
    · have := h4 j hj; omega
theorem nrs_more {x : List Int} {D : Nat → Nat} {k : Nat} {near : Int} {least : Nat} (h : NrS x D k near least) (hn : ¬ near < 0) (hd : ¬ D k < least) : NrS x D (k + 1) near least := by
  rcases h with ⟨h1, h2⟩ | ⟨i, h1, h2, h3, h4, h5⟩
  · omega
  · refine Or.inr ⟨i, by omega, h2, h3, fun j hj => ?_, h5⟩
    by_cases e : j = k
    · rw [e]; omega
    · exact h4 j (by omega)
set_option maxHeartbeats 4000000 in
theorem near_any (x : List (Int × Int)) (H : List (List (Int × Int))) (a b : Option Addr) (n c m d : Nat) (w : World) (hn : x.length = n) (hm : H.length = m) (hl : n ≤ 1000000) (hl2 : ∀ t ∈ H, t.length ≤ 8796093022208) (hm2 : m ≤ 1000000) (ha : SlS (fun _ => True) w a x c) (hb : SgsK (fun _ => True) w b H) :
    Calls Tryd.prog 72 #[.slice a n c, .slice b m d] w fun e w' => ∃ near : Int, e = .returned (.int .i64 near) ∧ (∃ least : Nat, NrS (vL x) (fun i => lev (vL x) (vL (H.getD i []))) m near least) ∧ Below w.heap.size w w' := by
  obtain ⟨D, hD⟩ : ∃ D : Nat → Nat, (fun i => lev (vL x) (vL (H.getD i []))) = D := ⟨_, rfl⟩
  rw [hD]
  have DS := Lib.hid fun (w' : World) (hbw : Below w.heap.size w w') (i : Nat) (hi : i < H.length) (ai : Option Addr) (ci ni : Nat) (hni : (H.getD i []).length = ni) (hs : SlS (fun _ => True) w' ai (H.getD i []) ci) => (by
    have h := dist_any (fun _ => True) x (H.getD i []) a ai n ni c ci w' hn hni hl (by rw [← hni]; exact hl2 _ (getD_memT hi)) (ha.below hbw) hs
    have e : lev (vL x) (vL (H.getD i [])) = D i := congrFun hD i
    rw [e] at h
    exact h : Calls Tryd.prog 66 #[.slice a n c, .slice ai ni ci] w' fun e w'' => e = .returned (.int .i64 (D i : Int)) ∧ Below w'.heap.size w' w'')
  have HB := Lib.hid hb
  have HM := Lib.hid hm
  clear ha hb hm hD hl2
  go_enter Tryd.func72, Tryd.ntmps72
  go_wp2_with fail
  go_loopw [5, 6, 12] (fun nv lv iv wr => ∃ (k : Nat) (near : Int) (least : Nat), k ≤ m ∧ nv = .int .i64 near ∧ lv = .int .i64 (least : Int) ∧ iv = .int .i64 (k : Int) ∧ Hid (NrS (vL x) D k near least) ∧ Hid (Below w.heap.size w wr)) (fun _ _ iv _ => m - (intOf iv).toNat)
  case atStart => exact ⟨0, -1, 0, Nat.zero_le _, rfl, rfl, rfl, Lib.hid (nrs_0 _ _), Lib.hid (Below.refl _ _)⟩
  case round =>
    obtain ⟨k, near, least, hk, rfl, rfl, rfl, HN, HW⟩ := hrel
    by_cases hlt : k < m
    · have hk1 : (k : Int) < m := by omega
      have hk0 : (0 : Int) ≤ k := by omega
      obtain ⟨b2, o2, ai, ci, rfl, _, _, c0, hs⟩ := (HB.out.below HW.out) k (by rw [HM.out]; exact hlt)
      obtain ⟨ni, hni⟩ : ∃ ni, (H.getD k []).length = ni := ⟨_, rfl⟩
      rw [hni] at c0
      have DK := Lib.hid (DS.out wr HW.out k (by rw [HM.out]; exact hlt) ai ci ni hni hs)
      obtain ⟨q, hq⟩ : ∃ q, D k = q := ⟨_, rfl⟩
      rw [hq] at DK
      have HQ := Lib.hid hq
      clear hni hs hq
      by_cases h1 : near < 0
      · have HN2 : Hid (NrS (vL x) D (k + 1) (k : Int) q) := Lib.hid (by rw [← HQ.out]; exact nrs_first HN.out h1)
        go_wp2_with (go_at_call 66; refine DK.out.mono ?_; rintro e w2 ⟨rfl, hb⟩; have HW2 := Lib.hid (seqB HW.out hb); clear hb)
        go_roundw
        case rel => exact ⟨k + 1, (k : Int), q, by omega, rfl, rfl, by go_num, HN2, HW2⟩
        case measure => (simp [intOf]; try omega)
      by_cases h2 : (q : Int) < (least : Int)
      · have HN2 : Hid (NrS (vL x) D (k + 1) (k : Int) q) := Lib.hid (by rw [← HQ.out]; exact nrs_less HN.out h1 (by rw [HQ.out]; omega))
        go_wp2_with (go_at_call 66; refine DK.out.mono ?_; rintro e w2 ⟨rfl, hb⟩; have HW2 := Lib.hid (seqB HW.out hb); clear hb)
        go_roundw
        case rel => exact ⟨k + 1, (k : Int), q, by omega, rfl, rfl, by go_num, HN2, HW2⟩
        case measure => (simp [intOf]; try omega)
      · have HN2 : Hid (NrS (vL x) D (k + 1) near least) := Lib.hid (nrs_more HN.out h1 (by rw [HQ.out]; omega))
        go_wp2_with (go_at_call 66; refine DK.out.mono ?_; rintro e w2 ⟨rfl, hb⟩; have HW2 := Lib.hid (seqB HW.out hb); clear hb)
        go_roundw
        case rel => exact ⟨k + 1, near, least, by omega, rfl, rfl, by go_num, HN2, HW2⟩
        case measure => (simp [intOf]; try omega)
    · obtain rfl : k = m := by omega
      have hk1 : ¬ (k : Int) < k := by omega
      go_wp2_with fail
      go_ret
      exact ⟨near, rfl, ⟨least, HN.out⟩, HW.out⟩
end Go.Proofs.YtdnmjofenckndaaDoor
set_option linter.unusedVariables false
set_option linter.unusedSimpArgs false
namespace Go.Proofs.YtdnmjofenckndaaDoor
open Go.RowKit
/-- Bits that are no number. -/
def NaN64 (r : Nat) : Prop := ∃ s t, FloatKind.f64.format.read r = .nan s t
theorem nan_read (r : Nat) (h : 0x7ff0000000000000 < r % 2 ^ 63) : NaN64 r := by
  have hs : FloatKind.f64.format.signWeight = 2 ^ 63 := by decide +kernel
  have hb : FloatKind.f64.format.binade = 2 ^ 52 := by decide +kernel
  have hi : FloatKind.f64.format.infRung = 0x7ff0000000000000 := by decide +kernel
  unfold NaN64 Ieee.Format.read
  simp only [hs, hb, hi]
  have h1 : ¬ r % 2 ^ 63 < 2 ^ 52 := by omega
  have h2 : ¬ r % 2 ^ 63 < 0x7ff0000000000000 := by omega
  have h3 : ¬ r % 2 ^ 63 = 0x7ff0000000000000 := by omega
  rw [if_neg h1, if_neg h2, if_neg h3]
  exact ⟨_, _, rfl⟩
theorem nan_cut (x y t : Nat) : NaN64 ((Question.nanBits .f64 x y).cut t) := by
  apply nan_read
  show 0x7ff0000000000000 < ((t % 2) * 2 ^ 63 + 0x7ff0000000000000 + 1 + (t / 2) % (2 ^ 52 - 1)) % 2 ^ 63
  have h := Nat.mod_lt (t / 2) (show 0 < 2 ^ 52 - 1 by decide)
  have h2 : t % 2 = 0 ∨ t % 2 = 1 := by omega
  rcases h2 with h2 | h2 <;> rw [h2] <;> omega
theorem nan_order {r : Nat} (h : NaN64 r) (x : Nat) : FloatKind.f64.format.order r x = none := by
  obtain ⟨s, t, e⟩ := h
  unfold Ieee.Format.order
  rw [e]; rfl
theorem nan_order2 {r : Nat} (h : NaN64 r) (x : Nat) : FloatKind.f64.format.order x r = none := by
  obtain ⟨s, t, e⟩ := h
  unfold Ieee.Format.order
  rw [e]
  cases FloatKind.f64.format.read x <;> rfl
theorem nan_sub {r : Nat} (h : NaN64 r) (x : Nat) : floatBits .sub .f64 x r = none := by
  obtain ⟨s, t, e⟩ := h
  show FloatKind.f64.format.sub x r = none
  unfold Ieee.Format.sub
  rw [e]
  cases FloatKind.f64.format.read x <;> rfl
theorem nan_fun (op : BinOp) (hop : op = .sub ∨ op = .quo) (x y : Nat) (h : floatBits op .f64 x y = none) : ∃ F : World → Nat, (∀ w, NaN64 (F w)) ∧ ∀ (t : TypeId) (w : World), (Go.binOp op t (.float .f64 x) (.float .f64 y)).run Tryd.prog w = .ok (.float .f64 (F w)) w.drew := by
  refine ⟨fun w => (Question.nanBits .f64 x y).cut (w.tape w.drawn (.nanBits .f64 x y)), fun w => nan_cut _ _ _, fun t w => ?_⟩
  unfold floatBits at h
  rcases hop with rfl | rfl <;> simp only at h <;> simp [Go.binOp, Op.floatArith, h, Question.forced]
theorem zero_zero : floatBits .quo .f64 (floatOfInt .f64 0) (floatOfInt .f64 0) = none := by decide +kernel
theorem share_nan (w : World) : Calls Tryd.prog 150 #[.int .i64 0, .int .i64 0] w fun e w' => ∃ r, NaN64 r ∧ e = .returned (.float .f64 r) ∧ Below w.heap.size w w' := by
  obtain ⟨F, h1, h2⟩ := nan_fun .quo (Or.inr rfl) _ _ zero_zero
  have HF := Lib.hid h1
  clear h1
  go_enter Tryd.func150, Tryd.ntmps150
  go_wp2_with fail
  go_ret
  exact ⟨_, HF.out w, rfl, (Below.refl _ _).drew⟩
theorem rshare_nan (w : World) : Calls Tryd.prog 71 #[.int .i64 0, .int .i64 0] w fun e w' => ∃ r, NaN64 r ∧ e = .returned (.float .f64 r) ∧ Below w.heap.size w w' := by
  obtain ⟨F, h1, h2⟩ := nan_fun .quo (Or.inr rfl) _ _ zero_zero
  have HF := Lib.hid h1
  clear h1
  go_enter Tryd.func71, Tryd.ntmps71
  go_wp2_with fail
  go_ret
  exact ⟨_, HF.out w, rfl, (Below.refl _ _).drew⟩
theorem rshare_any (n o : Int) (r : Nat) (h : floatBits .quo .f64 (floatOfInt .f64 n) (floatOfInt .f64 o) = some r) (w : World) : Calls Tryd.prog 71 #[.int .i64 n, .int .i64 o] w fun e w' => e = .returned (.float .f64 r) ∧ w = w' := by
  have hop : ∀ t w, (Go.binOp .quo t (.float .f64 (floatOfInt .f64 n)) (.float .f64 (floatOfInt .f64 o))).run Tryd.prog w = .ok (.float .f64 r) w := fun t w => run_float_arith w .quo t .f64 _ _ r h
  clear h
  go_enter Tryd.func71, Tryd.ntmps71
  go_wp2_with fail
  go_ret
  exact ⟨rfl, rfl⟩
theorem rsame_eq (x y : Nat) (h : FloatKind.f64.format.order x y = some .eq) (w : World) : Calls Tryd.prog 70 #[.float .f64 x, .float .f64 y] w fun e w' => e = .returned (.bool true) ∧ w = w' := by
  go_enter Tryd.func70, Tryd.ntmps70
  go_wp2_with fail
  go_ret
  exact ⟨by first | rfl | simp, rfl⟩
theorem rsame_nan (x y : Nat) (hx : NaN64 x) (hy : NaN64 y) (w : World) : Calls Tryd.prog 70 #[.float .f64 x, .float .f64 y] w fun e w' => e = .returned (.bool true) ∧ w = w' := by
  have h1 := nan_order hx x
  have h2 := nan_order hy y
  have h3 := nan_order hx y
  clear hx hy
  go_enter Tryd.func70, Tryd.ntmps70
  go_wp2_with fail
  go_ret
  exact ⟨by first | rfl | simp, rfl⟩
set_option maxHeartbeats 2000000 in
theorem like_nan (S : Nat → Prop) (a b : Option Addr) (c d : Nat) (w : World) (ha : SlS S w a [] c) (hb : SlS S w b [] d) :
    Calls Tryd.prog 67 #[.slice a 0 c, .slice b 0 d] w fun e w' => ∃ r, NaN64 r ∧ e = .returned (.float .f64 r) ∧ Below w.heap.size w w' := by
  have h0 := dist_any S [] [] a b 0 0 c d w rfl rfl (by omega) (by omega) ha hb
  have DS := Lib.hid (show Calls Tryd.prog 66 #[.slice a 0 c, .slice b 0 d] w fun e w' => e = .returned (.int .i64 0) ∧ Below w.heap.size w w' from by
    rw [show lev (vL []) (vL []) = 0 from (lev_zero _ _).2 rfl] at h0
    exact h0)
  have SH := Lib.hid fun w => share_nan w
  clear h0 ha hb
  go_enter Tryd.func67, Tryd.ntmps67
  go_wp2_with (first
    | (go_at_call 66; refine DS.out.mono ?_; rintro e w1 ⟨rfl, hb⟩; have N1 := Lib.hid hb; clear hb)
    | (go_at_call 150; refine (SH.out _).mono ?_; rintro e w2 ⟨r, hr, rfl, hb⟩; have N2 := Lib.hid (seqB N1.out hb); obtain ⟨F, h1, h2⟩ := nan_fun .sub (Or.inl rfl) 4607182418800017408 r (nan_sub hr _); have HF := Lib.hid h1; clear h1 hr hb))
  go_ret
  exact ⟨_, HF.out w2, rfl, N2.out.drew⟩
end Go.Proofs.YtdnmjofenckndaaDoor
set_option linter.unusedVariables false
set_option linter.unusedSimpArgs false
namespace Go.Proofs.YtdnmjofenckndaaDoor
open Go.RowKit
def sh4 : List (Int × Int) := [(97, 0), (98, 2), (99, 2), (100, 2)]
def shH0 (w : World) (G : Nat) : Prop := w.heap[G]? = some (.cells #[.int .i64 0, .int .i64 0, .int .i64 0, .int .i64 0, .int .i64 0, .int .i64 0] 193 (0, 0))
def shH1 (w : World) (G : Nat) : Prop := w.heap[G]? = some (.cells #[.int .i64 1, .int .i64 0, .int .i64 0, .int .i64 0, .int .i64 0, .int .i64 0] 193 (0, 0))
def shH2 (w : World) (G : Nat) : Prop := w.heap[G]? = some (.cells #[.int .i64 1, .int .i64 0, .int .i64 1, .int .i64 0, .int .i64 0, .int .i64 0] 193 (0, 0))
def shH3 (w : World) (G : Nat) : Prop := w.heap[G]? = some (.cells #[.int .i64 1, .int .i64 0, .int .i64 2, .int .i64 0, .int .i64 0, .int .i64 0] 193 (0, 0))
def shH4 (w : World) (G : Nat) : Prop := w.heap[G]? = some (.cells #[.int .i64 1, .int .i64 0, .int .i64 3, .int .i64 0, .int .i64 0, .int .i64 0] 193 (0, 0))
def shF0 (w : World) (G : Nat) : Prop := w.heap[G]? = some (.cells #[.float .f64 0, .float .f64 0, .float .f64 0, .float .f64 0, .float .f64 0, .float .f64 0] 183 (0, 0))
def shF1 (w : World) (G : Nat) : Prop := w.heap[G]? = some (.cells #[.float .f64 4598175219545276416, .float .f64 0, .float .f64 0, .float .f64 0, .float .f64 0, .float .f64 0] 183 (0, 0))
def shF2 (w : World) (G : Nat) : Prop := w.heap[G]? = some (.cells #[.float .f64 4598175219545276416, .float .f64 0, .float .f64 0, .float .f64 0, .float .f64 0, .float .f64 0] 183 (0, 0))
def shF3 (w : World) (G : Nat) : Prop := w.heap[G]? = some (.cells #[.float .f64 4598175219545276416, .float .f64 0, .float .f64 4604930618986332160, .float .f64 0, .float .f64 0, .float .f64 0] 183 (0, 0))
def shF4 (w : World) (G : Nat) : Prop := w.heap[G]? = some (.cells #[.float .f64 4598175219545276416, .float .f64 0, .float .f64 4604930618986332160, .float .f64 0, .float .f64 0, .float .f64 0] 183 (0, 0))
def shF5 (w : World) (G : Nat) : Prop := w.heap[G]? = some (.cells #[.float .f64 4598175219545276416, .float .f64 0, .float .f64 4604930618986332160, .float .f64 0, .float .f64 0, .float .f64 0] 183 (0, 0))
def shF6 (w : World) (G : Nat) : Prop := w.heap[G]? = some (.cells #[.float .f64 4598175219545276416, .float .f64 0, .float .f64 4604930618986332160, .float .f64 0, .float .f64 0, .float .f64 0] 183 (0, 0))
set_option maxHeartbeats 8000000 in
theorem shares_aw (a : Option Addr) (c : Nat) (w : World) (hs : Signs w a sh4) : Calls Tryd.prog 148 #[.slice a 4 c] w fun e w' => e = .returned (.agg #[.float .f64 4598175219545276416, .float .f64 0, .float .f64 4604930618986332160, .float .f64 0, .float .f64 0, .float .f64 0]) ∧ Below w.heap.size w w' := by
  have HS := Lib.hid hs
  have SH0 := Lib.hid fun w => share_any 0 4 0 fbits_aw.2.2.1 w
  have SH1 := Lib.hid fun w => share_any 1 4 4598175219545276416 fbits_aw.1 w
  have SH3 := Lib.hid fun w => share_any 3 4 4604930618986332160 fbits_aw.2.1 w
  have B0 := below_alloc w (.cells #[.float .f64 0, .float .f64 0, .float .f64 0, .float .f64 0, .float .f64 0, .float .f64 0] 183)
  obtain ⟨W, hW⟩ : ∃ W, w.alloc (.cells #[.float .f64 0, .float .f64 0, .float .f64 0, .float .f64 0, .float .f64 0, .float .f64 0] 183) = W := ⟨_, rfl⟩
  have R0 : shF0 W w.heap.size := by rw [← hW]; exact heap_alloc_new _ _
  rw [hW] at B0
  have H1 : shH0 (W.alloc (.cells #[.int .i64 0, .int .i64 0, .int .i64 0, .int .i64 0, .int .i64 0, .int .i64 0] 193)) W.heap.size := heap_alloc_new _ _
  have B1 := seqB B0 (below_alloc W (.cells #[.int .i64 0, .int .i64 0, .int .i64 0, .int .i64 0, .int .i64 0, .int .i64 0] 193))
  have R1 : shF0 (W.alloc (.cells #[.int .i64 0, .int .i64 0, .int .i64 0, .int .i64 0, .int .i64 0, .int .i64 0] 193)) w.heap.size := blk_below R0 (below_alloc W _)
  obtain ⟨W1, hW1⟩ : ∃ W1, W.alloc (.cells #[.int .i64 0, .int .i64 0, .int .i64 0, .int .i64 0, .int .i64 0, .int .i64 0] 193) = W1 := ⟨_, rfl⟩
  rw [hW1] at H1 B1 R1
  have hsW : Hid (W.heap.size = w.heap.size + 1) := Lib.hid (by rw [← hW]; simp)
  obtain ⟨G, hG⟩ : ∃ G, W.heap.size = G := ⟨_, rfl⟩
  have I1 := Lib.hid H1; have N1 := Lib.hid B1; have Q1 := Lib.hid R1
  clear hs B0 R0 H1 B1 R1
  go_enter Tryd.func148, Tryd.ntmps148
  go_upto_region 2 with fail
  rw [hG] at I1 hsW
  clear hW hW1 hG
  go_wp2_with fail
  go_loopw [11] (fun iv wr => Hid (Below w.heap.size w wr) ∧ Hid (shF0 wr w.heap.size) ∧ ((iv = .int .i64 0 ∧ Hid (shH0 wr G)) ∨ (iv = .int .i64 1 ∧ Hid (shH1 wr G)) ∨ (iv = .int .i64 2 ∧ Hid (shH2 wr G)) ∨ (iv = .int .i64 3 ∧ Hid (shH3 wr G)) ∨ (iv = .int .i64 4 ∧ Hid (shH4 wr G)))) (fun iv _ => 4 - (intOf iv).toNat)
  case atStart => exact ⟨N1, Q1, Or.inl ⟨rfl, I1⟩⟩
  case round =>
    clear N1 Q1 I1
    obtain ⟨HB, HR, ⟨rfl, HH⟩ | ⟨rfl, HH⟩ | ⟨rfl, HH⟩ | ⟨rfl, HH⟩ | ⟨rfl, HH⟩⟩ := hrel
    · obtain ⟨b, off, rfl, hb, c1, c2⟩ := (HS.out.below HB.out) 0 (by decide)
      have c1' : wr.cell? ⟨b, off + 0 * 2, none⟩ = some (.int .i64 97) := c1
      have c2' : wr.cell? ⟨b, off + 0 * 2 + 1, none⟩ = some (.int .i64 0) := c2
      simp only [Nat.zero_mul, Nat.add_zero, Nat.reduceMul] at c1' c2'
      have e : wr.heap[G]? = some (.cells #[.int .i64 0, .int .i64 0, .int .i64 0, .int .i64 0, .int .i64 0, .int .i64 0] 193 (0, 0)) := HH.out
      have BA := below_alloc wr (.cells #[.int .i64 97, .int .i64 0] 39)
      have e5 := blk_below e BA
      have y5 := cell_of_row _ _ 0 _ _ _ e5
      dsimp at y5
      have yf := fun i => frozen_of_row _ G i _ _ e5
      have J : Hid (shH1 ((wr.alloc (.cells #[.int .i64 97, .int .i64 0] 39)).setCell ⟨G, 0, none⟩ (.int .i64 1)) G) := Lib.hid (blk_set e5 0 _)
      have JB : Hid (Below w.heap.size w ((wr.alloc (.cells #[.int .i64 97, .int .i64 0] 39)).setCell ⟨G, 0, none⟩ (.int .i64 1))) := Lib.hid ((seqB HB.out BA).setCell (p := ⟨G, 0, none⟩) (by have := hsW.out; show w.heap.size ≤ G; omega) _)
      have JR : Hid (shF0 ((wr.alloc (.cells #[.int .i64 97, .int .i64 0] 39)).setCell ⟨G, 0, none⟩ (.int .i64 1)) w.heap.size) := Lib.hid (by
        have h : shF0 (wr.alloc (.cells #[.int .i64 97, .int .i64 0] 39)) w.heap.size := blk_below HR.out BA
        unfold shF0 at h ⊢
        rw [Below.heap_setCell _ _ _ _ (by have := hsW.out; show w.heap.size ≠ G; omega)]; exact h)
      clear c1 c2 e e5 BA HH HB HR
      go_wp2_with fail
      go_roundw
      case rel => exact ⟨JB, JR, Or.inr (Or.inl ⟨by first | rfl | simp, J⟩)⟩
      case measure => simp [intOf]
    · obtain ⟨b, off, rfl, hb, c1, c2⟩ := (HS.out.below HB.out) 1 (by decide)
      have c1' : wr.cell? ⟨b, off + 1 * 2, none⟩ = some (.int .i64 98) := c1
      have c2' : wr.cell? ⟨b, off + 1 * 2 + 1, none⟩ = some (.int .i64 2) := c2
      simp only [Nat.zero_mul, Nat.add_zero, Nat.reduceMul] at c1' c2'
      have e : wr.heap[G]? = some (.cells #[.int .i64 1, .int .i64 0, .int .i64 0, .int .i64 0, .int .i64 0, .int .i64 0] 193 (0, 0)) := HH.out
      have BA := below_alloc wr (.cells #[.int .i64 98, .int .i64 2] 39)
      have e5 := blk_below e BA
      have y5 := cell_of_row _ _ 2 _ _ _ e5
      dsimp at y5
      have yf := fun i => frozen_of_row _ G i _ _ e5
      have J : Hid (shH2 ((wr.alloc (.cells #[.int .i64 98, .int .i64 2] 39)).setCell ⟨G, 2, none⟩ (.int .i64 1)) G) := Lib.hid (blk_set e5 2 _)
      have JB : Hid (Below w.heap.size w ((wr.alloc (.cells #[.int .i64 98, .int .i64 2] 39)).setCell ⟨G, 2, none⟩ (.int .i64 1))) := Lib.hid ((seqB HB.out BA).setCell (p := ⟨G, 2, none⟩) (by have := hsW.out; show w.heap.size ≤ G; omega) _)
      have JR : Hid (shF0 ((wr.alloc (.cells #[.int .i64 98, .int .i64 2] 39)).setCell ⟨G, 2, none⟩ (.int .i64 1)) w.heap.size) := Lib.hid (by
        have h : shF0 (wr.alloc (.cells #[.int .i64 98, .int .i64 2] 39)) w.heap.size := blk_below HR.out BA
        unfold shF0 at h ⊢
        rw [Below.heap_setCell _ _ _ _ (by have := hsW.out; show w.heap.size ≠ G; omega)]; exact h)
      clear c1 c2 e e5 BA HH HB HR
      go_wp2_with fail
      go_roundw
      case rel => exact ⟨JB, JR, Or.inr (Or.inr (Or.inl ⟨by first | rfl | simp, J⟩))⟩
      case measure => simp [intOf]
    · obtain ⟨b, off, rfl, hb, c1, c2⟩ := (HS.out.below HB.out) 2 (by decide)
      have c1' : wr.cell? ⟨b, off + 2 * 2, none⟩ = some (.int .i64 99) := c1
      have c2' : wr.cell? ⟨b, off + 2 * 2 + 1, none⟩ = some (.int .i64 2) := c2
      simp only [Nat.zero_mul, Nat.add_zero, Nat.reduceMul] at c1' c2'
      have e : wr.heap[G]? = some (.cells #[.int .i64 1, .int .i64 0, .int .i64 1, .int .i64 0, .int .i64 0, .int .i64 0] 193 (0, 0)) := HH.out
      have BA := below_alloc wr (.cells #[.int .i64 99, .int .i64 2] 39)
      have e5 := blk_below e BA
      have y5 := cell_of_row _ _ 2 _ _ _ e5
      dsimp at y5
      have yf := fun i => frozen_of_row _ G i _ _ e5
      have J : Hid (shH3 ((wr.alloc (.cells #[.int .i64 99, .int .i64 2] 39)).setCell ⟨G, 2, none⟩ (.int .i64 2)) G) := Lib.hid (blk_set e5 2 _)
      have JB : Hid (Below w.heap.size w ((wr.alloc (.cells #[.int .i64 99, .int .i64 2] 39)).setCell ⟨G, 2, none⟩ (.int .i64 2))) := Lib.hid ((seqB HB.out BA).setCell (p := ⟨G, 2, none⟩) (by have := hsW.out; show w.heap.size ≤ G; omega) _)
      have JR : Hid (shF0 ((wr.alloc (.cells #[.int .i64 99, .int .i64 2] 39)).setCell ⟨G, 2, none⟩ (.int .i64 2)) w.heap.size) := Lib.hid (by
        have h : shF0 (wr.alloc (.cells #[.int .i64 99, .int .i64 2] 39)) w.heap.size := blk_below HR.out BA
        unfold shF0 at h ⊢
        rw [Below.heap_setCell _ _ _ _ (by have := hsW.out; show w.heap.size ≠ G; omega)]; exact h)
      clear c1 c2 e e5 BA HH HB HR
      go_wp2_with fail
      go_roundw
      case rel => exact ⟨JB, JR, Or.inr (Or.inr (Or.inr (Or.inl ⟨by first | rfl | simp, J⟩)))⟩
      case measure => simp [intOf]
    · obtain ⟨b, off, rfl, hb, c1, c2⟩ := (HS.out.below HB.out) 3 (by decide)
      have c1' : wr.cell? ⟨b, off + 3 * 2, none⟩ = some (.int .i64 100) := c1
      have c2' : wr.cell? ⟨b, off + 3 * 2 + 1, none⟩ = some (.int .i64 2) := c2
      simp only [Nat.zero_mul, Nat.add_zero, Nat.reduceMul] at c1' c2'
      have e : wr.heap[G]? = some (.cells #[.int .i64 1, .int .i64 0, .int .i64 2, .int .i64 0, .int .i64 0, .int .i64 0] 193 (0, 0)) := HH.out
      have BA := below_alloc wr (.cells #[.int .i64 100, .int .i64 2] 39)
      have e5 := blk_below e BA
      have y5 := cell_of_row _ _ 2 _ _ _ e5
      dsimp at y5
      have yf := fun i => frozen_of_row _ G i _ _ e5
      have J : Hid (shH4 ((wr.alloc (.cells #[.int .i64 100, .int .i64 2] 39)).setCell ⟨G, 2, none⟩ (.int .i64 3)) G) := Lib.hid (blk_set e5 2 _)
      have JB : Hid (Below w.heap.size w ((wr.alloc (.cells #[.int .i64 100, .int .i64 2] 39)).setCell ⟨G, 2, none⟩ (.int .i64 3))) := Lib.hid ((seqB HB.out BA).setCell (p := ⟨G, 2, none⟩) (by have := hsW.out; show w.heap.size ≤ G; omega) _)
      have JR : Hid (shF0 ((wr.alloc (.cells #[.int .i64 100, .int .i64 2] 39)).setCell ⟨G, 2, none⟩ (.int .i64 3)) w.heap.size) := Lib.hid (by
        have h : shF0 (wr.alloc (.cells #[.int .i64 100, .int .i64 2] 39)) w.heap.size := blk_below HR.out BA
        unfold shF0 at h ⊢
        rw [Below.heap_setCell _ _ _ _ (by have := hsW.out; show w.heap.size ≠ G; omega)]; exact h)
      clear c1 c2 e e5 BA HH HB HR
      go_wp2_with fail
      go_roundw
      case rel => exact ⟨JB, JR, Or.inr (Or.inr (Or.inr (Or.inr (⟨by first | rfl | simp, J⟩))))⟩
      case measure => simp [intOf]
    · have e : wr.heap[G]? = some (.cells #[.int .i64 1, .int .i64 0, .int .i64 3, .int .i64 0, .int .i64 0, .int .i64 0] 193 (0, 0)) := HH.out
      have BA := below_alloc wr (.cells #[.float .f64 0, .float .f64 0, .float .f64 0, .float .f64 0, .float .f64 0, .float .f64 0] 183)
      have yy := fun i => cell_of_row _ _ i _ _ _ (blk_below e BA)
      have k0 := yy 0; have k1 := yy 1; have k2 := yy 2; have k3 := yy 3; have k4 := yy 4; have k5 := yy 5
      dsimp at k0 k1 k2 k3 k4 k5
      have F0 : Hid (shF0 (wr.alloc (.cells #[.float .f64 0, .float .f64 0, .float .f64 0, .float .f64 0, .float .f64 0, .float .f64 0] 183)) wr.heap.size) := Lib.hid (heap_alloc_new _ _)
      have HR2 : Hid (shF0 (wr.alloc (.cells #[.float .f64 0, .float .f64 0, .float .f64 0, .float .f64 0, .float .f64 0, .float .f64 0] 183)) w.heap.size) := Lib.hid (blk_below HR.out BA)
      have HB2 := Lib.hid (seqB HB.out BA)
      have hX : Hid (w.heap.size < wr.heap.size) := Lib.hid (blk_lt HR.out)
      clear yy BA HH HB HR
      obtain ⟨X, hXe⟩ : ∃ X, wr.heap.size = X := ⟨_, rfl⟩
      go_upto_region 9 with fail
      generalize hW5 : World.alloc wr _ = W5
      rw [hW5] at F0 HR2 HB2 k0 k1 k2 k3 k4 k5
      rw [hXe] at F0 hX
      clear hW5 hXe
      go_wp2_with fail
      clear k0 k1 k2 k3 k4 k5
      have hsf : ∀ (w : World) (ad : Addr) (x : Nat), (store ad (.float .f64 x)).run Tryd.prog w = stored Tryd.prog w ad (.float .f64 x) .plain := fun w ad x => run_store _ w ad _ _ rfl
      have hix0 : ∀ w : World, (Instr.index 193 (.agg #[.int .i64 1, .int .i64 0, .int .i64 3, .int .i64 0, .int .i64 0, .int .i64 0]) (.int .i64 0)).run Tryd.prog w = .ok (.int .i64 1) w := fun _ => by kernel_rfl
      have hix1 : ∀ w : World, (Instr.index 193 (.agg #[.int .i64 1, .int .i64 0, .int .i64 3, .int .i64 0, .int .i64 0, .int .i64 0]) (.int .i64 1)).run Tryd.prog w = .ok (.int .i64 0) w := fun _ => by kernel_rfl
      have hix2 : ∀ w : World, (Instr.index 193 (.agg #[.int .i64 1, .int .i64 0, .int .i64 3, .int .i64 0, .int .i64 0, .int .i64 0]) (.int .i64 2)).run Tryd.prog w = .ok (.int .i64 3) w := fun _ => by kernel_rfl
      have hix3 : ∀ w : World, (Instr.index 193 (.agg #[.int .i64 1, .int .i64 0, .int .i64 3, .int .i64 0, .int .i64 0, .int .i64 0]) (.int .i64 3)).run Tryd.prog w = .ok (.int .i64 0) w := fun _ => by kernel_rfl
      have hix4 : ∀ w : World, (Instr.index 193 (.agg #[.int .i64 1, .int .i64 0, .int .i64 3, .int .i64 0, .int .i64 0, .int .i64 0]) (.int .i64 4)).run Tryd.prog w = .ok (.int .i64 0) w := fun _ => by kernel_rfl
      have hix5 : ∀ w : World, (Instr.index 193 (.agg #[.int .i64 1, .int .i64 0, .int .i64 3, .int .i64 0, .int .i64 0, .int .i64 0]) (.int .i64 5)).run Tryd.prog w = .ok (.int .i64 0) w := fun _ => by kernel_rfl
      go_loopw [31] (fun iv wr => Hid (Below w.heap.size w wr) ∧ Hid (shF0 wr w.heap.size) ∧ ((iv = .int .i64 0 ∧ Hid (shF0 wr X)) ∨ (iv = .int .i64 1 ∧ Hid (shF1 wr X)) ∨ (iv = .int .i64 2 ∧ Hid (shF2 wr X)) ∨ (iv = .int .i64 3 ∧ Hid (shF3 wr X)) ∨ (iv = .int .i64 4 ∧ Hid (shF4 wr X)) ∨ (iv = .int .i64 5 ∧ Hid (shF5 wr X)) ∨ (iv = .int .i64 6 ∧ Hid (shF6 wr X)))) (fun iv _ => 6 - (intOf iv).toNat)
      case atStart => exact ⟨HB2, HR2, Or.inl ⟨rfl, F0⟩⟩
      case round =>
        clear HB2 HR2 F0
        obtain ⟨HB, HR, ⟨rfl, HH⟩ | ⟨rfl, HH⟩ | ⟨rfl, HH⟩ | ⟨rfl, HH⟩ | ⟨rfl, HH⟩ | ⟨rfl, HH⟩ | ⟨rfl, HH⟩⟩ := hrel
        · have e : wr.heap[X]? = some (.cells #[.float .f64 0, .float .f64 0, .float .f64 0, .float .f64 0, .float .f64 0, .float .f64 0] 183 (0, 0)) := HH.out
          have y5 := cell_of_row _ _ 0 _ _ _ e
          dsimp at y5
          have yf := fun i => frozen_of_row _ X i _ _ e
          have J : Hid (shF1 (wr.setCell ⟨X, 0, none⟩ (.float .f64 4598175219545276416)) X) := Lib.hid (blk_set e 0 _)
          have JB : Hid (Below w.heap.size w (wr.setCell ⟨X, 0, none⟩ (.float .f64 4598175219545276416))) := Lib.hid (HB.out.setCell (p := ⟨X, 0, none⟩) (Nat.le_of_lt hX.out) _)
          have JR : Hid (shF0 (wr.setCell ⟨X, 0, none⟩ (.float .f64 4598175219545276416)) w.heap.size) := Lib.hid (by
            have h := HR.out
            unfold shF0 at h ⊢
            rw [Below.heap_setCell _ _ _ _ (Nat.ne_of_lt hX.out)]; exact h)
          clear e HH HB HR
          go_wp2_with (go_at_call 150; refine (SH1.out _).mono ?_; rintro e w2 ⟨rfl, h⟩; subst h)
          go_roundw
          case rel => exact ⟨JB, JR, Or.inr (Or.inl ⟨by first | rfl | simp, J⟩)⟩
          case measure => simp [intOf]
        · have e : wr.heap[X]? = some (.cells #[.float .f64 4598175219545276416, .float .f64 0, .float .f64 0, .float .f64 0, .float .f64 0, .float .f64 0] 183 (0, 0)) := HH.out
          have y5 := cell_of_row _ _ 1 _ _ _ e
          dsimp at y5
          have yf := fun i => frozen_of_row _ X i _ _ e
          have J : Hid (shF2 (wr.setCell ⟨X, 1, none⟩ (.float .f64 0)) X) := Lib.hid (blk_set e 1 _)
          have JB : Hid (Below w.heap.size w (wr.setCell ⟨X, 1, none⟩ (.float .f64 0))) := Lib.hid (HB.out.setCell (p := ⟨X, 1, none⟩) (Nat.le_of_lt hX.out) _)
          have JR : Hid (shF0 (wr.setCell ⟨X, 1, none⟩ (.float .f64 0)) w.heap.size) := Lib.hid (by
            have h := HR.out
            unfold shF0 at h ⊢
            rw [Below.heap_setCell _ _ _ _ (Nat.ne_of_lt hX.out)]; exact h)
          clear e HH HB HR
          go_wp2_with (go_at_call 150; refine (SH0.out _).mono ?_; rintro e w2 ⟨rfl, h⟩; subst h)
          go_roundw
          case rel => exact ⟨JB, JR, Or.inr (Or.inr (Or.inl ⟨by first | rfl | simp, J⟩))⟩
          case measure => simp [intOf]
        · have e : wr.heap[X]? = some (.cells #[.float .f64 4598175219545276416, .float .f64 0, .float .f64 0, .float .f64 0, .float .f64 0, .float .f64 0] 183 (0, 0)) := HH.out
          have y5 := cell_of_row _ _ 2 _ _ _ e
          dsimp at y5
          have yf := fun i => frozen_of_row _ X i _ _ e
          have J : Hid (shF3 (wr.setCell ⟨X, 2, none⟩ (.float .f64 4604930618986332160)) X) := Lib.hid (blk_set e 2 _)
          have JB : Hid (Below w.heap.size w (wr.setCell ⟨X, 2, none⟩ (.float .f64 4604930618986332160))) := Lib.hid (HB.out.setCell (p := ⟨X, 2, none⟩) (Nat.le_of_lt hX.out) _)
          have JR : Hid (shF0 (wr.setCell ⟨X, 2, none⟩ (.float .f64 4604930618986332160)) w.heap.size) := Lib.hid (by
            have h := HR.out
            unfold shF0 at h ⊢
            rw [Below.heap_setCell _ _ _ _ (Nat.ne_of_lt hX.out)]; exact h)
          clear e HH HB HR
          go_wp2_with (go_at_call 150; refine (SH3.out _).mono ?_; rintro e w2 ⟨rfl, h⟩; subst h)
          go_roundw
          case rel => exact ⟨JB, JR, Or.inr (Or.inr (Or.inr (Or.inl ⟨by first | rfl | simp, J⟩)))⟩
          case measure => simp [intOf]
        · have e : wr.heap[X]? = some (.cells #[.float .f64 4598175219545276416, .float .f64 0, .float .f64 4604930618986332160, .float .f64 0, .float .f64 0, .float .f64 0] 183 (0, 0)) := HH.out
          have y5 := cell_of_row _ _ 3 _ _ _ e
          dsimp at y5
          have yf := fun i => frozen_of_row _ X i _ _ e
          have J : Hid (shF4 (wr.setCell ⟨X, 3, none⟩ (.float .f64 0)) X) := Lib.hid (blk_set e 3 _)
          have JB : Hid (Below w.heap.size w (wr.setCell ⟨X, 3, none⟩ (.float .f64 0))) := Lib.hid (HB.out.setCell (p := ⟨X, 3, none⟩) (Nat.le_of_lt hX.out) _)
          have JR : Hid (shF0 (wr.setCell ⟨X, 3, none⟩ (.float .f64 0)) w.heap.size) := Lib.hid (by
            have h := HR.out
            unfold shF0 at h ⊢
            rw [Below.heap_setCell _ _ _ _ (Nat.ne_of_lt hX.out)]; exact h)
          clear e HH HB HR
          go_wp2_with (go_at_call 150; refine (SH0.out _).mono ?_; rintro e w2 ⟨rfl, h⟩; subst h)
          go_roundw
          case rel => exact ⟨JB, JR, Or.inr (Or.inr (Or.inr (Or.inr (Or.inl ⟨by first | rfl | simp, J⟩))))⟩
          case measure => simp [intOf]
        · have e : wr.heap[X]? = some (.cells #[.float .f64 4598175219545276416, .float .f64 0, .float .f64 4604930618986332160, .float .f64 0, .float .f64 0, .float .f64 0] 183 (0, 0)) := HH.out
          have y5 := cell_of_row _ _ 4 _ _ _ e
          dsimp at y5
          have yf := fun i => frozen_of_row _ X i _ _ e
          have J : Hid (shF5 (wr.setCell ⟨X, 4, none⟩ (.float .f64 0)) X) := Lib.hid (blk_set e 4 _)
          have JB : Hid (Below w.heap.size w (wr.setCell ⟨X, 4, none⟩ (.float .f64 0))) := Lib.hid (HB.out.setCell (p := ⟨X, 4, none⟩) (Nat.le_of_lt hX.out) _)
          have JR : Hid (shF0 (wr.setCell ⟨X, 4, none⟩ (.float .f64 0)) w.heap.size) := Lib.hid (by
            have h := HR.out
            unfold shF0 at h ⊢
            rw [Below.heap_setCell _ _ _ _ (Nat.ne_of_lt hX.out)]; exact h)
          clear e HH HB HR
          go_wp2_with (go_at_call 150; refine (SH0.out _).mono ?_; rintro e w2 ⟨rfl, h⟩; subst h)
          go_roundw
          case rel => exact ⟨JB, JR, Or.inr (Or.inr (Or.inr (Or.inr (Or.inr (Or.inl ⟨by first | rfl | simp, J⟩)))))⟩
          case measure => simp [intOf]
        · have e : wr.heap[X]? = some (.cells #[.float .f64 4598175219545276416, .float .f64 0, .float .f64 4604930618986332160, .float .f64 0, .float .f64 0, .float .f64 0] 183 (0, 0)) := HH.out
          have y5 := cell_of_row _ _ 5 _ _ _ e
          dsimp at y5
          have yf := fun i => frozen_of_row _ X i _ _ e
          have J : Hid (shF6 (wr.setCell ⟨X, 5, none⟩ (.float .f64 0)) X) := Lib.hid (blk_set e 5 _)
          have JB : Hid (Below w.heap.size w (wr.setCell ⟨X, 5, none⟩ (.float .f64 0))) := Lib.hid (HB.out.setCell (p := ⟨X, 5, none⟩) (Nat.le_of_lt hX.out) _)
          have JR : Hid (shF0 (wr.setCell ⟨X, 5, none⟩ (.float .f64 0)) w.heap.size) := Lib.hid (by
            have h := HR.out
            unfold shF0 at h ⊢
            rw [Below.heap_setCell _ _ _ _ (Nat.ne_of_lt hX.out)]; exact h)
          clear e HH HB HR
          go_wp2_with (go_at_call 150; refine (SH0.out _).mono ?_; rintro e w2 ⟨rfl, h⟩; subst h)
          go_roundw
          case rel => exact ⟨JB, JR, Or.inr (Or.inr (Or.inr (Or.inr (Or.inr (Or.inr (⟨by first | rfl | simp, J⟩))))))⟩
          case measure => simp [intOf]
        · have e : wr.heap[X]? = some (.cells #[.float .f64 4598175219545276416, .float .f64 0, .float .f64 4604930618986332160, .float .f64 0, .float .f64 0, .float .f64 0] 183 (0, 0)) := HH.out
          have yy := fun i => cell_of_row _ _ i _ _ _ e
          have k0 := yy 0; have k1 := yy 1; have k2 := yy 2; have k3 := yy 3; have k4 := yy 4; have k5 := yy 5
          dsimp at k0 k1 k2 k3 k4 k5
          have er : wr.heap[w.heap.size]? = some (.cells #[.float .f64 0, .float .f64 0, .float .f64 0, .float .f64 0, .float .f64 0, .float .f64 0] 183 (0, 0)) := HR.out
          have rr := fun i => cell_of_row _ _ i _ _ _ er
          have r0 := rr 0; have r1 := rr 1; have r2 := rr 2; have r3 := rr 3; have r4 := rr 4; have r5 := rr 5
          dsimp at r0 r1 r2 r3 r4 r5
          have yf := fun i => frozen_of_row _ w.heap.size i _ _ er
          have ER := Lib.hid er
          clear yy rr e er HH HR
          go_wp2_with fail
          clear k0 k1 k2 k3 k4 k5 r0 r1 r2 r3 r4 r5 yf
          generalize hWF : World.setCell _ _ _ = WF
          have hq : WF.heap[w.heap.size]? = some (.cells #[.float .f64 4598175219545276416, .float .f64 0, .float .f64 4604930618986332160, .float .f64 0, .float .f64 0, .float .f64 0] 183 (0, 0)) := by
            rw [← hWF]; exact blk_set (blk_set (blk_set (blk_set (blk_set (blk_set ER.out 0 _) 1 _) 2 _) 3 _) 4 _) 5 _
          have hB : Below w.heap.size w WF := by
            rw [← hWF]
            exact (((((HB.out.setCell (p := ⟨w.heap.size, 0, none⟩) (Nat.le_refl _) _).setCell (p := ⟨w.heap.size, 1, none⟩) (Nat.le_refl _) _).setCell (p := ⟨w.heap.size, 2, none⟩) (Nat.le_refl _) _).setCell (p := ⟨w.heap.size, 3, none⟩) (Nat.le_refl _) _).setCell (p := ⟨w.heap.size, 4, none⟩) (Nat.le_refl _) _).setCell (p := ⟨w.heap.size, 5, none⟩) (Nat.le_refl _) _
          have gg := fun i => cell_of_row _ _ i _ _ _ hq
          have g0 := gg 0; have g1 := gg 1; have g2 := gg 2; have g3 := gg 3; have g4 := gg 4; have g5 := gg 5
          dsimp at g0 g1 g2 g3 g4 g5
          refine bodyPost_ret (v := .agg #[.float .f64 4598175219545276416, .float .f64 0, .float .f64 4604930618986332160, .float .f64 0, .float .f64 0, .float .f64 0]) (by simp [results, Tryd.results148, go_sem, g0, g1, g2, g3, g4, g5]) rfl ?_
          exact ⟨rfl, hB⟩
end Go.Proofs.YtdnmjofenckndaaDoor
set_option linter.unusedVariables false
set_option linter.unusedSimpArgs false
namespace Go.Proofs.YtdnmjofenckndaaDoor
open Go.RowKit
def levF : Nat → List Int → List Int → Nat
  | _, [], b => b.length
  | _, _ :: a, [] => a.length + 1
  | 0, _ :: _, _ :: _ => 0
  | f + 1, x :: a, y :: b => if x = y then levF f a b else 1 + min (levF f a b) (min (levF f a (y :: b)) (levF f (x :: a) b))
theorem levF_eq : ∀ (f : Nat) (a b : List Int), a.length + b.length ≤ f → levF f a b = lev a b
  | _, [], b, _ => by rw [levF, lev_nil]
  | _, x :: a, [], _ => by rw [levF, lev_nil2]; rfl
  | 0, x :: a, y :: b, h => by simp at h
  | f + 1, x :: a, y :: b, h => by
    simp at h
    rw [levF]
    by_cases e : x = y
    · subst e; rw [if_pos rfl, lev_same]; exact levF_eq f a b (by omega)
    · rw [if_neg e, lev_ne e, levF_eq f a b (by omega), levF_eq f a (y :: b) (by simp; omega), levF_eq f (x :: a) b (by simp; omega)]
def kitL : List (Int × Int) := [(107, 0), (105, 0), (116, 0), (116, 0), (101, 0), (110, 0)]
def sitL : List (Int × Int) := [(115, 2), (105, 2), (116, 2), (116, 2), (105, 2), (110, 2), (103, 2)]
theorem st_facts : sOf 0 ⟨#[107, 105, 116, 116, 101, 110]⟩ = kitL ∧ (valsS ⟨#[107, 105, 116, 116, 101, 110]⟩).length = 6 ∧ sOf 2 ⟨#[115, 105, 116, 116, 105, 110, 103]⟩ = sitL ∧ (valsS ⟨#[115, 105, 116, 116, 105, 110, 103]⟩).length = 7 ∧ sOf 0 ⟨#[97]⟩ = [(97, 0)] ∧ (valsS ⟨#[97]⟩).length = 1 ∧ sOf 2 ⟨#[98, 99, 100]⟩ = [(98, 2), (99, 2), (100, 2)] ∧ (valsS ⟨#[98, 99, 100]⟩).length = 3 := by decide +kernel
theorem kit_sit : lev (vL kitL) (vL sitL) = 3 := by
  rw [← levF_eq 13 _ _ (by decide)]
  decide +kernel
theorem kit_kit : lev (vL kitL) (vL kitL) = 0 := (lev_zero _ _).2 rfl
/-- A slice of signs that a call made. -/
def SgT (w : World) (b : Option Addr) (d : Nat) (L : List (Int × Int)) : Prop := SlS (fun _ => True) w b L d
theorem SgT.below {w w' : World} {b : Option Addr} {d : Nat} {L : List (Int × Int)} (h : SgT w b d L) (hb : Below w.heap.size w w') : SgT w' b d L := SlS.below h hb
theorem st_of (u : Int) (s : ByteArray) (L : List (Int × Int)) (n : Nat) (hL : sOf u s = L) (hn : (valsS s).length = n) (hLn : L.length = n) (hs : s.size ≤ 1000000) (hn2 : n ≤ 1000000) (w : World) (hT : UT w) :
    Calls Tryd.prog 77 #[.int .i64 u, .string s] w fun e w' => ∃ g, e = .returned (.slice (some ⟨g, 0, none⟩) n n) ∧ SgT w' (some ⟨g, 0, none⟩) n L ∧ OwS w' w.heap.size (.slice (some ⟨g, 0, none⟩) n n) L ∧ Below w.heap.size w w' := by
  have h := sof_any u s w hT hs (by omega)
  rw [hL, hLn] at h
  refine h.mono ?_
  rintro e w' ⟨g, rfl, hg, hb, hB⟩
  refine ⟨g, rfl, ⟨signs_of_blk hb, by omega, fun e => (by cases e), fun _ _ _ => trivial⟩, ?_, hB⟩
  unfold OwS
  rw [hLn]
  refine ⟨by rw [apR_len, hLn], .inr ⟨g, n, sRow L, rfl, hg, hb, Nat.le_refl _, by unfold maxLen; omega, ?_, ?_⟩⟩
  · have := apR_len L
    rw [hLn] at this
    simpa using this
  · exact List.take_of_length_le (by rw [apR_len, hLn]; exact Nat.le_refl _)
theorem near_aw (w : World) (a b : Option Addr) (ca cb : Nat) (ha : SgT w a ca kitL) (hb : SgT w b cb sitL) :
    Calls Tryd.prog 72 #[.slice a 6 ca, .slice (some ⟨w.heap.size, 0, none⟩) 2 2] (w.alloc (.cells #[.slice b 7 cb, .slice a 6 ca] 22)) fun e w' => e = .returned (.int .i64 1) ∧ Below w.heap.size w w' := by
  have B0 := below_alloc w (.cells #[.slice b 7 cb, .slice a 6 ca] 22)
  have q := heap_alloc_new w (.cells #[.slice b 7 cb, .slice a 6 ca] 22)
  have hk : SgsK (fun _ => True) (w.alloc (.cells #[.slice b 7 cb, .slice a 6 ca] 22)) (some ⟨w.heap.size, 0, none⟩) [sitL, kitL] := by
    intro i hi
    have hi2 : i = 0 ∨ i = 1 := by simp at hi; omega
    rcases hi2 with rfl | rfl
    · exact ⟨_, 0, b, cb, rfl, trivial, blk_lt q, cell_of_row _ _ 0 _ _ _ q, SlS.below hb B0⟩
    · exact ⟨_, 0, a, ca, rfl, trivial, blk_lt q, cell_of_row _ _ 1 _ _ _ q, SlS.below ha B0⟩
  refine (near_any kitL [sitL, kitL] a _ 6 ca 2 2 _ rfl rfl (by omega) (by intro t ht; simp at ht; rcases ht with rfl | rfl <;> decide) (by omega) (SlS.below ha B0) hk).mono ?_
  rintro e w' ⟨near, rfl, ⟨least, h⟩, hB⟩
  have hn : near = 1 := by
    rcases h with ⟨h1, _⟩ | ⟨i, h1, h2, h3, h4, h5⟩
    · omega
    · have e0 : lev (vL kitL) (vL (([sitL, kitL] : List (List (Int × Int))).getD i [])) ≤ lev (vL kitL) (vL (([sitL, kitL] : List (List (Int × Int))).getD 1 [])) := h4 1 (by omega)
      have hd1 : lev (vL kitL) (vL (([sitL, kitL] : List (List (Int × Int))).getD 1 [])) = 0 := kit_kit
      have hd0 : lev (vL kitL) (vL (([sitL, kitL] : List (List (Int × Int))).getD 0 [])) = 3 := kit_sit
      rw [hd1] at e0
      have hi2 : i = 0 ∨ i = 1 := by omega
      rcases hi2 with rfl | rfl
      · rw [hd0] at e0; omega
      · exact h2
  subst hn
  exact ⟨rfl, seqB B0 hB⟩
end Go.Proofs.YtdnmjofenckndaaDoor
set_option linter.unusedVariables false
set_option linter.unusedSimpArgs false
namespace Go.Proofs.YtdnmjofenckndaaDoor
open Go.RowKit
def stF (w : World) (X : Nat) : Prop := w.heap[X]? = some (.cells #[.float .f64 4598175219545276416, .float .f64 0, .float .f64 4604930618986332160, .float .f64 0, .float .f64 0, .float .f64 0] 183 (0, 0))
theorem stF.below {w w' : World} {X : Nat} (h : stF w X) (hb : Below w.heap.size w w') : stF w' X := blk_below h hb
theorem stF.cells {w : World} {X : Nat} (h : stF w X) : w.cell? ⟨X, 0, none⟩ = some (.float .f64 4598175219545276416) ∧ w.cell? ⟨X, 2, none⟩ = some (.float .f64 4604930618986332160) := ⟨cell_of_row _ _ 0 _ _ _ h, cell_of_row _ _ 2 _ _ _ h⟩
set_option maxHeartbeats 16000000 in
theorem stawake_any (w : World) (hT : UT w) : Calls Tryd.prog 65 #[] w fun e w' => e = .returned (.bool true) ∧ Below w.heap.size w w' := by
  have HT := Lib.hid hT
  have O1 := Lib.hid fun w hT => st_of 0 ⟨#[107, 105, 116, 116, 101, 110]⟩ kitL 6 st_facts.1 st_facts.2.1 rfl (by decide) (by omega) w hT
  have O2 := Lib.hid fun w hT => st_of 2 ⟨#[115, 105, 116, 116, 105, 110, 103]⟩ sitL 7 st_facts.2.2.1 st_facts.2.2.2.1 rfl (by decide) (by omega) w hT
  have O3 := Lib.hid fun w hT => st_of 0 ⟨#[97]⟩ [(97, 0)] 1 st_facts.2.2.2.2.1 st_facts.2.2.2.2.2.1 rfl (by decide) (by omega) w hT
  have O4 := Lib.hid fun w hT => st_of 2 ⟨#[98, 99, 100]⟩ [(98, 2), (99, 2), (100, 2)] 3 st_facts.2.2.2.2.2.2.1 st_facts.2.2.2.2.2.2.2 rfl (by decide) (by omega) w hT
  have SHS := Lib.hid fun (a : Option Addr) (c : Nat) (w : World) (hs : Signs w a sh4) => shares_aw a c w hs
  have NR := Lib.hid fun w a b ca cb ha hb => near_aw w a b ca cb ha hb
  have hsf : ∀ (w : World) (ad : Addr) (x : Nat), (store ad (.float .f64 x)).run Tryd.prog w = stored Tryd.prog w ad (.float .f64 x) .plain := fun w ad x => run_store _ w ad _ _ rfl
  have DI := Lib.hid fun (w : World) (a b : Option Addr) (c d : Nat) (ha : SgT w a c kitL) (hb : SgT w b d sitL) => (by
    have h := dist_any (fun _ => True) kitL sitL a b 6 7 c d w rfl rfl (by omega) (by omega) ha hb
    rw [kit_sit] at h
    exact h : Calls Tryd.prog 66 #[.slice a 6 c, .slice b 7 d] w fun e w' => e = .returned (.int .i64 3) ∧ Below w.heap.size w w')
  have LK := Lib.hid fun (w : World) (a : Option Addr) (c : Nat) (ha : SgT w a c kitL) => (like_any (fun _ => True) kitL kitL a a 6 6 c c 6 0 4607182418800017408 w rfl rfl (by omega) (by omega) ha ha rfl (by rw [kit_kit]; exact fbits_aw.2.2.2.1) fbits_aw.2.2.2.2.2.1 : Calls Tryd.prog 67 #[.slice a 6 c, .slice a 6 c] w fun e w' => e = .returned (.float .f64 4607182418800017408) ∧ Below w.heap.size w w')
  have ME := Lib.hid fun (w : World) => (mean_aw w.heap.size (w.alloc (.cells #[.float .f64 4607182418800017408, .float .f64 4611686018427387904] 92)) (heap_alloc_new _ _))
  have SI := Lib.hid fun (w : World) => share_any 1 0 9218868437227405312 fbits_aw.2.2.2.2.1 w
  clear hT
  go_enter Tryd.func65, Tryd.ntmps65
  go_upto_region 2 with (first
    | (go_at_call 77; (with_reducible refine (O1.out _ HT.out).mono ?_); rintro e w1 ⟨g1, rfl, hs, ho, hb⟩; have K1 := Lib.hid hs; have N1 := Lib.hid hb; clear hs ho hb O1)
    | (go_at_call 77; (with_reducible refine (O2.out _ (HT.out.below N1.out)).mono ?_); rintro e w2 ⟨g2, rfl, hs, ho, hb⟩; have S2 := Lib.hid hs; have K2 := Lib.hid (K1.out.below hb); have N2 := Lib.hid (seqB N1.out hb); clear hs ho hb O2 K1 N1))
  go_upto_region 3 with (first
    | (go_at_call 77; (with_reducible refine (O3.out _ (HT.out.below N2.out)).mono ?_); rintro e w3 ⟨g3, rfl, hs, ho, hb⟩; have A3 := Lib.hid ho; have B3 := Lib.hid hb; clear hs ho hb O3)
    | (go_at_call 77; (with_reducible refine (O4.out _ (HT.out.below (seqB N2.out B3.out))).mono ?_); rintro e w4 ⟨g4, rfl, hs, ho, hb⟩; have S4 := Lib.hid hs; have A4 := Lib.hid (ows_keep A3.out hb); have B4 := Lib.hid (seqB B3.out hb); clear hs ho hb O4 A3 B3)
    | (at_builtin; refine wpList_app_signs rfl _ _ rfl w2.heap.size _ 1 [(97, 0)] rfl rfl A4.out (some ⟨g4, 0, none⟩) 3 3 [(98, 2), (99, 2), (100, 2)] rfl rfl S4.out.s (fun e => (by cases e)) (by omega) (by exact B4.out.size) ?_))
  intro ad5 c5 w5 o5 g5
  have B5 := B4.out.grown g5 B4.out.size (fun j hj => (A4.out.lt j hj).1)
  obtain ⟨ad, c, e5, s5⟩ := OwS.sl o5
  cases e5
  have S5 : Hid (Signs w5 ad5 sh4) := Lib.hid s5.s
  have S6 := Lib.hid (S2.out.below B5)
  have K6 := Lib.hid (K2.out.below B5)
  have N6 := Lib.hid (seqB N2.out B5)
  clear o5 g5 B5 s5 A4 B4 S4 K2 S2 N2
  go_upto_region 3 with (go_at_call 148; (with_reducible refine (SHS.out _ _ _ S5.out).mono ?_); rintro e w6 ⟨rfl, hb⟩; have S7 := Lib.hid (S6.out.below hb); have K7 := Lib.hid (K6.out.below hb); have N7 := Lib.hid (seqB N6.out hb); clear hb S5 S6 K6 N6 SHS)
  obtain ⟨v7, hv7⟩ : ∃ v, w6.alloc (.cells #[.float .f64 4598175219545276416, .float .f64 0, .float .f64 4604930618986332160, .float .f64 0, .float .f64 0, .float .f64 0] 183) = v := ⟨_, rfl⟩
  obtain ⟨X, hX⟩ : ∃ X, w6.heap.size = X := ⟨_, rfl⟩
  have lb7 : Below w6.heap.size w6 v7 := by rw [← hv7]; exact below_alloc _ _
  have F7 : stF v7 X := by rw [← hv7, ← hX]; exact heap_alloc_new _ _
  rw [hv7, hX]
  have S8 := Lib.hid (S7.out.below lb7)
  have K8 := Lib.hid (K7.out.below lb7)
  have N8 := Lib.hid (seqB N7.out lb7)
  have F8 := Lib.hid F7
  clear S7 K7 N7 F7 lb7 hv7 hX hsf
  go_upto_region 4 with (go_at_call 72; (with_reducible refine (NR.out v7 _ _ _ _ K8.out S8.out).mono ?_); rintro e w9 ⟨rfl, hb⟩; have S9 := Lib.hid (S8.out.below hb); have K9 := Lib.hid (K8.out.below hb); have N9 := Lib.hid (seqB N8.out hb); have F9 := Lib.hid (F8.out.below hb); clear hb S8 K8 N8 F8 NR)
  have z0 := F9.out.cells.1; have z2 := F9.out.cells.2
  have c1 : (FloatKind.f64.format.order 4607182418800017408 4607182418800017408 == some .eq) = true := by decide +kernel
  have c2 : (FloatKind.f64.format.order 4598175219545276416 4598175219545276416 == some .eq) = true := by decide +kernel
  have c3 : (FloatKind.f64.format.order 4604930618986332160 4604930618986332160 == some .eq) = true := by decide +kernel
  have c4 : (FloatKind.f64.format.order 4609434218613702656 4609434218613702656 == some .eq) = true := by decide +kernel
  have c5 : (FloatKind.f64.format.order 9218868437227405312 9214871658872686752 == some .gt) = true := by decide +kernel
  go_wp2_with (first
    | (go_at_call 66; (with_reducible refine (DI.out _ _ _ _ _ K9.out S9.out).mono ?_); rintro e wa ⟨rfl, hb⟩; have Ka := Lib.hid (K9.out.below hb); have Na := Lib.hid (seqB N9.out hb); have Fa := Lib.hid (F9.out.below hb); clear hb S9 K9 N9 F9 DI z0 z2)
    | (go_at_call 67; (with_reducible refine (LK.out _ _ _ Ka.out).mono ?_); rintro e wb ⟨rfl, hb⟩; have Nb := Lib.hid (seqB Na.out hb); have Fb := Lib.hid (Fa.out.below hb); have z0 := Fb.out.cells.1; have z2 := Fb.out.cells.2; clear hb Ka Na Fa LK)
    | (go_at_call 149; (with_reducible refine (ME.out _).mono ?_); rintro e wc ⟨rfl, h⟩; subst h)
    | (go_at_call 150; (with_reducible refine (SI.out _).mono ?_); rintro e wd ⟨rfl, h⟩; subst h))
  go_ret
  exact ⟨rfl, seqB Nb.out (below_alloc _ _)⟩
end Go.Proofs.YtdnmjofenckndaaDoor
set_option linter.unusedVariables false
set_option linter.unusedSimpArgs false
namespace Go.Proofs.YtdnmjofenckndaaDoor
open Go.ChangeShapes Go.WideShapes Go.ChangeAt Go.RowKit Go.Deep Go.Joins
section
variable {H : Type} {enc : TypeId × Value → H} {W : World}
theorem addS_none (b off k : Nat) : (⟨b, off, none⟩ : Addr).add k = ⟨b, off + k, none⟩ := by unfold Addr.add; split <;> simp_all
set_option maxRecDepth 100000 in
theorem cellsIntS : Tryd.prog.cellsOf 3 = 1 := by kernel_rfl
set_option maxRecDepth 100000 in
theorem cellsSign : Tryd.prog.cellsOf 39 = 2 := by kernel_rfl
set_option maxRecDepth 100000 in
theorem arg_signs0 {base : Nat} {v0 : Value} {d0 : DataW H} {p : List MemPlace} (hv : Value.okWide Tryd.prog W .any base 22 v0) (h : DataW.Trod enc Tryd.prog W 0 (fun _ => true) true 22 v0 d0 p) :
    ∃ (l : List (Int × Int)) (a : Option Addr) (c : Nat), v0 = .slice a l.length c ∧ Signs W a l ∧ l.length ≤ 9223372036854775807 ∧ (a = none → c = 0) := by
  obtain ⟨a0, len, cap, rfl⟩ := okWide_slice Tryd.underlying22 hv
  obtain ⟨fuel, hf⟩ := h
  rcases open_slice_pairs Tryd.underlying22 Tryd.underlying39 cellsSign rfl rfl cellsIntS cellsIntS hf with ⟨hcs, _⟩ | ⟨a, len', cap', m, n, V0, V1, D0, D1, P0, P1, hcs, _, hl, hm, hmm, _, hcell⟩
  · simp [Value.cells] at hcs
    obtain ⟨rfl, rfl, rfl⟩ := hcs
    exact ⟨[], none, 0, rfl, fun j hj => absurd hj (Nat.not_lt_zero j), by simp, fun _ => rfl⟩
  · simp [Value.cells] at hcs
    obtain ⟨rfl, rfl, rfl⟩ := hcs
    have hlm : len ≤ m := by rw [hmm]; split <;> omega
    have key : ∀ i, i < len → ∃ q : Int × Int, V0 i = .int .i64 q.1 ∧ V1 i = .int .i64 q.2 := fun i hi => by
      obtain ⟨_, _, h1, h2⟩ := hcell i (by omega)
      obtain ⟨x, hx, _, _⟩ := DataW.trod_int Tryd.underlying3 h1
      obtain ⟨y, hy, _, _⟩ := DataW.trod_int Tryd.underlying3 h2
      exact ⟨(x, y), by simpa using hx, by simpa using hy⟩
    obtain ⟨F, hF⟩ : ∃ F : Nat → Int × Int, ∀ i, i < len → V0 i = .int .i64 (F i).1 ∧ V1 i = .int .i64 (F i).2 :=
      ⟨fun i => if h : i < len then (key i h).choose else (0, 0), fun i hi => by simp only [dif_pos hi]; exact (key i hi).choose_spec⟩
    clear key
    refine ⟨(List.range len).map F, some a, cap, by simp, ?_, by simp; unfold maxLen at hm; omega, fun h => by cases h⟩
    intro j hj
    have hj2 : j < len := by simpa using hj
    obtain ⟨c0, c1, _, _⟩ := hcell j (by omega)
    have hk := hF j hj2
    obtain ⟨b, off, sp⟩ := a
    have hsp : sp = none := by
      obtain ⟨c00, _⟩ := hcell 0 (by omega)
      have h1 : W.cell? ⟨b, off, sp⟩ = some (V0 0) := by simpa [Addr.add] using c00
      exact cell_spot h1
    subst hsp
    rw [addS_none] at c0 c1
    have hg : ((List.range len).map F).getD j (0, 0) = F j := by
      rw [List.getD, List.getElem?_map, List.getElem?_range hj2]; rfl
    rw [hg]
    refine ⟨b, off, rfl, block_lt_of_cell c0, ?_, ?_⟩
    · rw [c0, hk.1]
    · rw [show off + j * 2 + 1 = off + (j * 2 + 1) by omega, c1, hk.2]
theorem arg_signs {base : Nat} {v0 : Value} {d0 : DataW H} {p : List MemPlace} (hv : Value.okWide Tryd.prog W .any base 22 v0) (h : DataW.Trod enc Tryd.prog W 0 (fun _ => true) true 22 v0 d0 p) :
    ∃ (l : List (Int × Int)) (a : Option Addr) (c : Nat), v0 = .slice a l.length c ∧ Signs W a l ∧ l.length ≤ 9223372036854775807 := by
  obtain ⟨l, a, c, h1, h2, h3, _⟩ := arg_signs0 hv h
  exact ⟨l, a, c, h1, h2, h3⟩
theorem arg_sign {base : Nat} {v0 : Value} {d0 : DataW H} {p : List MemPlace} (hv : Value.okWide Tryd.prog W .any base 39 v0) (h : DataW.Trod enc Tryd.prog W 0 (fun _ => true) true 39 v0 d0 p) :
    ∃ (x y : Int), v0 = .agg #[.int .i64 x, .int .i64 y] := by
  obtain ⟨a0, a1, y0, y1, n, rfl, rfl, rfl, h0, h1⟩ := open_agg2 Tryd.underlying39 (by kernel_rfl) cellsSign hv h
  obtain ⟨x, hx, _, _⟩ := DataW.trod_int Tryd.underlying3 h0
  obtain ⟨y, hy, _, _⟩ := DataW.trod_int Tryd.underlying3 h1
  obtain rfl : a0 = .int .i64 x := by simpa using hx
  obtain rfl : a1 = .int .i64 y := by simpa using hy
  exact ⟨x, y, rfl⟩
end
end Go.Proofs.YtdnmjofenckndaaDoor
