/-
  Joined: Ki2 Ki3 Ki4 Ki5 Ki6 Ki7 Ki8.
-/
import Derived.Test.YtdnmjofenckndaaDoorJB02
import Derived.Test.YtdnmjofenckndaaDoorJB03
import Derived.Carry
import Derived.BigQuiet
import Derived.Deep.RegionHeld3
set_option linter.unusedVariables false
set_option linter.unusedSimpArgs false
set_option maxRecDepth 100000
set_option linter.unusedVariables false
set_option linter.unusedSimpArgs false
namespace Go.Proofs.YtdnmjofenckndaaDoor
open Go.RowKit
abbrev Sg2 := Int × Int
/-- The blocks S stay as they are. -/
structure KeptK (S : Nat → Prop) (w w' : World) : Prop where
  os : w'.os = w.os
  tape : w'.tape = w.tape
  output : w'.output = w.output
  size : w.heap.size ≤ w'.heap.size
  block : ∀ k, S k → w'.heap[k]? = w.heap[k]?
theorem KeptK.trans {S : Nat → Prop} {w w1 w2 : World} (h : KeptK S w w1) (k : KeptK S w1 w2) : KeptK S w w2 :=
  ⟨k.os.trans h.os, k.tape.trans h.tape, k.output.trans h.output, Nat.le_trans h.size k.size, fun j hj => (k.block j hj).trans (h.block j hj)⟩
theorem KeptK.below {S : Nat → Prop} {w w' : World} (h : KeptK S w w') (B : Nat) (hS : ∀ k, k < B → S k) : Below B w w' :=
  ⟨h.os, h.tape, h.output, h.size, fun k hk => h.block k (hS k hk)⟩
theorem KeptK.of {S : Nat → Prop} {w w' : World} (h : Below w.heap.size w w') (hS : ∀ k, S k → k < w.heap.size) : KeptK S w w' := ⟨h.os, h.tape, h.output, h.size, fun k hk => h.block k (hS k hk)⟩
/-- The ring's texts. -/
def RiT (w : World) (P b : Nat) (T : List (List Sg2)) (vs : List SlV) : Prop := vs.length = T.length ∧ ∀ j, j < T.length → (vs.getD j sl0).2.1 = (T.getD j []).length ∧ SlS (fun k => k < w.heap.size ∧ k ≠ P ∧ k ≠ b) w (vs.getD j sl0).1 (T.getD j []) (vs.getD j sl0).2.2
/-- A ring lies at P: its texts, the oldest's number, its hand; the blocks S are none of its own. -/
structure RiS (S : Nat → Prop) (P : Nat) (M : Int) (o : Int) (T : List (List Sg2)) (h : Nat) (w : World) : Prop where
  ex : ∃ b vs, w.heap[P]? = some (.cells #[.int .i64 M, .map (some b), .int .i64 o, .int .i64 (o + T.length), .int .i64 (o + h)] 118 (0, 0)) ∧ MapF w b o vs ∧ RiT w P b T vs ∧ b ≠ P ∧ ∀ k, S k → k < w.heap.size ∧ k ≠ P ∧ k ≠ b
  hh : h < T.length ∨ (T = [] ∧ h = 0)
  ne : ∀ t ∈ T, t ≠ [] ∧ t.length ≤ 65536
theorem RiT.keep {w w' : World} {P b : Nat} {T : List (List Sg2)} {vs : List SlV} (h : RiT w P b T vs) (hs : w.heap.size ≤ w'.heap.size) (hk : ∀ k, k < w.heap.size → k ≠ P → k ≠ b → w'.heap[k]? = w.heap[k]?) : RiT w' P b T vs :=
  ⟨h.1, fun j hj => ⟨(h.2 j hj).1, ((h.2 j hj).2.keep hs (fun k hk' => hk k hk'.1 hk'.2.1 hk'.2.2)).mono (fun k hk' => ⟨Nat.lt_of_lt_of_le hk'.1 hs, hk'.2⟩)⟩⟩
section
variable {S : Nat → Prop} {P : Nat} {M o : Int} {T : List (List Sg2)} {h : Nat} {w w' : World}
theorem RiS.grow (hr : RiS S P M o T h w) (hb : Below w.heap.size w w') {Q : Nat → Prop} (hQ : ∀ k, Q k → S k ∨ (w.heap.size ≤ k ∧ k < w'.heap.size)) : RiS Q P M o T h w' := by
  obtain ⟨b, vs, h1, h2, h3, h4, h5⟩ := hr.ex
  refine ⟨⟨b, vs, blk_below h1 hb, h2.below hb, h3.keep hb.size (fun k hk _ _ => hb.block k hk), h4, fun k hk => ?_⟩, hr.hh, hr.ne⟩
  rcases hQ k hk with hk | ⟨hk1, hk2⟩
  · have := h5 k hk
    exact ⟨Nat.lt_of_lt_of_le this.1 hb.size, this.2⟩
  · have := blk_lt h1; have := h2.lt
    exact ⟨hk2, by omega, by omega⟩
theorem RiS.below (hr : RiS S P M o T h w) (hb : Below w.heap.size w w') : RiS S P M o T h w' := hr.grow hb (fun _ hk => Or.inl hk)
theorem RiS.lt (hr : RiS S P M o T h w) : ∀ k, S k → k < w.heap.size := fun k hk => by
  obtain ⟨_, _, _, _, _, _, h5⟩ := hr.ex
  exact (h5 k hk).1
theorem RiS.bd (hr : RiS S P M o T h w) : 0 ≤ o ∧ o + T.length ≤ 1000000000 := by
  obtain ⟨b, vs, _, h2, h3, _⟩ := hr.ex
  have := h2.lo; have := h2.hi
  rw [h3.1] at this
  omega
theorem ri_len (hr : RiS S P M o T h w) : Calls Tryd.prog 95 #[.pointer (some ⟨P, 0, none⟩)] w fun e w' => e = .returned (.int .i64 T.length) ∧ w = w' := by
  obtain ⟨b, vs, h1, h2, h3, _⟩ := hr.ex
  have y := cell_of_row _ _ 1 _ _ _ h1; have c1 := y; clear y; dsimp at c1
  have hl := fun ty => h2.len ty
  rw [h3.1] at hl
  clear hr h1 h2 h3
  go_enter Tryd.func95, Tryd.ntmps95
  go_wp2
  go_ret
  exact ⟨rfl, rfl⟩
theorem kept_setK {S : Nat → Prop} {P : Nat} {w : World} (hP : ∀ k, S k → k ≠ P) (i : Nat) (v : Value) : KeptK S w (w.setCell ⟨P, i, none⟩ v) :=
  ⟨rfl, rfl, rfl, by simp [World.setCell], fun k hk => Below.heap_setCell _ _ _ _ (hP k hk)⟩
/-- The hand is set. -/
theorem RiS.hand (hr : RiS S P M o T h w) (h' : Nat) (hl : h' < T.length) : RiS S P M o T h' (w.setCell ⟨P, 4, none⟩ (.int .i64 (o + h'))) ∧ KeptK S w (w.setCell ⟨P, 4, none⟩ (.int .i64 (o + h'))) := by
  obtain ⟨b, vs, h1, h2, h3, h4, h5⟩ := hr.ex
  have hz : (w.setCell ⟨P, 4, none⟩ (.int .i64 (o + h'))).heap.size = w.heap.size := by simp [World.setCell]
  exact ⟨⟨⟨b, vs, blk_set h1 4 _, h2.blk (Below.heap_setCell _ _ _ _ h4), h3.keep (Nat.le_of_eq hz.symm) (fun k _ hk _ => Below.heap_setCell _ _ _ _ hk), h4, fun k hk => by rw [hz]; exact h5 k hk⟩, Or.inl hl, hr.ne⟩, kept_setK (fun k hk => (h5 k hk).2.1) _ _⟩
theorem RiS.hand2 (hr : RiS S P M o T h w) (u : Value) (m : Nat) (h' : Nat) (hl : h' < T.length) : RiS S P M o T h' (((w.setCell ⟨P, 4, none⟩ u).drewN m).setCell ⟨P, 4, none⟩ (.int .i64 (o + h'))) ∧ KeptK S w (((w.setCell ⟨P, 4, none⟩ u).drewN m).setCell ⟨P, 4, none⟩ (.int .i64 (o + h'))) := by
  obtain ⟨b, vs, h1, h2, h3, h4, h5⟩ := hr.ex
  have hz1 : (w.setCell ⟨P, 4, none⟩ u).heap.size = w.heap.size := by simp [World.setCell]
  have hd := drewN_below (Below.refl (w.setCell ⟨P, 4, none⟩ u).heap.size (w.setCell ⟨P, 4, none⟩ u)) m
  have b1 := blk_below (blk_set h1 4 u) hd
  have hz : (((w.setCell ⟨P, 4, none⟩ u).drewN m).setCell ⟨P, 4, none⟩ (.int .i64 (o + h'))).heap.size = ((w.setCell ⟨P, 4, none⟩ u).drewN m).heap.size := by simp [World.setCell]
  have hk : ∀ k, k < w.heap.size → k ≠ P → (((w.setCell ⟨P, 4, none⟩ u).drewN m).setCell ⟨P, 4, none⟩ (.int .i64 (o + h'))).heap[k]? = w.heap[k]? := fun k hk1 hk2 =>
    (Below.heap_setCell _ _ _ _ hk2).trans ((hd.block k (by rw [hz1]; exact hk1)).trans (Below.heap_setCell _ _ _ _ hk2))
  have hs : w.heap.size ≤ (((w.setCell ⟨P, 4, none⟩ u).drewN m).setCell ⟨P, 4, none⟩ (.int .i64 (o + h'))).heap.size := by rw [hz, ← hz1]; exact hd.size
  exact ⟨⟨⟨b, vs, blk_set b1 4 _, h2.blk (hk b h2.lt h4), h3.keep hs (fun k hk1 hk2 _ => hk k hk1 hk2), h4, fun k hk' => ⟨Nat.lt_of_lt_of_le (h5 k hk').1 hs, (h5 k hk').2⟩⟩, Or.inl hl, hr.ne⟩, ⟨hd.os, hd.tape, hd.output, hs, fun k hk' => hk k (h5 k hk').1 (h5 k hk').2.1⟩⟩
theorem ri_turn_no (hr : RiS S P M o [] h w) : Calls Tryd.prog 94 #[.pointer (some ⟨P, 0, none⟩)] w fun e w' => e = .returned (.bool false) ∧ w = w' := by
  have LE := Lib.hid (ri_len hr)
  clear hr
  go_enter Tryd.func94, Tryd.ntmps94
  go_wp2_with (go_at_call 95; refine LE.out.mono ?_; rintro e w1 ⟨rfl, rfl⟩)
  go_ret
  exact ⟨rfl, rfl⟩
/-- Where a turned hand is. -/
def tuH (h n : Nat) : Nat := if h = 0 then n - 1 else h - 1
theorem ri_turn (hr : RiS S P M o T h w) (hT : T ≠ []) : Calls Tryd.prog 94 #[.pointer (some ⟨P, 0, none⟩)] w fun e w' => e = .returned (.bool true) ∧ RiS S P M o T (tuH h T.length) w' ∧ KeptK S w w' := by
  have hp := List.length_pos_iff.2 hT
  have LE := Lib.hid (ri_len hr)
  have hlo := hr.bd.1; have hhi := hr.bd.2
  have hh : h < T.length := by
    rcases hr.hh with h1 | h1
    · exact h1
    · exact absurd h1.1 hT
  obtain ⟨b, vs, h1, h2, h3, h4, h5⟩ := hr.ex
  have y := fun i => cell_of_row _ _ i _ _ _ h1
  have c2 := y 2; have c3 := y 3; have c4 := y 4; clear y; dsimp at c2 c3 c4
  have f4 := frozen_of_row _ P 4 _ _ h1
  by_cases h0 : h = 0
  · subst h0
    have R1 := Lib.hid fun m => hr.hand2 (.int .i64 (o - 1)) m (T.length - 1) (by omega)
    have hv : Hid (o + ((T.length - 1 : Nat) : Int) = o + T.length - 1) := Lib.hid (by omega)
    have htu : Hid (tuH 0 T.length = T.length - 1) := Lib.hid rfl
    have b1 := blk_set h1 4 (.int .i64 (o - 1))
    have d2 : (w.setCell ⟨P, 4, none⟩ (.int .i64 (o - 1))).cell? ⟨P, 2, none⟩ = some (.int .i64 o) := by rw [cell_of_row _ _ _ _ _ _ b1]; rfl
    have d3 : (w.setCell ⟨P, 4, none⟩ (.int .i64 (o - 1))).cell? ⟨P, 3, none⟩ = some (.int .i64 (o + T.length)) := by rw [cell_of_row _ _ _ _ _ _ b1]; rfl
    have d4 : (w.setCell ⟨P, 4, none⟩ (.int .i64 (o - 1))).cell? ⟨P, 4, none⟩ = some (.int .i64 (o - 1)) := by rw [cell_of_row _ _ _ _ _ _ b1]; rfl
    have g4 := frozen_of_row _ P 4 _ _ b1
    rw [hv.out] at R1
    simp only [Int.natCast_zero, Int.add_zero] at c4
    clear hr h1 h2 h3 h5 b1
    generalize hn : T.length = n at *
    have Hn := Lib.hid hn; clear hn
    have hlt : o - 1 < o := by omega
    have hne : ¬ (n : Int) = 0 := by omega
    go_enter Tryd.func94, Tryd.ntmps94
    go_wp2_with (go_at_call 95; refine LE.out.mono ?_; rintro e w1 ⟨rfl, rfl⟩)
    go_quiet (fail)
    go_wp2
    go_ret
    rw [htu.out]
    exact ⟨rfl, R1.out nq⟩
  · have R1 := hr.hand (h - 1) (by omega)
    have hv : o + ((h - 1 : Nat) : Int) = o + (h : Int) - 1 := by omega
    rw [hv] at R1
    have hR := Lib.hid R1
    have htu : Hid (tuH h T.length = h - 1) := Lib.hid (by unfold tuH; rw [if_neg h0])
    have b1 := blk_set h1 4 (.int .i64 (o + (h : Int) - 1))
    have d2 : (w.setCell ⟨P, 4, none⟩ (.int .i64 (o + (h : Int) - 1))).cell? ⟨P, 2, none⟩ = some (.int .i64 o) := by rw [cell_of_row _ _ _ _ _ _ b1]; rfl
    have d4 : (w.setCell ⟨P, 4, none⟩ (.int .i64 (o + (h : Int) - 1))).cell? ⟨P, 4, none⟩ = some (.int .i64 (o + (h : Int) - 1)) := by rw [cell_of_row _ _ _ _ _ _ b1]; rfl
    have hSl := Lib.hid hr.lt
    have hz1 : (w.setCell ⟨P, 4, none⟩ (.int .i64 (o + (h : Int) - 1))).heap.size = w.heap.size := by simp [World.setCell]
    have HZ := Lib.hid hz1
    clear hr h1 h2 h3 h5 b1 R1 hv hz1
    generalize hn : T.length = n at *
    have Hn := Lib.hid hn; clear hn
    have hlt : ¬ o + (h : Int) - 1 < o := by omega
    have hne : ¬ (n : Int) = 0 := by omega
    go_enter Tryd.func94, Tryd.ntmps94
    go_wp2_with (go_at_call 95; refine LE.out.mono ?_; rintro e w1 ⟨rfl, rfl⟩)
    go_quiet (fail)
    go_wp2
    go_ret
    rw [htu.out]
    have hd := drewN_below (Below.refl (w.setCell ⟨P, 4, none⟩ (.int .i64 (o + (h : Int) - 1))).heap.size (w.setCell ⟨P, 4, none⟩ (.int .i64 (o + (h : Int) - 1)))) nq
    exact ⟨rfl, hR.out.1.below hd, hR.out.2.trans (KeptK.of hd (fun k hk => by rw [HZ.out]; exact hSl.out k hk))⟩
theorem ri_new_no (M : Int) (w : World) (hM : M < 1 ∨ 60 < M) : Calls Tryd.prog 31 #[.int .i64 M] w fun e w' => e = .returned (.tuple #[.pointer none, .int .i64 3]) ∧ w = w' := by
  by_cases h1 : M < 1
  · clear hM
    go_enter Tryd.func31, Tryd.ntmps31
    go_wp2
    refine bodyPost_ret (v := .tuple #[.pointer none, .int .i64 3]) (by simp [results, Tryd.results31, go_sem]) rfl ?_
    exact ⟨rfl, rfl⟩
  · have h2 : (60 : Int) < M := by omega
    clear hM
    go_enter Tryd.func31, Tryd.ntmps31
    go_wp2
    refine bodyPost_ret (v := .tuple #[.pointer none, .int .i64 3]) (by simp [results, Tryd.results31, go_sem]) rfl ?_
    exact ⟨rfl, rfl⟩
theorem ri_new (M : Int) (w : World) (h1 : 1 ≤ M) (h2 : M ≤ 60) : Calls Tryd.prog 31 #[.int .i64 M] w fun e w' => ∃ P, e = .returned (.tuple #[.pointer (some ⟨P, 0, none⟩), .int .i64 0]) ∧ (∀ S : Nat → Prop, (∀ k, S k → k < w.heap.size) → RiS S P M 0 [] 0 w') ∧ w.heap.size ≤ P ∧ P < w'.heap.size ∧ Below w.heap.size w w' := by
  have hmm := @run_makeMap Tryd.prog
  have h1i : ¬ M < 1 := by omega
  have h2i : ¬ 60 < M := by omega
  have hm := MapF.made w
  have s1 : (w.alloc (.map #[] 0)).heap.size = w.heap.size + 1 := by simp
  have B1 := below_alloc w (.map #[] 0)
  have B2 := below_alloc (w.alloc (.map #[] 0)) (.cells #[.int .i64 M, .map (some w.heap.size), .int .i64 0, .int .i64 0, .int .i64 0] 118)
  have hn := heap_alloc_new (w.alloc (.map #[] 0)) (.cells #[.int .i64 M, .map (some w.heap.size), .int .i64 0, .int .i64 0, .int .i64 0] 118)
  rw [s1] at hn
  have s2 : ((w.alloc (.map #[] 0)).alloc (.cells #[.int .i64 M, .map (some w.heap.size), .int .i64 0, .int .i64 0, .int .i64 0] 118)).heap.size = w.heap.size + 1 + 1 := by simp
  have HR : Hid (∀ S : Nat → Prop, (∀ k, S k → k < w.heap.size) → RiS S (w.heap.size + 1) M 0 [] 0 ((w.alloc (.map #[] 0)).alloc (.cells #[.int .i64 M, .map (some w.heap.size), .int .i64 0, .int .i64 0, .int .i64 0] 118))) := Lib.hid fun S hS =>
    ⟨⟨w.heap.size, [], hn, hm.below B2, ⟨rfl, fun j hj => absurd hj (Nat.not_lt_zero j)⟩, by omega, fun k hk => by have := hS k hk; rw [s2]; omega⟩, Or.inr ⟨rfl, rfl⟩, fun t ht => absurd ht (List.not_mem_nil)⟩
  have HB := Lib.hid (seqB B1 B2)
  have HS2 := Lib.hid s2
  clear hm B1 B2 hn s1 s2
  go_enter Tryd.func31, Tryd.ntmps31
  go_wp2
  refine bodyPost_ret (v := .tuple #[.pointer (some ⟨w.heap.size + 1, 0, none⟩), .int .i64 0]) (by simp [results, Tryd.results31, go_sem]) rfl ?_
  exact ⟨_, rfl, HR.out, by omega, by rw [HS2.out]; omega, HB.out⟩
end
end Go.Proofs.YtdnmjofenckndaaDoor
set_option linter.unusedVariables false
set_option linter.unusedSimpArgs false
namespace Go.Proofs.YtdnmjofenckndaaDoor
open Go.RowKit
/-- Lists of signs lie in memory, each with its room. -/
def SgsK (S : Nat → Prop) (w : World) (a : Option Addr) (H : List (List Sg2)) : Prop :=
  ∀ i, i < H.length → ∃ b off ai ci, a = some ⟨b, off, none⟩ ∧ S b ∧ b < w.heap.size ∧ w.cell? ⟨b, off + i, none⟩ = some (.slice ai (H.getD i []).length ci) ∧ SlS S w ai (H.getD i []) ci
theorem SgsK.below {S : Nat → Prop} {w w' : World} {a : Option Addr} {H : List (List Sg2)} (s : SgsK S w a H) (hb : Below w.heap.size w w') : SgsK S w' a H := fun i hi => by
  obtain ⟨b, off, ai, ci, e, hS, hlt, h1, h2⟩ := s i hi
  exact ⟨b, off, ai, ci, e, hS, Nat.lt_of_lt_of_le hlt hb.size, (hb.cell (p := ⟨b, off + i, none⟩) hlt).trans h1, h2.below hb⟩
theorem SgsK.mono {S Q : Nat → Prop} {w : World} {a : Option Addr} {H : List (List Sg2)} (s : SgsK S w a H) (hQ : ∀ k, S k → Q k) : SgsK Q w a H := fun i hi => by
  obtain ⟨b, off, ai, ci, e, hS, hlt, h1, h2⟩ := s i hi
  exact ⟨b, off, ai, ci, e, hQ b hS, hlt, h1, h2.mono hQ⟩
theorem SgsK.keep {S : Nat → Prop} {w w' : World} {a : Option Addr} {H : List (List Sg2)} (s : SgsK S w a H) (hz : w.heap.size ≤ w'.heap.size) (hk : ∀ k, S k → w'.heap[k]? = w.heap[k]?) : SgsK S w' a H := fun i hi => by
  obtain ⟨b, off, ai, ci, e, hS, hlt, h1, h2⟩ := s i hi
  refine ⟨b, off, ai, ci, e, hS, Nat.lt_of_lt_of_le hlt hz, ?_, h2.keep hz hk⟩
  rw [← h1]; unfold World.cell?; rw [hk b hS]
/-- Lists under way: a row of slices, each of the call's own. -/
structure RdK (B : Nat) (v : Value) (E : List (List Sg2)) (w : World) : Prop where
  ex : ∃ vs : List Value, w.ownsRow B 22 1 v E.length vs ∧ ∀ i, i < E.length → ∃ x, vs[i]? = some x ∧ OwS w B x (E.getD i [])
  le : B ≤ w.heap.size
theorem RdK.below {B : Nat} {v : Value} {E : List (List Sg2)} {w w' : World} (h : RdK B v E w) (hb : Below w.heap.size w w') : RdK B v E w' := by
  obtain ⟨vs, h1, h2⟩ := h.ex
  refine ⟨⟨vs, World.ownsRow.kept h1 (row := none) ⟨hb.os, hb.tape, hb.output, hb.size, fun k hk _ => hb.block k hk⟩ (by cases v.ownBlock <;> simp), fun i hi => by obtain ⟨x, e, hx⟩ := h2 i hi; exact ⟨x, e, ows_keep hx hb⟩⟩, Nat.le_trans h.le hb.size⟩
theorem infoSl : (Tryd.prog.info? 22).map (fun i => (i.zero, i.size, i.bytes)) = some (some (.slice none 0 0), 1, 24) := by kernel_rfl
theorem RdK.form {B : Nat} {v : Value} {E : List (List Sg2)} {w : World} (h : RdK B v E w) : ∃ a c, v = .slice a E.length c := by
  obtain ⟨vs, h1, _⟩ := h.ex
  rcases h1.2 with ⟨rfl, h0⟩ | ⟨g, cap, cur, rfl, _⟩
  · exact ⟨none, 0, by rw [h0]⟩
  · exact ⟨_, cap, rfl⟩
theorem RdK.sgs {B : Nat} {v : Value} {E : List (List Sg2)} {w : World} (h : RdK B v E w) : ∃ a c, v = .slice a E.length c ∧ E.length ≤ c ∧ (a = none → c = 0) ∧ SgsK (fun k => B ≤ k ∧ k < w.heap.size) w a E := by
  obtain ⟨vs, h1, h2⟩ := h.ex
  rcases h1.2 with ⟨rfl, h0⟩ | ⟨g, cap, cur, rfl, hB, hg, hle, _⟩
  · exact ⟨none, 0, by rw [h0], by omega, fun _ => rfl, fun j hj => by omega⟩
  · refine ⟨_, cap, rfl, hle, fun e => (by cases e), fun i hi => ?_⟩
    obtain ⟨x, e, hx⟩ := h2 i hi
    obtain ⟨ai, ci, rfl, hs⟩ := hx.sl
    exact ⟨g, 0, ai, ci, rfl, ⟨hB, blk_lt hg⟩, blk_lt hg, by rw [Nat.zero_add, h1.cellAt i (by omega)]; exact e, hs⟩
theorem RdK.next {B : Nat} {v x : Value} {E : List (List Sg2)} {L : List Sg2} {w w1 : World} {v' : Value} {vs : List Value} (h2 : ∀ i, i < E.length → ∃ x, vs[i]? = some x ∧ OwS w B x (E.getD i [])) (hvl : vs.length = E.length) (hw : w.ownsRow B 22 1 v E.length vs) (hx : OwS w B x L)
    (ho : w1.ownsRow B 22 1 v' (E.length + 1) (vs ++ [x])) (hg : w.grownBy w1 v.ownBlock) (hle : B ≤ w.heap.size) : RdK B v' (E ++ [L]) w1 := by
  have hk : ∀ y M, OwS w B y M → OwS w1 B y M := fun y M hy => World.ownsRow.kept hy hg (own_ne_own hy hw (by decide))
  refine ⟨⟨vs ++ [x], by rw [List.length_append]; exact ho, fun i hi => ?_⟩, Nat.le_trans hle hg.size⟩
  rw [List.length_append, List.length_singleton] at hi
  by_cases hlt : i < E.length
  · obtain ⟨y, e, hy⟩ := h2 i hlt
    refine ⟨y, by rw [List.getElem?_append_left (by omega)]; exact e, ?_⟩
    rw [show (E ++ [L]).getD i [] = E.getD i [] by rw [List.getD, List.getElem?_append_left hlt, List.getD]]
    exact hk _ _ hy
  · obtain rfl : i = E.length := by omega
    refine ⟨x, by rw [List.getElem?_append_right (by omega), hvl, Nat.sub_self]; rfl, ?_⟩
    rw [show (E ++ [L]).getD E.length [] = L by rw [List.getD, List.getElem?_append_right (Nat.le_refl _), Nat.sub_self]; rfl]
    exact hk _ _ hx
section
variable {S : Nat → Prop} {P : Nat} {M o : Int} {T : List (List Sg2)} {h : Nat} {w w' : World}
theorem ri_teller (P : Nat) (w : World) : Calls Tryd.prog 97 #[.pointer (some ⟨P, 0, none⟩)] w fun e w' => e = .returned (.func (.func 172) #[] #[.pointer (some ⟨w.heap.size, 0, none⟩)]) ∧ w.alloc (.cells #[.pointer (some ⟨P, 0, none⟩)] 45) = w' := by
  have hmf : ∀ (fn : Fn) (first cap : Array Value) (w : World), (Instr.makeFunc fn first cap).run Tryd.prog w = .ok (.func fn first cap) w := fun _ _ _ _ => rfl
  go_enter Tryd.func97, Tryd.ntmps97
  go_wp2
  go_ret
  exact ⟨rfl, rfl⟩
theorem getD_memT {T : List (List Sg2)} {j : Nat} (hj : j < T.length) : T.getD j [] ∈ T := by
  rw [List.getD, List.getElem?_eq_getElem hj]; exact List.getElem_mem hj
theorem ri_text (hr : RiS S P M o T h w) (q j : Nat) (i : Int) (hi : i = o + j) (hq : w.cell? ⟨q, 0, none⟩ = some (.pointer (some ⟨P, 0, none⟩))) (hj : j < T.length) :
    Calls Tryd.prog 172 #[.int .i64 i, .pointer (some ⟨q, 0, none⟩)] w fun e w' => ∃ b d, e = .returned (.slice b (T.getD j []).length d) ∧ OwS w' w.heap.size (.slice b (T.getD j []).length d) (T.getD j []) ∧ Below w.heap.size w w' := by
  obtain ⟨b, vs, h1, h2, h3, _⟩ := hr.ex
  have y := cell_of_row _ _ 1 _ _ _ h1; have c1 := y; clear y; dsimp at c1
  have hlk := h2.look (j := j) (by rw [h3.1]; exact hj)
  rw [← hi] at hlk
  obtain ⟨e1, e2⟩ := h3.2 j hj
  have hsz := (hr.ne _ (getD_memT hj)).2
  generalize vs.getD j sl0 = s at *
  obtain ⟨sa, sn, sc⟩ := s
  dsimp only at e1 e2
  have hlk2 : (Instr.lookup 116 (.map (some b)) (.int .i64 i) false).run Tryd.prog w = .ok (.slice sa sn sc) w := hlk
  rw [← e1] at hsz ⊢
  have CL := Lib.hid (clone_sg (T.getD j []) sa sn sc _ w e1.symm (by omega) e2)
  clear hr h1 h2 h3 hlk e1 e2 hi
  go_enter Tryd.func172, Tryd.ntmps172
  go_wp2_with (go_at_call 92; refine CL.out.mono ?_; rintro e w1 ⟨b1, d1, rfl, ho, hb⟩)
  go_ret
  exact ⟨_, _, rfl, ho, hb⟩
theorem ri_now_no (hr : RiS S P M o [] h w) : Calls Tryd.prog 33 #[.pointer (some ⟨P, 0, none⟩)] w fun e w' => e = .returned (.slice none 0 0) ∧ w = w' := by
  have LE := Lib.hid (ri_len hr)
  clear hr
  go_enter Tryd.func33, Tryd.ntmps33
  go_wp2_with (go_at_call 95; refine LE.out.mono ?_; rintro e w1 ⟨rfl, rfl⟩)
  go_ret
  exact ⟨rfl, rfl⟩
set_option maxHeartbeats 1000000 in
theorem ri_now (hr : RiS S P M o T h w) (hT : T ≠ []) : Calls Tryd.prog 33 #[.pointer (some ⟨P, 0, none⟩)] w fun e w' => ∃ b d, e = .returned (.slice b (T.getD h []).length d) ∧ OwS w' w.heap.size (.slice b (T.getD h []).length d) (T.getD h []) ∧ Below w.heap.size w w' := by
  have hp := List.length_pos_iff.2 hT
  have LE := Lib.hid (ri_len hr)
  have hh : h < T.length := by
    rcases hr.hh with h1 | h1
    · exact h1
    · exact absurd h1.1 hT
  have hne : ¬ (T.length : Int) = 0 := by omega
  have HR := Lib.hid hr
  have TE := Lib.hid fun w => ri_teller P w
  obtain ⟨b, vs, h1, _⟩ := hr.ex
  have y := cell_of_row _ _ 4 _ _ _ h1; have c4 := y; clear y; dsimp at c4
  have HP := Lib.hid (blk_lt h1)
  have HH := Lib.hid hh
  obtain ⟨m, hm⟩ : ∃ m, (T.getD h []).length = m := ⟨_, rfl⟩
  have TX : Hid (∀ (w' : World) (q : Nat), RiS S P M o T h w' → w'.cell? ⟨q, 0, none⟩ = some (.pointer (some ⟨P, 0, none⟩)) → Calls Tryd.prog 172 #[.int .i64 (o + h), .pointer (some ⟨q, 0, none⟩)] w' fun e w'' => ∃ b d, e = .returned (.slice b m d) ∧ OwS w'' w'.heap.size (.slice b m d) (T.getD h []) ∧ Below w'.heap.size w' w'') := Lib.hid fun w' q h' hq => by
    have := ri_text h' q h _ rfl hq hh
    rw [hm] at this; exact this
  rw [hm]
  clear hr h1 hh hT hp hm
  go_enter Tryd.func33, Tryd.ntmps33
  go_upto_region 3 with (go_at_call 95; refine LE.out.mono ?_; rintro e w1 ⟨rfl, rfl⟩)
  have Bd : Below w.heap.size w w.drew := (Below.refl _ _).drew
  have R1 := Lib.hid (HR.out.below Bd)
  have d4 : w.drew.cell? ⟨P, 4, none⟩ = some (.int .i64 (o + h)) := c4
  go_region_held3 (fun w' => w'.cell? ⟨P, 4, none⟩ = some (.int .i64 (o + h))) (first | exact d4 | exact d42 | exact d43 | go_keep)
    (first
      | (go_at_call 97; refine (TE.out _).mono ?_; rintro e w2 ⟨rfl, hw2⟩; have B2 := below_alloc w.drew (.cells #[.pointer (some ⟨P, 0, none⟩)] 45); have q2 := heap_alloc_new w.drew (.cells #[.pointer (some ⟨P, 0, none⟩)] 45); rw [hw2] at B2 q2; have R2 := Lib.hid (R1.out.below B2); have N2 := Lib.hid (Bd.trans B2); have cq : w2.cell? ⟨w.drew.heap.size, 0, none⟩ = some (.pointer (some ⟨P, 0, none⟩)) := (by rw [cell_of_row _ _ _ _ _ _ q2]; rfl); have CQ := Lib.hid cq; have d42 := (B2.cell (p := ⟨P, 4, none⟩) HP.out).trans d4; clear B2 q2 cq hw2)
      | (go_at_call 172; refine (TX.out _ _ R2.out CQ.out).mono ?_; rintro e w3 ⟨b3, d3, rfl, ho3, hb3⟩; have HO3 := Lib.hid ho3; have N3 := Lib.hid (seqB N2.out hb3); have S2 := Lib.hid N2.out.size; have d43 := (hb3.cell (p := ⟨P, 4, none⟩) (Nat.lt_of_lt_of_le HP.out N2.out.size)).trans d42; clear ho3 hb3))
  all_goals go_wp2
  all_goals go_ret
  all_goals
    exact ⟨b3, d3, rfl, OwS.mono HO3.out S2.out, N3.out⟩
theorem ri_all_no (hr : RiS S P M o [] h w) : Calls Tryd.prog 34 #[.pointer (some ⟨P, 0, none⟩)] w fun e w' => e = .returned (.slice none 0 0) ∧ w = w' := by
  have LE := Lib.hid (ri_len hr)
  clear hr
  go_enter Tryd.func34, Tryd.ntmps34
  go_wp2_with (go_at_call 95; refine LE.out.mono ?_; rintro e w1 ⟨rfl, rfl⟩)
  go_ret
  exact ⟨rfl, rfl⟩
set_option maxHeartbeats 2000000 in
theorem ri_all (hr : RiS S P M o T h w) (hT : T ≠ []) (hl : T.length ≤ 1000) : Calls Tryd.prog 34 #[.pointer (some ⟨P, 0, none⟩)] w fun e w' => ∃ b d, e = .returned (.slice b T.length d) ∧ SgsK (fun k => w.heap.size ≤ k ∧ k < w'.heap.size) w' b T ∧ Below w.heap.size w w' := by
  obtain ⟨i1, hj, hy0, hy1, hy2⟩ := info_parts infoSl
  have hp := List.length_pos_iff.2 hT
  have LE := Lib.hid fun (w' : World) (h' : RiS S P M o T h w') => ri_len h'
  have hne : ¬ (T.length : Int) = 0 := by omega
  have HR := Lib.hid hr
  have TE := Lib.hid fun w => ri_teller P w
  have HB := Lib.hid hr.bd
  clear hr hT
  go_enter Tryd.func34, Tryd.ntmps34
  go_upto_region 4 with (first
    | (go_at_call 95; refine (LE.out _ HR.out).mono ?_; rintro e w1 ⟨rfl, rfl⟩)
    | (go_at_call 97; refine (TE.out _).mono ?_; rintro e w2 ⟨rfl, hw2⟩))
  have B2 := below_alloc w (.cells #[.pointer (some ⟨P, 0, none⟩)] 45)
  have q2 := heap_alloc_new w (.cells #[.pointer (some ⟨P, 0, none⟩)] 45)
  rw [hw2] at B2 q2
  obtain ⟨Q, hQ⟩ : ∃ Q, w.heap.size = Q := ⟨_, rfl⟩
  rw [hQ] at q2 ⊢
  have HQ := Lib.hid q2
  have R2 := Lib.hid (HR.out.below B2)
  have N2 := Lib.hid B2
  have hQe := Lib.hid hQ
  clear B2 q2 hw2 hQ
  go_wp2_with (first
    | (go_at_call 95; refine (LE.out _ R2.out).mono ?_; rintro e w1 ⟨rfl, rfl⟩)
    | (at_make; refine wpList_make_own _ rfl _ _ 43 rfl w2.heap.size 22 i1 (.slice none 0 0) 1 Tryd.underlying43 hj hy0 hy1 _ _ _ T.length rfl rfl (by omega) ?b2 ?b3 (Nat.le_refl _) ?_))
  case b2 => rw [hy2]; omega
  case b3 => unfold maxLen; omega
  intro w3 hown3 hgrow3
  have B3 : Below w2.heap.size w2 w3 := (Below.refl _ w2).grown hgrow3 (Nat.le_refl _) (fun k h => by cases h)
  obtain ⟨B, hB⟩ : ∃ B, w2.heap.size = B := ⟨_, rfl⟩
  rw [hB] at hown3 ⊢
  have R3 := Lib.hid (R2.out.below B3)
  rw [hB] at B3
  have RD3 : Hid (RdK B _ [] w3) := Lib.hid ⟨⟨[], hown3, fun i hi => absurd hi (Nat.not_lt_zero i)⟩, by rw [← hB]; exact B3.size⟩
  have N3 := Lib.hid B3
  have HBe := Lib.hid hB
  have HwB : Hid (w.heap.size ≤ B) := Lib.hid (by rw [← hB]; exact N2.out.size)
  have HQB : Hid (Q < B) := Lib.hid (by rw [← hB]; exact blk_lt HQ.out)
  clear hown3 hgrow3 B3 LE TE hB
  have hcP := Lib.hid fun (wr : World) (h' : RiS S P M o T h wr) => (by
    obtain ⟨b, vs, h1, _⟩ := h'.ex
    have y := fun i => cell_of_row _ _ i _ _ _ h1
    exact ⟨y 2, y 3⟩ : wr.cell? ⟨P, 2, none⟩ = some (.int .i64 o) ∧ wr.cell? ⟨P, 3, none⟩ = some (.int .i64 (o + T.length)))
  have c2 := (hcP.out _ R3.out).1
  go_wp2
  go_loopw [4, 5] (fun sv iv wr => ∃ i : Nat, i ≤ T.length ∧ iv = .int .i64 (o + (i : Int)) ∧ Hid (RdK B sv (T.take i) wr) ∧ Hid (Below B w2 wr)) (fun _ iv _ => (o + T.length - intOf iv).toNat)
  case atStart => exact ⟨0, Nat.zero_le _, by simp, RD3, N3⟩
  case round =>
    obtain ⟨i, hi, rfl, HD, HN⟩ := hrel
    clear RD3 N3 c2
    have Rr := Lib.hid (R2.out.below (by have := HN.out; rw [← HBe.out] at this; exact this))
    have c3 := (hcP.out _ Rr.out).2
    obtain ⟨a0, d0, rfl⟩ := HD.out.form
    have hlen : (T.take i).length = i := by rw [List.length_take]; omega
    rw [hlen]
    have hbd := HB.out
    by_cases hlt : i < T.length
    · have hlt1 : o + (i : Int) < o + (T.length : Int) := by omega
      have cq : wr.cell? ⟨Q, 0, none⟩ = some (.pointer (some ⟨P, 0, none⟩)) := by
        rw [HN.out.cell (p := ⟨Q, 0, none⟩) HQB.out, cell_of_row _ _ _ _ _ _ HQ.out]; rfl
      have TX := Lib.hid (ri_text Rr.out Q i (o + (i : Int)) rfl cq hlt)
      have htk : Hid (T.take (i + 1) = T.take i ++ [T.getD i []]) := Lib.hid (by rw [List.take_succ_eq_append_getElem hlt, List.getD, List.getElem?_eq_getElem hlt]; rfl)
      have HBr := Lib.hid HD.out.le
      have Hl := Lib.hid hlen
      obtain ⟨m, hm⟩ : ∃ m, (T.getD i []).length = m := ⟨_, rfl⟩
      rw [hm] at TX
      have hwr : o + (i : Int) + 1 ≤ 1000000001 := by omega
      clear cq hlen hm
      go_wp2_with (first
        | (go_at_call 172; refine TX.out.mono ?_; rintro e w4 ⟨ax, cx, rfl, hox, hb4⟩; have D4 := Lib.hid (HD.out.below hb4); have N4 := Lib.hid (HN.out.trans (hb4.mono HBr.out)); have BA := below_alloc w4 (.cells #[.slice ax m cx] 22); have OX := Lib.hid (ows_keep (OwS.mono hox HBr.out) BA); have D5 := Lib.hid (D4.out.below BA); have N5 := Lib.hid (N4.out.trans (BA.mono D4.out.le)); have hnew : ∀ j x, ([Value.slice ax m cx] : List Value)[j]? = some x → (w4.alloc (.cells #[.slice ax m cx] 22)).cell? ((⟨w4.heap.size, 0, none⟩ : Addr).add j) = some x := (fun j x hj => app_cells rfl hj); have D5x := D5.out.ex; clear hox hb4 BA TX)
        | (at_builtin; obtain ⟨vs, hwv, hvs⟩ := D5x; rw [Hl.out] at hwv; refine wpList_append_own _ rfl _ _ 43 rfl B 22 i1 _ 1 24 Tryd.underlying43 hj hy0 hy1 hy2 rfl (by decide) _ _ _ rfl hwv ⟨_, 0, none⟩ 1 1 [.slice ax m cx] rfl rfl hnew (by simp [Value.oneCell']) ?g3 ?g4 D5.out.le ?_))
      case g3 => unfold maxLen; omega
      case g4 => omega
      intro v' w6 hown hgrow _
      have hvl : vs.length = (T.take i).length := by have := hwv.1; rw [Hl.out]; omega
      have hwv' := hwv
      rw [← Hl.out] at hwv' hown
      have hgrow' : (w4.alloc (.cells #[.slice ax m cx] 22)).grownBy w6 (Value.slice a0 i d0).ownBlock := hgrow
      have D6 := Lib.hid (RdK.next hvs hvl hwv' OX.out hown (by rw [Hl.out]; exact hgrow) D5.out.le)
      have N6 := Lib.hid (N5.out.grown hgrow D5.out.le (fun k hk => (hwv.lt k hk).1))
      clear hown hgrow hwv hvs hwv' hgrow' hvl
      go_wp2
      go_roundw
      case rel => exact ⟨i + 1, by omega, by go_num, Lib.hid (by rw [htk.out]; exact D6.out), N6⟩
      case measure => (simp [intOf]; try omega)
    · obtain rfl : i = T.length := by omega
      rw [List.take_length] at HD
      have hkl : ¬ o + (T.length : Int) < o + (T.length : Int) := by omega
      obtain ⟨a', c', e, _, _, hs⟩ := HD.out.sgs
      obtain ⟨rfl, rfl⟩ : a0 = a' ∧ d0 = c' := by
        first | (injection e with e1 e2 e3; exact ⟨e1, e3⟩) | (rw [hlen] at e; injection e with e1 e2 e3; exact ⟨e1, e3⟩)
      have HS := Lib.hid (hs.mono (Q := fun k => w.heap.size ≤ k ∧ k < wr.heap.size) (fun k hk => ⟨Nat.le_trans HwB.out hk.1, hk.2⟩))
      have NF := Lib.hid (N2.out.trans (HN.out.mono HwB.out))
      clear hs e HD
      go_wp2
      go_ret
      exact ⟨a0, ⟨d0, rfl⟩, HS.out, NF.out⟩
end
end Go.Proofs.YtdnmjofenckndaaDoor
set_option linter.unusedVariables false
set_option linter.unusedSimpArgs false
namespace Go.Proofs.YtdnmjofenckndaaDoor
open Go.RowKit
/-- What is kept of texts. -/
def puT (M : Int) (T : List (List Sg2)) : List (List Sg2) := if M < T.length then T.tail else T
section
variable {S : Nat → Prop} {P : Nat} {M o : Int} {T : List (List Sg2)} {h : Nat} {w w' : World}
theorem slv_eta (s : SlV) : slV s = .slice s.1 s.2.1 s.2.2 := rfl
/-- The texts, one more. -/
theorem RiT.snoc {w w6 : World} {P b : Nat} {T : List (List Sg2)} {vs : List SlV} (h3 : RiT w P b T vs) (hs : w.heap.size ≤ w6.heap.size) (hk : ∀ k, k < w.heap.size → k ≠ P → k ≠ b → w6.heap[k]? = w.heap[k]?) {t : List Sg2} {bd : Option Addr} {n d : Nat} (hn : t.length = n) (hq : SlS (fun k => k < w6.heap.size ∧ k ≠ P ∧ k ≠ b) w6 bd t d) : RiT w6 P b (T ++ [t]) (vs ++ [(bd, n, d)]) := by
  have h4 := h3.keep hs hk
  have hl := h4.1
  refine ⟨by simp [hl], fun j hj => ?_⟩
  rw [List.length_append, List.length_singleton] at hj
  by_cases hlt : j < T.length
  · have := h4.2 j hlt
    rw [getD_app1, if_pos (by omega), show (T ++ [t]).getD j [] = T.getD j [] by rw [List.getD, List.getElem?_append_left hlt, List.getD]]
    exact this
  · obtain rfl : j = T.length := by omega
    rw [getD_app1, if_neg (by omega), if_pos hl.symm, show (T ++ [t]).getD T.length [] = t by rw [List.getD, List.getElem?_append_right (Nat.le_refl _), Nat.sub_self]; rfl]
    exact ⟨hn.symm, hq⟩
/-- The ring with a text that came by the next number. -/
theorem ri_put {w5 : World} {b : Nat} {vs : List SlV} {u3 : Value} (h1 : w5.heap[P]? = some (.cells #[.int .i64 M, .map (some b), .int .i64 o, .int .i64 (o + T.length), u3] 118 (0, 0))) (h2 : MapF w5 b o vs) (h3 : RiT w5 P b T vs) (h4 : b ≠ P) (h5 : ∀ k, S k → k < w5.heap.size ∧ k ≠ P ∧ k ≠ b) (hne : ∀ t ∈ T, t ≠ [] ∧ t.length ≤ 65536)
    {t : List Sg2} {bd : Option Addr} {n d : Nat} (hn : t.length = n) (h0 : t ≠ []) (hl : n ≤ 65536) (hq : SlS (fun k => k < w5.heap.size ∧ k ≠ P ∧ k ≠ b) w5 bd t d) (hb : o + T.length + 1 ≤ 1000000000) :
    ∃ w6, (Instr.mapUpdate 116 (.map (some b)) (.int .i64 (o + T.length)) (.slice bd n d)).run Tryd.prog w5 = .ok () w6 ∧ w6.heap[P]? = w5.heap[P]? ∧
      RiS S P M o (T ++ [t]) T.length ((w6.setCell ⟨P, 4, none⟩ (.int .i64 (o + T.length))).setCell ⟨P, 3, none⟩ (.int .i64 (o + T.length + 1))) ∧ KeptK S w5 ((w6.setCell ⟨P, 4, none⟩ (.int .i64 (o + T.length))).setCell ⟨P, 3, none⟩ (.int .i64 (o + T.length + 1))) := by
  obtain ⟨w6, hrun, hm, hg⟩ := h2.push (bd, n, d) (by rw [h3.1]; exact hb)
  rw [h3.1] at hrun
  have hP := hg.block P (blk_lt h1) (fun e => h4 (by injection e with e; exact e.symm))
  have b1 := blk_set (blk_set (hP.trans h1) 4 (.int .i64 (o + T.length))) 3 (.int .i64 (o + T.length + 1))
  have hz : ((w6.setCell ⟨P, 4, none⟩ (.int .i64 (o + T.length))).setCell ⟨P, 3, none⟩ (.int .i64 (o + T.length + 1))).heap.size = w6.heap.size := by simp [World.setCell]
  have hk0 : ∀ k, k ≠ P → ((w6.setCell ⟨P, 4, none⟩ (.int .i64 (o + T.length))).setCell ⟨P, 3, none⟩ (.int .i64 (o + T.length + 1))).heap[k]? = w6.heap[k]? := fun k hk => (Below.heap_setCell _ _ _ _ hk).trans (Below.heap_setCell _ _ _ _ hk)
  have hk : ∀ k, k < w5.heap.size → k ≠ P → k ≠ b → ((w6.setCell ⟨P, 4, none⟩ (.int .i64 (o + T.length))).setCell ⟨P, 3, none⟩ (.int .i64 (o + T.length + 1))).heap[k]? = w5.heap[k]? := fun k hk1 hk2 hk3 => (hk0 k hk2).trans (hg.block k hk1 (fun e => hk3 (by injection e)))
  have hs : w5.heap.size ≤ ((w6.setCell ⟨P, 4, none⟩ (.int .i64 (o + T.length))).setCell ⟨P, 3, none⟩ (.int .i64 (o + T.length + 1))).heap.size := by rw [hz]; exact hg.size
  have hl2 : ((T ++ [t]).length : Int) = T.length + 1 := by simp
  refine ⟨w6, hrun, hP, ⟨⟨b, vs ++ [(bd, n, d)], ?_, hm.blk (hk0 b h4), h3.snoc hs hk hn ((hq.keep hs (fun k hk' => hk k hk'.1 hk'.2.1 hk'.2.2)).mono (fun k hk' => ⟨Nat.lt_of_lt_of_le hk'.1 hs, hk'.2⟩)), h4, fun k hk' => ⟨Nat.lt_of_lt_of_le (h5 k hk').1 hs, (h5 k hk').2⟩⟩, Or.inl (by simp), fun x hx => ?_⟩, ⟨hg.os, hg.tape, hg.output, hs, fun k hk' => hk k (h5 k hk').1 (h5 k hk').2.1 (h5 k hk').2.2⟩⟩
  · rw [hl2, ← Int.add_assoc]; exact b1
  · rcases List.mem_append.1 hx with hx | hx
    · exact hne x hx
    · rw [List.mem_singleton] at hx; subst hx; exact ⟨h0, by rw [hn]; exact hl⟩
/-- The ring with a text that came in the newest one's place. -/
theorem ri_last {w5 : World} {b : Nat} {us : List SlV} {v : SlV} {U : List (List Sg2)} {u3 u4 : Value} (h1 : w5.heap[P]? = some (.cells #[.int .i64 M, .map (some b), .int .i64 o, u3, u4] 118 (0, 0))) (h2 : MapF w5 b o (us ++ [v])) (h3 : RiT w5 P b U us) (h4 : b ≠ P) (h5 : ∀ k, S k → k < w5.heap.size ∧ k ≠ P ∧ k ≠ b) (hne : ∀ t ∈ U, t ≠ [] ∧ t.length ≤ 65536)
    {t : List Sg2} {bd : Option Addr} {n d : Nat} (hn : t.length = n) (h0 : t ≠ []) (hl : n ≤ 65536) (hq : SlS (fun k => k < w5.heap.size ∧ k ≠ P ∧ k ≠ b) w5 bd t d) :
    ∃ w6, (Instr.mapUpdate 116 (.map (some b)) (.int .i64 (o + U.length)) (.slice bd n d)).run Tryd.prog w5 = .ok () w6 ∧ w6.heap[P]? = w5.heap[P]? ∧
      RiS S P M o (U ++ [t]) U.length ((w6.setCell ⟨P, 4, none⟩ (.int .i64 (o + U.length))).setCell ⟨P, 3, none⟩ (.int .i64 (o + U.length + 1))) ∧ KeptK S w5 ((w6.setCell ⟨P, 4, none⟩ (.int .i64 (o + U.length))).setCell ⟨P, 3, none⟩ (.int .i64 (o + U.length + 1))) := by
  obtain ⟨w6, hrun, hm, hg⟩ := h2.last (bd, n, d)
  rw [h3.1] at hrun
  have hP := hg.block P (blk_lt h1) (fun e => h4 (by injection e with e; exact e.symm))
  have b1 := blk_set (blk_set (hP.trans h1) 4 (.int .i64 (o + U.length))) 3 (.int .i64 (o + U.length + 1))
  have hz : ((w6.setCell ⟨P, 4, none⟩ (.int .i64 (o + U.length))).setCell ⟨P, 3, none⟩ (.int .i64 (o + U.length + 1))).heap.size = w6.heap.size := by simp [World.setCell]
  have hk0 : ∀ k, k ≠ P → ((w6.setCell ⟨P, 4, none⟩ (.int .i64 (o + U.length))).setCell ⟨P, 3, none⟩ (.int .i64 (o + U.length + 1))).heap[k]? = w6.heap[k]? := fun k hk => (Below.heap_setCell _ _ _ _ hk).trans (Below.heap_setCell _ _ _ _ hk)
  have hk : ∀ k, k < w5.heap.size → k ≠ P → k ≠ b → ((w6.setCell ⟨P, 4, none⟩ (.int .i64 (o + U.length))).setCell ⟨P, 3, none⟩ (.int .i64 (o + U.length + 1))).heap[k]? = w5.heap[k]? := fun k hk1 hk2 hk3 => (hk0 k hk2).trans (hg.block k hk1 (fun e => hk3 (by injection e)))
  have hs : w5.heap.size ≤ ((w6.setCell ⟨P, 4, none⟩ (.int .i64 (o + U.length))).setCell ⟨P, 3, none⟩ (.int .i64 (o + U.length + 1))).heap.size := by rw [hz]; exact hg.size
  have hl2 : ((U ++ [t]).length : Int) = U.length + 1 := by simp
  refine ⟨w6, hrun, hP, ⟨⟨b, us ++ [(bd, n, d)], ?_, hm.blk (hk0 b h4), h3.snoc hs hk hn ((hq.keep hs (fun k hk' => hk k hk'.1 hk'.2.1 hk'.2.2)).mono (fun k hk' => ⟨Nat.lt_of_lt_of_le hk'.1 hs, hk'.2⟩)), h4, fun k hk' => ⟨Nat.lt_of_lt_of_le (h5 k hk').1 hs, (h5 k hk').2⟩⟩, Or.inl (by simp), fun x hx => ?_⟩, ⟨hg.os, hg.tape, hg.output, hs, fun k hk' => hk k (h5 k hk').1 (h5 k hk').2.1 (h5 k hk').2.2⟩⟩
  · rw [hl2, ← Int.add_assoc]; exact b1
  · rcases List.mem_append.1 hx with hx | hx
    · exact hne x hx
    · rw [List.mem_singleton] at hx; subst hx; exact ⟨h0, by rw [hn]; exact hl⟩
/-- The ring without its oldest text. -/
theorem ri_drop {t0 : List Sg2} {n : Nat} (hr : RiS S P M o (t0 :: T) n w) (hn : T.length = n) (hT : T ≠ []) (ty : TypeId) : ∃ b w6, w.cell? ⟨P, 1, none⟩ = some (.map (some b)) ∧ (Builtin.delete_ #[116, 3] ty #[.map (some b), .int .i64 o]).run Tryd.prog w = .ok (.tuple #[]) w6 ∧ w6.heap[P]? = w.heap[P]? ∧
    RiS S P M (o + 1) T (n - 1) (w6.setCell ⟨P, 2, none⟩ (.int .i64 (o + 1))) ∧ KeptK S w (w6.setCell ⟨P, 2, none⟩ (.int .i64 (o + 1))) := by
  have hp := List.length_pos_iff.2 hT
  obtain ⟨b, vs, h1, h2, h3, h4, h5⟩ := hr.ex
  have y := cell_of_row _ _ 1 _ _ _ h1
  obtain ⟨v0, us, rfl⟩ : ∃ v0 us, vs = v0 :: us := by
    cases vs with
    | nil => have := h3.1; simp at this
    | cons v0 us => exact ⟨v0, us, rfl⟩
  obtain ⟨w6, hrun, hm, hg⟩ := h2.drop ty
  have hP := hg.block P (blk_lt h1) (fun e => h4 (by injection e with e; exact e.symm))
  have b1 := blk_set (hP.trans h1) 2 (.int .i64 (o + 1))
  have hz : (w6.setCell ⟨P, 2, none⟩ (.int .i64 (o + 1))).heap.size = w6.heap.size := by simp [World.setCell]
  have hk : ∀ k, k < w.heap.size → k ≠ P → k ≠ b → (w6.setCell ⟨P, 2, none⟩ (.int .i64 (o + 1))).heap[k]? = w.heap[k]? := fun k hk1 hk2 hk3 => (Below.heap_setCell _ _ _ _ hk2).trans (hg.block k hk1 (fun e => hk3 (by injection e)))
  have hs : w.heap.size ≤ (w6.setCell ⟨P, 2, none⟩ (.int .i64 (o + 1))).heap.size := by rw [hz]; exact hg.size
  refine ⟨b, w6, y, hrun, hP, ⟨⟨b, us, ?_, hm.blk (Below.heap_setCell _ _ _ _ h4), ⟨by have := h3.1; simpa using this, fun j hj => ?_⟩, h4, fun k hk' => ⟨Nat.lt_of_lt_of_le (h5 k hk').1 hs, (h5 k hk').2⟩⟩, Or.inl (by omega), fun x hx => hr.ne x (List.mem_cons_of_mem _ hx)⟩, ⟨hg.os, hg.tape, hg.output, hs, fun k hk' => hk k (h5 k hk').1 (h5 k hk').2.1 (h5 k hk').2.2⟩⟩
  · have e1 : o + 1 + (T.length : Int) = o + ((t0 :: T).length : Int) := by simp; omega
    have e2 : o + 1 + ((n - 1 : Nat) : Int) = o + (n : Int) := by omega
    rw [e1, e2]
    exact b1
  · have := (h3.keep hs hk).2 (j + 1) (by simp; omega)
    exact this
end
end Go.Proofs.YtdnmjofenckndaaDoor
set_option linter.unusedVariables false
set_option linter.unusedSimpArgs false
namespace Go.Proofs.YtdnmjofenckndaaDoor
open Go.RowKit
section
variable {S : Nat → Prop} {P : Nat} {M o : Int} {T : List (List Sg2)} {h : Nat} {w w' : World}
/-- A text that may not come. -/
theorem ri_push_bad (hr : RiS S P M o T h w) (l : List Sg2) (a : Option Addr) (c n : Nat) (how : Int) (hs : Signs w a l) (hn : l.length = n) (hl : n ≤ 100000) (hno : how < 0 ∨ 2 < how ∨ sgC l = false) :
    Calls Tryd.prog 32 #[.pointer (some ⟨P, 0, none⟩), .slice a n c, .int .i64 how] w fun e w' => e = .returned (.int .i64 2) ∧ Below w.heap.size w w' := by
  have CH := scheck_any l a c w (by omega) hs
  rw [hn] at CH
  by_cases h1 : how < 0
  · clear hno
    go_enter Tryd.func32, Tryd.ntmps32
    go_wp2
    go_ret
    exact ⟨rfl, Below.refl _ _⟩
  · by_cases h2 : (2 : Int) < how
    · clear hno
      go_enter Tryd.func32, Tryd.ntmps32
      go_wp2
      go_ret
      exact ⟨rfl, Below.refl _ _⟩
    · have h3 : sgC l = false := by
        rcases hno with h | h | h
        · exact absurd h h1
        · exact absurd h h2
        · exact h
      rw [sgE_no h3] at CH
      replace CH := Lib.hid CH
      clear hno h3 hr
      go_enter Tryd.func32, Tryd.ntmps32
      go_wp2_with (go_at_call 96; refine CH.out.mono ?_; rintro e w0 ⟨rfl, hb0⟩)
      go_ret
      exact ⟨rfl, hb0⟩
set_option maxHeartbeats 8000000 in
/-- A text that comes alone. -/
theorem ri_push_new (hr : RiS S P M o T h w) (l : List Sg2) (a : Option Addr) (c n : Nat) (how : Int) (Q : Nat → Prop) (hs : SlS Q w a l c) (hn : l.length = n) (h0 : 0 < n) (hl : n ≤ 65536) (hok : sgC l = true) (hw : how = 0 ∨ (T = [] ∧ (how = 1 ∨ how = 2))) (hT : T.length ≤ 1000) (ho : o ≤ 1000000) (hMM : 1 ≤ M) :
    Calls Tryd.prog 32 #[.pointer (some ⟨P, 0, none⟩), .slice a n c, .int .i64 how] w fun e w' => e = .returned (.int .i64 0) ∧ (∃ o', o' ≤ o + 1 ∧ RiS S P M o' (puT M (T ++ [l])) ((puT M (T ++ [l])).length - 1) w') ∧ KeptK S w w' := by
  have CH := scheck_any l a c w (by omega) hs.s
  rw [hn, sgE_yes hok] at CH
  replace CH := Lib.hid CH
  have HR := Lib.hid hr
  have HS := Lib.hid hs
  have HN := Lib.hid hn
  have hn0 : ¬ (n : Int) = 0 := by omega
  have hbig : ¬ (65536 : Int) < (n : Int) := by omega
  have HSl := Lib.hid hr.lt
  have hbd := hr.bd
  have hlne : l ≠ [] := fun e => by rw [e] at hn; simp at hn; omega
  have ows0 := fun (w : World) => (⟨fun j hj => absurd hj (Nat.not_lt_zero j), Nat.le_refl _, fun _ => rfl, fun ad e => by cases e⟩ : SlS Q w none ([] : List Sg2) 0)
  have LE := Lib.hid fun (w' : World) (h' : RiS S P M o T h w') => ri_len h'
  clear hr hs hn hok
  rcases hw with rfl | ⟨hT0, hw12⟩
  · go_enter Tryd.func32, Tryd.ntmps32
    go_upto_region 16 with (go_at_call 96; refine CH.out.mono ?_; rintro e w0 ⟨rfl, hb0⟩)
    obtain ⟨b, vs, z0, hmp, hrt, hbP, hS5⟩ := (HR.out.below hb0).ex
    have hneT := HR.out.ne
    have hln : n ≤ 65536 := hl
    have K0 := Lib.hid (KeptK.of hb0 HSl.out)
    have HS0 := Lib.hid (HR.out.below hb0).lt
    have Bd : Below w0.heap.size w0 w0.drew := (Below.refl _ _).drew
    have BA := Bd.trans (below_alloc w0.drew (.cells #[.slice none 0 0, .slice a n c] 22))
    have qA := heap_alloc_new w0.drew (.cells #[.slice none 0 0, .slice a n c] 22)
    have CO := Lib.hid ((by have := concat_sg [] l w0.drew.heap.size none a 0 n 0 c Q _ qA (ows0 _) ((HS.out.below hb0).below BA) rfl HN.out (by omega) (by omega); rw [Nat.zero_add, List.nil_append] at this; exact this))
    have y := fun i => cell_of_row _ _ i _ _ _ z0
    have d1 : w0.drew.cell? ⟨P, 1, none⟩ = some (.map (some b)) := y 1
    have d3 : w0.drew.cell? ⟨P, 3, none⟩ = some (.int .i64 (o + T.length)) := y 3
    have hPl := blk_lt z0
    have zA := Lib.hid (blk_below z0 BA)
    have a1 := (BA.cell (p := ⟨P, 1, none⟩) hPl).trans (y 1)
    have a3 := (BA.cell (p := ⟨P, 3, none⟩) hPl).trans (y 3)
    have BAh := Lib.hid BA
    dsimp at a1 a3
    clear y qA BA Bd
    try clear hT1
    go_region_held3 (fun w' => w'.cell? ⟨P, 1, none⟩ = some (.map (some b)) ∧ w'.cell? ⟨P, 3, none⟩ = some (.int .i64 (o + T.length))) (first | exact ⟨d1, d3⟩ | exact ⟨a1, a3⟩ | exact ⟨m1, m3⟩ | exact ⟨p1, p3⟩ | go_keep)
      (first | (go_at_call 87; refine CO.out.mono ?_; rintro e w5 ⟨bd, d, rfl, hox, hb5⟩; have B5 := Lib.hid (BAh.out.trans (hb5.mono BAh.out.size)); have z5 := blk_below zA.out hb5; have m1 : w5.cell? ⟨P, 1, none⟩ = some (.map (some b)) := (by rw [cell_of_row _ _ _ _ _ _ z5]; rfl); have m3 : w5.cell? ⟨P, 3, none⟩ = some (.int .i64 (o + T.length)) := (by rw [cell_of_row _ _ _ _ _ _ z5]; rfl); have OX := Lib.hid hox; have hle5 := BAh.out.size; obtain ⟨w6, hrun, hP6, r8, k8⟩ := (ri_put (T := T) (S := S) z5 ((hmp.below BAh.out).below hb5) ((hrt.keep BAh.out.size (fun k hk _ _ => BAh.out.block k hk)).keep hb5.size (fun k hk _ _ => hb5.block k hk)) hbP (fun k hk => ⟨Nat.lt_of_lt_of_le (hS5 k hk).1 B5.out.size, (hS5 k hk).2⟩) hneT (t := l) HN.out hlne hln (by obtain ⟨a', c', e, hq⟩ := OX.out.sl; rw [HN.out] at e; injection e with e1 e2 e3; subst e1; subst e3; exact hq.mono (fun k hk => ⟨hk.2, by have := hk.1; omega, by have := hk.1; have := hmp.lt; omega⟩)) (by omega)); have z6 := hP6.trans z5; have p1 : w6.cell? ⟨P, 1, none⟩ = some (.map (some b)) := (by rw [cell_of_row _ _ _ _ _ _ z6]; rfl); have p3 : w6.cell? ⟨P, 3, none⟩ = some (.int .i64 (o + T.length)) := (by rw [cell_of_row _ _ _ _ _ _ z6]; rfl); have R8 := Lib.hid r8; have K8 := Lib.hid k8; have B5k := Lib.hid (K0.out.trans (KeptK.of B5.out HS0.out)); have Z6 := Lib.hid z6; clear hox hb5 r8 k8 hP6 hle5))
    all_goals
      have y := fun i => cell_of_row _ _ i _ _ _ Z6.out
      have g3 : w6.cell? ⟨P, 3, none⟩ = some (.int .i64 (o + T.length)) := y 3
      have g4 := y 4
      dsimp at g4
      have gf := fun i => frozen_of_row _ P i _ _ Z6.out
      have b4 := blk_set Z6.out 4 (.int .i64 (o + T.length))
      have v3 : (w6.setCell ⟨P, 4, none⟩ (.int .i64 (o + T.length))).cell? ⟨P, 3, none⟩ = some (.int .i64 (o + T.length)) := by rw [cell_of_row _ _ _ _ _ _ b4]; rfl
      have vf := fun i => frozen_of_row _ P i _ _ b4
      have b3 : ((w6.setCell ⟨P, 4, none⟩ (.int .i64 (o + T.length))).setCell ⟨P, 3, none⟩ (.int .i64 (o + T.length + 1))).heap[P]? = some (.cells #[.int .i64 M, .map (some b), .int .i64 o, .int .i64 (o + T.length + 1), .int .i64 (o + T.length)] 118 (0, 0)) := blk_set b4 3 (.int .i64 (o + T.length + 1))
      have B3 := Lib.hid b3
      have hk1 : o + T.length + 1 ≤ 9223372036854775807 := by omega
      clear y b4 b3 d1 d3 a1 a3 m1 m3 p1 p3 z5 z6 CO
      go_upto_region 19 with fail
      generalize (w6.setCell ⟨P, 4, none⟩ (.int .i64 (o + T.length))).setCell ⟨P, 3, none⟩ (.int .i64 (o + T.length + 1)) = W8 at *
      clear g3 g4 gf v3 vf hrun
      have Bd : Below W8.heap.size W8 W8.drew := (Below.refl _ _).drew
      have R9 := Lib.hid (R8.out.below Bd)
      have hSl8 := R8.out.lt
      have K9 := Lib.hid ((B5k.out.trans K8.out).trans (KeptK.of Bd hSl8))
      have y := fun i => cell_of_row _ _ i _ _ _ B3.out
      have d0 : W8.drew.cell? ⟨P, 0, none⟩ = some (.int .i64 M) := y 0
      clear y Bd hSl8
      go_region_held3 (fun w' => w'.cell? ⟨P, 0, none⟩ = some (.int .i64 M)) (first | exact d0 | go_keep)
        (first | (go_at_call 95; refine (ri_len R9.out).mono ?_; rintro e w9 ⟨rfl, h9⟩; subst h9))
      by_cases hM : M < (T ++ [l]).length
      · have hM2 : Hid (puT M (T ++ [l]) = (T ++ [l]).tail) := Lib.hid (if_pos hM)
        obtain ⟨t0, T3, hT3⟩ : ∃ t0 T3, T ++ [l] = t0 :: T3 := by
          cases hc : T ++ [l] with
          | nil => rw [hc] at hM; simp at hM; omega
          | cons x y => exact ⟨x, y, rfl⟩
        have hT3l : T3.length = T.length := by have := congrArg List.length hT3; simp at this; omega
        have hT3n : T3 ≠ [] := fun e => by rw [hT3, e] at hM; simp at hM; omega
        have R9' := R9.out
        rw [hT3] at R9'
        have Bd2 : Below W8.drew.heap.size W8.drew W8.drew.drew := (Below.refl _ _).drew
        obtain ⟨b2, w10, hc1, hdel, hP10, r11, k11⟩ := ri_drop (R9'.below Bd2) hT3l hT3n 0
        have R11 := Lib.hid r11
        have K11 := Lib.hid (K9.out.trans ((KeptK.of Bd2 R9.out.lt).trans k11))
        have zd : W8.drew.drew.heap[P]? = some (.cells #[.int .i64 M, .map (some b), .int .i64 o, .int .i64 (o + T.length + 1), .int .i64 (o + T.length)] 118 (0, 0)) := B3.out
        have y := fun i => cell_of_row _ _ i _ _ _ zd
        have x1 : W8.drew.drew.cell? ⟨P, 1, none⟩ = some (.map (some b)) := y 1
        have x2 : W8.drew.drew.cell? ⟨P, 2, none⟩ = some (.int .i64 o) := y 2
        rw [x1] at hc1
        obtain rfl : b = b2 := by simpa using hc1
        have z10 := hP10.trans zd
        have c2 : w10.cell? ⟨P, 2, none⟩ = some (.int .i64 o) := by rw [cell_of_row _ _ _ _ _ _ z10]; rfl
        have cf := fun i => frozen_of_row _ P i _ _ z10
        have hMi : M < ((T.length : Nat) : Int) + 1 := by have := hM; simp at this; omega
        clear hM
        have hT3t : Hid ((T ++ [l]).tail = T3) := Lib.hid (by rw [hT3]; rfl)
        have HT3l := Lib.hid hT3l
        have ho1 : o + 1 ≤ 9223372036854775807 := by omega
        have hgoal : Hid ((∃ o', o' ≤ o + 1 ∧ RiS S P M o' (puT M (T ++ [l])) ((puT M (T ++ [l])).length - 1) (w10.setCell ⟨P, 2, none⟩ (.int .i64 (o + 1)))) ∧ KeptK S w (w10.setCell ⟨P, 2, none⟩ (.int .i64 (o + 1)))) := Lib.hid ⟨⟨o + 1, by omega, by rw [hM2.out, hT3t.out, HT3l.out]; exact R11.out⟩, K11.out⟩
        have c1 : w10.cell? ⟨P, 1, none⟩ = some (.map (some b)) := by rw [cell_of_row _ _ _ _ _ _ z10]; rfl
        clear y r11 k11 R9' Bd2 hT3 hT3l hT3n hc1 d0 zd z10
        go_upto_region 20 with fail
        go_region_held3 (fun w' => w'.cell? ⟨P, 1, none⟩ = some (.map (some b)) ∧ w'.cell? ⟨P, 2, none⟩ = some (.int .i64 o)) (first | exact ⟨x1, x2⟩ | exact ⟨c1, c2⟩ | go_keep) (fail)
        all_goals go_wp2
        all_goals go_ret
        all_goals exact ⟨rfl, hgoal.out.1, hgoal.out.2⟩
      · have hM2 : Hid (puT M (T ++ [l]) = T ++ [l]) := Lib.hid (if_neg hM)
        have hMi : ¬ M < ((T.length : Nat) : Int) + 1 := by have := hM; simp at this; omega
        have hl1 : Hid ((T ++ [l]).length - 1 = T.length) := Lib.hid (by simp)
        have hgoal : Hid ((∃ o', o' ≤ o + 1 ∧ RiS S P M o' (puT M (T ++ [l])) ((puT M (T ++ [l])).length - 1) W8.drew) ∧ KeptK S w W8.drew) := Lib.hid ⟨⟨o, by omega, by rw [hM2.out, hl1.out]; exact R9.out⟩, K9.out⟩
        clear d0 hM
        go_wp2
        go_ret
        exact ⟨rfl, hgoal.out.1, hgoal.out.2⟩
  · have hT0l := Lib.hid (show ¬ (0 : Int) < (T.length : Int) by rw [hT0]; simp)
    replace hT0 := Lib.hid hT0
    rcases hw12 with rfl | rfl
    · have hT1 := hT0l.out
      go_enter Tryd.func32, Tryd.ntmps32
      go_upto_region 16 with (first
        | (go_at_call 96; refine CH.out.mono ?_; rintro e w0 ⟨rfl, hb0⟩)
        | (go_at_call 95; refine (LE.out _ (HR.out.below hb0)).mono ?_; rintro e w9 ⟨rfl, h9⟩; subst h9))
      obtain ⟨b, vs, z0, hmp, hrt, hbP, hS5⟩ := (HR.out.below hb0).ex
      have hneT := HR.out.ne
      have hln : n ≤ 65536 := hl
      have K0 := Lib.hid (KeptK.of hb0 HSl.out)
      have HS0 := Lib.hid (HR.out.below hb0).lt
      have Bd : Below w0.heap.size w0 w0.drew := (Below.refl _ _).drew
      have BA := Bd.trans (below_alloc w0.drew (.cells #[.slice none 0 0, .slice a n c] 22))
      have qA := heap_alloc_new w0.drew (.cells #[.slice none 0 0, .slice a n c] 22)
      have CO := Lib.hid ((by have := concat_sg [] l w0.drew.heap.size none a 0 n 0 c Q _ qA (ows0 _) ((HS.out.below hb0).below BA) rfl HN.out (by omega) (by omega); rw [Nat.zero_add, List.nil_append] at this; exact this))
      have y := fun i => cell_of_row _ _ i _ _ _ z0
      have d1 : w0.drew.cell? ⟨P, 1, none⟩ = some (.map (some b)) := y 1
      have d3 : w0.drew.cell? ⟨P, 3, none⟩ = some (.int .i64 (o + T.length)) := y 3
      have hPl := blk_lt z0
      have zA := Lib.hid (blk_below z0 BA)
      have a1 := (BA.cell (p := ⟨P, 1, none⟩) hPl).trans (y 1)
      have a3 := (BA.cell (p := ⟨P, 3, none⟩) hPl).trans (y 3)
      have BAh := Lib.hid BA
      dsimp at a1 a3
      clear y qA BA Bd
      try clear hT1
      go_region_held3 (fun w' => w'.cell? ⟨P, 1, none⟩ = some (.map (some b)) ∧ w'.cell? ⟨P, 3, none⟩ = some (.int .i64 (o + T.length))) (first | exact ⟨d1, d3⟩ | exact ⟨a1, a3⟩ | exact ⟨m1, m3⟩ | exact ⟨p1, p3⟩ | go_keep)
        (first | (go_at_call 87; refine CO.out.mono ?_; rintro e w5 ⟨bd, d, rfl, hox, hb5⟩; have B5 := Lib.hid (BAh.out.trans (hb5.mono BAh.out.size)); have z5 := blk_below zA.out hb5; have m1 : w5.cell? ⟨P, 1, none⟩ = some (.map (some b)) := (by rw [cell_of_row _ _ _ _ _ _ z5]; rfl); have m3 : w5.cell? ⟨P, 3, none⟩ = some (.int .i64 (o + T.length)) := (by rw [cell_of_row _ _ _ _ _ _ z5]; rfl); have OX := Lib.hid hox; have hle5 := BAh.out.size; obtain ⟨w6, hrun, hP6, r8, k8⟩ := (ri_put (T := T) (S := S) z5 ((hmp.below BAh.out).below hb5) ((hrt.keep BAh.out.size (fun k hk _ _ => BAh.out.block k hk)).keep hb5.size (fun k hk _ _ => hb5.block k hk)) hbP (fun k hk => ⟨Nat.lt_of_lt_of_le (hS5 k hk).1 B5.out.size, (hS5 k hk).2⟩) hneT (t := l) HN.out hlne hln (by obtain ⟨a', c', e, hq⟩ := OX.out.sl; rw [HN.out] at e; injection e with e1 e2 e3; subst e1; subst e3; exact hq.mono (fun k hk => ⟨hk.2, by have := hk.1; omega, by have := hk.1; have := hmp.lt; omega⟩)) (by omega)); have z6 := hP6.trans z5; have p1 : w6.cell? ⟨P, 1, none⟩ = some (.map (some b)) := (by rw [cell_of_row _ _ _ _ _ _ z6]; rfl); have p3 : w6.cell? ⟨P, 3, none⟩ = some (.int .i64 (o + T.length)) := (by rw [cell_of_row _ _ _ _ _ _ z6]; rfl); have R8 := Lib.hid r8; have K8 := Lib.hid k8; have B5k := Lib.hid (K0.out.trans (KeptK.of B5.out HS0.out)); have Z6 := Lib.hid z6; clear hox hb5 r8 k8 hP6 hle5))
      all_goals
        have y := fun i => cell_of_row _ _ i _ _ _ Z6.out
        have g3 : w6.cell? ⟨P, 3, none⟩ = some (.int .i64 (o + T.length)) := y 3
        have g4 := y 4
        dsimp at g4
        have gf := fun i => frozen_of_row _ P i _ _ Z6.out
        have b4 := blk_set Z6.out 4 (.int .i64 (o + T.length))
        have v3 : (w6.setCell ⟨P, 4, none⟩ (.int .i64 (o + T.length))).cell? ⟨P, 3, none⟩ = some (.int .i64 (o + T.length)) := by rw [cell_of_row _ _ _ _ _ _ b4]; rfl
        have vf := fun i => frozen_of_row _ P i _ _ b4
        have b3 : ((w6.setCell ⟨P, 4, none⟩ (.int .i64 (o + T.length))).setCell ⟨P, 3, none⟩ (.int .i64 (o + T.length + 1))).heap[P]? = some (.cells #[.int .i64 M, .map (some b), .int .i64 o, .int .i64 (o + T.length + 1), .int .i64 (o + T.length)] 118 (0, 0)) := blk_set b4 3 (.int .i64 (o + T.length + 1))
        have B3 := Lib.hid b3
        have hk1 : o + T.length + 1 ≤ 9223372036854775807 := by omega
        clear y b4 b3 d1 d3 a1 a3 m1 m3 p1 p3 z5 z6 CO
        go_upto_region 19 with fail
        generalize (w6.setCell ⟨P, 4, none⟩ (.int .i64 (o + T.length))).setCell ⟨P, 3, none⟩ (.int .i64 (o + T.length + 1)) = W8 at *
        clear g3 g4 gf v3 vf hrun
        have Bd : Below W8.heap.size W8 W8.drew := (Below.refl _ _).drew
        have R9 := Lib.hid (R8.out.below Bd)
        have hSl8 := R8.out.lt
        have K9 := Lib.hid ((B5k.out.trans K8.out).trans (KeptK.of Bd hSl8))
        have y := fun i => cell_of_row _ _ i _ _ _ B3.out
        have d0 : W8.drew.cell? ⟨P, 0, none⟩ = some (.int .i64 M) := y 0
        clear y Bd hSl8
        go_region_held3 (fun w' => w'.cell? ⟨P, 0, none⟩ = some (.int .i64 M)) (first | exact d0 | go_keep)
          (first | (go_at_call 95; refine (ri_len R9.out).mono ?_; rintro e w9 ⟨rfl, h9⟩; subst h9))
        by_cases hM : M < (T ++ [l]).length
        · exfalso; have := hM; rw [hT0.out] at this; simp at this; omega
        · have hM2 : Hid (puT M (T ++ [l]) = T ++ [l]) := Lib.hid (if_neg hM)
          have hMi : ¬ M < ((T.length : Nat) : Int) + 1 := by have := hM; simp at this; omega
          have hl1 : Hid ((T ++ [l]).length - 1 = T.length) := Lib.hid (by simp)
          have hgoal : Hid ((∃ o', o' ≤ o + 1 ∧ RiS S P M o' (puT M (T ++ [l])) ((puT M (T ++ [l])).length - 1) W8.drew) ∧ KeptK S w W8.drew) := Lib.hid ⟨⟨o, by omega, by rw [hM2.out, hl1.out]; exact R9.out⟩, K9.out⟩
          clear d0 hM
          go_wp2
          go_ret
          exact ⟨rfl, hgoal.out.1, hgoal.out.2⟩
    · have hT1 := hT0l.out
      go_enter Tryd.func32, Tryd.ntmps32
      go_upto_region 15 with (first
        | (go_at_call 96; refine CH.out.mono ?_; rintro e w0 ⟨rfl, hb0⟩)
        | (go_at_call 95; refine (LE.out _ (HR.out.below hb0)).mono ?_; rintro e w9 ⟨rfl, h9⟩; subst h9))
      obtain ⟨b, vs, z0, hmp, hrt, hbP, hS5⟩ := (HR.out.below hb0).ex
      have hneT := HR.out.ne
      have hln : n ≤ 65536 := hl
      have K0 := Lib.hid (KeptK.of hb0 HSl.out)
      have HS0 := Lib.hid (HR.out.below hb0).lt
      have Bd : Below w0.heap.size w0 w0.drew := (Below.refl _ _).drew
      have BA := Bd.trans (below_alloc w0.drew (.cells #[.slice a n c, .slice none 0 0] 22))
      have qA := heap_alloc_new w0.drew (.cells #[.slice a n c, .slice none 0 0] 22)
      have CO := Lib.hid ((by have := concat_sg l [] w0.drew.heap.size a none n 0 c 0 Q _ qA ((HS.out.below hb0).below BA) (ows0 _) HN.out rfl (by omega) (by omega); rw [Nat.add_zero, List.append_nil] at this; exact this))
      have y := fun i => cell_of_row _ _ i _ _ _ z0
      have d1 : w0.drew.cell? ⟨P, 1, none⟩ = some (.map (some b)) := y 1
      have d3 : w0.drew.cell? ⟨P, 3, none⟩ = some (.int .i64 (o + T.length)) := y 3
      have hPl := blk_lt z0
      have zA := Lib.hid (blk_below z0 BA)
      have a1 := (BA.cell (p := ⟨P, 1, none⟩) hPl).trans (y 1)
      have a3 := (BA.cell (p := ⟨P, 3, none⟩) hPl).trans (y 3)
      have BAh := Lib.hid BA
      dsimp at a1 a3
      clear y qA BA Bd
      try clear hT1
      go_region_held3 (fun w' => w'.cell? ⟨P, 1, none⟩ = some (.map (some b)) ∧ w'.cell? ⟨P, 3, none⟩ = some (.int .i64 (o + T.length))) (first | exact ⟨d1, d3⟩ | exact ⟨a1, a3⟩ | exact ⟨m1, m3⟩ | exact ⟨p1, p3⟩ | go_keep)
        (first | (go_at_call 87; refine CO.out.mono ?_; rintro e w5 ⟨bd, d, rfl, hox, hb5⟩; have B5 := Lib.hid (BAh.out.trans (hb5.mono BAh.out.size)); have z5 := blk_below zA.out hb5; have m1 : w5.cell? ⟨P, 1, none⟩ = some (.map (some b)) := (by rw [cell_of_row _ _ _ _ _ _ z5]; rfl); have m3 : w5.cell? ⟨P, 3, none⟩ = some (.int .i64 (o + T.length)) := (by rw [cell_of_row _ _ _ _ _ _ z5]; rfl); have OX := Lib.hid hox; have hle5 := BAh.out.size; obtain ⟨w6, hrun, hP6, r8, k8⟩ := (ri_put (T := T) (S := S) z5 ((hmp.below BAh.out).below hb5) ((hrt.keep BAh.out.size (fun k hk _ _ => BAh.out.block k hk)).keep hb5.size (fun k hk _ _ => hb5.block k hk)) hbP (fun k hk => ⟨Nat.lt_of_lt_of_le (hS5 k hk).1 B5.out.size, (hS5 k hk).2⟩) hneT (t := l) HN.out hlne hln (by obtain ⟨a', c', e, hq⟩ := OX.out.sl; rw [HN.out] at e; injection e with e1 e2 e3; subst e1; subst e3; exact hq.mono (fun k hk => ⟨hk.2, by have := hk.1; omega, by have := hk.1; have := hmp.lt; omega⟩)) (by omega)); have z6 := hP6.trans z5; have p1 : w6.cell? ⟨P, 1, none⟩ = some (.map (some b)) := (by rw [cell_of_row _ _ _ _ _ _ z6]; rfl); have p3 : w6.cell? ⟨P, 3, none⟩ = some (.int .i64 (o + T.length)) := (by rw [cell_of_row _ _ _ _ _ _ z6]; rfl); have R8 := Lib.hid r8; have K8 := Lib.hid k8; have B5k := Lib.hid (K0.out.trans (KeptK.of B5.out HS0.out)); have Z6 := Lib.hid z6; clear hox hb5 r8 k8 hP6 hle5))
      all_goals
        have y := fun i => cell_of_row _ _ i _ _ _ Z6.out
        have g3 : w6.cell? ⟨P, 3, none⟩ = some (.int .i64 (o + T.length)) := y 3
        have g4 := y 4
        dsimp at g4
        have gf := fun i => frozen_of_row _ P i _ _ Z6.out
        have b4 := blk_set Z6.out 4 (.int .i64 (o + T.length))
        have v3 : (w6.setCell ⟨P, 4, none⟩ (.int .i64 (o + T.length))).cell? ⟨P, 3, none⟩ = some (.int .i64 (o + T.length)) := by rw [cell_of_row _ _ _ _ _ _ b4]; rfl
        have vf := fun i => frozen_of_row _ P i _ _ b4
        have b3 : ((w6.setCell ⟨P, 4, none⟩ (.int .i64 (o + T.length))).setCell ⟨P, 3, none⟩ (.int .i64 (o + T.length + 1))).heap[P]? = some (.cells #[.int .i64 M, .map (some b), .int .i64 o, .int .i64 (o + T.length + 1), .int .i64 (o + T.length)] 118 (0, 0)) := blk_set b4 3 (.int .i64 (o + T.length + 1))
        have B3 := Lib.hid b3
        have hk1 : o + T.length + 1 ≤ 9223372036854775807 := by omega
        clear y b4 b3 d1 d3 a1 a3 m1 m3 p1 p3 z5 z6 CO
        go_upto_region 19 with fail
        generalize (w6.setCell ⟨P, 4, none⟩ (.int .i64 (o + T.length))).setCell ⟨P, 3, none⟩ (.int .i64 (o + T.length + 1)) = W8 at *
        clear g3 g4 gf v3 vf hrun
        have Bd : Below W8.heap.size W8 W8.drew := (Below.refl _ _).drew
        have R9 := Lib.hid (R8.out.below Bd)
        have hSl8 := R8.out.lt
        have K9 := Lib.hid ((B5k.out.trans K8.out).trans (KeptK.of Bd hSl8))
        have y := fun i => cell_of_row _ _ i _ _ _ B3.out
        have d0 : W8.drew.cell? ⟨P, 0, none⟩ = some (.int .i64 M) := y 0
        clear y Bd hSl8
        go_region_held3 (fun w' => w'.cell? ⟨P, 0, none⟩ = some (.int .i64 M)) (first | exact d0 | go_keep)
          (first | (go_at_call 95; refine (ri_len R9.out).mono ?_; rintro e w9 ⟨rfl, h9⟩; subst h9))
        by_cases hM : M < (T ++ [l]).length
        · exfalso; have := hM; rw [hT0.out] at this; simp at this; omega
        · have hM2 : Hid (puT M (T ++ [l]) = T ++ [l]) := Lib.hid (if_neg hM)
          have hMi : ¬ M < ((T.length : Nat) : Int) + 1 := by have := hM; simp at this; omega
          have hl1 : Hid ((T ++ [l]).length - 1 = T.length) := Lib.hid (by simp)
          have hgoal : Hid ((∃ o', o' ≤ o + 1 ∧ RiS S P M o' (puT M (T ++ [l])) ((puT M (T ++ [l])).length - 1) W8.drew) ∧ KeptK S w W8.drew) := Lib.hid ⟨⟨o, by omega, by rw [hM2.out, hl1.out]; exact R9.out⟩, K9.out⟩
          clear d0 hM
          go_wp2
          go_ret
          exact ⟨rfl, hgoal.out.1, hgoal.out.2⟩
end
end Go.Proofs.YtdnmjofenckndaaDoor
set_option linter.unusedVariables false
set_option linter.unusedSimpArgs false
namespace Go.Proofs.YtdnmjofenckndaaDoor
open Go.RowKit
section
variable {S : Nat → Prop} {P : Nat} {M o : Int} {T : List (List Sg2)} {h : Nat} {w w' : World}
theorem RiT.split {w : World} {P b : Nat} {U : List (List Sg2)} {u : List Sg2} {vs : List SlV} (h3 : RiT w P b (U ++ [u]) vs) : ∃ us ua un uc, vs = us ++ [(ua, un, uc)] ∧ RiT w P b U us ∧ u.length = un ∧ SlS (fun k => k < w.heap.size ∧ k ≠ P ∧ k ≠ b) w ua u uc := by
  obtain ⟨hl, hf⟩ := h3
  have hne : vs ≠ [] := fun e => by rw [e] at hl; simp at hl
  obtain ⟨us, v, rfl⟩ : ∃ us v, vs = us ++ [v] := ⟨vs.dropLast, vs.getLast hne, (List.dropLast_concat_getLast hne).symm⟩
  have hus : us.length = U.length := by simpa using hl
  obtain ⟨ua, un, uc⟩ := v
  have := hf U.length (by simp)
  rw [← hus, getD_app1, if_neg (Nat.lt_irrefl _), if_pos rfl, hus, show (U ++ [u]).getD U.length [] = u by rw [List.getD, List.getElem?_append_right (Nat.le_refl _), Nat.sub_self]; rfl] at this
  refine ⟨us, ua, un, uc, rfl, ⟨hus, fun j hj => ?_⟩, this.1.symm, this.2⟩
  have := hf j (by simp; omega)
  rwa [getD_app1, if_pos (by omega), show (U ++ [u]).getD j [] = U.getD j [] by rw [List.getD, List.getElem?_append_left hj, List.getD]] at this
set_option maxHeartbeats 8000000 in
/-- A text that comes behind the newest one. -/
theorem ri_push_behind {U : List (List Sg2)} {u : List Sg2} (hr : RiS S P M o (U ++ [u]) h w) (l : List Sg2) (a : Option Addr) (c n : Nat) (hs : SlS S w a l c) (hn : l.length = n) (h0 : 0 < n) (hl : u.length + n ≤ 65536) (hok : sgC l = true) (ho : o ≤ 1000000) (hTM : ((U ++ [u]).length : Int) ≤ M) :
    Calls Tryd.prog 32 #[.pointer (some ⟨P, 0, none⟩), .slice a n c, .int .i64 1] w fun e w' => e = .returned (.int .i64 0) ∧ RiS S P M o (U ++ [u ++ l]) U.length w' ∧ KeptK S w w' := by
  obtain ⟨b, vs, zz, hmp0, hrt0, hbP, hS50⟩ := hr.ex
  obtain ⟨us, ua, un, uc, rfl, hrt1, hul, hus1⟩ := hrt0.split
  have hnu := hr.ne u (by simp)
  have hneU : ∀ t ∈ U, t ≠ [] ∧ t.length ≤ 65536 := fun t ht => hr.ne t (by simp [ht])
  rw [hul] at hnu hl
  have hun0 : 0 < un := by have := List.length_pos_iff.2 hnu.1; omega
  have CH := scheck_any l a c w (by omega) hs.s
  rw [hn, sgE_yes hok] at CH
  replace CH := Lib.hid CH
  obtain ⟨N, hN⟩ : ∃ N : Int, N = o + U.length := ⟨_, rfl⟩
  have hbd := hr.bd
  have hlen : ((U ++ [u]).length : Int) = (U.length : Int) + 1 := by simp
  have h0N : 0 ≤ N := by omega
  have hNb : N + 1 ≤ 1000000000 := by omega
  have eN : o + ((U ++ [u]).length : Int) = N + 1 := by omega
  have e4 : o + (h : Int) = o + (h : Int) := rfl
  rw [eN] at zz
  have HR := Lib.hid hr
  have HS := Lib.hid hs
  have HN := Lib.hid hn
  have hn0 : ¬ (n : Int) = 0 := by omega
  have hbig : ¬ (65536 : Int) < (un : Int) + (n : Int) := by omega
  have hup : (0 : Int) < (un : Int) := by omega
  have hTl : (0 : Int) < (U.length : Int) + 1 := by omega
  have HSl := Lib.hid hr.lt
  have hne1 : u ++ l ≠ [] := fun e => hnu.1 (List.append_eq_nil_iff.1 e).1
  have hne2 : l ++ u ≠ [] := fun e => hnu.1 (List.append_eq_nil_iff.1 e).2
  have LE := Lib.hid fun (w' : World) (h' : RiS S P M o (U ++ [u]) h w') => ri_len h'
  have HLK := Lib.hid fun (w' : World) (h' : MapF w' b o (us ++ [(ua, un, uc)])) => h'.look (j := us.length) (by simp)
  rw [hrt1.1, ← hN] at HLK
  have hgt : Hid ((us ++ [(ua, un, uc)]).getD U.length sl0 = (ua, un, uc)) := Lib.hid (by rw [getD_app1, if_neg (by rw [hrt1.1]; exact Nat.lt_irrefl _), if_pos hrt1.1.symm])
  rw [hgt.out] at HLK
  have hMl : (U.length : Int) + 1 ≤ M := by omega
  have hN1 : -9223372036854775808 ≤ N := by omega
  have hN2 : N ≤ 9223372036854775807 := by omega
  have hwN : IntKind.i64.wrap N = N := (by rw [IntKind.wrap_i64]; omega)
  replace hN := Lib.hid hN
  clear hr hs hn hok hgt e4 eN hlen hbd
  go_enter Tryd.func32, Tryd.ntmps32
  go_upto_region 7 with (first
    | (go_at_call 96; refine CH.out.mono ?_; rintro e w0 ⟨rfl, hb0⟩)
    | (go_at_call 95; refine (LE.out _ (HR.out.below hb0)).mono ?_; rintro e w9 ⟨rfl, h9⟩; subst h9))
  have Bd0 := hb0.trans ((Below.refl w0.heap.size w0).drew.mono hb0.size)
  have zd := blk_below zz Bd0
  have hmpd := hmp0.below Bd0
  have HL := HLK.out _ hmpd
  have y := fun i => cell_of_row _ _ i _ _ _ zd
  have x1 : w0.drew.cell? ⟨P, 1, none⟩ = some (.map (some b)) := y 1
  have x3 : w0.drew.cell? ⟨P, 3, none⟩ = some (.int .i64 (N + 1)) := y 3
  have HL2 : (Instr.lookup 116 (.map (some b)) (.int .i64 N) false).run Tryd.prog w0.drew = .ok (.slice ua un uc) w0.drew := HL
  have yf := fun i => frozen_of_row _ P i _ _ zd
  clear y HL
  go_region_held3 (fun w' => w'.cell? ⟨P, 1, none⟩ = some (.map (some b)) ∧ w'.cell? ⟨P, 3, none⟩ = some (.int .i64 (N + 1))) (first | exact ⟨x1, x3⟩ | go_keep) (fail)
  go_upto_region 16 with fail
  have zw := blk_below zz hb0
  have b3 : ((w0.setCell ⟨P, 3, none⟩ (.int .i64 N)).drew).heap[P]? = some (.cells #[.int .i64 M, .map (some b), .int .i64 o, .int .i64 N, .int .i64 (o + (h : Int))] 118 (0, 0)) := blk_set zw 3 (.int .i64 N)
  have BD3 : Below (w0.setCell ⟨P, 3, none⟩ (.int .i64 N)).heap.size (w0.setCell ⟨P, 3, none⟩ (.int .i64 N)) (w0.setCell ⟨P, 3, none⟩ (.int .i64 N)).drew := (Below.refl _ _).drew
  have hz0 : (w0.setCell ⟨P, 3, none⟩ (.int .i64 N)).drew.heap.size = w0.heap.size := by simp [World.setCell]
  have hkS : ∀ k, k ≠ P → (w0.setCell ⟨P, 3, none⟩ (.int .i64 N)).drew.heap[k]? = w0.heap[k]? := fun k hk => Below.heap_setCell _ _ _ _ hk
  have K0 := Lib.hid (((KeptK.of hb0 HSl.out).trans (kept_setK (fun k hk => (hS50 k hk).2.1) 3 (.int .i64 N))).trans (KeptK.of BD3 (fun k hk => Nat.lt_of_lt_of_le (hS50 k hk).1 (by show w.heap.size ≤ _; have := hb0.size; have := hz0; simpa [World.setCell] using hb0.size))))
  have hmp := (hmp0.below hb0).blk (hkS b hbP)
  have hrt := (hrt1.keep hb0.size (fun k hk _ _ => hb0.block k hk)).keep (Nat.le_of_eq hz0.symm) (fun k _ hk _ => hkS k hk)
  have hS5 : ∀ k, S k → k < (w0.setCell ⟨P, 3, none⟩ (.int .i64 N)).drew.heap.size ∧ k ≠ P ∧ k ≠ b := fun k hk => ⟨by rw [hz0]; exact Nat.lt_of_lt_of_le (hS50 k hk).1 hb0.size, (hS50 k hk).2⟩
  have hu := Lib.hid (((hus1.keep hb0.size (fun k hk => hb0.block k hk.1)).keep (Nat.le_of_eq hz0.symm) (fun k hk => hkS k hk.2.1)).mono (T := fun k => k < (w0.setCell ⟨P, 3, none⟩ (.int .i64 N)).drew.heap.size ∧ k ≠ P ∧ k ≠ b) (fun k hk => ⟨by rw [hz0]; exact Nat.lt_of_lt_of_le hk.1 hb0.size, hk.2⟩))
  have hlS := Lib.hid (((HS.out.keep hb0.size (fun k hk => hb0.block k (hS50 k hk).1)).keep (Nat.le_of_eq hz0.symm) (fun k hk => hkS k (hS50 k hk).2.1)).mono hS5)
  clear zd hmpd x1 x3 HL2 yf hz0 hkS Bd0 BD3 zw
  generalize (w0.setCell ⟨P, 3, none⟩ (.int .i64 N)).drew = W3 at *
  have Bd : Below W3.heap.size W3 W3.drew := (Below.refl _ _).drew
  have BA := Bd.trans (below_alloc W3.drew (.cells #[.slice ua un uc, .slice a n c] 22))
  have qA := heap_alloc_new W3.drew (.cells #[.slice ua un uc, .slice a n c] 22)
  have CO := Lib.hid ((by have := concat_sg u l W3.drew.heap.size ua a un n uc c _ _ qA (hu.out.keep BA.size (fun k hk => BA.block k hk.1)) (hlS.out.keep BA.size (fun k hk => BA.block k hk.1)) hul HN.out (by omega) (by omega); exact this))
  have y := fun i => cell_of_row _ _ i _ _ _ b3
  have d1 : W3.drew.cell? ⟨P, 1, none⟩ = some (.map (some b)) := y 1
  have d3 : W3.drew.cell? ⟨P, 3, none⟩ = some (.int .i64 N) := y 3
  have hPl := blk_lt b3
  have zA := Lib.hid (blk_below b3 BA)
  have a1 := (BA.cell (p := ⟨P, 1, none⟩) hPl).trans (y 1)
  have a3 := (BA.cell (p := ⟨P, 3, none⟩) hPl).trans (y 3)
  have BAh := Lib.hid BA
  try dsimp at a1
  try dsimp at a3
  clear y qA BA Bd
  go_region_held3 (fun w' => w'.cell? ⟨P, 1, none⟩ = some (.map (some b)) ∧ w'.cell? ⟨P, 3, none⟩ = some (.int .i64 N)) (first | exact ⟨d1, d3⟩ | exact ⟨a1, a3⟩ | exact ⟨m1, m3⟩ | exact ⟨p1, p3⟩ | go_keep)
    (first | (go_at_call 87; refine CO.out.mono ?_; rintro e w5 ⟨bd, d, rfl, hox, hb5⟩; have B5 := Lib.hid (BAh.out.trans (hb5.mono BAh.out.size)); have z5 := blk_below zA.out hb5; have m1 : w5.cell? ⟨P, 1, none⟩ = some (.map (some b)) := (by rw [cell_of_row _ _ _ _ _ _ z5]; rfl); have m3 : w5.cell? ⟨P, 3, none⟩ = some (.int .i64 N) := (by rw [cell_of_row _ _ _ _ _ _ z5]; rfl); have OX := Lib.hid hox; have hle5 := BAh.out.size; obtain ⟨w6, hrun, hP6, r8, k8⟩ := ri_last (S := S) z5 ((hmp.below BAh.out).below hb5) ((hrt.keep BAh.out.size (fun k hk _ _ => BAh.out.block k hk)).keep hb5.size (fun k hk _ _ => hb5.block k hk)) hbP (fun k hk => ⟨Nat.lt_of_lt_of_le (hS5 k hk).1 B5.out.size, (hS5 k hk).2⟩) hneU (t := u ++ l) (n := un + n) (d := d) (bd := bd) (by rw [List.length_append, hul, HN.out]) (by first | exact hne1 | exact hne2) (by omega) (by obtain ⟨a', c', e, hq⟩ := OX.out.sl; rw [List.length_append, hul, HN.out] at e; injection e with e1 e2 e3; subst e1; subst e3; exact hq.mono (fun k hk => ⟨hk.2, by have := hk.1; omega, by have := hk.1; have := hmp.lt; omega⟩)); rw [← hN.out] at hrun r8 k8; have z6 := hP6.trans z5; have p1 : w6.cell? ⟨P, 1, none⟩ = some (.map (some b)) := (by rw [cell_of_row _ _ _ _ _ _ z6]; rfl); have p3 : w6.cell? ⟨P, 3, none⟩ = some (.int .i64 N) := (by rw [cell_of_row _ _ _ _ _ _ z6]; rfl); have R8 := Lib.hid r8; have K8 := Lib.hid k8; have B5k := Lib.hid (K0.out.trans (KeptK.of B5.out (fun k hk => (hS5 k hk).1))); have Z6 := Lib.hid z6; clear hox hb5 r8 k8 hP6 hle5))
  all_goals
    have y := fun i => cell_of_row _ _ i _ _ _ Z6.out
    have g3 : w6.cell? ⟨P, 3, none⟩ = some (.int .i64 N) := y 3
    have g4 := y 4
    dsimp at g4
    have gf := fun i => frozen_of_row _ P i _ _ Z6.out
    have b4 := blk_set Z6.out 4 (.int .i64 N)
    have v3 : (w6.setCell ⟨P, 4, none⟩ (.int .i64 N)).cell? ⟨P, 3, none⟩ = some (.int .i64 N) := by rw [cell_of_row _ _ _ _ _ _ b4]; rfl
    have vf := fun i => frozen_of_row _ P i _ _ b4
    have b33 : ((w6.setCell ⟨P, 4, none⟩ (.int .i64 N)).setCell ⟨P, 3, none⟩ (.int .i64 (N + 1))).heap[P]? = some (.cells #[.int .i64 M, .map (some b), .int .i64 o, .int .i64 (N + 1), .int .i64 N] 118 (0, 0)) := blk_set b4 3 (.int .i64 (N + 1))
    have B3 := Lib.hid b33
    have hk1 : N + 1 ≤ 9223372036854775807 := by omega
    clear y b4 b33 b3 d1 d3 a1 a3 m1 m3 p1 p3 z5 z6 CO
    go_upto_region 19 with fail
    generalize (w6.setCell ⟨P, 4, none⟩ (.int .i64 N)).setCell ⟨P, 3, none⟩ (.int .i64 (N + 1)) = W8 at *
    clear g3 g4 gf v3 vf hrun
    have Bd : Below W8.heap.size W8 W8.drew := (Below.refl _ _).drew
    have R9 := Lib.hid (R8.out.below Bd)
    have hSl8 := R8.out.lt
    have K9 := Lib.hid ((B5k.out.trans K8.out).trans (KeptK.of Bd hSl8))
    have y := fun i => cell_of_row _ _ i _ _ _ B3.out
    have d0 : W8.drew.cell? ⟨P, 0, none⟩ = some (.int .i64 M) := y 0
    clear y Bd hSl8
    go_region_held3 (fun w' => w'.cell? ⟨P, 0, none⟩ = some (.int .i64 M)) (first | exact d0 | go_keep)
      (first | (go_at_call 95; refine (ri_len R9.out).mono ?_; rintro e w9 ⟨rfl, h9⟩; subst h9))
    have hMi : ¬ M < (U.length : Int) + 1 := by omega
    have hgoal : Hid (RiS S P M o (U ++ [u ++ l]) U.length W8.drew ∧ KeptK S w W8.drew) := Lib.hid ⟨R9.out, K9.out⟩
    clear d0
    go_wp2
    go_ret
    exact ⟨rfl, hgoal.out.1, hgoal.out.2⟩
set_option maxHeartbeats 8000000 in
/-- A text that comes ahead of the newest one. -/
theorem ri_push_ahead {U : List (List Sg2)} {u : List Sg2} (hr : RiS S P M o (U ++ [u]) h w) (l : List Sg2) (a : Option Addr) (c n : Nat) (hs : SlS S w a l c) (hn : l.length = n) (h0 : 0 < n) (hl : u.length + n ≤ 65536) (hok : sgC l = true) (ho : o ≤ 1000000) (hTM : ((U ++ [u]).length : Int) ≤ M) :
    Calls Tryd.prog 32 #[.pointer (some ⟨P, 0, none⟩), .slice a n c, .int .i64 2] w fun e w' => e = .returned (.int .i64 0) ∧ RiS S P M o (U ++ [l ++ u]) U.length w' ∧ KeptK S w w' := by
  obtain ⟨b, vs, zz, hmp0, hrt0, hbP, hS50⟩ := hr.ex
  obtain ⟨us, ua, un, uc, rfl, hrt1, hul, hus1⟩ := hrt0.split
  have hnu := hr.ne u (by simp)
  have hneU : ∀ t ∈ U, t ≠ [] ∧ t.length ≤ 65536 := fun t ht => hr.ne t (by simp [ht])
  rw [hul] at hnu hl
  have hun0 : 0 < un := by have := List.length_pos_iff.2 hnu.1; omega
  have CH := scheck_any l a c w (by omega) hs.s
  rw [hn, sgE_yes hok] at CH
  replace CH := Lib.hid CH
  obtain ⟨N, hN⟩ : ∃ N : Int, N = o + U.length := ⟨_, rfl⟩
  have hbd := hr.bd
  have hlen : ((U ++ [u]).length : Int) = (U.length : Int) + 1 := by simp
  have h0N : 0 ≤ N := by omega
  have hNb : N + 1 ≤ 1000000000 := by omega
  have eN : o + ((U ++ [u]).length : Int) = N + 1 := by omega
  have e4 : o + (h : Int) = o + (h : Int) := rfl
  rw [eN] at zz
  have HR := Lib.hid hr
  have HS := Lib.hid hs
  have HN := Lib.hid hn
  have hn0 : ¬ (n : Int) = 0 := by omega
  have hbig : ¬ (65536 : Int) < (un : Int) + (n : Int) := by omega
  have hup : (0 : Int) < (un : Int) := by omega
  have hTl : (0 : Int) < (U.length : Int) + 1 := by omega
  have HSl := Lib.hid hr.lt
  have hne1 : u ++ l ≠ [] := fun e => hnu.1 (List.append_eq_nil_iff.1 e).1
  have hne2 : l ++ u ≠ [] := fun e => hnu.1 (List.append_eq_nil_iff.1 e).2
  have LE := Lib.hid fun (w' : World) (h' : RiS S P M o (U ++ [u]) h w') => ri_len h'
  have HLK := Lib.hid fun (w' : World) (h' : MapF w' b o (us ++ [(ua, un, uc)])) => h'.look (j := us.length) (by simp)
  rw [hrt1.1, ← hN] at HLK
  have hgt : Hid ((us ++ [(ua, un, uc)]).getD U.length sl0 = (ua, un, uc)) := Lib.hid (by rw [getD_app1, if_neg (by rw [hrt1.1]; exact Nat.lt_irrefl _), if_pos hrt1.1.symm])
  rw [hgt.out] at HLK
  have hMl : (U.length : Int) + 1 ≤ M := by omega
  have hN1 : -9223372036854775808 ≤ N := by omega
  have hN2 : N ≤ 9223372036854775807 := by omega
  have hwN : IntKind.i64.wrap N = N := (by rw [IntKind.wrap_i64]; omega)
  replace hN := Lib.hid hN
  clear hr hs hn hok hgt e4 eN hlen hbd
  go_enter Tryd.func32, Tryd.ntmps32
  go_upto_region 7 with (first
    | (go_at_call 96; refine CH.out.mono ?_; rintro e w0 ⟨rfl, hb0⟩)
    | (go_at_call 95; refine (LE.out _ (HR.out.below hb0)).mono ?_; rintro e w9 ⟨rfl, h9⟩; subst h9))
  have Bd0 := hb0.trans ((Below.refl w0.heap.size w0).drew.mono hb0.size)
  have zd := blk_below zz Bd0
  have hmpd := hmp0.below Bd0
  have HL := HLK.out _ hmpd
  have y := fun i => cell_of_row _ _ i _ _ _ zd
  have x1 : w0.drew.cell? ⟨P, 1, none⟩ = some (.map (some b)) := y 1
  have x3 : w0.drew.cell? ⟨P, 3, none⟩ = some (.int .i64 (N + 1)) := y 3
  have HL2 : (Instr.lookup 116 (.map (some b)) (.int .i64 N) false).run Tryd.prog w0.drew = .ok (.slice ua un uc) w0.drew := HL
  have yf := fun i => frozen_of_row _ P i _ _ zd
  clear y HL
  go_region_held3 (fun w' => w'.cell? ⟨P, 1, none⟩ = some (.map (some b)) ∧ w'.cell? ⟨P, 3, none⟩ = some (.int .i64 (N + 1))) (first | exact ⟨x1, x3⟩ | go_keep) (fail)
  go_upto_region 15 with fail
  have zw := blk_below zz hb0
  have b3 : ((w0.setCell ⟨P, 3, none⟩ (.int .i64 N)).drew).heap[P]? = some (.cells #[.int .i64 M, .map (some b), .int .i64 o, .int .i64 N, .int .i64 (o + (h : Int))] 118 (0, 0)) := blk_set zw 3 (.int .i64 N)
  have BD3 : Below (w0.setCell ⟨P, 3, none⟩ (.int .i64 N)).heap.size (w0.setCell ⟨P, 3, none⟩ (.int .i64 N)) (w0.setCell ⟨P, 3, none⟩ (.int .i64 N)).drew := (Below.refl _ _).drew
  have hz0 : (w0.setCell ⟨P, 3, none⟩ (.int .i64 N)).drew.heap.size = w0.heap.size := by simp [World.setCell]
  have hkS : ∀ k, k ≠ P → (w0.setCell ⟨P, 3, none⟩ (.int .i64 N)).drew.heap[k]? = w0.heap[k]? := fun k hk => Below.heap_setCell _ _ _ _ hk
  have K0 := Lib.hid (((KeptK.of hb0 HSl.out).trans (kept_setK (fun k hk => (hS50 k hk).2.1) 3 (.int .i64 N))).trans (KeptK.of BD3 (fun k hk => Nat.lt_of_lt_of_le (hS50 k hk).1 (by show w.heap.size ≤ _; have := hb0.size; have := hz0; simpa [World.setCell] using hb0.size))))
  have hmp := (hmp0.below hb0).blk (hkS b hbP)
  have hrt := (hrt1.keep hb0.size (fun k hk _ _ => hb0.block k hk)).keep (Nat.le_of_eq hz0.symm) (fun k _ hk _ => hkS k hk)
  have hS5 : ∀ k, S k → k < (w0.setCell ⟨P, 3, none⟩ (.int .i64 N)).drew.heap.size ∧ k ≠ P ∧ k ≠ b := fun k hk => ⟨by rw [hz0]; exact Nat.lt_of_lt_of_le (hS50 k hk).1 hb0.size, (hS50 k hk).2⟩
  have hu := Lib.hid (((hus1.keep hb0.size (fun k hk => hb0.block k hk.1)).keep (Nat.le_of_eq hz0.symm) (fun k hk => hkS k hk.2.1)).mono (T := fun k => k < (w0.setCell ⟨P, 3, none⟩ (.int .i64 N)).drew.heap.size ∧ k ≠ P ∧ k ≠ b) (fun k hk => ⟨by rw [hz0]; exact Nat.lt_of_lt_of_le hk.1 hb0.size, hk.2⟩))
  have hlS := Lib.hid (((HS.out.keep hb0.size (fun k hk => hb0.block k (hS50 k hk).1)).keep (Nat.le_of_eq hz0.symm) (fun k hk => hkS k (hS50 k hk).2.1)).mono hS5)
  clear zd hmpd x1 x3 HL2 yf hz0 hkS Bd0 BD3 zw
  generalize (w0.setCell ⟨P, 3, none⟩ (.int .i64 N)).drew = W3 at *
  have Bd : Below W3.heap.size W3 W3.drew := (Below.refl _ _).drew
  have BA := Bd.trans (below_alloc W3.drew (.cells #[.slice a n c, .slice ua un uc] 22))
  have qA := heap_alloc_new W3.drew (.cells #[.slice a n c, .slice ua un uc] 22)
  have CO := Lib.hid ((by have := concat_sg l u W3.drew.heap.size a ua n un c uc _ _ qA (hlS.out.keep BA.size (fun k hk => BA.block k hk.1)) (hu.out.keep BA.size (fun k hk => BA.block k hk.1)) HN.out hul (by omega) (by omega); exact this))
  have y := fun i => cell_of_row _ _ i _ _ _ b3
  have d1 : W3.drew.cell? ⟨P, 1, none⟩ = some (.map (some b)) := y 1
  have d3 : W3.drew.cell? ⟨P, 3, none⟩ = some (.int .i64 N) := y 3
  have hPl := blk_lt b3
  have zA := Lib.hid (blk_below b3 BA)
  have a1 := (BA.cell (p := ⟨P, 1, none⟩) hPl).trans (y 1)
  have a3 := (BA.cell (p := ⟨P, 3, none⟩) hPl).trans (y 3)
  have BAh := Lib.hid BA
  try dsimp at a1
  try dsimp at a3
  clear y qA BA Bd
  go_region_held3 (fun w' => w'.cell? ⟨P, 1, none⟩ = some (.map (some b)) ∧ w'.cell? ⟨P, 3, none⟩ = some (.int .i64 N)) (first | exact ⟨d1, d3⟩ | exact ⟨a1, a3⟩ | exact ⟨m1, m3⟩ | exact ⟨p1, p3⟩ | go_keep)
    (first | (go_at_call 87; refine CO.out.mono ?_; rintro e w5 ⟨bd, d, rfl, hox, hb5⟩; have B5 := Lib.hid (BAh.out.trans (hb5.mono BAh.out.size)); have z5 := blk_below zA.out hb5; have m1 : w5.cell? ⟨P, 1, none⟩ = some (.map (some b)) := (by rw [cell_of_row _ _ _ _ _ _ z5]; rfl); have m3 : w5.cell? ⟨P, 3, none⟩ = some (.int .i64 N) := (by rw [cell_of_row _ _ _ _ _ _ z5]; rfl); have OX := Lib.hid hox; have hle5 := BAh.out.size; obtain ⟨w6, hrun, hP6, r8, k8⟩ := ri_last (S := S) z5 ((hmp.below BAh.out).below hb5) ((hrt.keep BAh.out.size (fun k hk _ _ => BAh.out.block k hk)).keep hb5.size (fun k hk _ _ => hb5.block k hk)) hbP (fun k hk => ⟨Nat.lt_of_lt_of_le (hS5 k hk).1 B5.out.size, (hS5 k hk).2⟩) hneU (t := l ++ u) (n := n + un) (d := d) (bd := bd) (by rw [List.length_append, hul, HN.out]) (by first | exact hne1 | exact hne2) (by omega) (by obtain ⟨a', c', e, hq⟩ := OX.out.sl; rw [List.length_append, hul, HN.out] at e; injection e with e1 e2 e3; subst e1; subst e3; exact hq.mono (fun k hk => ⟨hk.2, by have := hk.1; omega, by have := hk.1; have := hmp.lt; omega⟩)); rw [← hN.out] at hrun r8 k8; have z6 := hP6.trans z5; have p1 : w6.cell? ⟨P, 1, none⟩ = some (.map (some b)) := (by rw [cell_of_row _ _ _ _ _ _ z6]; rfl); have p3 : w6.cell? ⟨P, 3, none⟩ = some (.int .i64 N) := (by rw [cell_of_row _ _ _ _ _ _ z6]; rfl); have R8 := Lib.hid r8; have K8 := Lib.hid k8; have B5k := Lib.hid (K0.out.trans (KeptK.of B5.out (fun k hk => (hS5 k hk).1))); have Z6 := Lib.hid z6; clear hox hb5 r8 k8 hP6 hle5))
  all_goals
    have y := fun i => cell_of_row _ _ i _ _ _ Z6.out
    have g3 : w6.cell? ⟨P, 3, none⟩ = some (.int .i64 N) := y 3
    have g4 := y 4
    dsimp at g4
    have gf := fun i => frozen_of_row _ P i _ _ Z6.out
    have b4 := blk_set Z6.out 4 (.int .i64 N)
    have v3 : (w6.setCell ⟨P, 4, none⟩ (.int .i64 N)).cell? ⟨P, 3, none⟩ = some (.int .i64 N) := by rw [cell_of_row _ _ _ _ _ _ b4]; rfl
    have vf := fun i => frozen_of_row _ P i _ _ b4
    have b33 : ((w6.setCell ⟨P, 4, none⟩ (.int .i64 N)).setCell ⟨P, 3, none⟩ (.int .i64 (N + 1))).heap[P]? = some (.cells #[.int .i64 M, .map (some b), .int .i64 o, .int .i64 (N + 1), .int .i64 N] 118 (0, 0)) := blk_set b4 3 (.int .i64 (N + 1))
    have B3 := Lib.hid b33
    have hk1 : N + 1 ≤ 9223372036854775807 := by omega
    clear y b4 b33 b3 d1 d3 a1 a3 m1 m3 p1 p3 z5 z6 CO
    go_upto_region 19 with fail
    generalize (w6.setCell ⟨P, 4, none⟩ (.int .i64 N)).setCell ⟨P, 3, none⟩ (.int .i64 (N + 1)) = W8 at *
    clear g3 g4 gf v3 vf hrun
    have Bd : Below W8.heap.size W8 W8.drew := (Below.refl _ _).drew
    have R9 := Lib.hid (R8.out.below Bd)
    have hSl8 := R8.out.lt
    have K9 := Lib.hid ((B5k.out.trans K8.out).trans (KeptK.of Bd hSl8))
    have y := fun i => cell_of_row _ _ i _ _ _ B3.out
    have d0 : W8.drew.cell? ⟨P, 0, none⟩ = some (.int .i64 M) := y 0
    clear y Bd hSl8
    go_region_held3 (fun w' => w'.cell? ⟨P, 0, none⟩ = some (.int .i64 M)) (first | exact d0 | go_keep)
      (first | (go_at_call 95; refine (ri_len R9.out).mono ?_; rintro e w9 ⟨rfl, h9⟩; subst h9))
    have hMi : ¬ M < (U.length : Int) + 1 := by omega
    have hgoal : Hid (RiS S P M o (U ++ [l ++ u]) U.length W8.drew ∧ KeptK S w W8.drew) := Lib.hid ⟨R9.out, K9.out⟩
    clear d0
    go_wp2
    go_ret
    exact ⟨rfl, hgoal.out.1, hgoal.out.2⟩
end
end Go.Proofs.YtdnmjofenckndaaDoor
set_option linter.unusedVariables false
set_option linter.unusedSimpArgs false
namespace Go.Proofs.YtdnmjofenckndaaDoor
open Go.RowKit
/-- The texts behind a call of Push. -/
def puK (M : Int) (T : List (List Sg2)) (l : List Sg2) (how : Int) : List (List Sg2) :=
  if l = [] then T else if how = 0 ∨ T = [] then puT M (T ++ [l]) else if how = 1 then T.dropLast ++ [T.getLastD [] ++ l] else T.dropLast ++ [l ++ T.getLastD []]
/-- The hand behind a call of Push. -/
def puH (M : Int) (T : List (List Sg2)) (l : List Sg2) (how : Int) (h : Nat) : Nat := if l = [] then h else (puK M T l how).length - 1
theorem snoc_of {T : List (List Sg2)} (h : T ≠ []) : ∃ U u, T = U ++ [u] := ⟨T.dropLast, T.getLast h, (List.dropLast_concat_getLast h).symm⟩
section
variable {S : Nat → Prop} {P : Nat} {M o : Int} {T : List (List Sg2)} {h : Nat} {w w' : World}
set_option maxHeartbeats 4000000 in
/-- An empty text. -/
theorem ri_push_nil (hr : RiS S P M o T h w) (a : Option Addr) (c : Nat) (how : Int) (hw : how = 0 ∨ how = 1 ∨ how = 2) :
    Calls Tryd.prog 32 #[.pointer (some ⟨P, 0, none⟩), .slice a 0 c, .int .i64 how] w fun e w' => e = .returned (.int .i64 0) ∧ Below w.heap.size w w' := by
  have CH := scheck_any [] a c w (by simp) (fun i hi => by simp at hi)
  rw [sgE_yes rfl] at CH
  replace CH := Lib.hid CH
  rcases hw with rfl | hw
  · go_enter Tryd.func32, Tryd.ntmps32
    go_wp2_with (go_at_call 96; refine CH.out.mono ?_; rintro e w0 ⟨rfl, hb0⟩)
    go_ret
    exact ⟨rfl, hb0⟩
  by_cases hT : T = []
  · subst hT
    have HR := Lib.hid hr
    have LE := Lib.hid fun (w' : World) (h' : RiS S P M o [] h w') => ri_len h'
    rcases hw with rfl | rfl
    · go_enter Tryd.func32, Tryd.ntmps32
      go_wp2_with (first
        | (go_at_call 96; refine CH.out.mono ?_; rintro e w0 ⟨rfl, hb0⟩)
        | (go_at_call 95; refine (LE.out _ (HR.out.below hb0)).mono ?_; rintro e w9 ⟨rfl, h9⟩; subst h9))
      go_ret
      exact ⟨rfl, hb0⟩
    · go_enter Tryd.func32, Tryd.ntmps32
      go_wp2_with (first
        | (go_at_call 96; refine CH.out.mono ?_; rintro e w0 ⟨rfl, hb0⟩)
        | (go_at_call 95; refine (LE.out _ (HR.out.below hb0)).mono ?_; rintro e w9 ⟨rfl, h9⟩; subst h9))
      go_ret
      exact ⟨rfl, hb0⟩
  obtain ⟨U, u, rfl⟩ := snoc_of hT
  obtain ⟨b, vs, zz, hmp0, hrt0, hbP, hS50⟩ := hr.ex
  obtain ⟨us, ua, un, uc, rfl, hrt1, hul, hus1⟩ := hrt0.split
  have hnu := hr.ne u (by simp)
  rw [hul] at hnu
  obtain ⟨N, hN⟩ : ∃ N : Int, N = o + U.length := ⟨_, rfl⟩
  have hbd := hr.bd
  have hlen : ((U ++ [u]).length : Int) = (U.length : Int) + 1 := by simp
  have h0N : 0 ≤ N := by omega
  have hNb : N + 1 ≤ 1000000000 := by omega
  have eN : o + ((U ++ [u]).length : Int) = N + 1 := by omega
  rw [eN] at zz
  have HR := Lib.hid hr
  have hbig : ¬ (65536 : Int) < (un : Int) := by omega
  have hTl : (0 : Int) < (U.length : Int) + 1 := by omega
  have LE := Lib.hid fun (w' : World) (h' : RiS S P M o (U ++ [u]) h w') => ri_len h'
  have HLK := Lib.hid fun (w' : World) (h' : MapF w' b o (us ++ [(ua, un, uc)])) => h'.look (j := us.length) (by simp)
  rw [hrt1.1, ← hN] at HLK
  have hgt : Hid ((us ++ [(ua, un, uc)]).getD U.length sl0 = (ua, un, uc)) := Lib.hid (by rw [getD_app1, if_neg (by rw [hrt1.1]; exact Nat.lt_irrefl _), if_pos hrt1.1.symm])
  rw [hgt.out] at HLK
  have hN1 : -9223372036854775808 ≤ N := by omega
  have hN2 : N ≤ 9223372036854775807 := by omega
  have hwN : IntKind.i64.wrap N = N := (by rw [IntKind.wrap_i64]; omega)
  replace hN := Lib.hid hN
  clear hr hgt eN hlen hbd hrt1 hrt0 hnu
  rcases hw with rfl | rfl
  · go_enter Tryd.func32, Tryd.ntmps32
    go_upto_region 7 with (first
      | (go_at_call 96; refine CH.out.mono ?_; rintro e w0 ⟨rfl, hb0⟩)
      | (go_at_call 95; refine (LE.out _ (HR.out.below hb0)).mono ?_; rintro e w9 ⟨rfl, h9⟩; subst h9))
    have Bd0 := hb0.trans ((Below.refl w0.heap.size w0).drew.mono hb0.size)
    have zd := blk_below zz Bd0
    have HL := HLK.out _ (hmp0.below Bd0)
    have y := fun i => cell_of_row _ _ i _ _ _ zd
    have x1 : w0.drew.cell? ⟨P, 1, none⟩ = some (.map (some b)) := y 1
    have x3 : w0.drew.cell? ⟨P, 3, none⟩ = some (.int .i64 (N + 1)) := y 3
    have HL2 : (Instr.lookup 116 (.map (some b)) (.int .i64 N) false).run Tryd.prog w0.drew = .ok (.slice ua un uc) w0.drew := HL
    clear y HL
    go_region_held3 (fun w' => w'.cell? ⟨P, 1, none⟩ = some (.map (some b)) ∧ w'.cell? ⟨P, 3, none⟩ = some (.int .i64 (N + 1))) (first | exact ⟨x1, x3⟩ | go_keep) (fail)
    go_wp2
    go_ret
    exact ⟨rfl, Bd0⟩
  · go_enter Tryd.func32, Tryd.ntmps32
    go_upto_region 7 with (first
      | (go_at_call 96; refine CH.out.mono ?_; rintro e w0 ⟨rfl, hb0⟩)
      | (go_at_call 95; refine (LE.out _ (HR.out.below hb0)).mono ?_; rintro e w9 ⟨rfl, h9⟩; subst h9))
    have Bd0 := hb0.trans ((Below.refl w0.heap.size w0).drew.mono hb0.size)
    have zd := blk_below zz Bd0
    have HL := HLK.out _ (hmp0.below Bd0)
    have y := fun i => cell_of_row _ _ i _ _ _ zd
    have x1 : w0.drew.cell? ⟨P, 1, none⟩ = some (.map (some b)) := y 1
    have x3 : w0.drew.cell? ⟨P, 3, none⟩ = some (.int .i64 (N + 1)) := y 3
    have HL2 : (Instr.lookup 116 (.map (some b)) (.int .i64 N) false).run Tryd.prog w0.drew = .ok (.slice ua un uc) w0.drew := HL
    clear y HL
    go_region_held3 (fun w' => w'.cell? ⟨P, 1, none⟩ = some (.map (some b)) ∧ w'.cell? ⟨P, 3, none⟩ = some (.int .i64 (N + 1))) (first | exact ⟨x1, x3⟩ | go_keep) (fail)
    go_wp2
    go_ret
    exact ⟨rfl, Bd0⟩
/-- A call of Push with signs that may be. -/
theorem ri_push (hr : RiS S P M o T h w) (l : List Sg2) (a : Option Addr) (c n : Nat) (how : Int) (hs : SlS S w a l c) (hn : l.length = n) (hsz : ∀ t ∈ T, t.length + n ≤ 65536) (hl : n ≤ 65536) (hok : sgC l = true) (hw : how = 0 ∨ how = 1 ∨ how = 2) (hM1 : 1 ≤ M) (hM2 : M ≤ 1000) (ho : o ≤ 1000000) (hTM : (T.length : Int) ≤ M) :
    Calls Tryd.prog 32 #[.pointer (some ⟨P, 0, none⟩), .slice a n c, .int .i64 how] w fun e w' => e = .returned (.int .i64 0) ∧ (∃ o', o' ≤ o + 1 ∧ RiS S P M o' (puK M T l how) (puH M T l how h) w') ∧ KeptK S w w' := by
  by_cases h0 : l = []
  · subst h0
    subst hn
    refine (ri_push_nil hr a c how hw).mono ?_
    rintro e w' ⟨rfl, hb⟩
    exact ⟨rfl, ⟨o, by omega, hr.below hb⟩, KeptK.of hb hr.lt⟩
  have h0n : 0 < n := by have := List.length_pos_iff.2 h0; omega
  by_cases hc : how = 0 ∨ T = []
  · have hp : puK M T l how = puT M (T ++ [l]) := by unfold puK; rw [if_neg h0, if_pos hc]
    have hh : puH M T l how h = (puT M (T ++ [l])).length - 1 := by unfold puH; rw [if_neg h0, hp]
    rw [hp, hh]
    exact ri_push_new hr l a c n how S hs hn h0n hl hok (by rcases hc with h1 | h1; exact Or.inl h1; rcases hw with h2 | h2; exact Or.inl h2; exact Or.inr ⟨h1, h2⟩) (by omega) ho hM1
  have hT : T ≠ [] := fun e => hc (Or.inr e)
  obtain ⟨U, u, rfl⟩ := snoc_of hT
  have hh : puH M (U ++ [u]) l how h = (puK M (U ++ [u]) l how).length - 1 := by unfold puH; rw [if_neg h0]
  rw [hh]
  rcases hw with rfl | rfl | rfl
  · exact absurd (Or.inl rfl) hc
  · have hp : puK M (U ++ [u]) l 1 = U ++ [u ++ l] := by unfold puK; rw [if_neg h0, if_neg hc, if_pos rfl]; simp
    rw [hp]
    refine (ri_push_behind hr l a c n hs hn h0n (hsz u (by simp)) hok ho hTM).mono ?_
    rintro e w' ⟨rfl, h1, h2⟩
    exact ⟨rfl, ⟨o, by omega, by simpa using h1⟩, h2⟩
  · have hp : puK M (U ++ [u]) l 2 = U ++ [l ++ u] := by unfold puK; rw [if_neg h0, if_neg hc, if_neg (by decide)]; simp
    rw [hp]
    refine (ri_push_ahead hr l a c n hs hn h0n (hsz u (by simp)) hok ho hTM).mono ?_
    rintro e w' ⟨rfl, h1, h2⟩
    exact ⟨rfl, ⟨o, by omega, by simpa using h1⟩, h2⟩
theorem puT_len (hM : 1 ≤ M) (T : List (List Sg2)) (hT : (T.length : Int) ≤ M + 1) : ((puT M T).length : Int) ≤ M := by
  unfold puT
  split
  · rw [List.length_tail]; omega
  · omega
theorem puK_len (hM : 1 ≤ M) (l : List Sg2) (how : Int) (hT : (T.length : Int) ≤ M) : ((puK M T l how).length : Int) ≤ M := by
  unfold puK
  split
  · exact hT
  · split
    · exact puT_len hM _ (by simp; omega)
    · rename_i h1 h2
      have : T ≠ [] := fun e => h2 (Or.inr e)
      have := List.length_pos_iff.2 this
      split <;> (rw [List.length_append, List.length_dropLast, List.length_singleton]; omega)
theorem puT_mem {x : List Sg2} (T : List (List Sg2)) (h : x ∈ puT M T) : x ∈ T := by
  unfold puT at h
  split at h
  · exact List.mem_of_mem_tail h
  · exact h
/-- How long texts are. -/
theorem puK_mem {l : List Sg2} {how : Int} {x : List Sg2} {m : Nat} (hT : ∀ t ∈ T, t.length ≤ m) (h : x ∈ puK M T l how) : x.length ≤ m + l.length := by
  unfold puK at h
  split at h
  · have := hT x h; omega
  · split at h
    · have := puT_mem _ h
      rcases List.mem_append.1 this with h1 | h1
      · have := hT x h1; omega
      · rw [List.mem_singleton] at h1; subst h1; omega
    · rename_i h1 h2
      have hne : T ≠ [] := fun e => h2 (Or.inr e)
      obtain ⟨U, u, rfl⟩ := snoc_of hne
      have hu := hT u (by simp)
      split at h
      · rcases List.mem_append.1 h with h3 | h3
        · have := hT x (by simp at h3; simp [h3]); omega
        · rw [List.mem_singleton] at h3; subst h3; simp; omega
      · rcases List.mem_append.1 h with h3 | h3
        · have := hT x (by simp at h3; simp [h3]); omega
        · rw [List.mem_singleton] at h3; subst h3; simp; omega
end
end Go.Proofs.YtdnmjofenckndaaDoor
set_option linter.unusedVariables false
set_option linter.unusedSimpArgs false
namespace Go.Proofs.YtdnmjofenckndaaDoor
open Go.RowKit
theorem run_append_placeK {P : Program} (w : World) (base : Nat) (t ty e : TypeId) (i : TypeInfo) (z : Value) (size bytes : Nat) (ht : P.underlying t = some (.slice e)) (hi : P.info? e = some i) (hz : i.zero = some z)
    (hsize : i.size = size) (hby : i.bytes = bytes) (hzs : z.cells.size = size) (hsz : 0 < size)
    (v : Value) (n : Nat) (xs : List Value) (hown : w.ownsRow base e size v n xs)
    (a : Addr) (m c : Nat) (news : List Value) (hl : news.length = m * size) (hnews : ∀ j u, news[j]? = some u → w.cell? (a.add j) = some u) (h1 : ∀ u ∈ news, u.oneCell' = true)
    (h63 : n + m ≤ maxLen) (hbytes : (n + m) * bytes ≤ 140737488355328) (hbase : base ≤ w.heap.size) :
    ∃ v' w', (Builtin.append_ #[t, t] ty #[v, .slice (some a) m c]).run P w = .ok v' w' ∧ w'.ownsRow base e size v' (n + m) (xs ++ news) ∧ w.grownBy w' v.ownBlock ∧
      (∀ k, v'.ownBlock = some k → v.ownBlock = some k ∨ w.heap.size ≤ k) := by
  obtain ⟨v', w', hr, h2, h3, _⟩ := run_append_own (P := P) w base t ty e i z size bytes ht hi hz hsize hby hzs hsz v n xs hown a m c news hl hnews h1 h63 hbytes hbase
  refine ⟨v', w', hr, h2, h3, fun k hk => ?_⟩
  rcases hown.2 with ⟨rfl, rfl⟩ | ⟨g, cap, cur, rfl, hbg, hg, hnc, hcm, hcs, htake⟩
  · obtain ⟨v2, w2, hr2, h4, _⟩ := run_append_own (P := P) w w.heap.size t ty e i z size bytes ht hi hz hsize hby hzs hsz _ 0 xs ⟨hown.1, .inl ⟨rfl, rfl⟩⟩ a m c news hl hnews h1 h63 hbytes (Nat.le_refl _)
    rw [hr] at hr2
    injection hr2 with e1 e2
    subst e1
    exact Or.inr (h4.lt k hk).1
  · subst hsize; subst hby
    by_cases hroom : n + m ≤ cap
    · have hr2 := run_append_room (P := P) w t ty e i ht hi g n cap cur hg a m c news hl hnews h1 hroom (by rw [hl, hcs, ← Nat.add_mul]; exact Nat.mul_le_mul_right _ hroom)
      rw [hr] at hr2
      injection hr2 with e1 e2
      subst e1
      exact Or.inl hk
    · have holds := hown.cells (g := g) rfl
      have hr2 := run_append_grow (P := P) w t ty e i z ht hi hz ⟨g, 0, none⟩ n cap xs hown.1 holds a m c news hl hnews (by omega) (by unfold maxLen at h63; omega) (growslice_fits (by omega) hbytes)
      rw [hr] at hr2
      injection hr2 with e1 e2
      subst e1
      simp [Value.ownBlock] at hk
      exact Or.inr (by omega)
/-- A row of slices of the call's own. -/
abbrev OwR1 (w : World) (B : Nat) (v : Value) (vs : List Value) : Prop := w.ownsRow B 22 1 v vs.length vs
theorem OwR1.form {w : World} {B n : Nat} {v : Value} {vs : List Value} (h : OwR1 w B v vs) (hn : vs.length = n) : ∃ a c, v = .slice a n c := by
  rcases h.2 with ⟨rfl, h0⟩ | ⟨g, cap, cur, rfl, _⟩
  · exact ⟨none, 0, by rw [← hn, h0]⟩
  · exact ⟨_, cap, by rw [hn]⟩
theorem OwR1.below {w w' : World} {B : Nat} {v : Value} {vs : List Value} (h : OwR1 w B v vs) (hb : Below w.heap.size w w') : OwR1 w' B v vs :=
  World.ownsRow.kept h (row := none) ⟨hb.os, hb.tape, hb.output, hb.size, fun k hk _ => hb.block k hk⟩ (by cases v.ownBlock <;> simp)
theorem step_app_sl {w : World} {ops : Array Oper} {o : Oper} {a : Act} {K : Act → World → Prop} {Q : Exit → Act → World → Prop} {E : Prop} (hgd : Region.wanted o (yielded ops a.tmps) = true) (s x : Operand)
    (ho : o.op = .call { callee := .builtin .append, args := #[s, x], argTypes := #[43, 43] }) (base : Nat)
    (v : Value) (np : Nat) (p : List Value) (hs : a.eval s = v) (hp : p.length = np) (hown : OwR1 w base v p) (ad : Option Addr) (n c : Nat) (l : List Value) (hx : a.eval x = .slice ad n c) (hl : l.length = n) (hsg : ∀ b, ad = some b → ∀ j u, l[j]? = some u → w.cell? (b.add j) = some u) (h1 : ∀ u ∈ l, u.oneCell' = true) (hnl : ad = none → c = 0 ∧ n = 0)
    (hlen : np + n ≤ 1000000) (hbase : base ≤ w.heap.size)
    (h : ∀ ad' c' w', OwR1 w' base (.slice ad' (np + n) c') (p ++ l) → w.grownBy w' v.ownBlock → (∀ k, (Value.slice ad' (np + n) c').ownBlock = some k → v.ownBlock = some k ∨ w.heap.size ≤ k) → K (a.put o.dst (.slice ad' (np + n) c')) w') :
    if Region.wanted o (yielded ops a.tmps) = true then Oper.wp Tryd.prog o a w K Q else E := by
  obtain ⟨i0, hi, hz0, hz1, hz2⟩ := info_parts infoSl
  subst hl; subst hp
  rw [if_pos hgd]
  have hfin : ∀ v' w', OwR1 w' base v' (p ++ l) → w.grownBy w' v.ownBlock → (∀ k, v'.ownBlock = some k → v.ownBlock = some k ∨ w.heap.size ≤ k) → K (a.put o.dst v') w' := by
    intro v' w' h1 h2 h3
    obtain ⟨ad', c', rfl⟩ := h1.form (n := p.length + l.length) (by rw [List.length_append])
    exact h ad' c' w' h1 h2 h3
  cases ad with
  | none =>
    obtain ⟨rfl, h0⟩ := hnl rfl
    have hnil : l = [] := List.eq_nil_of_length_eq_zero h0
    subst hnil
    have hrun := run_append_owned_none (P := Tryd.prog) (w := w) base 43 o.type 22 i0 1 Tryd.underlying43 hi v p.length _ hown
    have h' := hfin v w (by rw [List.append_nil]; exact hown) ⟨rfl, rfl, rfl, Nat.le_refl _, fun _ _ _ => rfl⟩ (fun k hk => Or.inl hk)
    unfold Oper.wp
    simp only [List.length_nil] at hx
    simp [execOp, ho, resolve, invoke, builtin, hs, hx, hrun, Result.andThen]
    exact h'
  | some ad =>
    obtain ⟨v', w', hr, a1, a2, a3⟩ := run_append_placeK (P := Tryd.prog) w base 43 o.type 22 i0 _ 1 24 Tryd.underlying43 hi hz0 hz1 hz2 rfl (by decide) v p.length _ hown ad l.length c l (Nat.mul_one _).symm (hsg _ rfl) h1 (by unfold maxLen; omega) (by omega) hbase
    have h' := hfin v' w' (by unfold OwR1; rw [List.length_append]; exact a1) a2 a3
    unfold Oper.wp execOp
    simp only [ho, resolve, invoke, builtin, Sem.run_bind, Sem.run_pure, Result.andThen_ok, List.map_toArray, List.map_cons, List.map_nil, hs, hx, hr]
    exact h'
theorem wpList_app_sl {w : World} {ops : Array Oper} {rest : List Oper} {o : Oper} {a : Act} {Q : Exit → Act → World → Prop} (hgd : Region.wanted o (yielded ops a.tmps) = true) (s x : Operand)
    (ho : o.op = .call { callee := .builtin .append, args := #[s, x], argTypes := #[43, 43] }) (base : Nat)
    (v : Value) (np : Nat) (p : List Value) (hs : a.eval s = v) (hp : p.length = np) (hown : OwR1 w base v p) (ad : Option Addr) (n c : Nat) (l : List Value) (hx : a.eval x = .slice ad n c) (hl : l.length = n) (hsg : ∀ b, ad = some b → ∀ j u, l[j]? = some u → w.cell? (b.add j) = some u) (h1 : ∀ u ∈ l, u.oneCell' = true) (hnl : ad = none → c = 0 ∧ n = 0)
    (hlen : np + n ≤ 1000000) (hbase : base ≤ w.heap.size)
    (h : ∀ ad' c' w', OwR1 w' base (.slice ad' (np + n) c') (p ++ l) → w.grownBy w' v.ownBlock → (∀ k, (Value.slice ad' (np + n) c').ownBlock = some k → v.ownBlock = some k ∨ w.heap.size ≤ k) → wpList Tryd.prog ops Q rest (a.put o.dst (.slice ad' (np + n) c')) w') : wpList Tryd.prog ops Q (o :: rest) a w :=
  wpList_step fun K hK => step_app_sl hgd s x ho base v np p hs hp hown ad n c l hx hl hsg h1 hnl hlen hbase (fun ad' c' w' h1 h2 h3 => hK _ _ (h ad' c' w' h1 h2 h3))
/-- The texts of a row of slices. -/
def Els (S : Nat → Prop) (w : World) (vs : List Value) (E : List (List Sg2)) : Prop := vs.length = E.length ∧ ∀ i, i < E.length → ∃ ai ci, vs[i]? = some (.slice ai (E.getD i []).length ci) ∧ SlS S w ai (E.getD i []) ci
theorem Els.keep {S : Nat → Prop} {w w' : World} {vs : List Value} {E : List (List Sg2)} (h : Els S w vs E) (hs : w.heap.size ≤ w'.heap.size) (hk : ∀ k, S k → w'.heap[k]? = w.heap[k]?) : Els S w' vs E :=
  ⟨h.1, fun i hi => by obtain ⟨ai, ci, e, hx⟩ := h.2 i hi; exact ⟨ai, ci, e, hx.keep hs hk⟩⟩
theorem Els.mono {S Q : Nat → Prop} {w : World} {vs : List Value} {E : List (List Sg2)} (h : Els S w vs E) (hQ : ∀ k, S k → Q k) : Els Q w vs E :=
  ⟨h.1, fun i hi => by obtain ⟨ai, ci, e, hx⟩ := h.2 i hi; exact ⟨ai, ci, e, hx.mono hQ⟩⟩
theorem Els.one {S : Nat → Prop} {w : World} {vs : List Value} {E : List (List Sg2)} (h : Els S w vs E) : ∀ u ∈ vs, u.oneCell' = true := by
  intro u hu
  obtain ⟨i, hi, rfl⟩ := List.getElem_of_mem hu
  obtain ⟨ai, ci, e, _⟩ := h.2 i (by rw [← h.1]; exact hi)
  rw [List.getElem?_eq_getElem hi] at e
  injection e with e
  rw [e]; rfl
theorem getD_snoc (E : List (List Sg2)) (l : List Sg2) (i : Nat) : (E ++ [l]).getD i [] = if i < E.length then E.getD i [] else if i = E.length then l else [] := by
  split
  · rename_i h; rw [List.getD, List.getElem?_append_left h, List.getD]
  · split
    · rename_i h1 h2; subst h2; rw [List.getD, List.getElem?_append_right (Nat.le_refl _), Nat.sub_self]; rfl
    · rename_i h1 h2; rw [List.getD, List.getElem?_eq_none (by simp; omega)]; rfl
theorem Els.snoc {S : Nat → Prop} {w : World} {vs : List Value} {E : List (List Sg2)} (h : Els S w vs E) {a : Option Addr} {n c : Nat} {l : List Sg2} (hn : l.length = n) (hl : SlS S w a l c) : Els S w (vs ++ [.slice a n c]) (E ++ [l]) := by
  refine ⟨by simp [h.1], fun i hi => ?_⟩
  rw [List.length_append, List.length_singleton] at hi
  rw [getD_snoc]
  by_cases hlt : i < E.length
  · rw [if_pos hlt]
    obtain ⟨ai, ci, e, hx⟩ := h.2 i hlt
    exact ⟨ai, ci, by rw [List.getElem?_append_left (by rw [h.1]; exact hlt)]; exact e, hx⟩
  · obtain rfl : i = E.length := by omega
    rw [if_neg hlt, if_pos rfl]
    exact ⟨a, c, by rw [List.getElem?_append_right (by rw [h.1]; exact Nat.le_refl _), h.1, Nat.sub_self, hn]; rfl, hl⟩
/-- The newest one, another. -/
theorem Els.last {S : Nat → Prop} {w : World} {vs : List Value} {U : List (List Sg2)} {u : List Sg2} (h : Els S w vs (U ++ [u])) {a : Option Addr} {n c : Nat} {l : List Sg2} (hn : l.length = n) (hl : SlS S w a l c) : Els S w (vs.set U.length (.slice a n c)) (U ++ [l]) := by
  refine ⟨by simpa using h.1, fun i hi => ?_⟩
  rw [List.length_append, List.length_singleton] at hi
  have hvl : U.length < vs.length := by have := h.1; simp at this; omega
  rw [getD_snoc]
  by_cases hlt : i < U.length
  · rw [if_pos hlt]
    obtain ⟨ai, ci, e, hx⟩ := h.2 i (by simp; omega)
    rw [getD_snoc, if_pos hlt] at e hx
    exact ⟨ai, ci, by rw [List.getElem?_set_ne (by omega)]; exact e, hx⟩
  · obtain rfl : i = U.length := by omega
    rw [if_neg hlt, if_pos rfl]
    exact ⟨a, c, by rw [List.getElem?_set_self hvl, hn], hl⟩
/-- Texts that lie, as a list of slices. -/
theorem SgsK.els {S : Nat → Prop} {w : World} {a : Option Addr} {H : List (List Sg2)} (s : SgsK S w a H) : ∃ vs, Els S w vs H ∧ ∀ b, a = some b → ∀ j u, vs[j]? = some u → w.cell? (b.add j) = some u := by
  cases H with
  | nil => exact ⟨[], ⟨rfl, fun i hi => absurd hi (Nat.not_lt_zero i)⟩, fun b _ j u h => by simp at h⟩
  | cons x H =>
    obtain ⟨b, off, _, _, rfl, _⟩ := s 0 (by simp)
    refine ⟨(List.range (x :: H).length).map (fun i => (w.cell? ⟨b, off + i, none⟩).getD (.int .i64 0)), ⟨by simp, fun i hi => ?_⟩, fun b' e j u hj => ?_⟩
    · obtain ⟨b2, off2, ai, ci, e, _, _, h1, h2⟩ := s i hi
      injection e with e; injection e with e1 e2; subst e1; subst e2
      exact ⟨ai, ci, by rw [List.getElem?_map, List.getElem?_range hi]; simp [h1], h2⟩
    · injection e with e; subst e
      have hjl : j < (x :: H).length := by
        have := (List.getElem?_eq_some_iff.1 hj).1
        simpa using this
      obtain ⟨b2, off2, ai, ci, e, _, _, h1, h2⟩ := s j hjl
      injection e with e; injection e with e1 e2; subst e1; subst e2
      rw [List.getElem?_map, List.getElem?_range hjl] at hj
      simp only [Option.map_some, h1, Option.getD_some] at hj
      rw [← hj]
      have hadd : (⟨b, off, none⟩ : Addr).add j = ⟨b, off + j, none⟩ := by unfold Addr.add; split <;> simp_all
      rw [hadd]; exact h1
end Go.Proofs.YtdnmjofenckndaaDoor
