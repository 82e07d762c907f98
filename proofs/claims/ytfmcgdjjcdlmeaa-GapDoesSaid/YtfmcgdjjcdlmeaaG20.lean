/-
  The document's lines: signs that come, signs that go.
-/
import Derived.Test.YtfmcgdjjcdlmeaaAp
import Derived.Test.YtfmcgdjjcdlmeaaG8
import Derived.Test.YtfmcgdjjcdlmeaaOw
import Derived.Deep.RegionHeld3
set_option linter.unusedVariables false
set_option linter.unusedSimpArgs false
namespace Go.Proofs.Ytfmcgdjjcdlmeaa
set_option maxRecDepth 100000
open Go.RowKit
/-- A line that a call made. -/
def LnNew (w : World) (L : List Sn) (N : Nat) (at_ : Int) (e : Ending) (w' : World) : Prop :=
  ∃ a c, e = .returned (.agg #[.slice a N c, .int .i64 at_]) ∧ L.length = N ∧ SlS (fun k => w.heap.size ≤ k ∧ k < w'.heap.size) w' a L c ∧ Below w.heap.size w w'
/-- Behind a draw and an append the box of a line reads as before. -/
theorem cell_grown {w w' : World} {p : Addr} {v : Value} {r : Option Nat} (h : w.cell? p = some v) (hg : w.drew.grownBy w' r) (hne : some p.block ≠ r) : w'.cell? p = some v := hg.cell (w := w.drew) h hne
theorem ows_ne {w : World} {B : Nat} {v : Value} {L : List Sn} (h : OwS w B v L) (b : Nat) (hb : b < B) : some b ≠ v.ownBlock := fun e => by
  have := (h.lt b e.symm).1; omega
theorem far2 {w : World} {p q i j k : Nat} {u v : Value} (h : p ≠ q) : ((w.setCell ⟨p, i, none⟩ u).setCell ⟨p, j, none⟩ v).cell? ⟨q, k, none⟩ = w.cell? ⟨q, k, none⟩ := by
  unfold World.cell?
  rw [Below.heap_setCell _ _ _ _ (Ne.symm h), Below.heap_setCell _ _ _ _ (Ne.symm h)]
set_option maxHeartbeats 4000000 in
theorem rins_any (S : Nat → Prop) (L l : List Sn) (a b : Option Addr) (c d m n at_ : Nat) (w : World) (hm : L.length = m) (hl : l.length = n) (hL : m ≤ 90000) (hn : n ≤ 1000) (hat : at_ ≤ m) (ha : SlS S w a L c) (hb : SlS S w b l d) :
    Calls Try.prog 10 #[.agg #[.slice a m c, .int .i64 (at_ : Int)], .slice b n d] w (LnNew w (L.take at_ ++ l ++ L.drop at_) (m + n) ((at_ : Int) + (n : Int))) := by
  subst hm
  have N0 := below_alloc w (.cells #[.slice a L.length c, .int .i64 (at_ : Int)] 30)
  have q0 := heap_alloc_new w (.cells #[.slice a L.length c, .int .i64 (at_ : Int)] 30)
  obtain ⟨W, hW⟩ : ∃ W, w.alloc (.cells #[.slice a L.length c, .int .i64 (at_ : Int)] 30) = W := ⟨_, rfl⟩
  rw [hW] at N0 q0
  have N1 := seqB N0 (below_alloc W (.cells #[.slice none 0 0, .int .i64 0] 30))
  have q1 := blk_below q0 (below_alloc W (.cells #[.slice none 0 0, .int .i64 0] 30))
  have r1 := heap_alloc_new W (.cells #[.slice none 0 0, .int .i64 0] 30)
  obtain ⟨W1, hW1⟩ : ∃ W1, W.alloc (.cells #[.slice none 0 0, .int .i64 0] 30) = W1 := ⟨_, rfl⟩
  rw [hW1] at N1 q1 r1
  have hsW : Hid (W.heap.size = w.heap.size + 1 ∧ W1.heap.size = w.heap.size + 2) := Lib.hid (by rw [← hW1, ← hW]; simp)
  have hle := ha.le
  obtain ⟨A1, hA1⟩ : ∃ x : Option Addr, (if c = 0 then a else a.map (·.add (0 * 2))) = x := ⟨_, rfl⟩
  obtain ⟨A2, hA2⟩ : ∃ x : Option Addr, (if c = at_ then a else a.map (·.add (at_ * 2))) = x := ⟨_, rfl⟩
  obtain ⟨s1, l1⟩ := (ha.below N1).sub 0 at_ (Nat.zero_le _) hat
  obtain ⟨s2, l2⟩ := (ha.below N1).sub at_ L.length hat (Nat.le_refl _)
  rw [hA1] at s1; rw [hA2] at s2
  rw [List.drop_zero, Nat.sub_zero] at s1 l1
  rw [Nat.sub_zero] at s1
  have l2' : (L.drop at_).length = L.length - at_ := List.length_drop
  rw [List.take_of_length_le (by omega)] at s2
  have hcut1 : ∀ w : World, (Instr.slice 28 (.slice a L.length c) none (some (.int .i64 (at_ : Int))) none).run Try.prog w = .ok (.slice A1 at_ c) w := fun w => by
    rw [run_cutH w a L.length c at_ (by omega), hA1]
  have hcut2 : ∀ w : World, (Instr.slice 28 (.slice a L.length c) (some (.int .i64 (at_ : Int))) none none).run Try.prog w = .ok (.slice A2 (L.length - at_) (c - at_)) w := fun w => by
    rw [run_cutL w a L.length c at_ (by omega), hA2]
  have JN := Lib.hid (joinS_ref S (L.take at_) l A1 b c d at_ n W1 l1 hl (by omega) (by omega) s1 (hb.below N1))
  have HS2 := Lib.hid s2
  have HL2 := Lib.hid l2'
  have HL1 := Lib.hid (by rw [List.length_append, l1, hl] : (L.take at_ ++ l).length = at_ + n)
  have zz := fun i => cell_of_row _ _ i _ _ _ q1
  have z0 := zz 0; have z1 := zz 1
  have yf := fun i => frozen_of_row _ W.heap.size i _ _ r1
  dsimp at z0 z1
  have R1 := Lib.hid r1
  have Q1 := Lib.hid q1
  have hH : Hid (w.heap.size < W1.heap.size) := Lib.hid (by have := hsW.out; omega)
  clear hA1 hA2 s1 s2 l1 l2 l2' hb ha q0 q1 r1 zz N0
  go_enter Try.func10, Try.ntmps10
  go_upto_region 1 with fail
  clear hW
  have hWne : Hid (W.heap.size ≠ w.heap.size) := Lib.hid (by have := hsW.out; omega)
  have hwr : IntKind.i64.wrap ((at_ : Int) + (n : Int)) = (at_ : Int) + (n : Int) := by rw [IntKind.wrap_i64]; omega
  go_upto_region 2 with (go_at_call 28; refine JN.out.mono ?_; rintro x w2 ⟨ad2, c2, rfl, o2, b2⟩; have O2 := Lib.hid o2; have N2 := seqB N1 b2; have z02 := (b2.cell (p := ⟨w.heap.size, 0, none⟩) hH.out).trans z0; have z12 := (b2.cell (p := ⟨w.heap.size, 1, none⟩) hH.out).trans z1; have R2 := Lib.hid (blk_below R1.out b2); have S2 := Lib.hid (HS2.out.below b2); have B2 := Lib.hid b2; clear o2 b2 JN z0 z1 R1 HS2)
  go_region_held3 (fun w' => w'.cell? ⟨w.heap.size, 0, none⟩ = some (.slice a L.length c) ∧ w'.cell? ⟨w.heap.size, 1, none⟩ = some (.int .i64 (at_ : Int))) (first | exact ⟨z02, z12⟩ | exact ⟨z05, z15⟩ | exact ⟨(far2 hWne.out).trans z05, (far2 hWne.out).trans z15⟩ | go_keep)
    (first
      | (refine step_app_signs (by rfl) _ _ (by rfl) W1.heap.size (.slice ad2 (at_ + n) c2) (at_ + n) (L.take at_ ++ l) (by rfl) HL1.out O2.out.drew A2 (L.length - at_) (c - at_) (L.drop at_) (by rfl) HL2.out S2.out.s S2.out.nl ?c3 ?c4 ?_
         case c3 => omega
         case c4 => exact B2.out.size
         intro ad5 c5 w5 o5 g5
         have z05 := cell_grown z02 g5 (ows_ne O2.out _ hH.out)
         have z15 := cell_grown z12 g5 (ows_ne O2.out _ hH.out)
         have O5 := Lib.hid o5
         have N5 := Lib.hid (N2.drew.grown g5 N2.size (fun j hj => by have := (O2.out.lt j hj).1; have := hH.out; omega))
         have R5 : Hid (w5.heap[W.heap.size]? = some (.cells #[.slice none 0 0, .int .i64 0] 30 (0, 0))) := Lib.hid ((g5.block W.heap.size (blk_lt R2.out) (ows_ne O2.out _ (by have := hsW.out; omega))).trans R2.out)
         have yy := fun i => cell_of_row _ _ i _ _ _ R5.out
         have y0 := yy 0; have y1 := yy 1
         have yf5 := fun i => frozen_of_row _ W.heap.size i _ _ R5.out
         dsimp at y0 y1
         clear o5 g5 yy))
  go_wp2
  clear hcut1 hcut2 y0 y1 z02 z12 z05 z15
  generalize hWF : World.setCell _ _ _ = WF
  have hN : Below w.heap.size w WF := by rw [← hWF]; exact two_below _ w W.heap.size _ _ (by have := hsW.out; omega) N5.out
  have hqf : WF.heap[W.heap.size]? = some (.cells #[.slice ad5 (at_ + n + (L.length - at_)) c5, .int .i64 ((at_ : Int) + (n : Int))] 30 (0, 0)) := by rw [← hWF]; exact two_set R5.out _ _
  have hO : OwS WF W1.heap.size (.slice ad5 (at_ + n + (L.length - at_)) c5) (L.take at_ ++ l ++ L.drop at_) := by
    rw [← hWF]; unfold OwS
    exact own_set (own_set O5.out (own_ne_kind O5.out R5.out (by decide)) _) (own_ne_kind O5.out R5.out (by decide)) _
  have y := fun i => cell_of_row _ _ i _ _ _ hqf
  have y0 := y 0; have y1 := y 1
  dsimp at y0 y1
  clear y hqf hWF yf yf5
  refine bodyPost_ret (v := .agg #[.slice ad5 (at_ + n + (L.length - at_)) c5, .int .i64 ((at_ : Int) + (n : Int))]) (by simp [results, Try.results10, go_sem, y0, y1]) rfl ?_
  have hlen : (L.take at_ ++ l ++ L.drop at_).length = at_ + n + (L.length - at_) := by rw [List.length_append, HL1.out, HL2.out]
  have he : at_ + n + (L.length - at_) = L.length + n := by omega
  obtain ⟨a', c', e', hs⟩ := hO.sl
  rw [hlen] at e'
  obtain ⟨rfl, rfl⟩ : ad5 = a' ∧ c5 = c' := by simpa using e'
  exact ⟨ad5, c5, by rw [he], by rw [hlen, he], hs.mono (fun k hk => ⟨by have := hH.out; omega, hk.2⟩), hN⟩
set_option maxHeartbeats 4000000 in
theorem rwout_any (S : Nat → Prop) (L : List Sn) (a : Option Addr) (c m f t : Nat) (i : Int) (w : World) (hm : L.length = m) (hL : m ≤ 90000) (hft : f ≤ t) (htm : t ≤ m) (ha : SlS S w a L c) :
    Calls Try.prog 16 #[.agg #[.slice a m c, .int .i64 i], .int .i64 (f : Int), .int .i64 (t : Int)] w (LnNew w (L.take f ++ L.drop t) (f + (m - t)) (f : Int)) := by
  subst hm
  have N0 := below_alloc w (.cells #[.slice a L.length c, .int .i64 i] 30)
  have q0 := heap_alloc_new w (.cells #[.slice a L.length c, .int .i64 i] 30)
  obtain ⟨W, hW⟩ : ∃ W, w.alloc (.cells #[.slice a L.length c, .int .i64 i] 30) = W := ⟨_, rfl⟩
  rw [hW] at N0 q0
  have N1 := seqB N0 (below_alloc W (.cells #[.slice none 0 0, .int .i64 0] 30))
  have q1 := blk_below q0 (below_alloc W (.cells #[.slice none 0 0, .int .i64 0] 30))
  have r1 := heap_alloc_new W (.cells #[.slice none 0 0, .int .i64 0] 30)
  obtain ⟨W1, hW1⟩ : ∃ W1, W.alloc (.cells #[.slice none 0 0, .int .i64 0] 30) = W1 := ⟨_, rfl⟩
  rw [hW1] at N1 q1 r1
  have hsW : Hid (W.heap.size = w.heap.size + 1 ∧ W1.heap.size = w.heap.size + 2) := Lib.hid (by rw [← hW1, ← hW]; simp)
  have hle := ha.le
  obtain ⟨A1, hA1⟩ : ∃ x : Option Addr, (if c = 0 then a else a.map (·.add (0 * 2))) = x := ⟨_, rfl⟩
  obtain ⟨A2, hA2⟩ : ∃ x : Option Addr, (if c = t then a else a.map (·.add (t * 2))) = x := ⟨_, rfl⟩
  have hab := ha.below (seqB N1 (Below.refl W1.heap.size W1).drew)
  obtain ⟨s1, l1⟩ := hab.sub 0 f (Nat.zero_le _) (by omega)
  obtain ⟨s2, l2⟩ := hab.sub t L.length htm (Nat.le_refl _)
  rw [hA1] at s1; rw [hA2] at s2
  rw [List.drop_zero, Nat.sub_zero] at s1 l1
  rw [Nat.sub_zero] at s1
  have l2' : (L.drop t).length = L.length - t := List.length_drop
  rw [List.take_of_length_le (by omega)] at s2
  have hcut1 : ∀ w : World, (Instr.slice 28 (.slice a L.length c) none (some (.int .i64 (f : Int))) none).run Try.prog w = .ok (.slice A1 f c) w := fun w => by
    rw [run_cutH w a L.length c f (by omega), hA1]
  have hcut2 : ∀ w : World, (Instr.slice 28 (.slice a L.length c) (some (.int .i64 (t : Int))) none none).run Try.prog w = .ok (.slice A2 (L.length - t) (c - t)) w := fun w => by
    rw [run_cutL w a L.length c t htm, hA2]
  have JN := Lib.hid (joinS_ref S (L.take f) (L.drop t) A1 A2 c (c - t) f (L.length - t) W1.drew l1 l2' (by omega) (by omega) s1 s2)
  have HL2 := Lib.hid l2'
  have HL1 := Lib.hid l1
  have zz := fun i => cell_of_row _ _ i _ _ _ q1
  have z0 := zz 0; have z1 := zz 1
  have yf := fun i => frozen_of_row _ W.heap.size i _ _ r1
  dsimp at z0 z1
  have R1 := Lib.hid r1
  have hH : Hid (w.heap.size < W1.heap.size) := Lib.hid (by have := hsW.out; omega)
  have hWne : Hid (W.heap.size ≠ w.heap.size) := Lib.hid (by have := hsW.out; omega)
  clear hA1 hA2 s1 s2 l1 l2 l2' ha hab q0 q1 r1 zz N0
  go_enter Try.func16, Try.ntmps16
  go_upto_region 1 with fail
  clear hW
  go_region_held3 (fun w' => w'.cell? ⟨w.heap.size, 0, none⟩ = some (.slice a L.length c)) (first | exact z0 | exact z02 | exact (far2 hWne.out).trans z02 | go_keep)
    (first
      | (go_at_call 28
         refine JN.out.mono ?_
         rintro x w2 ⟨ad2, c2, rfl, o2, b2⟩
         have O2 := Lib.hid o2
         have N2 := seqB N1 ((Below.refl W1.heap.size W1).drew.trans b2)
         have z02 := (b2.cell (p := ⟨w.heap.size, 0, none⟩) hH.out).trans z0
         have R2 : Hid (w2.heap[W.heap.size]? = some (.cells #[.slice none 0 0, .int .i64 0] 30 (0, 0))) := Lib.hid (blk_below (w := W1.drew) R1.out b2)
         have yy := fun i => cell_of_row _ _ i _ _ _ R2.out
         have y0 := yy 0; have y1 := yy 1
         have yf2 := fun i => frozen_of_row _ W.heap.size i _ _ R2.out
         dsimp at y0 y1
         clear o2 b2 yy))
  go_wp2
  clear hcut1 hcut2 y0 y1 z02 z0 z1
  generalize hWF : World.setCell _ _ _ = WF
  have hN : Below w.heap.size w WF := by rw [← hWF]; exact two_below _ w W.heap.size _ _ (by have := hsW.out; omega) N2
  have hqf : WF.heap[W.heap.size]? = some (.cells #[.slice ad2 (f + (L.length - t)) c2, .int .i64 (f : Int)] 30 (0, 0)) := by rw [← hWF]; exact two_set R2.out _ _
  have hO : OwS WF W1.heap.size (.slice ad2 (f + (L.length - t)) c2) (L.take f ++ L.drop t) := by
    rw [← hWF]; unfold OwS
    exact own_set (own_set O2.out (own_ne_kind O2.out R2.out (by decide)) _) (own_ne_kind O2.out R2.out (by decide)) _
  have y := fun i => cell_of_row _ _ i _ _ _ hqf
  have y0 := y 0; have y1 := y 1
  dsimp at y0 y1
  clear y hqf hWF yf yf2
  refine bodyPost_ret (v := .agg #[.slice ad2 (f + (L.length - t)) c2, .int .i64 (f : Int)]) (by simp [results, Try.results16, go_sem, y0, y1]) rfl ?_
  have hlen : (L.take f ++ L.drop t).length = f + (L.length - t) := by rw [List.length_append, HL1.out, HL2.out]
  obtain ⟨a', c', e', hs⟩ := hO.sl
  rw [hlen] at e'
  obtain ⟨rfl, rfl⟩ : ad2 = a' ∧ c2 = c' := by simpa using e'
  exact ⟨ad2, c2, rfl, hlen, hs.mono (fun k hk => ⟨by have := hH.out; omega, hk.2⟩), hN⟩
end Go.Proofs.Ytfmcgdjjcdlmeaa
