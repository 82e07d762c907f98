import Derived.Test.YtecffaidpiadoaaDoorSg5
import Derived.Test.YtecffaidpiadoaaDoorSg7
import Derived.ArgAppend
set_option linter.unusedVariables false
set_option linter.unusedSimpArgs false
namespace Go.Proofs.YtecffaidpiadoaaDoor
open Go.RowKit
abbrev aw4 : ByteArray := ⟨#[195, 169, 98]⟩
def aw4L : List (Int × Int) := [(233, 2), (98, 2)]
theorem aw4_facts : sOf 2 aw4 = aw4L ∧ sOf 0 aw4 = [(233, 0), (98, 0)] ∧ valsS aw4 = [233, 98] ∧ sTxt aw4L = aw4 ∧ findM aw4L [(98, 2)] 0 = 1 ∧ backS aw4L [(98, 2)] 9 = 1 ∧ sgE aw4L = 0 ∧ rnM [(233, 2), (98, 2), (99, 0)] 3 = [(2, 0, 2), (0, 2, 3)] ∧ sgR 233 2 = true := by decide +kernel
theorem signs_of_own {w : World} {B : Nat} {t : TypeId} {v : Value} {L : List (Int × Int)} (h : w.ownsRow B t 2 v L.length (sRow L).toList) : ∃ a c, v = .slice a L.length c ∧ Signs w a L := by
  rcases h.2 with ⟨rfl, h0⟩ | ⟨g, cap, cur, rfl, _, hg, _⟩
  · exact ⟨none, 0, by rw [h0], fun j hj => by omega⟩
  · refine ⟨_, cap, rfl, fun j hj => ⟨g, 0, rfl, blk_lt hg, ?_, ?_⟩⟩
    · have := sRow_at L j hj
      rw [Nat.zero_add, h.cellAt (j * 2) (by omega)]; exact this.1
    · have := sRow_at L j hj
      rw [Nat.zero_add, h.cellAt (j * 2 + 1) (by omega)]; exact this.2
/-- What awake holds: the tables, and its signs at block g. -/
structure A4 (w : World) (g : Nat) : Prop where
  t : UT w
  h : w.heap[g]? = some (.cells (sRow aw4L) 44 (0, 0))
theorem A4.below {w w' : World} {g : Nat} (h : A4 w g) (hb : Below w.heap.size w w') : A4 w' g := ⟨h.t.below hb, blk_below h.h hb⟩
theorem A4.cells {w : World} {g : Nat} (h : A4 w g) : w.cell? ⟨g, 0, none⟩ = some (.int .i64 233) ∧ w.cell? ⟨g, 1, none⟩ = some (.int .i64 2) ∧ w.cell? ⟨g, 2, none⟩ = some (.int .i64 98) ∧ w.cell? ⟨g, 3, none⟩ = some (.int .i64 2) := by
  refine ⟨?_, ?_, ?_, ?_⟩ <;> (rw [cell_of_row _ _ _ _ _ _ h.h]; rfl)
theorem A4.s {w : World} {g : Nat} (h : A4 w g) : Signs w (some ⟨g, 0, none⟩) aw4L := signs_of_blk h.h
theorem A4.s1 {w : World} {g : Nat} (h : A4 w g) : Signs w (some ⟨g, 2, none⟩) [(98, 2)] := fun j hj => by
  obtain rfl : j = 0 := by simp at hj; omega
  exact ⟨g, 2, rfl, blk_lt h.h, h.cells.2.2.1, h.cells.2.2.2⟩
def aw4R : List (Int × Int) := [(233, 2), (98, 2), (99, 0)]
/-- .. and its runs at block r. -/
structure A5 (w : World) (g r : Nat) : Prop where
  a : A4 w g
  c0 : w.cell? ⟨r, 0, none⟩ = some (.int .i64 2)
  c1 : w.cell? ⟨r, 1, none⟩ = some (.int .i64 0)
  c2 : w.cell? ⟨r, 2, none⟩ = some (.int .i64 2)
  l : r < w.heap.size
theorem A5.below {w w' : World} {g r : Nat} (h : A5 w g r) (hb : Below w.heap.size w w') : A5 w' g r :=
  ⟨h.a.below hb, (hb.cell (p := ⟨r, 0, none⟩) h.l).trans h.c0, (hb.cell (p := ⟨r, 1, none⟩) h.l).trans h.c1, (hb.cell (p := ⟨r, 2, none⟩) h.l).trans h.c2, Nat.lt_of_lt_of_le h.l hb.size⟩
theorem runs3 {w : World} {a : Option Addr} {c : Nat} (g : Nat) (hA : A4 w g) (hs : Signs w a aw4R) : Calls Tryd.prog 35 #[.slice a 3 c] w fun e w' => ∃ r cap, e = .returned (.slice (some ⟨r, 0, none⟩) 2 cap) ∧ A5 w' g r ∧ Below w.heap.size w w' := by
  refine (runs_any aw4R a c w (by decide) hs).mono ?_
  rintro e w' ⟨v, rfl, hown, hb⟩
  have hl : rnM aw4R aw4R.length = [(2, 0, 2), (0, 2, 3)] := aw4_facts.2.2.2.2.2.2.2.1
  rw [hl] at hown
  obtain ⟨r, cap, rfl⟩ := ownsRow_pos hown (by decide)
  have hlt := (hown.lt r rfl).2
  exact ⟨r, cap, rfl, ⟨hA.below hb, (hown.cellAt 0 (by decide)).trans rfl, (hown.cellAt 1 (by decide)).trans rfl, (hown.cellAt 2 (by decide)).trans rfl, hlt⟩, hb⟩
set_option maxRecDepth 100000 in
set_option maxHeartbeats 4000000 in
theorem sawake_any (w : World) (hT : UT w) : Calls Tryd.prog 34 #[] w fun e w' => e = .returned (.bool true) ∧ Below w.heap.size w w' := by
  have ⟨f1, f2, f3, f4, f5, f6, f7, f8, f9⟩ := aw4_facts
  obtain ⟨i0, hi, hz0, hz1, hz2⟩ := info_parts infoSign
  have hL : aw4L.length = 2 := rfl
  have O1 := sof_any 2 aw4 w hT (by decide) (by rw [f3]; decide)
  rw [f1, hL] at O1
  have O2 := fun w1 (h : UT w1) => sof_any 0 aw4 w1 h (by decide) (by rw [f3]; decide)
  rw [f2] at O2
  have T := fun w1 g c (h : A4 w1 g) => stext_any aw4L (some ⟨g, 0, none⟩) c w1 (by decide) h.s
  rw [hL, f4] at T
  have F := fun w1 g c d (h : A4 w1 g) => find_any aw4L [(98, 2)] (some ⟨g, 0, none⟩) (some ⟨g, 2, none⟩) c d 0 w1 (by decide) (by decide) (by decide) h.s h.s1
  rw [hL, f5] at F
  have B := fun w1 g c d (h : A4 w1 g) => sback_any aw4L [(98, 2)] (some ⟨g, 0, none⟩) (some ⟨g, 2, none⟩) c d 9 w1 (by decide) (by decide) (by decide) h.s h.s1
  rw [hL, f6] at B
  have C := fun w1 g c (h : A4 w1 g) => scheck_any aw4L (some ⟨g, 0, none⟩) c w1 (by decide) h.s
  rw [hL, f7] at C
  have W := fun w1 g c (h : A4 w1 g) => with_any aw4L (some ⟨g, 0, none⟩) c 0 w1 (by decide) h.s
  rw [hL, show (aw4L.map fun p => (p.1, (0 : Int))) = [(233, 0), (98, 0)] from rfl] at W
  have V := fun w1 g c (h : A4 w1 g) => values_any aw4L (some ⟨g, 0, none⟩) c w1 (by decide) h.s
  rw [hL] at V
  have R := fun w1 => sright_any 233 2 w1
  rw [f9] at R
  have S := fun w1 a b c d (h1 : w1.heap[a]? = some (.cells (sRow [(233, 0), (98, 0)]) 44 (0, 0))) (h2 : w1.heap[b]? = some (.cells (sRow [(233, 0), (98, 0)]) 44 (0, 0))) => ssame_any [(233, 0), (98, 0)] [(233, 0), (98, 0)] (some ⟨a, 0, none⟩) (some ⟨b, 0, none⟩) c d w1 (by decide) (by decide) (signs_of_blk h1) (signs_of_blk h2)
  rw [show sgS [(233, 0), (98, 0)] [(233, 0), (98, 0)] = true by decide] at S
  have G := fun w1 => strange_any 233 2 w1
  rw [show decide ((2 : Int) ≤ 2) = true by decide] at G
  replace O1 := Lib.hid O1; replace O2 := Lib.hid O2; replace T := Lib.hid T; replace F := Lib.hid F; replace B := Lib.hid B; replace C := Lib.hid C; replace W := Lib.hid W; replace V := Lib.hid V; replace R := Lib.hid R; replace S := Lib.hid S; replace G := Lib.hid G
  have HT := Lib.hid hT
  clear f1 f2 f3 f4 f5 f6 f7 f8 f9 hL hT
  go_enter Tryd.func34, Tryd.ntmps34
  go_wp2_with (first
    | (go_at_call 52; (with_reducible refine (O1.out).mono ?_); rintro e w1 ⟨g, rfl, hg, hh, hb1⟩; have K1 := Lib.hid (⟨HT.out.below hb1, hh⟩ : A4 w1 g); clear hh)
    | (at_builtin; refine wpList_append_grows _ rfl _ _ 38 rfl 44 i0 _ 2 16 Tryd.underlying38 hi hz0 hz1 hz2 rfl (by decide) (some ⟨g, 0, none⟩) 2 2 (sRow aw4L).toList rfl (by simp) rfl ?c1 ⟨w1.heap.size, 0, none⟩ 1 1 [.int .i64 99, .int .i64 0] rfl rfl ?c2 ?c3 (by decide) (by decide) (by decide) ?_)
    | fail)
  case c1 =>
    intro b hb j u hu
    injection hb with hb
    subst hb
    have h := (K1.out.below (below_alloc w1 (.cells #[.int .i64 99, .int .i64 0] 44))).h
    have hadd : (⟨g, 0, none⟩ : Addr).add j = ⟨g, 0 + j, none⟩ := by unfold Addr.add; split <;> simp_all
    rw [hadd, Nat.zero_add, cell_of_row _ _ _ _ _ _ h]
    simpa using hu
  case c2 => intro j x hj; exact app_cells rfl hj
  case c3 => intro x hx; simp at hx; rcases hx with rfl | rfl <;> rfl
  intro v' w2 hown2 hgrow2
  have hb2 : Below w1.heap.size w1 w2 := (below_alloc w1 _).grown hgrow2 (by simp) (fun k hk => by cases hk)
  have K2 := Lib.hid (K1.out.below hb2)
  obtain ⟨a3, c3, rfl, hs3⟩ := signs_of_own (L := aw4R) (show w2.ownsRow _ 44 2 v' aw4R.length (sRow aw4R).toList from hown2)
  have RR := Lib.hid (runs3 g (c := c3) K2.out hs3)
  have hL3 : aw4R.length = 3 := rfl
  rw [hL3]
  clear hown2 hgrow2 hs3 hL3
  go_wp2_with (first
    | (go_at_call 35; refine RR.out.mono ?_; rintro e w3 ⟨r, cap, rfl, hA3, hb3⟩; have K3 := Lib.hid hA3; have x1 := hA3.a.cells.1; have x2 := hA3.a.cells.2.1; clear hA3)
    | (go_at_call 53; refine (T.out _ _ _ K3.out.a).mono ?_; rintro e w4 ⟨rfl, hb4⟩; have hA4 := K3.out.below hb4; have K4 := Lib.hid hA4; have y1 := hA4.c0; have y2 := hA4.c1; have y3 := hA4.c2; clear hA4)
    | (go_at_call 54; refine (F.out _ _ _ _ K4.out.a).mono ?_; rintro e w5 ⟨rfl, hb5⟩; have K5 := Lib.hid (K4.out.below hb5))
    | (go_at_call 55; refine (B.out _ _ _ _ K5.out.a).mono ?_; rintro e w6 ⟨rfl, hb6⟩; have hA6 := K5.out.below hb6; have K6 := Lib.hid hA6; have z1 := hA6.a.cells.1; have z2 := hA6.a.cells.2.1; clear hA6)
    | (go_at_call 56; refine (G.out _).mono ?_; rintro e w7 ⟨rfl, hb7⟩; have K7 := Lib.hid (K6.out.below hb7))
    | (go_at_call 57; refine (C.out _ _ _ K7.out.a).mono ?_; rintro e w8 ⟨rfl, hb8⟩; have K8 := Lib.hid (K7.out.below hb8))
    | (go_at_call 59; refine (W.out _ _ _ K8.out.a).mono ?_; rintro e w9 ⟨rfl, hh9, hb9⟩; have K9 := Lib.hid (K8.out.below hb9); have H9 := Lib.hid hh9; clear hh9)
    | (go_at_call 52; (with_reducible refine (O2.out _ K9.out.a.t).mono ?_); rintro e w10 ⟨g10, rfl, hg10, hh10, hb10⟩; have K10 := Lib.hid (K9.out.below hb10); have H10 := Lib.hid hh10; have H9' := Lib.hid (blk_below H9.out hb10); clear hh10)
    | (go_at_call 58; refine (S.out _ _ _ _ _ H9'.out H10.out).mono ?_; rintro e w11 ⟨rfl, hb11⟩; have K11 := Lib.hid (K10.out.below hb11))
    | (go_at_call 60; refine (V.out _ _ _ K11.out.a).mono ?_; rintro e w12 ⟨rfl, hh12, hb12⟩; have hA12 := K11.out.below hb12; have K12 := Lib.hid hA12; have v1 := hA12.a.cells.1; have v2 := hA12.a.cells.2.1; clear hA12 hh12)
    | (go_at_call 61; refine (R.out _).mono ?_; rintro e w13 ⟨rfl, hb13⟩))
  go_ret
  exact ⟨rfl, seqB (seqB (seqB (seqB (seqB (seqB (seqB (seqB (seqB (seqB (seqB (seqB hb1 hb2) hb3) hb4) hb5) hb6) hb7) hb8) hb9) hb10) hb11) hb12) hb13⟩
end Go.Proofs.YtecffaidpiadoaaDoor
