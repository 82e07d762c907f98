/-
  Gap buffers: All.
-/
import Derived.Test.YtfmcgdjjcdlmeaaG6
set_option linter.unusedVariables false
set_option linter.unusedSimpArgs false
namespace Go.Proofs.Ytfmcgdjjcdlmeaa
set_option maxRecDepth 100000
open Go.RowKit
/-- A slice of signs of a call's own. -/
def OwnSn (B : Nat) (v : Value) (L : List Sn) (w : World) : Prop :=
  (v = .slice none 0 0 ∧ L = []) ∨ ∃ g, v = .slice (some ⟨g, 0, none⟩) L.length L.length ∧ B ≤ g ∧ w.heap[g]? = some (.cells (sRow L) 43 (0, 0))
theorem OwnSn.below {B : Nat} {v : Value} {L : List Sn} {w w' : World} (h : OwnSn B v L w) (hb : Below w.heap.size w w') : OwnSn B v L w' := by
  rcases h with h | ⟨g, h1, h2, h3⟩
  · exact Or.inl h
  · exact Or.inr ⟨g, h1, h2, blk_below h3 hb⟩
theorem OwnSn.signs {B : Nat} {v : Value} {L : List Sn} {w : World} (h : OwnSn B v L w) : ∃ ad, v = .slice ad L.length L.length ∧ Signs w ad L ∧ (∀ x, ad = some x → B ≤ x.block) := by
  rcases h with ⟨rfl, rfl⟩ | ⟨g, rfl, h2, h3⟩
  · exact ⟨none, rfl, fun j hj => absurd hj (Nat.not_lt_zero j), fun x hx => by cases hx⟩
  · exact ⟨_, rfl, signs_of_blk h3, fun x hx => by cases hx; exact h2⟩
theorem al_cp (R : List Sn) (a e n : Nat) (h1 : a ≤ e) (h2 : e ≤ R.length) (hn : n = R.length - (e - a)) : cpL (R.take a ++ List.replicate (n - a) (0, 0)) a ((R.drop e).take (R.length - e)) = gsL R a e := by
  have ha : (R.take a).length = a := by rw [List.length_take]; omega
  have hd : ((R.drop e).take (R.length - e)) = R.drop e := List.take_of_length_le (by rw [List.length_drop]; exact Nat.le_refl _)
  unfold cpL gsL
  have e2 : (R.take a ++ List.replicate (n - a) ((0, 0) : Sn)).drop (a + (R.drop e).length) = [] := by
    apply List.drop_of_length_le
    rw [List.length_append, ha, List.length_replicate, List.length_drop]; omega
  rw [hd, List.take_append_of_le_length (by omega), List.take_of_length_le (by omega), e2, List.append_nil]
set_option maxHeartbeats 8000000 in
theorem gall_any (p : Nat) (M : Int) (v : Value) (R : List Sn) (a e : Nat) (w : World) (h : GapAt p M v R a e w) : Calls Try.prog 22 #[.pointer (some ⟨p, 0, none⟩)] w fun x w' => ∃ u, x = .returned u ∧ OwnSn w.heap.size u (gsL R a e) w' ∧ Below w.heap.size w w' := by
  have L := glen_any p M v R a e w h
  have hlen := gsL_len R a e h.le1 h.le2
  have h1 := h.le1; have h2 := h.le2; have h3 := h.big
  obtain ⟨n, hn⟩ : ∃ n, (gsL R a e).length = n := ⟨_, rfl⟩
  rw [hn] at L hlen
  replace L := Lib.hid L
  have HG := Lib.hid h
  have hNL := Lib.hid hn
  by_cases hn0 : n = 0
  · have hnil : gsL R a e = [] := List.length_eq_zero_iff.1 (hn.trans hn0)
    subst hn0
    have hni := Lib.hid hnil
    clear h hlen hn hnil
    go_enter Try.func22, Try.ntmps22
    go_wp2_with (go_at_call 20; refine L.out.mono ?_; rintro x w1 ⟨rfl, hb1⟩)
    go_ret
    exact ⟨_, rfl, Or.inl ⟨rfl, hni.out⟩, hb1⟩
  · have hni : ¬ (n : Int) = 0 := by omega
    obtain ⟨i0, hi0, hz0, hz1, hz2⟩ := info_parts infoSign
    have hmk := make_rowN (P := Try.prog) 28 43 i0 _ Try.underlying28 hi0 hz0 n (by rw [hz2]; omega) (by omega)
    rw [hz1] at hmk
    have hmade : madeCells (Value.agg #[.int .i64 0, .int .i64 0]).cells (n * 2) = sRow (List.replicate n (0, 0)) := by rw [show (Value.agg #[.int .i64 0, .int .i64 0]).cells = #[.int .i64 0, .int .i64 0] from rfl, made_signs]
    rw [hmade] at hmk
    rcases h.room with ⟨hv, hR⟩ | ⟨r, hv, hrp, hr⟩
    · rw [hR] at hlen; simp at hlen; omega
    subst hv
    have han : a ≤ n := by omega
    have hHL := Lib.hid hlen
    have hR0 := Lib.hid hr
    clear h hlen hn hmade hr
    go_enter Try.func22, Try.ntmps22
    go_upto_region 5 with (go_at_call 20; refine L.out.mono ?_; rintro x w1 ⟨rfl, hb1⟩)
    have b0 := heap_alloc_new w1 (.cells (sRow (List.replicate n (0, 0))) 43)
    have N0 := seqB hb1 (below_alloc w1 (.cells (sRow (List.replicate n (0, 0))) 43))
    have hgw : Hid (w.heap.size ≤ w1.heap.size) := Lib.hid hb1.size
    generalize hW0 : World.alloc _ _ = W0
    rw [hW0] at b0 N0
    obtain ⟨g, hg⟩ : ∃ g, w1.heap.size = g := ⟨_, rfl⟩
    rw [hg] at b0 hgw ⊢
    have G0 := HG.out.below N0
    obtain ⟨c0, c1, c2, c3⟩ := G0.cells
    have hr0 := blk_below hR0.out N0
    have cp1 : (Builtin.copy_ #[28, 28] 3 #[.slice (some ⟨g, 0, none⟩) n n, .slice (some ⟨r, 0, none⟩) a R.length]).run Try.prog W0.drew = .ok (goInt a) (W0.drew.setRow g (sRow (R.take a ++ List.replicate (n - a) (0, 0)))) := by
      have := copy_room (w := W0.drew) 3 (g := g) (r := r) (D := List.replicate n (0, 0)) (S := R) (o := 0) (x := 0) (dl := n) (dc := n) (n := a) (sc := R.length) b0 hr0 (by simp) (by omega) (by omega)
      rw [wd_cp1 R a n (by omega) (by omega)] at this
      exact this
    have b1 := setRow_heap W0.drew g _ (sRow (R.take a ++ List.replicate (n - a) (0, 0))) 43 (0, 0) b0
    have hgB : Hid (w.heap.size ≤ g) := hgw
    have N1 := below_setRow N0.drew hgB.out (sRow (R.take a ++ List.replicate (n - a) (0, 0)))
    have HB1 := Lib.hid b1; have HN1 := Lib.hid N1
    clear b1 N1 b0 N0 G0 hr0 hW0 hg hmk hb1
    go_region
    generalize hW1 : World.setRow _ _ _ = W1
    rw [hW1] at HB1 HN1
    have B1 := HB1.out
    have G1 := HG.out.below HN1.out
    have hr1 := blk_below hR0.out HN1.out
    clear hW1 cp1 c0 c1 c2 c3
    obtain ⟨c0, c1, c2, c3⟩ := G1.cells
    have N2 := below_setRow HN1.out.drew hgB.out (sRow (gsL R a e))
    have b2 := setRow_heap W1.drew g _ (sRow (gsL R a e)) 43 (0, 0) B1
    have HB2 := Lib.hid b2; have HN2 := Lib.hid N2
    have hla : (R.take a).length = a := by rw [List.length_take]; omega
    have hWl : (R.take a ++ List.replicate (n - a) ((0, 0) : Sn)).length = n := by rw [List.length_append, hla, List.length_replicate]; omega
    have hnb : Hid (n - a = R.length - e) := Lib.hid (by have := hHL.out; omega)
    by_cases hbe : R.length = e
    · have hna : n = a := by have := hnb.out; omega
      have cp2 : (Builtin.copy_ #[28, 28] 3 #[.slice (some ⟨g, 0, none⟩) 0 0, .slice (some ⟨r, 0, none⟩) 0 0]).run Try.prog W1.drew = .ok (goInt 0) (W1.drew.setRow g (sRow (gsL R a e))) := by
        have := copy_room (w := W1.drew) 3 (g := g) (r := r) (D := R.take a ++ List.replicate (n - a) (0, 0)) (S := R) (o := 0) (x := 0) (dl := 0) (dc := 0) (n := 0) (sc := 0) B1 hr1 (by omega) (by omega) (by omega)
        have e1 : cpL (R.take a ++ List.replicate (n - a) ((0, 0) : Sn)) 0 ((R.drop 0).take 0) = gsL R a e := by
          unfold cpL gsL; simp [hbe, hna]
        rw [e1] at this
        exact this
      clear B1 hr1 b2 N2 G1 hWl hla
      go_upto_region 6 with fail
      go_region
      generalize hW2 : World.setRow _ _ _ = W2
      rw [hW2] at HB2 HN2
      clear hW2 cp2 c0 c1 c2 c3
      go_wp2
      go_ret
      refine ⟨.slice (some ⟨g, 0, none⟩) n n, ?_, Or.inr ⟨g, by rw [hNL.out], hgB.out, HB2.out⟩, HN2.out⟩
      first | rfl | (rw [hna]; rfl)
    · have hna : ¬ n = a := by have := hnb.out; omega
      have cp2 : (Builtin.copy_ #[28, 28] 3 #[.slice (some ⟨g, a * 2, none⟩) (n - a) (n - a), .slice (some ⟨r, e * 2, none⟩) (R.length - e) (R.length - e)]).run Try.prog W1.drew = .ok (goInt ((R.length - e : Nat) : Int)) (W1.drew.setRow g (sRow (gsL R a e))) := by
        have := copy_room (w := W1.drew) 3 (g := g) (r := r) (D := R.take a ++ List.replicate (n - a) (0, 0)) (S := R) (o := a) (x := e) (dl := n - a) (dc := n - a) (n := R.length - e) (sc := R.length - e) B1 hr1 (by rw [hWl]; omega) (by omega) (by have := hnb.out; omega)
        rw [al_cp R a e n h1 h2 hHL.out] at this
        exact this
      clear B1 hr1 b2 N2 G1 hWl hla
      go_upto_region 6 with fail
      go_region
      generalize hW2 : World.setRow _ _ _ = W2
      rw [hW2] at HB2 HN2
      clear hW2 cp2 c0 c1 c2 c3
      go_wp2
      go_ret
      refine ⟨.slice (some ⟨g, 0, none⟩) n n, ?_, Or.inr ⟨g, by rw [hNL.out], hgB.out, HB2.out⟩, HN2.out⟩
      first | rfl | (rw [hna]; rfl)
theorem gall_nil (w : World) : Calls Try.prog 22 #[.pointer none] w fun x w' => x = .returned (.slice none 0 0) ∧ w = w' := by
  have L := Lib.hid fun w => glen_nil w
  go_enter Try.func22, Try.ntmps22
  go_wp2_with (go_at_call 20; refine (L.out _).mono ?_; rintro x w1 ⟨rfl, rfl⟩)
  go_ret
  exact ⟨rfl, rfl⟩
set_option maxHeartbeats 2000000 in
theorem gline_any (p : Nat) (M : Int) (v : Value) (R : List Sn) (a e : Nat) (w : World) (h : GapAt p M v R a e w) : Calls Try.prog 24 #[.pointer (some ⟨p, 0, none⟩)] w fun x w' => ∃ u, x = .returned (.agg #[u, .int .i64 (a : Int)]) ∧ OwnSn w.heap.size u (gsL R a e) w' ∧ Below w.heap.size w w' := by
  have B0 := below_alloc w (.cells #[.slice none 0 0, .int .i64 0] 30)
  have q0 := heap_alloc_new w (.cells #[.slice none 0 0, .int .i64 0] 30)
  obtain ⟨W0, hW0⟩ : ∃ W0, w.alloc (.cells #[.slice none 0 0, .int .i64 0] 30) = W0 := ⟨_, rfl⟩
  rw [hW0] at B0 q0
  have Q0 := Lib.hid q0
  have HG := Lib.hid (h.below B0)
  have AL := Lib.hid (gall_any p M v R a e W0 HG.out)
  have AT := Lib.hid fun w h => gat_any p M v R a e w h
  clear h q0
  go_enter Try.func24, Try.ntmps24
  go_upto_region 1 with fail
  clear hW0
  go_wp2_with (first
    | (go_at_call 22; refine AL.out.mono ?_; rintro x w1 ⟨u, rfl, hu, hb1⟩; have HU := Lib.hid hu; have q1 := blk_below Q0.out hb1; have zf := fun i => frozen_of_row _ w.heap.size i _ _ q1; have zz := fun i => cell_of_row _ _ i _ _ _ q1; have z0 := zz 0; have z1 := zz 1; dsimp at z0 z1; have HQ1 := Lib.hid q1; have NB := Lib.hid (seqB B0 hb1); clear zz q1 hu; obtain ⟨ua, hua⟩ : ∃ ua, u = .slice ua (gsL R a e).length (gsL R a e).length := (by obtain ⟨ad, h1, _⟩ := HU.out.signs; exact ⟨ad, h1⟩); subst hua)
    | (go_at_call 21; refine (AT.out _ (HG.out.below hb1)).mono ?_; rintro x w2 ⟨rfl, rfl⟩))
  have hfin := Lib.hid (blk_set (blk_set HQ1.out 0 (.slice ua (gsL R a e).length (gsL R a e).length)) 1 (.int .i64 (a : Int)))
  have NF := Lib.hid ((NB.out.setCell (p := ⟨w.heap.size, 0, none⟩) (Nat.le_refl _) (.slice ua (gsL R a e).length (gsL R a e).length)).setCell (p := ⟨w.heap.size, 1, none⟩) (Nat.le_refl _) (.int .i64 (a : Int)))
  have hUF : OwnSn W0.heap.size (.slice ua (gsL R a e).length (gsL R a e).length) (gsL R a e) ((w1.setCell ⟨w.heap.size, 0, none⟩ (.slice ua (gsL R a e).length (gsL R a e).length)).setCell ⟨w.heap.size, 1, none⟩ (.int .i64 (a : Int))) := by
    rcases HU.out with h | ⟨g, h1, h2, h3⟩
    · exact Or.inl h
    · have hgn : g ≠ w.heap.size := by have := blk_lt Q0.out; omega
      exact Or.inr ⟨g, h1, h2, (Below.heap_setCell _ _ _ _ hgn).trans ((Below.heap_setCell _ _ _ _ hgn).trans h3)⟩
  have HUF := Lib.hid hUF
  have hWW : Hid (w.heap.size ≤ W0.heap.size) := Lib.hid B0.size
  clear hUF
  generalize hWF : World.setCell _ _ _ = WF
  rw [hWF] at HUF
  have hqf : WF.heap[w.heap.size]? = some (.cells #[.slice ua (gsL R a e).length (gsL R a e).length, .int .i64 (a : Int)] 30 (0, 0)) := by rw [← hWF]; exact hfin.out
  have hN : Below w.heap.size w WF := by rw [← hWF]; exact NF.out
  have y := fun i => cell_of_row _ _ i _ _ _ hqf
  have y0 := y 0; have y1 := y 1
  dsimp at y0 y1
  clear y hqf hWF
  refine bodyPost_ret (v := .agg #[.slice ua (gsL R a e).length (gsL R a e).length, .int .i64 (a : Int)]) (by simp [results, Try.results24, go_sem, y0, y1]) rfl ?_
  refine ⟨_, rfl, ?_, hN⟩
  rcases HUF.out with h | ⟨g, h1, h2, h3⟩
  · exact Or.inl h
  · exact Or.inr ⟨g, h1, Nat.le_trans hWW.out h2, h3⟩
end Go.Proofs.Ytfmcgdjjcdlmeaa
