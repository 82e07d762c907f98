/-
  Joined: Bd19.
-/
import Derived.Test.YtgnhnalaakgamaaDoorJB14
set_option linter.unusedVariables false
set_option linter.unusedSimpArgs false
set_option maxRecDepth 100000
set_option linter.unusedVariables false
set_option linter.unusedSimpArgs false
namespace Go.Proofs.YtgnhnalaakgamaaDoor
open Go.RowKit
theorem BxB.drew {w : World} {B0 g : Nat} {a : Option Addr} {n c : Nat} {L : List BRow} (h : BxB w B0 g a n c L) : BxB w.drew B0 g a n c L := ⟨h.b, h.o⟩
theorem bsame_eq (L : List BRow) (a a' : Option Addr) (n n' c c' B B' : Nat) (w : World) (h : OwB w B (.slice a n c) L) (hn : L.length = n) (h' : OwB w B' (.slice a' n' c') L) (hn' : L.length = n') (hl : n ≤ 1000) (hl' : n' ≤ 1000) :
    Calls Tryd.prog 8 #[.agg #[.slice a n c], .agg #[.slice a' n' c']] w fun e w' => e = .returned (.bool true) ∧ Below w.heap.size w w' := by
  have := bsame_any L L a a' n n' c c' B B' w h hn h' hn' hl hl'
  rwa [decide_eq_true rfl] at this
/-- What is known of what Parse answers. -/
theorem pr_facts (l : List UInt8) (hl : l.length ≤ 400) : (∀ x ∈ (prB (pcB 10 l) []).1, RowG x) ∧ Srt (prB (pcB 10 l) []).1 ∧ (prB (pcB 10 l) []).1.length ≤ 401 ∧ ((prB (pcB 10 l) []).2 = 0 ∨ ((prB (pcB 10 l) []).1 = [] ∧ ((prB (pcB 10 l) []).2 = 10 ∨ (prB (pcB 10 l) []).2 = 2 ∨ (prB (pcB 10 l) []).2 = 3))) := by
  have h := prB_good (pcB 10 l) [] (fun p hp => by
    refine ⟨fun c hc => ?_, by have := pcB_mem 10 l p hp; omega⟩
    have h2 := spB_no 10 l
    unfold pcB at hp
    rcases List.mem_cons.1 hp with rfl | hp
    · exact h2.1 c hc
    · exact h2.2 p hp c hc) (fun x hx => by simp at hx) List.Pairwise.nil
  have hlen := pcB_len 10 l
  refine ⟨h.1, h.2.1, ?_, h.2.2.2⟩
  have := h.2.2.1
  simp only [List.length_nil] at this
  omega
set_option maxRecDepth 100000 in
set_option maxHeartbeats 8000000 in
theorem bindparses_far (s : ByteArray) (w : World) (hK : KT w) (hE : EN w) (hs : 400 < s.size) : Calls Tryd.prog 3 #[.string s] w fun e w' => e = .returned (.bool true) ∧ Below w.heap.size w w' := by
  have AW := Lib.hid (bawake_any w hK hE)
  have hs1 : (400 : Int) < (s.size : Int) := by omega
  clear hK hE
  go_enter Tryd.func3, Tryd.ntmps3
  go_wp2_with fail
  go_at_call 4
  refine AW.out.mono ?_
  rintro e w1 ⟨rfl, hb⟩
  have N := Lib.hid hb
  clear hb
  go_wp2_with fail
  go_ret
  exact ⟨rfl, N.out⟩
set_option maxRecDepth 100000 in
set_option maxHeartbeats 8000000 in
theorem bindparses_bad (l : List UInt8) (w : World) (hK : KT w) (hE : EN w) (hs : l.length ≤ 400) (er : Int) (her : (prB (pcB 10 l) []).2 = er) (hL : (prB (pcB 10 l) []).1 = []) (hc : er = 10 ∨ er = 2 ∨ er = 3) : Calls Tryd.prog 3 #[.string (mkL l)] w fun e w' => e = .returned (.bool true) ∧ Below w.heap.size w w' := by
  have P0 := bparse_any l w (by omega) (by have := pcB_len 10 l; omega) hK hE
  unfold PbPost at P0
  rw [her, hL] at P0
  have P1 := Lib.hid P0
  have hs0 : (mkL l).size ≤ 400 := by rw [mkL_size]; exact hs
  obtain ⟨sl, hsl⟩ : ∃ sl, mkL l = sl := ⟨_, rfl⟩
  rw [hsl] at P1 hs0 ⊢
  have hs1 : ¬ (400 : Int) < (sl.size : Int) := by omega
  have HK := Lib.hid hK
  have HE := Lib.hid hE
  clear P0 hK hE hs hsl hs0 her hL
  go_enter Tryd.func3, Tryd.ntmps3
  go_wp2_with fail
  go_at_call 5
  refine P1.out.mono ?_
  rintro e w1 ⟨a1, n1, c1, rfl, hn1, ho1, hb1⟩
  obtain rfl : 0 = n1 := hn1
  have hb2 := below_alloc w1 (.cells #[.slice a1 0 c1] 25)
  have X1 : BxB (w1.alloc (.cells #[.slice a1 0 c1] 25)) w.heap.size w1.heap.size a1 0 c1 [] := ⟨heap_alloc_new w1 _, rowb_below ho1 hb2⟩
  have N2 := seqB hb1 hb2
  obtain ⟨W2, hW2⟩ : ∃ W2, w1.alloc (.cells #[.slice a1 0 c1] 25) = W2 := ⟨_, rfl⟩
  rw [hW2] at X1 N2
  obtain ⟨g1, hg1⟩ : ∃ g1, w1.heap.size = g1 := ⟨_, rfl⟩
  rw [hg1] at X1
  have HX := Lib.hid X1
  have HN := Lib.hid N2
  have AW := Lib.hid (bawake_any W2 (HK.out.below N2) (HE.out.below N2))
  clear ho1 hb1 hb2 X1 N2
  rcases hc with rfl | rfl | rfl
  all_goals (
    go_wp2_with fail
    go_at_call 4
    try rw [hW2]
    clear hW2
    refine AW.out.mono ?_
    rintro e w3 ⟨rfl, hb3⟩
    have HX3 := Lib.hid (HX.out.below hb3)
    have HN3 := Lib.hid (seqB HN.out hb3)
    clear hb3
    have x0 := HX3.out.cell
    go_wp2_with fail
    go_at_call 6
    refine (blen_any a1 0 c1 w3).mono ?_
    rintro e w4 ⟨rfl, hb4⟩
    have HN4 := Lib.hid (seqB HN3.out hb4)
    clear hb4 x0
    go_wp2_with fail
    go_ret
    exact ⟨rfl, HN4.out⟩)
set_option maxRecDepth 100000 in
set_option maxHeartbeats 8000000 in
theorem bindparses_good (l : List UInt8) (w : World) (hK : KT w) (hE : EN w) (hs : l.length ≤ 400) (L : List BRow) (her : (prB (pcB 10 l) []).2 = 0) (hL : (prB (pcB 10 l) []).1 = L) (hG : ∀ x ∈ L, RowG x) (hS : Srt L) (hn : L.length ≤ 401) : Calls Tryd.prog 3 #[.string (mkL l)] w fun e w' => e = .returned (.bool true) ∧ Below w.heap.size w w' := by
  have P0 := bparse_any l w (by omega) (by have := pcB_len 10 l; omega) hK hE
  unfold PbPost at P0
  rw [her, hL] at P0
  have P1 := Lib.hid P0
  have hs0 : (mkL l).size ≤ 400 := by rw [mkL_size]; exact hs
  have hback := prB_txB L hG hS
  have htl := txB_len L hG
  have hpc : (pcB 10 (txB L)).length ≤ 800 := by
    rw [txB_pc L hG, List.length_append, List.length_map]
    show L.length + 1 ≤ 800
    omega
  have PT := Lib.hid fun w hK hE => bparse_any (txB L) w (by omega) hpc hK hE
  unfold PbPost at PT
  rw [hback] at PT
  have TX := Lib.hid fun (a : Option Addr) (n c B0 : Nat) (w : World) h0 hn2 hE => btext_any L a n c B0 w h0 hn2 (by rw [← hn2]; omega) (fun x hx => (hG x hx).s) hE
  obtain ⟨st, hst⟩ : ∃ st, mkL (txB L) = st := ⟨_, rfl⟩
  rw [hst] at PT TX
  obtain ⟨sl, hsl⟩ : ∃ sl, mkL l = sl := ⟨_, rfl⟩
  rw [hsl] at P1 hs0 ⊢
  have hs1 : ¬ (400 : Int) < (sl.size : Int) := by omega
  have HK := Lib.hid hK
  have HE := Lib.hid hE
  have HN0 := Lib.hid hn
  clear P0 hK hE hs hsl hs0 her hL hback htl hpc hst hG hS
  go_enter Tryd.func3, Tryd.ntmps3
  go_wp2_with fail
  go_at_call 5
  refine P1.out.mono ?_
  rintro e w1 ⟨a1, n1, c1, rfl, hn1, ho1, hb1⟩
  have hb2 := below_alloc w1 (.cells #[.slice a1 n1 c1] 25)
  have X1 : BxB (w1.alloc (.cells #[.slice a1 n1 c1] 25)) w.heap.size w1.heap.size a1 n1 c1 L := ⟨heap_alloc_new w1 _, rowb_below ho1 hb2⟩
  have N2 := seqB hb1 hb2
  obtain ⟨W2, hW2⟩ : ∃ W2, w1.alloc (.cells #[.slice a1 n1 c1] 25) = W2 := ⟨_, rfl⟩
  rw [hW2] at X1 N2
  obtain ⟨g1, hg1⟩ : ∃ g1, w1.heap.size = g1 := ⟨_, rfl⟩
  rw [hg1] at X1
  have HX := Lib.hid X1
  have HN := Lib.hid N2
  have HL1 := Lib.hid hn1
  have x0 := X1.cell
  clear ho1 hb1 hb2 X1 N2 hn1
  go_wp2_with fail
  go_at_call 7
  try rw [hW2]
  clear hW2
  refine (TX.out a1 n1 c1 _ W2 HX.out.o HL1.out (HE.out.below HN.out)).mono ?_
  rintro e w3 ⟨rfl, hb3⟩
  have HX3 := Lib.hid (HX.out.below hb3)
  have HN3 := Lib.hid (seqB HN.out hb3)
  clear hb3 x0
  go_wp2_with fail
  go_at_call 5
  refine (PT.out w3 (HK.out.below HN3.out) (HE.out.below HN3.out)).mono ?_
  rintro e w4 ⟨a4, n4, c4, rfl, hn4, ho4, hb4⟩
  have hb5 := below_alloc w4 (.cells #[.slice a4 n4 c4] 25)
  have Y5 : BxB (w4.alloc (.cells #[.slice a4 n4 c4] 25)) w3.heap.size w4.heap.size a4 n4 c4 L := ⟨heap_alloc_new w4 _, rowb_below ho4 hb5⟩
  have X5 := HX3.out.below (seqB hb4 hb5)
  have N5 := seqB HN3.out (seqB hb4 hb5)
  obtain ⟨W5, hW5⟩ : ∃ W5, w4.alloc (.cells #[.slice a4 n4 c4] 25) = W5 := ⟨_, rfl⟩
  rw [hW5] at Y5 X5 N5
  obtain ⟨g4, hg4⟩ : ∃ g4, w4.heap.size = g4 := ⟨_, rfl⟩
  rw [hg4] at Y5
  have HX := Lib.hid X5.drew
  have HY := Lib.hid Y5.drew
  have HN := Lib.hid N5.drew
  have HL4 := Lib.hid hn4
  have x0 := HX.out.cell
  have y0 := HY.out.cell
  clear hn4 ho4 hb4 hb5 Y5 X5 N5
  go_upto_region 7 with fail
  try rw [hW5]
  clear hW5
  obtain ⟨B1, hB1⟩ : ∃ B1, w.heap.size = B1 := ⟨_, rfl⟩
  obtain ⟨B4, hB4⟩ : ∃ B4, w3.heap.size = B4 := ⟨_, rfl⟩
  have HX := Lib.hid (show BxB _ B1 _ _ _ _ L by rw [← hB1]; exact HX.out)
  have HY := Lib.hid (show BxB _ B4 _ _ _ _ L by rw [← hB4]; exact HY.out)
  clear hB1 hB4
  have SM := Lib.hid fun (w : World) (h : OwB w _ _ L) (h' : OwB w _ _ L) => bsame_eq L a1 a4 n1 n4 c1 c4 B1 B4 w h HL1.out h' HL4.out (by have := HL1.out; have := HN0.out; omega) (by have := HL4.out; have := HN0.out; omega)
  go_region_law (first
    | (go_simp; go_at_call 4; refine (bawake_any _ (HK.out.below HN.out) (HE.out.below HN.out)).mono ?_; rintro e w9 ⟨rfl, hb⟩; have HX := Lib.hid (HX.out.below hb); have HY := Lib.hid (HY.out.below hb); have HN := Lib.hid (seqB HN.out hb); have x0 := HX.out.cell; have y0 := HY.out.cell; clear hb)
    | (go_simp; go_at_call 8; refine (SM.out _ HX.out.o HY.out.o).mono ?_; rintro e w10 ⟨rfl, hb⟩; have HX := Lib.hid (HX.out.below hb); have HY := Lib.hid (HY.out.below hb); have HN := Lib.hid (seqB HN.out hb); have x0 := HX.out.cell; have y0 := HY.out.cell; clear hb)
    | (go_simp; go_at_call 7; (first | with_reducible refine (TX.out a4 n4 c4 _ _ HY.out.o HL4.out (HE.out.below HN.out)).mono ?_ | with_reducible refine (TX.out a1 n1 c1 _ _ HX.out.o HL1.out (HE.out.below HN.out)).mono ?_); rintro e w11 ⟨rfl, hb⟩; have HX := Lib.hid (HX.out.below hb); have HY := Lib.hid (HY.out.below hb); have HN := Lib.hid (seqB HN.out hb); have x0 := HX.out.cell; have y0 := HY.out.cell; clear hb))
  all_goals (
    go_wp2_with fail
    go_ret
    exact ⟨rfl, HN.out⟩)
theorem bindparses_any (s : ByteArray) (w : World) (hK : KT w) (hE : EN w) : Calls Tryd.prog 3 #[.string s] w fun e w' => e = .returned (.bool true) ∧ Below w.heap.size w w' := by
  by_cases hs : 400 < s.size
  · exact bindparses_far s w hK hE hs
  · have e : s = mkL s.data.toList := by unfold mkL; rw [Array.toArray_toList]
    have hl : s.data.toList.length ≤ 400 := by rw [Array.length_toList]; exact Nat.not_lt.1 hs
    rw [e]
    obtain ⟨h1, h2, h3, h4⟩ := pr_facts s.data.toList hl
    rcases h4 with h4 | ⟨h4, h5⟩
    · exact bindparses_good _ w hK hE hl _ h4 rfl h1 h2 h3
    · exact bindparses_bad _ w hK hE hl _ rfl h4 h5
end Go.Proofs.YtgnhnalaakgamaaDoor
