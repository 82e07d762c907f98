/-
  Joined: Ev21 UCom.
-/
import Derived.Test.YtldblffhkokhlaaDoorJV01
import Derived.Test.YtldblffhkokhlaaDoorJV03
import Derived.Test.YtldblffhkokhlaaDoorJV11
import Derived.Deep.Cut
import Derived.Deep.CutRange
import Derived.Deep.CutBlock
import Derived.Test.YtldblffhkokhlaaDoorCards
import Derived.Test.YtldblffhkokhlaaDoorTie
import Derived.Deep.DeepHandedRow
import Derived.Lib.LaidTab
import Derived.Lib.LaidU8
import Derived.Stop.LaidErr
set_option linter.unusedVariables false
set_option linter.unusedSimpArgs false
set_option maxRecDepth 100000
set_option linter.unusedVariables false
set_option linter.unusedSimpArgs false
namespace Go.Proofs.YtldblffhkokhlaaDoor
open Go.RowKit
set_option maxRecDepth 100000 in
set_option maxHeartbeats 8000000 in
theorem eventtexts_any (k p : Int) (l : List (Int × Int)) (n : Nat) (a : Option Addr) (c : Nat) (k' p' : Int) (l' : List (Int × Int)) (n' : Nat) (a' : Option Addr) (c' : Nat) (w : World) (hT : UT w) (hK : EVT w) (hn : l.length = n) (hn' : l'.length = n') (hs : Signs w a l) (hs' : Signs w a' l') (hc : n ≤ c) (hc' : n' ≤ c') :
    Calls Tryd.prog 3 #[.agg #[.int .i64 k, .slice a n c, .int .i64 p], .agg #[.int .i64 k', .slice a' n' c', .int .i64 p']] w fun e w' => e = .returned (.bool true) ∧ Below w.heap.size w w' := by
  have B0 := below_alloc w (.cells #[.int .i64 k, .slice a n c, .int .i64 p] 24)
  have q0 := heap_alloc_new w (.cells #[.int .i64 k, .slice a n c, .int .i64 p] 24)
  obtain ⟨W0, hW0⟩ : ∃ W0, w.alloc (.cells #[.int .i64 k, .slice a n c, .int .i64 p] 24) = W0 := ⟨_, rfl⟩
  rw [hW0] at B0 q0
  have B1 := below_alloc W0 (.cells #[.int .i64 k', .slice a' n' c', .int .i64 p'] 24)
  have q1 := heap_alloc_new W0 (.cells #[.int .i64 k', .slice a' n' c', .int .i64 p'] 24)
  obtain ⟨W1, hW1⟩ : ∃ W1, W0.alloc (.cells #[.int .i64 k', .slice a' n' c', .int .i64 p'] 24) = W1 := ⟨_, rfl⟩
  rw [hW1] at B1 q1
  have q0' := blk_below q0 B1
  have N1 := seqB B0 B1
  have B2 := below_alloc W1 (.cells #[.int .i64 k, .slice a n c, .int .i64 p, .int .i64 k', .slice a' n' c', .int .i64 p'] 24)
  have EL := evs_two (heap_alloc_new W1 (.cells #[.int .i64 k, .slice a n c, .int .i64 p, .int .i64 k', .slice a' n' c', .int .i64 p'] 24)) hn ((hs.below N1).below B2) hc hn' ((hs'.below N1).below B2) hc'
  obtain ⟨W2, hW2⟩ : ∃ W2, W1.alloc (.cells #[.int .i64 k, .slice a n c, .int .i64 p, .int .i64 k', .slice a' n' c', .int .i64 p'] 24) = W2 := ⟨_, rfl⟩
  rw [hW2] at B2 EL
  have N2 := Lib.hid (seqB N1 B2)
  have LI := Lib.hid (light33_ref [(k, l, p), (k', l', p')] _ 2 W2 (show 2 ≤ 9223372036854775807 by decide) EL)
  have P0 := Lib.hid (blk_below q0' B2)
  have P1 := Lib.hid (blk_below q1 B2)
  have HS := Lib.hid hs; have HS' := Lib.hid hs'
  have HT := Lib.hid hT; have HK := Lib.hid hK; have HN := Lib.hid hn; have HN' := Lib.hid hn'
  have AW := Lib.hid fun (wx : World) hT hK => awake33_any wx hT hK
  have y := fun i => cell_of_row _ _ i _ _ _ q0'
  have z := fun i => cell_of_row _ _ i _ _ _ q1
  have y0 := y 0; have y1 := y 1; have y2 := y 2
  have z0 := z 0; have z1 := z 1; have z2 := z 2
  dsimp at y0 y1 y2 z0 z1 z2
  have hlt : evLt [(k, l, p), (k', l', p')] = true → n ≤ 60 ∧ n' ≤ 60 := fun h => by
    unfold evLt at h
    rw [Bool.and_eq_true] at h
    have h2 := List.all_eq_true.1 h.2
    have h3 := of_decide_eq_true (h2 _ (List.mem_cons_self ..))
    have h4 := of_decide_eq_true (h2 (k', l', p') (by simp))
    dsimp only at h3 h4
    omega
  clear y z q0 q1 q0' B0 B1 B2 EL N1 hs hs' hT hK hn hn'
  cases hlb : evLt [(k, l, p), (k', l', p')]
  · rw [hlb] at LI
    clear hlt hlb
    go_enter Tryd.func3, Tryd.ntmps3
    go_upto_region 1 with fail
    clear hW0 hW1
    go_wp2_with (first
      | (go_at_call 10; refine LI.out.mono ?_; rintro e w3 ⟨rfl, rfl⟩)
      | (go_at_call 11; refine (AW.out _ (HT.out.below N2.out) (HK.out.below N2.out)).mono ?_; rintro e w4 ⟨rfl, hb4⟩))
    go_ret
    exact ⟨rfl, seqB N2.out hb4⟩
  · obtain ⟨h60, h60'⟩ := hlt hlb
    rw [hlb] at LI
    clear hlb hlt
    have SG := Lib.hid fun (wx : World) (hb : Below w.heap.size w wx) => sgsame_ref l l' a a' c c' wx (by have := HN.out; omega) (by have := HN'.out; omega) (HS.out.below hb) (HS'.out.below hb)
    rw [HN.out, HN'.out] at SG
    have ES := Lib.hid fun (e1 e2 : Option Addr) (wx : World) h1 h2 => esame_any [(k, l, p)] [(k', l', p')] 1 1 e1 e2 1 1 wx rfl rfl (by decide) (by decide) (fun v hv => by
      rcases List.mem_cons.1 hv with rfl | hv
      · have := HN.out; dsimp only; omega
      · cases hv) (fun v hv => by
      rcases List.mem_cons.1 hv with rfl | hv
      · have := HN'.out; dsimp only; omega
      · cases hv) h1 h2
    have hQ : evsQ [(k, l, p)] [(k', l', p')] = evQ (k, l, p) (k', l', p') := by
      unfold evsQ evQ
      by_cases h : ((k, l, p) : Ev) = (k', l', p')
      · rw [decide_eq_true h, decide_eq_true (by rw [h])]
      · rw [decide_eq_false h, decide_eq_false (fun e => h (by injection e))]
    rw [hQ] at ES
    have hQk : k ≠ k' → evQ (k, l, p) (k', l', p') = false := fun h => evQ_k h
    have hQp : p ≠ p' → evQ (k, l, p) (k', l', p') = false := fun h => evQ_p h
    have hQl : k = k' → p = p' → decide (l = l') = evQ (k, l, p) (k', l', p') := fun h1 h2 => by subst h1; subst h2; rw [evQ_l]; rfl
    generalize evQ (k, l, p) (k', l', p') = E at *
    generalize decide (l = l') = sl at *
    clear hQ
    cases hm : evMay (k, l, p)
    · have TX := Lib.hid fun (wx : World) (hb : Below w.heap.size w wx) => etext_bad k l p n a c wx HN.out (HK.out.below hb) (by omega) (HS.out.below hb) hm
      have MY := Lib.hid fun (wx : World) (hb : Below w.heap.size w wx) => rmay33_ref k l p n a c wx HN.out (by omega) (HS.out.below hb)
      have CK := Lib.hid fun (wx : World) (hb : Below w.heap.size w wx) => echeck_any k l p n a c wx HN.out (HK.out.below hb) (by omega) (HS.out.below hb)
      rw [hm] at MY
      rw [evE_no hm] at CK
      clear hm
      go_enter Tryd.func3, Tryd.ntmps3
      go_upto_region 1 with fail
      clear hW0 hW1
      go_upto_region 4 with (first
        | (go_at_call 10; refine LI.out.mono ?_; rintro e w3 ⟨rfl, rfl⟩; have y := fun i => cell_of_row _ _ i _ _ _ P0.out; have v0 := y 0; have v1 := y 1; have v2 := y 2; dsimp at v0 v1 v2; clear y)
        | (go_at_call 12; refine (TX.out _ N2.out).mono ?_; rintro e w4 ⟨rfl, hb4⟩; have D4 := Lib.hid hb4; clear v0 v1 v2 hb4))
      have V4 := blk_below P0.out D4.out
      have U4 := blk_below P1.out D4.out
      have y := fun i => cell_of_row _ _ i _ _ _ V4
      have z := fun i => cell_of_row _ _ i _ _ _ U4
      have y0 := y 0; have y1 := y 1; have y2 := y 2
      have z0 := z 0; have z1 := z 1; have z2 := z 2
      dsimp at y0 y1 y2 z0 z1 z2
      clear y z V4 U4
      go_cut [7] from 21 to 40 (fun s7 wx => s7 = .bool E ∧ Hid (Below W2.heap.size W2 wx))
      case first =>
        by_cases h1 : k = k'
        · have b1 : (k == k') = true := by rw [h1]; simp
          by_cases h2 : p = p'
          · have b2 : (p == p') = true := by rw [h2]; simp
            have hE := Lib.hid (hQl h1 h2)
            have SGx := Lib.hid (SG.out _ (seqB N2.out D4.out))
            rw [hE.out] at SGx
            clear hQk hQp hQl
            subst h1; subst h2
            go_wp2_with (go_at_call 13; refine SGx.out.mono ?_; rintro e w5 ⟨rfl, hb5⟩; have D5 := Lib.hid (seqB D4.out hb5); clear hb5)
            go_meet
            exact ⟨rfl, D5⟩
          · have b2 : (p == p') = false := by simpa using h2
            have hE := hQp h2
            clear hQk hQp hQl
            subst h1
            subst hE
            go_wp2_with fail
            go_meet
            exact ⟨rfl, D4⟩
        · have b1 : (k == k') = false := by simpa using h1
          have hE := hQk h1
          clear hQk hQp hQl
          subst hE
          go_wp2_with fail
          go_meet
          exact ⟨rfl, D4⟩
      case rest =>
        obtain ⟨rfl, D6⟩ := hcut
        clear y0 y1 y2 z0 z1 z2 hQk hQp hQl SG LI D4
        have V6 := blk_below P0.out D6.out
        have U6 := blk_below P1.out D6.out
        have N6 := seqB N2.out D6.out
        have C1 := below_alloc wc (.cells #[.int .i64 k, .slice a n c, .int .i64 p] 24)
        have C2 := below_alloc (wc.alloc (.cells #[.int .i64 k, .slice a n c, .int .i64 p] 24)) (.cells #[.int .i64 k', .slice a' n' c', .int .i64 p'] 24)
        have hs2 : (wc.alloc (.cells #[.int .i64 k, .slice a n c, .int .i64 p] 24)).heap.size = wc.heap.size + 1 := by simp
        have HE1 := Lib.hid (evs_one (blk_below (heap_alloc_new wc (.cells #[.int .i64 k, .slice a n c, .int .i64 p] 24)) C2) HN.out (((HS.out.below N6).below C1).below C2) hc)
        have HE2 := Lib.hid (evs_one (heap_alloc_new (wc.alloc (.cells #[.int .i64 k, .slice a n c, .int .i64 p] 24)) (.cells #[.int .i64 k', .slice a' n' c', .int .i64 p'] 24)) HN'.out (((HS'.out.below N6).below C1).below C2) hc')
        rw [hs2] at HE2
        have y := fun i => cell_of_row _ _ i _ _ _ V6
        have z := fun i => cell_of_row _ _ i _ _ _ (blk_below U6 C1)
        have y0 := y 0; have y1 := y 1; have y2 := y 2
        have z0 := z 0; have z1 := z 1; have z2 := z 2
        dsimp at y0 y1 y2 z0 z1 z2
        have DC := Lib.hid (seqB D6.out (seqB C1 C2))
        have HY : Hid (∀ wx, Below W2.heap.size W2 wx → wx.cell? ⟨w.heap.size, 0, none⟩ = some (.int .i64 k) ∧ wx.cell? ⟨w.heap.size, 1, none⟩ = some (.slice a n c) ∧ wx.cell? ⟨w.heap.size, 2, none⟩ = some (.int .i64 p)) := Lib.hid fun wx hb => by
          have q := fun i => cell_of_row _ _ i _ _ _ (blk_below P0.out hb)
          exact ⟨q 0, q 1, q 2⟩
        clear y z V6 U6 N6 C1 C2 hs2 P0 P1
        go_wp2_with (first
          | (go_at_call 14; refine (ES.out _ _ _ HE1.out HE2.out).mono ?_; rintro e w7 ⟨rfl, hb7⟩; have D7 := Lib.hid (seqB DC.out hb7); obtain ⟨x0, x1, x2⟩ := HY.out _ D7.out; clear hb7 y0 y1 y2 z0 z1 z2)
          | (go_at_call 15; refine (MY.out _ (seqB N2.out D7.out)).mono ?_; rintro e w8 ⟨rfl, hb8⟩; have D8 := Lib.hid (seqB D7.out hb8); clear hb8 x0 x1 x2)
          | (go_at_call 11; refine (AW.out _ (HT.out.below (seqB N2.out D8.out)) (HK.out.below (seqB N2.out D8.out))).mono ?_; rintro e w9 ⟨rfl, hb9⟩; have D9 := Lib.hid (seqB D8.out hb9); obtain ⟨v0, v1, v2⟩ := HY.out _ D9.out; clear hb9)
          | (go_at_call 16; refine (CK.out _ (seqB N2.out D9.out)).mono ?_; rintro e w10 ⟨rfl, hb10⟩; have D10 := Lib.hid (seqB D9.out hb10); clear hb10))
        go_ret
        exact ⟨rfl, seqB N2.out D10.out⟩
    · have TX := Lib.hid fun (wx : World) (hb : Below w.heap.size w wx) => etext_good k l p n a c wx HN.out (HK.out.below hb) (by omega) hc (HS.out.below hb) hm
      have MY := Lib.hid fun (wx : World) (hb : Below w.heap.size w wx) => rmay33_ref k l p n a c wx HN.out (by omega) (HS.out.below hb)
      have CK := Lib.hid fun (wx : World) (hb : Below w.heap.size w wx) => echeck_any k l p n a c wx HN.out (HK.out.below hb) (by omega) (HS.out.below hb)
      rw [hm] at MY
      rw [evE_yes hm] at CK
      have RT := Lib.hid fun (wx : World) (hb : Below w.heap.size w wx) => rtext33_ref k l p n a c wx HN.out (by omega) (HS.out.below hb) hm
      have PR := Lib.hid fun (wx : World) hT hK => eparse_any (evT (k, l, p)) wx hT hK (by have := evT_len hm; have h2 := HN.out; dsimp only at this; omega)
      rw [evR_T hm (by have h2 := HN.out; dsimp only; omega)] at PR
      have RS := Lib.hid fun (e1 e2 : Option Addr) (wx : World) h1 h2 => r30same [(k, l, p)] 1 e1 e2 1 1 wx rfl (by decide) (fun v hv => by
        rcases List.mem_cons.1 hv with rfl | hv
        · have := HN.out; dsimp only; omega
        · cases hv) h1 h2
      generalize mkL (evT (k, l, p)) = S at *
      have hSS : (S.toList == S.toList) = true := by simp
      clear hm
      go_enter Tryd.func3, Tryd.ntmps3
      go_upto_region 1 with fail
      clear hW0 hW1
      go_upto_region 4 with (first
        | (go_at_call 10; refine LI.out.mono ?_; rintro e w3 ⟨rfl, rfl⟩; have y := fun i => cell_of_row _ _ i _ _ _ P0.out; have v0 := y 0; have v1 := y 1; have v2 := y 2; dsimp at v0 v1 v2; clear y)
        | (go_at_call 12; refine (TX.out _ N2.out).mono ?_; rintro e w4 ⟨rfl, hb4⟩; have D4 := Lib.hid hb4; clear v0 v1 v2 hb4))
      have V4 := blk_below P0.out D4.out
      have U4 := blk_below P1.out D4.out
      have y := fun i => cell_of_row _ _ i _ _ _ V4
      have z := fun i => cell_of_row _ _ i _ _ _ U4
      have y0 := y 0; have y1 := y 1; have y2 := y 2
      have z0 := z 0; have z1 := z 1; have z2 := z 2
      dsimp at y0 y1 y2 z0 z1 z2
      clear y z V4 U4
      go_cut [7] from 21 to 40 (fun s7 wx => s7 = .bool E ∧ Hid (Below W2.heap.size W2 wx))
      case first =>
        by_cases h1 : k = k'
        · have b1 : (k == k') = true := by rw [h1]; simp
          by_cases h2 : p = p'
          · have b2 : (p == p') = true := by rw [h2]; simp
            have hE := Lib.hid (hQl h1 h2)
            have SGx := Lib.hid (SG.out _ (seqB N2.out D4.out))
            rw [hE.out] at SGx
            clear hQk hQp hQl
            subst h1; subst h2
            go_wp2_with (go_at_call 13; refine SGx.out.mono ?_; rintro e w5 ⟨rfl, hb5⟩; have D5 := Lib.hid (seqB D4.out hb5); clear hb5)
            go_meet
            exact ⟨rfl, D5⟩
          · have b2 : (p == p') = false := by simpa using h2
            have hE := hQp h2
            clear hQk hQp hQl
            subst h1
            subst hE
            go_wp2_with fail
            go_meet
            exact ⟨rfl, D4⟩
        · have b1 : (k == k') = false := by simpa using h1
          have hE := hQk h1
          clear hQk hQp hQl
          subst hE
          go_wp2_with fail
          go_meet
          exact ⟨rfl, D4⟩
      case rest =>
        obtain ⟨rfl, D6⟩ := hcut
        clear y0 y1 y2 z0 z1 z2 hQk hQp hQl SG LI D4
        have V6 := blk_below P0.out D6.out
        have U6 := blk_below P1.out D6.out
        have N6 := seqB N2.out D6.out
        have C1 := below_alloc wc (.cells #[.int .i64 k, .slice a n c, .int .i64 p] 24)
        have C2 := below_alloc (wc.alloc (.cells #[.int .i64 k, .slice a n c, .int .i64 p] 24)) (.cells #[.int .i64 k', .slice a' n' c', .int .i64 p'] 24)
        have hs2 : (wc.alloc (.cells #[.int .i64 k, .slice a n c, .int .i64 p] 24)).heap.size = wc.heap.size + 1 := by simp
        have HE1 := Lib.hid (evs_one (blk_below (heap_alloc_new wc (.cells #[.int .i64 k, .slice a n c, .int .i64 p] 24)) C2) HN.out (((HS.out.below N6).below C1).below C2) hc)
        have HE2 := Lib.hid (evs_one (heap_alloc_new (wc.alloc (.cells #[.int .i64 k, .slice a n c, .int .i64 p] 24)) (.cells #[.int .i64 k', .slice a' n' c', .int .i64 p'] 24)) HN'.out (((HS'.out.below N6).below C1).below C2) hc')
        rw [hs2] at HE2
        have y := fun i => cell_of_row _ _ i _ _ _ V6
        have z := fun i => cell_of_row _ _ i _ _ _ (blk_below U6 C1)
        have y0 := y 0; have y1 := y 1; have y2 := y 2
        have z0 := z 0; have z1 := z 1; have z2 := z 2
        dsimp at y0 y1 y2 z0 z1 z2
        have DC := Lib.hid (seqB D6.out (seqB C1 C2))
        have HY : Hid (∀ wx, Below W2.heap.size W2 wx → wx.cell? ⟨w.heap.size, 0, none⟩ = some (.int .i64 k) ∧ wx.cell? ⟨w.heap.size, 1, none⟩ = some (.slice a n c) ∧ wx.cell? ⟨w.heap.size, 2, none⟩ = some (.int .i64 p)) := Lib.hid fun wx hb => by
          have q := fun i => cell_of_row _ _ i _ _ _ (blk_below P0.out hb)
          exact ⟨q 0, q 1, q 2⟩
        clear y z V6 U6 N6 C1 C2 hs2 P0 P1
        go_upto_region 10 with (first
          | (go_at_call 14; refine (ES.out _ _ _ HE1.out HE2.out).mono ?_; rintro e w7 ⟨rfl, hb7⟩; have D7 := Lib.hid (seqB DC.out hb7); obtain ⟨x0, x1, x2⟩ := HY.out _ D7.out; clear hb7 y0 y1 y2 z0 z1 z2)
          | (go_at_call 15; refine (MY.out _ (seqB N2.out D7.out)).mono ?_; rintro e w8 ⟨rfl, hb8⟩; have D8 := Lib.hid (seqB D7.out hb8); clear hb8 x0 x1 x2)
          | (go_at_call 17; refine (PR.out _ (HT.out.below (seqB N2.out D8.out)) (HK.out.below (seqB N2.out D8.out))).mono ?_; rintro e w9 ⟨⟨xa, xc, he, hox⟩, hb9⟩; dsimp only at he hox; rw [HN.out] at he hox; subst he; have BX := below_alloc w9 (.cells #[.int .i64 k, .slice xa n xc, .int .i64 p] 24); have D9 := Lib.hid (seqB (seqB D8.out hb9) BX); have O9 := Lib.hid (own_below hox BX); have X9 := Lib.hid (heap_alloc_new w9 (.cells #[.int .i64 k, .slice xa n xc, .int .i64 p] 24)); clear hb9 BX hox))
        obtain ⟨xb, hxb⟩ : ∃ xb, w9.heap.size = xb := ⟨_, rfl⟩
        obtain ⟨WA, hWA⟩ : ∃ WA, w9.alloc (.cells #[.int .i64 k, .slice xa n xc, .int .i64 p] 24) = WA := ⟨_, rfl⟩
        rw [hxb] at X9 ⊢
        rw [hWA] at D9 O9 X9 ⊢
        have hb0 : OwS WA w8.heap.size (.slice xa n xc) l := O9.out
        have HX : Hid (∀ wx, Below WA.heap.size WA wx → EvsIn ((wx.alloc (.cells #[.int .i64 k, .slice xa n xc, .int .i64 p] 24)).alloc (.cells #[.int .i64 k, .slice a n c, .int .i64 p] 24)) (some ⟨wx.heap.size, 0, none⟩) [(k, l, p)] ∧ EvsIn ((wx.alloc (.cells #[.int .i64 k, .slice xa n xc, .int .i64 p] 24)).alloc (.cells #[.int .i64 k, .slice a n c, .int .i64 p] 24)) (some ⟨wx.heap.size + 1, 0, none⟩) [(k, l, p)] ∧ wx.cell? ⟨xb, 0, none⟩ = some (.int .i64 k) ∧ wx.cell? ⟨xb, 1, none⟩ = some (.slice xa n xc) ∧ wx.cell? ⟨xb, 2, none⟩ = some (.int .i64 p) ∧ Below wx.heap.size wx ((wx.alloc (.cells #[.int .i64 k, .slice xa n xc, .int .i64 p] 24)).alloc (.cells #[.int .i64 k, .slice a n c, .int .i64 p] 24))) := Lib.hid fun wx hb => by
          have hO6 : OwS wx w8.heap.size (.slice xa n xc) l := own_below hb0 hb
          obtain ⟨_, _, hxe, hxs⟩ := hO6.sl
          injection hxe with f1 f2 f3
          subst f1; subst f3
          have C1 := below_alloc wx (.cells #[.int .i64 k, .slice xa n xc, .int .i64 p] 24)
          have C2 := below_alloc (wx.alloc (.cells #[.int .i64 k, .slice xa n xc, .int .i64 p] 24)) (.cells #[.int .i64 k, .slice a n c, .int .i64 p] 24)
          have hs2 : (wx.alloc (.cells #[.int .i64 k, .slice xa n xc, .int .i64 p] 24)).heap.size = wx.heap.size + 1 := by simp
          have NA := seqB N2.out D9.out
          have q := fun i => cell_of_row _ _ i _ _ _ (blk_below X9.out hb)
          refine ⟨evs_one (blk_below (heap_alloc_new wx (.cells #[.int .i64 k, .slice xa n xc, .int .i64 p] 24)) C2) HN.out ((hxs.s.below C1).below C2) (by have := hxs.le; rw [HN.out] at this; exact this), ?_, q 0, q 1, q 2, seqB C1 C2⟩
          have h := evs_one (heap_alloc_new (wx.alloc (.cells #[.int .i64 k, .slice xa n xc, .int .i64 p] 24)) (.cells #[.int .i64 k, .slice a n c, .int .i64 p] 24)) HN.out (((HS.out.below (seqB NA hb)).below C1).below C2) hc
          rw [hs2] at h
          exact h
        clear hxb hWA hb0 O9 X9 D8 HE1 HE2 ES
        go_wp2_with (first
          | (go_at_call 11; refine (AW.out _ (HT.out.below (seqB N2.out D9.out)) (HK.out.below (seqB N2.out D9.out))).mono ?_; rintro e w10 ⟨rfl, hb10⟩; have D10 := Lib.hid (seqB D9.out hb10); have A10 := Lib.hid hb10; obtain ⟨v0, v1, v2⟩ := HY.out _ D10.out; clear hb10)
          | (go_at_call 16; refine (CK.out _ (seqB N2.out D10.out)).mono ?_; rintro e w11 ⟨rfl, hb11⟩; have D11 := Lib.hid (seqB D10.out hb11); have A11 := Lib.hid (seqB A10.out hb11); obtain ⟨r0, r1, r2⟩ := HY.out _ D11.out; clear hb11 v0 v1 v2)
          | (go_at_call 18; refine (RT.out _ (seqB N2.out D11.out)).mono ?_; rintro e w12 ⟨rfl, hb12⟩; have D12 := Lib.hid (seqB D11.out hb12); have A12 := Lib.hid (seqB A11.out hb12); obtain ⟨e1, e2, g0, g1, g2, hbb⟩ := HX.out _ A12.out; have E1 := Lib.hid e1; have E2 := Lib.hid e2; have D13 := Lib.hid (seqB D12.out hbb); have hc1 := below_alloc w12 (.cells #[.int .i64 k, .slice xa n xc, .int .i64 p] 24); obtain ⟨t0, t1, t2⟩ := HY.out _ (seqB D12.out hc1); clear hb12 r0 r1 r2 e1 e2 hbb hc1)
          | (go_at_call 19; refine (RS.out _ _ _ E1.out E2.out).mono ?_; rintro e w14 ⟨rfl, hb14⟩; have D14 := Lib.hid (seqB D13.out hb14); clear hb14))
        go_ret
        exact ⟨rfl, seqB N2.out D14.out⟩
end Go.Proofs.YtldblffhkokhlaaDoor
namespace Go.Proofs.YtldblffhkokhlaaDoor
open Go.ChangeShapes Go.WideShapes Go.ChangeAt Go.RowKit
namespace utfU
theorem own : ownKnob Tryd.prog.godebug = none := by kernel_rfl
theorem laidOut : laidOutB Tryd.prog = true := by kernel_rfl
theorem eFirst : (Rows.laid_unicode_utf8_first : DataW Unit) = Lib.firstData := by kernel_rfl
theorem eAcc : (Rows.laid_unicode_utf8_acceptRanges : DataW Unit) = Lib.acceptData := by kernel_rfl
def laid : List (String × DataW Unit) := [("unicode/utf8.acceptRanges", Rows.laid_unicode_utf8_acceptRanges), ("unicode/utf8.first", Rows.laid_unicode_utf8_first)]
theorem extra : U8Extra Tryd.prog Tryd.lays260_ren := ⟨by kernel_rfl, by kernel_rfl, by kernel_rfl, by kernel_rfl, by kernel_rfl, by kernel_rfl, by kernel_rfl⟩
theorem tables {W : World} (h : laidMetH Tryd.prog laid W) : UT W := by
  have h1 : Lib.VarReads Tryd.prog W "unicode/utf8.acceptRanges" Lib.acceptData := by rw [← eAcc]; exact Lib.laidMet.reads h (.head _)
  have h2 : Lib.VarReads Tryd.prog W "unicode/utf8.first" Lib.firstData := by rw [← eFirst]; exact Lib.laidMet.reads h (.tail _ (.head _))
  have ht : Lib.Utf8Tabs 2 3 W := utf8Tabs_of_reads Tryd.lays260 extra h2 h1
  exact ⟨ht, block_lt_of_cell (ht.1 0 (by decide)), block_lt_of_cell (ht.2 0 (by decide)).1⟩
/-- A world for the witness: the settled one, the tables as their initialisers lay them. -/
def lay (cs : Array Value) : Obj → Obj
  | .cells _ t frozen => .cells cs t frozen
  | o => o
noncomputable def laidWorld (os : Os) : World :=
  { World.holding Tryd.prog os ⟨#[], #[], []⟩ with heap := ((World.holding Tryd.prog os ⟨#[], #[], []⟩).heap.modify 2 (lay (Lib.firstTab.map fun z => Value.int .u8 z).toArray)).modify 3 (lay ((List.range 16).flatMap fun i => [Value.int .u8 (Lib.accLo i), Value.int .u8 (Lib.accHi i)]).toArray) }
theorem laid_met (os : Os) (args : Array Value) : laidMet Tryd.prog laid ((laidWorld os).forCall (fun _ _ => 0) ⟨#[], args, []⟩).memory :=
  laidMet_of_run' 8 (by kernel_rfl) (by kernel_rfl)
end utfU
end Go.Proofs.YtldblffhkokhlaaDoor
