/-
  The law on there and back.
-/
import Derived.Test.YtfhcfamjlhmgiaaDoorV7
set_option linter.unusedVariables false
set_option linter.unusedSimpArgs false
namespace Go.Proofs.YtfhcfamjlhmgiaaDoor
set_option maxRecDepth 100000
open Go.RowKit
theorem tkL_own (s : ByteArray) (a o f : Int) (k : Nat) : ∀ c ∈ tkL s a o f k, c.2.2.1 = o := by
  intro c hc
  simp only [tkL, List.mem_map] at hc
  obtain ⟨i, _, rfl⟩ := hc
  rfl
theorem shK_own (v l o : Int) : ∀ c ∈ shK v l o, c.2.2.1 = o := by
  intro c hc
  rcases cells_cases v l o with ⟨_, hs⟩ | ⟨_, _, hs⟩ | ⟨_, _, hs⟩ | ⟨_, _, hs⟩ <;> rw [hs] at hc
  · exact tkL_own _ _ _ _ _ c hc
  · simp at hc; rcases hc with rfl | rfl <;> rfl
  · simp at hc; rw [hc]
  · simp at hc
/-- How many cells the first k signs have. -/
def lnM (l : List (Int × Int)) (k : Nat) : Nat := (vwG l ofL k).length
theorem lnM_succ (l : List (Int × Int)) (k : Nat) : (lnM l (k + 1) : Int) = lnM l k + shC (l.getD k (0, 0)).1 := by
  unfold lnM; rw [vwG_succ, List.length_append, Int.natCast_add, shK_len]
theorem lnM_mono1 (l : List (Int × Int)) (k : Nat) : lnM l k ≤ lnM l (k + 1) := by unfold lnM; rw [vwG_succ, List.length_append]; omega
theorem lnM_mono (l : List (Int × Int)) (j k : Nat) (h : j ≤ k) : lnM l j ≤ lnM l k := by
  induction k with
  | zero => have : j = 0 := by omega
            rw [this]; exact Nat.le_refl _
  | succ k ih =>
    rcases Nat.lt_or_ge j (k + 1) with h1 | h1
    · exact Nat.le_trans (ih (by omega)) (lnM_mono1 l k)
    · have : j = k + 1 := by omega
      rw [this]; exact Nat.le_refl _
theorem getD_left (a b : List Cl) (j : Nat) (h : j < a.length) : (a ++ b).getD j cl0 = a.getD j cl0 := by
  simp only [List.getD]; rw [List.getElem?_append_left h]
theorem getD_right (a b : List Cl) (j : Nat) (h : a.length ≤ j) : (a ++ b).getD j cl0 = b.getD (j - a.length) cl0 := by
  simp only [List.getD]; rw [List.getElem?_append_right h]
theorem getD_memC (a : List Cl) (j : Nat) (h : j < a.length) : a.getD j cl0 ∈ a := by
  rw [List.getD, List.getElem?_eq_getElem h]; exact List.getElem_mem h
/-- Whose the cells of signs are. -/
theorem vwG_at (l : List (Int × Int)) (f : Nat → Int) : ∀ k j, j < (vwG l f k).length → ∃ i, i < k ∧ lnM l i ≤ j ∧ j < lnM l (i + 1) ∧ ((vwG l f k).getD j cl0).2.2.1 = f i := by
  intro k
  induction k with
  | zero => intro j h; simp [vwG] at h
  | succ k ih =>
    intro j h
    have e := vwG_len l f ofL
    by_cases h1 : j < (vwG l f k).length
    · obtain ⟨i, a, b, c, d⟩ := ih j h1
      exact ⟨i, by omega, b, c, by rw [vwG_succ, getD_left _ _ _ h1]; exact d⟩
    · refine ⟨k, by omega, ?_, ?_, ?_⟩
      · have := e k; unfold lnM; omega
      · have := e (k + 1); unfold lnM; omega
      · rw [vwG_succ, getD_right _ _ _ (by omega)]
        refine shK_own _ _ _ _ (getD_memC _ _ ?_)
        rw [vwG_succ, List.length_append] at h; omega
theorem vw_front (p l : List (Int × Int)) (j : Nat) (h : j < (vwG p ofP p.length).length) : ((vwOf p l).getD j cl0).2.2.1 = -1 := by
  unfold vwOf
  rw [getD_left _ _ _ h]
  obtain ⟨i, _, _, _, hd⟩ := vwG_at p ofP p.length j h
  exact hd
theorem vw_line (p l : List (Int × Int)) (j i : Nat) (hi : i < l.length) (h0 : (vwG p ofP p.length).length + lnM l i ≤ j) (h1 : j < (vwG p ofP p.length).length + lnM l (i + 1)) : ((vwOf p l).getD j cl0).2.2.1 = i := by
  unfold vwOf
  rw [getD_right _ _ _ (by omega)]
  have hm := lnM_mono l (i + 1) l.length (by omega)
  obtain ⟨i', a, b, c, hd⟩ := vwG_at l ofL l.length (j - (vwG p ofP p.length).length) (by unfold lnM at hm h1; omega)
  have : i' = i := by
    rcases (by omega : i' < i ∨ i' = i ∨ i < i') with k | k | k
    · have := lnM_mono l (i' + 1) i (by omega); omega
    · exact k
    · have := lnM_mono l (i + 1) i' (by omega); omega
  rw [hd, this]; rfl
theorem lnM_lt {l : List (Int × Int)} (h : sgC l = true) {i : Nat} (hi : i < l.length) : lnM l i < lnM l (i + 1) := by
  have h1 := lnM_succ l i
  have h2 := shC_rng _ (sgC_at h hi)
  omega
/-- Where a sign's cells begin. -/
theorem fst_line (p l : List (Int × Int)) (h : sgC l = true) (i : Nat) (hi : i ≤ l.length) : fstM (vwOf p l) (i : Int) = (vwG p ofP p.length).length + lnM l i := by
  have hlen : (vwOf p l).length = (vwG p ofP p.length).length + lnM l l.length := by unfold vwOf lnM; rw [List.length_append]
  have hlow : ∀ j, j < (vwG p ofP p.length).length + lnM l i → ((vwOf p l).getD j cl0).2.2.1 < (i : Int) := by
    intro j hj
    by_cases hj1 : j < (vwG p ofP p.length).length
    · rw [vw_front p l j hj1]; omega
    · have hm := lnM_mono l i l.length hi
      unfold vwOf
      rw [getD_right _ _ _ (by omega)]
      obtain ⟨i', a, b, c, hd⟩ := vwG_at l ofL l.length (j - (vwG p ofP p.length).length) (by unfold lnM at hm hj; omega)
      rw [hd]
      have : i' < i := by
        rcases Nat.lt_or_ge i' i with k | k
        · exact k
        · have := lnM_mono l i i' k; omega
      show (i' : Int) < i
      omega
  by_cases he : i = l.length
  · rw [he] at hlow ⊢
    rw [← hlen]
    exact fstM_none (fun j hj => hlow j (by omega))
  · have hlt := lnM_lt h (i := i) (by omega)
    have hm := lnM_mono l (i + 1) l.length (by omega)
    refine fstM_at (by omega) ?_ hlow
    rw [vw_line p l _ i (by omega) (Nat.le_refl _) (by omega)]; exact Int.le_refl _
theorem own_line (p l : List (Int × Int)) (j i : Nat) (hi : i < l.length) (h0 : (vwG p ofP p.length).length + lnM l i ≤ j) (h1 : j < (vwG p ofP p.length).length + lnM l (i + 1)) : ownM (vwOf p l) (j : Int) = i := by
  have hlen : (vwOf p l).length = (vwG p ofP p.length).length + lnM l l.length := by unfold vwOf lnM; rw [List.length_append]
  have hm := lnM_mono l (i + 1) l.length (by omega)
  unfold ownM
  rw [if_neg (by omega), if_neg (by omega), show (max (j : Int) 0).toNat = j by omega]
  exact vw_line p l j i hi h0 h1
theorem own_rng (p l : List (Int × Int)) (hl : l.length ≤ 1000) : ∀ j, j < (vwOf p l).length → -9223372036854775808 ≤ ((vwOf p l).getD j cl0).2.2.1 ∧ ((vwOf p l).getD j cl0).2.2.1 < 9223372036854775807 := by
  intro j hj
  by_cases hj1 : j < (vwG p ofP p.length).length
  · rw [vw_front p l j hj1]; omega
  · unfold vwOf at hj ⊢
    rw [List.length_append] at hj
    rw [getD_right _ _ _ (by omega)]
    obtain ⟨i', a, b, c, hd⟩ := vwG_at l ofL l.length (j - (vwG p ofP p.length).length) (by omega)
    rw [hd]
    show -9223372036854775808 ≤ (i' : Int) ∧ (i' : Int) < 9223372036854775807
    omega
set_option maxHeartbeats 8000000 in
theorem viewmaps_any (p l : List (Int × Int)) (a b : Option Addr) (c d : Nat) (w : World) (hT : Tabs w) (hmp : p.length ≤ 9223372036854775807) (hml : l.length ≤ 9223372036854775807) (ha : Signs w a p) (hb : Signs w b l) :
    Calls Tryd.prog 7 #[.slice a p.length c, .slice b l.length d] w fun e w' => e = .returned (.bool true) ∧ Below w.heap.size w w' := by
  have AW := Lib.hid fun w hT => vawake_any w hT
  have HV := Lib.hid (⟨hT, ha, hb⟩ : V7 w a b p l)
  clear hT ha hb
  by_cases h1 : 40 < p.length
  · have h1' : (40 : Int) < p.length := by omega
    go_enter Tryd.func7, Tryd.ntmps7
    go_wp2_with (go_at_call 28; refine (AW.out _ HV.out.t).mono ?_; rintro e w1 ⟨rfl, hb1⟩)
    go_ret
    exact ⟨rfl, hb1⟩
  have h1' : ¬ (40 : Int) < p.length := by omega
  by_cases h2 : 60 < l.length
  · have h2' : (60 : Int) < l.length := by omega
    go_enter Tryd.func7, Tryd.ntmps7
    go_wp2_with (go_at_call 28; refine (AW.out _ HV.out.t).mono ?_; rintro e w1 ⟨rfl, hb1⟩)
    go_ret
    exact ⟨rfl, hb1⟩
  have h2' : ¬ (60 : Int) < l.length := by omega
  have A1 := fun w1 (h : V7 w1 a b p l) => sgall_ref p a c w1 (by omega) h.p
  have A2 := fun w1 (h : V7 w1 a b p l) => sgall_ref l b d w1 (by omega) h.l
  cases hP : sgC p
  · rw [hP] at A1
    replace A1 := Lib.hid A1
    clear A2 hP
    go_enter Tryd.func7, Tryd.ntmps7
    go_wp2_with (first
      | (go_at_call 30; (with_reducible refine (A1.out _ HV.out).mono ?_); rintro e w2 ⟨rfl, hb2⟩; have K2 := Lib.hid (HV.out.below hb2))
      | (go_at_call 28; refine (AW.out _ K2.out.t).mono ?_; rintro e w3 ⟨rfl, hb3⟩))
    go_ret
    exact ⟨rfl, seqB hb2 hb3⟩
  cases hL : sgC l
  · rw [hP] at A1
    rw [hL] at A2
    replace A1 := Lib.hid A1; replace A2 := Lib.hid A2
    clear hP hL
    go_enter Tryd.func7, Tryd.ntmps7
    go_wp2_with (first
      | (go_at_call 30; (with_reducible refine (A1.out _ HV.out).mono ?_); rintro e w2 ⟨rfl, hb2⟩; have K2 := Lib.hid (HV.out.below hb2))
      | (go_at_call 30; (with_reducible refine (A2.out _ K2.out).mono ?_); rintro e w3 ⟨rfl, hb3⟩; have K3 := Lib.hid (K2.out.below hb3))
      | (go_at_call 28; refine (AW.out _ K3.out.t).mono ?_; rintro e w4 ⟨rfl, hb4⟩))
    go_ret
    exact ⟨rfl, seqB (seqB hb2 hb3) hb4⟩
  · have V := fun w1 (h : V7 w1 a b p l) => vof_cells p l a b c d w1 (by omega) (by omega) h hP hL
    have S1 := fun w1 (h : V7 w1 a b p l) => vcols_any p a c w1 (by omega) h.p h.t
    have hle := vwOf_le p l
    have hfst := fun i hi => fst_line p l hL i hi
    have hown := own_line p l
    have hrng := own_rng p l (by omega)
    have hlt := fun i hi => lnM_lt (l := l) hL (i := i) hi
    have hsucc := lnM_succ l
    have hlast : (vwOf p l).length = (vwG p ofP p.length).length + lnM l l.length := by unfold vwOf lnM; rw [List.length_append]
    have hmono := lnM_mono l
    have hcol : colM p p.length = ((vwG p ofP p.length).length : Int) := rfl
    rw [hcol] at S1
    rw [hP] at A1
    rw [hL] at A2
    have h00 : lnM l 0 = 0 := rfl
    generalize vwOf p l = X at *
    generalize (vwG p ofP p.length).length = P at *
    have F := fun (i : Nat) (hi : i ≤ l.length) w1 a c (h : CellsIn w1 a X) => (by have h1 := first_any X (i : Int) a c w1 (by omega) h; rw [hfst i hi] at h1; exact h1 : Calls Tryd.prog 33 #[.slice a X.length c, .int .i64 (i : Int)] w1 fun e w' => e = .returned (.int .i64 ((P + lnM l i : Nat) : Int)) ∧ Below w1.heap.size w1 w')
    have F0 := F 0 (Nat.zero_le _)
    have FL := F l.length (Nat.le_refl _)
    rw [h00, Nat.add_zero, show ((0 : Nat) : Int) = 0 from rfl] at F0
    rw [← hlast] at FL
    have O := fun (j i : Nat) (hi : i < l.length) (h0 : P + lnM l i ≤ j) (h1 : j < P + lnM l (i + 1)) w1 a c (h : CellsIn w1 a X) => (by have h2 := own_any X (j : Int) a c w1 (by omega) h hrng; rw [hown j i hi h0 h1] at h2; exact h2 : Calls Tryd.prog 34 #[.slice a X.length c, .int .i64 (j : Int)] w1 fun e w' => e = .returned (.int .i64 (i : Int)) ∧ Below w1.heap.size w1 w')
    replace A1 := Lib.hid A1; replace A2 := Lib.hid A2; replace V := Lib.hid V; replace S1 := Lib.hid S1; replace F := Lib.hid F; replace F0 := Lib.hid F0; replace FL := Lib.hid FL; replace O := Lib.hid O
    have Hlt := Lib.hid hlt; have Hsucc := Lib.hid hsucc; have Hmono := Lib.hid hmono
    have Hlast := Lib.hid hlast
    clear hP hL hfst hown hrng hlt hsucc hmono hcol h00 hlast
    go_enter Tryd.func7, Tryd.ntmps7
    go_wp2_with (first
      | (go_at_call 30; (with_reducible refine (A1.out _ HV.out).mono ?_); rintro e w1 ⟨rfl, hb1⟩; have K1 := Lib.hid (HV.out.below hb1))
      | (go_at_call 30; (with_reducible refine (A2.out _ K1.out).mono ?_); rintro e w2 ⟨rfl, hb2⟩; have K2 := Lib.hid (K1.out.below hb2))
      | (go_at_call 29; refine (V.out _ K2.out).mono ?_; rintro e w3 ⟨ca, cc, rfl, hci, hb3⟩; have K3 := Lib.hid (K2.out.below hb3); have C3 := Lib.hid hci; clear hci)
      | (go_at_call 33; (with_reducible refine (F0.out _ _ _ C3.out).mono ?_); rintro e w4 ⟨rfl, hb4⟩; have K4 := Lib.hid (K3.out.below hb4); have C4 := Lib.hid (C3.out.below hb4))
      | (go_at_call 32; refine (S1.out _ K4.out).mono ?_; rintro e w5 ⟨rfl, hb5⟩; have K5 := Lib.hid (K4.out.below hb5); have C5 := Lib.hid (C4.out.below hb5))
      | (go_at_call 33; (with_reducible refine (FL.out _ _ _ C5.out).mono ?_); rintro e w6 ⟨rfl, hb6⟩; have K6 := Lib.hid (K5.out.below hb6); have C6 := Lib.hid (C5.out.below hb6)))
    have N6 := seqB (seqB (seqB (seqB (seqB hb1 hb2) hb3) hb4) hb5) hb6
    clear hb1 hb2 hb3 hb4 hb5 hb6 A1 A2 V S1 F0 FL K1 K2 K3 K4 K5 C3 C4 C5
    go_loopw [7] (fun iv wr => ∃ k : Nat, k ≤ l.length ∧ iv = .int .i64 (k : Int) ∧ Below w6.heap.size w6 wr) (fun iv _ => l.length - (intOf iv).toNat)
    case atStart => exact ⟨0, Nat.zero_le _, rfl, Below.refl _ _⟩
    case round =>
      obtain ⟨k, hk, rfl, hbl⟩ := hrel
      by_cases hkl : k < l.length
      · obtain ⟨b1, off, rfl, hblk, c1, c2⟩ := ((K6.out.below hbl).l) k hkl
        have hk1 : (k : Int) < l.length := by omega
        have hk0 : (0 : Int) ≤ k := by omega
        have R := fun w => shcols_ref (l.getD k (0, 0)).1 w
        have f1 := F.out k (by omega)
        have f2 := F.out (k + 1) (by omega)
        have o1 := O.out
        have l1 := Hlt.out k hkl
        have l2 := Hsucc.out k
        have l3 := Hmono.out (k + 1) l.length (by omega)
        have l4 : P + lnM l (k + 1) ≤ 10000 := by have := Hlast.out; omega
        clear l3
        generalize (l.getD k (0, 0)).1 = v at *
        generalize (l.getD k (0, 0)).2 = u at *
        generalize shC v = m at *
        have o2 := fun j h0 h1 => o1 j k hkl h0 h1
        generalize lnM l k = x at *
        generalize lnM l (k + 1) = y at *
        have hxm : (((P + y : Nat) : Int) - ((P + x : Nat) : Int) != m) = false := by rw [bne_eq_false_iff_eq]; omega
        have hkk : ((k + 1 : Nat) : Int) = (k : Int) + 1 := by omega
        rw [hkk] at f2
        obtain ⟨q1, hq1⟩ : ∃ q1, P + x = q1 := ⟨_, rfl⟩
        obtain ⟨q2, hq2⟩ : ∃ q2, P + y = q2 := ⟨_, rfl⟩
        rw [hq1] at f1 hxm o2
        rw [hq2] at f2 hxm o2
        have hqq : q1 < q2 := by omega
        have hqb : q2 ≤ 10000 := by omega
        replace f1 := Lib.hid f1; replace f2 := Lib.hid f2; replace R := Lib.hid R
        have O2 := Lib.hid o2
        clear o1 o2 O
        have C7 := Lib.hid (C6.out.below hbl)
        have hqi : ¬ ((q2 : Int) ≤ (q1 : Int)) := by omega
        have hqd : decide (q2 ≤ q1) = false := decide_eq_false (by omega)
        go_wp2_with (first
          | (go_at_call 33; (with_reducible refine (f1.out _ _ _ C7.out).mono ?_); rintro e w7 ⟨rfl, hb7⟩; have C8 := Lib.hid (C7.out.below hb7); have c7 := (hb7.cell (p := ⟨b1, off + k * 2, none⟩) hblk).trans c1; have hblk7 := Nat.lt_of_lt_of_le hblk hb7.size)
          | (go_at_call 33; (with_reducible refine (f2.out _ _ _ C8.out).mono ?_); rintro e w8 ⟨rfl, hb8⟩; have C9 := Lib.hid (C8.out.below hb8); have c8 := (hb8.cell (p := ⟨b1, off + k * 2, none⟩) hblk7).trans c7)
          | (go_at_call 21; refine (R.out _).mono ?_; rintro e w9 ⟨rfl, hb9⟩; have C10 := Lib.hid (C9.out.below hb9)))
        have N9 := hbl.trans ((seqB (seqB hb7 hb8) hb9).mono hbl.size)
        clear c7 c8 hb7 hb8 hb9 f1 f2 R hblk7
        go_loopw [10] (fun jv w' => ∃ j : Nat, q1 ≤ j ∧ j ≤ q2 ∧ jv = .int .i64 (j : Int) ∧ Below w9.heap.size w9 w') (fun jv _ => q2 - (intOf jv).toNat)
        case atStart => exact ⟨q1, Nat.le_refl _, by omega, rfl, Below.refl _ _⟩
        case round =>
          obtain ⟨j, hj1, hj2, rfl, hb10⟩ := hrel
          by_cases hjq : j < q2
          · have hji : (j : Int) < q2 := by omega
            have O3 := Lib.hid (O2.out j hj1 hjq)
            go_wp2_with (go_at_call 34; refine (O3.out _ _ _ (C10.out.below hb10)).mono ?_; rintro e w11 ⟨rfl, hb11⟩)
            go_roundw
            case rel => exact ⟨j + 1, by omega, by omega, by go_num, hb10.trans (hb11.mono hb10.size)⟩
            case measure => (simp [intOf]; try omega)
          · obtain rfl : j = q2 := by omega
            go_wp2
            go_roundw
            case rel => exact ⟨k + 1, by omega, by go_num, N9.trans (hb10.mono N9.size)⟩
            case measure => (simp [intOf]; try omega)
      · obtain rfl : k = l.length := by omega
        have K7 := Lib.hid (K6.out.below hbl)
        go_wp2_with (go_at_call 28; refine (AW.out _ K7.out.t).mono ?_; rintro e w7 ⟨rfl, hb7⟩)
        go_ret
        exact ⟨rfl, N6.trans ((hbl.trans (hb7.mono hbl.size)).mono N6.size)⟩
end Go.Proofs.YtfhcfamjlhmgiaaDoor
