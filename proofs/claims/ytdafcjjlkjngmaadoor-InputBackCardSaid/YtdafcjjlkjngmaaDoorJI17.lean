/-
  Joined: In31 In34.
-/
import Derived.Test.YtdafcjjlkjngmaaDoorJI14
set_option linter.unusedVariables false
set_option linter.unusedSimpArgs false
set_option maxRecDepth 100000
set_option linter.unusedVariables false
set_option linter.unusedSimpArgs false
namespace Go.Proofs.YtdafcjjlkjngmaaDoor
open Go.RowKit
theorem mkL_data (t : ByteArray) : mkL t.data.toList = t := by unfold mkL; simp
theorem inB_yes {t : List UInt8} {i : Nat} (hi : i < t.length) (h : ((t ++ peL).drop i).take 6 = peL) : inB t = true :=
  List.any_eq_true.2 ⟨i, List.mem_range.2 hi, decide_eq_true h⟩
theorem inB_no {t : List UInt8} (h : ∀ i, i < t.length → ((t ++ peL).drop i).take 6 ≠ peL) : inB t = false := by
  unfold inB
  rw [← Bool.not_eq_true, List.any_eq_true]
  rintro ⟨i, hi, h2⟩
  exact h i (List.mem_range.1 hi) (of_decide_eq_true h2)
set_option maxHeartbeats 4000000 in
theorem typable_any (k : Ky) (w : World) : Calls Tryd.prog 18 #[.agg #[.int .i64 k.1, .int .i64 k.2.1, .string k.2.2.1, .bool k.2.2.2]] w fun e w' => e = .returned (.bool (tyB k)) ∧ Below w.heap.size w w' := by
  have MY : Hid (∀ w, Calls Tryd.prog 41 #[.agg #[.int .i64 k.1, .int .i64 k.2.1, .string k.2.2.1, .bool k.2.2.2]] w fun e w' => e = .returned (.bool (keyB k)) ∧ Below w.heap.size w w') := Lib.hid (fun w => rmay_ref k w)
  have hsz : k.1 = 15 → keyB k = true → k.2.2.1.size ≤ 65536 := fun h1 h2 => by
    unfold keyB at h2
    rw [if_pos h1, Bool.and_eq_true] at h2
    exact of_decide_eq_true h2.2
  obtain ⟨a, v, t, c⟩ := k
  dsimp only at MY hsz ⊢
  have B0 := below_alloc w (.cells #[.int .i64 a, .int .i64 v, .string t, .bool c] 44)
  have r0 := heap_alloc_new w (.cells #[.int .i64 a, .int .i64 v, .string t, .bool c] 44)
  obtain ⟨W, hW⟩ : ∃ W, w.alloc (.cells #[.int .i64 a, .int .i64 v, .string t, .bool c] 44) = W := ⟨_, rfl⟩
  rw [hW] at B0 r0
  have R0 := Lib.hid r0
  have HB := Lib.hid B0
  have yy := fun i => cell_of_row _ _ i _ _ _ r0
  have e0 := yy 0; have e1 := yy 1; have e2 := yy 2; have e3 := yy 3
  dsimp at e0 e1 e2 e3
  clear yy B0 r0
  cases hk : keyB (a, v, t, c)
  · have ht : tyB (a, v, t, c) = false := by unfold tyB; rw [hk]; rfl
    rw [ht]
    rw [hk] at MY
    clear hk ht hsz
    go_enter Tryd.func18, Tryd.ntmps18
    go_upto_region 1 with fail
    clear hW
    go_wp2_with (go_at_call 41; refine (MY.out _).mono ?_; rintro e w2 ⟨rfl, hb⟩)
    go_ret
    exact ⟨rfl, seqB HB.out hb⟩
  rw [hk] at MY
  by_cases h3 : a = 3 ∧ (v = 91 ∨ v = 79)
  · have ht : tyB (a, v, t, c) = false := by unfold tyB; rw [hk, decide_eq_true h3.1, decide_eq_true h3.2]; rfl
    rw [ht]
    obtain ⟨rfl, h3⟩ := h3
    clear hk ht hsz
    rcases h3 with rfl | rfl
    all_goals
      go_enter Tryd.func18, Tryd.ntmps18
      go_upto_region 1 with fail
      clear hW
      go_wp2_with (go_at_call 41; refine (MY.out _).mono ?_; rintro e w2 ⟨rfl, hb⟩; have f0 := (hb.cell (p := ⟨w.heap.size, 0, none⟩) (blk_lt R0.out)).trans e0; have f1 := (hb.cell (p := ⟨w.heap.size, 1, none⟩) (blk_lt R0.out)).trans e1)
      go_ret
      exact ⟨rfl, seqB HB.out hb⟩
  have hd : (decide (a = 3) && decide (v = 91 ∨ v = 79)) = false := by
    rw [← Bool.not_eq_true, Bool.and_eq_true]
    exact fun hh => h3 ⟨of_decide_eq_true hh.1, of_decide_eq_true hh.2⟩
  have hcond : Hid (¬ a = 3 ∨ (a = 3 ∧ (v == 91) = false ∧ (v == 79) = false)) := Lib.hid (by
    by_cases h : a = 3
    · exact Or.inr ⟨h, by simp; exact fun e => h3 ⟨h, Or.inl e⟩, by simp; exact fun e => h3 ⟨h, Or.inr e⟩⟩
    · exact Or.inl h)
  by_cases h15 : a = 15
  · subst h15
    have hs := hsz rfl hk
    have ht : tyB (15, v, t, c) = (!inB t.data.toList && !c && decide (t.size ≤ 50)) := by
      unfold tyB; rw [hk, hd]; rfl
    rw [ht]
    have hsum : t ++ ⟨#[27, 91, 50, 48, 49, 126]⟩ = mkL (t.data.toList ++ peL) := by
      conv => lhs; rw [← mkL_data t, show (⟨#[27, 91, 50, 48, 49, 126]⟩ : ByteArray) = mkL peL from rfl]
      rw [mkL_cat]
    obtain ⟨n, hn⟩ : ∃ n, t.size = n := ⟨_, rfl⟩
    have hTl : t.data.toList.length = n := by rw [← hn]; exact Array.length_toList
    have hz : (mkL (t.data.toList ++ peL)).size = n + 6 := by rw [mkL_size, List.length_append, hTl]; rfl
    have hext : ∀ i, i < n → (mkL (t.data.toList ++ peL)).extract i (i + 6) = mkL (((t.data.toList ++ peL).drop i).take 6) := fun i hi => by
      rw [mkL_ext, Nat.add_sub_cancel_left]
    have HE := Lib.hid hext
    have HTl := Lib.hid hTl
    have hn6 : n ≤ 65536 := by omega
    have hs9 : ¬ 9223372036854775807 < n + 6 := by omega
    rw [hn]
    clear hk ht hsz hd h3 hcond hTl hs hext
    generalize t.data.toList = T at *
    have HZ := Lib.hid hz
    go_enter Tryd.func18, Tryd.ntmps18
    go_upto_region 1 with fail
    clear hW
    go_upto_region 3 with (go_at_call 41; refine (MY.out _).mono ?_; rintro e w2 ⟨rfl, hb⟩; have N2 := Lib.hid (seqB HB.out hb); have R2 := Lib.hid (blk_below R0.out hb); have zz := fun i => cell_of_row _ _ i _ _ _ R2.out; have f0 := zz 0; have f1 := zz 1; have f2 := zz 2; have f3 := zz 3; dsimp at f0 f1 f2 f3; clear zz hb)
    clear e0 e1 e2 e3
    go_upto_region 7 with fail
    go_loopw [4] (fun iv wr => ∃ (i : Nat), i ≤ n ∧ iv = .int .i64 (i : Int) ∧ wr = w2 ∧ Hid (∀ j, j < i → ((T ++ peL).drop j).take 6 ≠ peL)) (fun iv _ => n - (intOf iv).toNat)
    case atStart => exact ⟨0, Nat.zero_le _, rfl, rfl, Lib.hid (fun j hj => absurd hj (Nat.not_lt_zero j))⟩
    case round =>
      obtain ⟨i, hi, rfl, rfl, HI⟩ := hrel
      by_cases hlt : i < n
      · have hi1 : (i : Int) < (n : Int) := by omega
        have hi6 : (i : Int) + 6 ≤ (n : Int) + 6 := by omega
        have hx := HE.out i hlt
        by_cases he : ((T ++ peL).drop i).take 6 = peL
        · have hin : inB T = true := inB_yes (by rw [HTl.out]; exact hlt) he
          rw [he, show mkL peL = ⟨#[27, 91, 50, 48, 49, 126]⟩ from rfl] at hx
          clear he
          go_wp2
          go_ret
          exact ⟨by first | rfl | (rw [hin]; rfl), N2.out⟩
        · have hne : ((mkL (((T ++ peL).drop i).take 6)).toList == [27, 91, 50, 48, 49, 126]) = false := bq_ne he
          have HI2 : Hid (∀ j, j < i + 1 → ((T ++ peL).drop j).take 6 ≠ peL) := Lib.hid (fun j hj => by
            by_cases hji : j = i
            · rw [hji]; exact he
            · exact HI.out j (by omega))
          clear he
          generalize mkL (((T ++ peL).drop i).take 6) = td at *
          go_wp2
          go_roundw
          case rel => exact ⟨i + 1, by omega, by go_num, by first | rfl | trivial, HI2⟩
          case measure => (simp [intOf]; try omega)
      · obtain rfl : i = n := by omega
        have hi1 : ¬ ((i : Int) < (i : Int)) := by omega
        have hin : inB T = false := inB_no (fun j hj => HI.out j (by rw [HTl.out] at hj; exact hj))
        cases c
        · by_cases h50 : i ≤ 50
          · have h5 : (i : Int) ≤ 50 := by omega
            go_wp2
            go_ret
            exact ⟨by first | rfl | (rw [hin, decide_eq_true h50]; rfl), N2.out⟩
          · have h5 : ¬ (i : Int) ≤ 50 := by omega
            go_wp2
            go_ret
            exact ⟨by first | rfl | (rw [hin, decide_eq_false h50]; rfl), N2.out⟩
        · go_wp2
          go_ret
          exact ⟨by first | rfl | (rw [hin]; rfl), N2.out⟩
  · have ht : tyB (a, v, t, c) = true := by
      unfold tyB; rw [hk, hd]
      dsimp only
      rw [decide_eq_true h15]; rfl
    rw [ht]
    have h15b : (a != 15) = true := by simpa using h15
    have hc := hcond.out
    clear hk ht hsz hd h3 hcond h15
    rcases hc with h | ⟨rfl, g1, g2⟩
    · have h3b : (a == 3) = false := by simpa using h
      clear h
      go_enter Tryd.func18, Tryd.ntmps18
      go_upto_region 1 with fail
      clear hW
      go_wp2_with (go_at_call 41; refine (MY.out _).mono ?_; rintro e w2 ⟨rfl, hb⟩; have f0 := (hb.cell (p := ⟨w.heap.size, 0, none⟩) (blk_lt R0.out)).trans e0; have f1 := (hb.cell (p := ⟨w.heap.size, 1, none⟩) (blk_lt R0.out)).trans e1)
      go_ret
      exact ⟨rfl, seqB HB.out hb⟩
    · go_enter Tryd.func18, Tryd.ntmps18
      go_upto_region 1 with fail
      clear hW
      go_wp2_with (go_at_call 41; refine (MY.out _).mono ?_; rintro e w2 ⟨rfl, hb⟩; have f0 := (hb.cell (p := ⟨w.heap.size, 0, none⟩) (blk_lt R0.out)).trans e0; have f1 := (hb.cell (p := ⟨w.heap.size, 1, none⟩) (blk_lt R0.out)).trans e1)
      go_ret
      exact ⟨rfl, seqB HB.out hb⟩
end Go.Proofs.YtdafcjjlkjngmaaDoor
set_option linter.unusedVariables false
set_option linter.unusedSimpArgs false
namespace Go.Proofs.YtdafcjjlkjngmaaDoor
open Go.RowKit
theorem oneI_le4 (v : Int) : (oneI v).length ≤ 4 := by
  unfold oneI
  split
  · exact (Lib.encodeRuneZ_length v).2
  split <;> simp
theorem kRow_le4 (a v : Int) : (kRowOf a v).2.2.2.length ≤ 4 := by
  have hall : ∀ r ∈ kTab, r.2.2.2.length ≤ 4 := by decide
  unfold kRowOf
  cases h : kFind a v with
  | none => decide
  | some r => exact hall r (List.mem_of_find?_eq_some h)
theorem ty_len (k : Ky) (h : tyB k = true) : (byR k).length ≤ 62 := by
  unfold tyB at h
  rw [Bool.and_eq_true, Bool.and_eq_true] at h
  obtain ⟨⟨hk, _⟩, h15⟩ := h
  have ht : ∀ l : List Int, (txt l).data.toList.length = l.length := fun l => by rw [Array.length_toList]; exact txt_size l
  have h1 := oneI_le4 k.2.1
  unfold byR byN
  rw [if_pos hk]
  by_cases e1 : k.1 = 1 ∨ k.1 = 2
  · rw [if_pos e1, ht]; omega
  rw [if_neg e1]
  by_cases e3 : k.1 = 3
  · rw [if_pos e3, List.length_cons, ht]; omega
  rw [if_neg e3]
  by_cases e15 : k.1 = 15
  · rw [if_pos e15]
    rw [decide_eq_false (by simpa using e15), Bool.false_or, Bool.and_eq_true] at h15
    have hs := of_decide_eq_true h15.2
    have hl : k.2.2.1.data.toList.length = k.2.2.1.size := Array.length_toList
    simp only [List.length_append, List.length_cons, List.length_nil, hl]
    omega
  · rw [if_neg e15]
    have := kRow_le4 k.1 k.2.1
    omega
theorem back_do (K : List Ky) (h : ∀ k ∈ K, tyB k = true) : (doR (in0 50) (iyL K)).2 = K ∧ (decide ((doR (in0 50) (iyL K)).1.wait ≠ []) || (doR (in0 50) (iyL K)).1.pas) = false := by
  have h1 := rl_do (rl_0 50) (show (1 : Int) ≤ (in0 50).most by decide) (iyL K)
  have h2 := ra_keys K h
  rw [show (in0 50).most = 50 from rfl, h2] at h1
  exact ⟨h1.1, rl_waits h1.2.1⟩
set_option maxHeartbeats 8000000 in
theorem inputback_any (l : List Ky) (a : Option Addr) (c : Nat) (W : World) (hT : UT W) (hK : KT W) (hmax : l.length ≤ 9223372036854775807) (hR : KeysIn W a l) :
    Calls Tryd.prog 5 #[.slice a l.length c] W fun e w' => e = .returned (.bool true) ∧ Below W.heap.size W w' := by
  obtain ⟨n, hn⟩ : ∃ n, l.length = n := ⟨_, rfl⟩
  rw [hn]
  have AW := Lib.hid (fun w h1 h2 => inawake_any w h1 h2)
  have HT := Lib.hid hT
  have HK := Lib.hid hK
  have HR := Lib.hid hR
  have HN := Lib.hid hn
  by_cases h60 : 60 < n
  · have h6 : (60 : Int) < (n : Int) := by omega
    clear hT hK hR hn hmax
    go_enter Tryd.func5, Tryd.ntmps5
    go_wp2_with (go_at_call 10; refine (AW.out _ HT.out HK.out).mono ?_; rintro e w1 ⟨rfl, hb⟩)
    go_ret
    exact ⟨rfl, hb⟩
  have h6 : ¬ (60 : Int) < (n : Int) := by omega
  have hn6 : Hid (n ≤ 60) := Lib.hid (by omega)
  clear hT hK hR hn hmax h60
  go_enter Tryd.func5, Tryd.ntmps5
  go_upto_region 3 with (go_at_call 10; refine (AW.out _ HT.out HK.out).mono ?_; rintro e w1 ⟨rfl, hb⟩; have B1 := Lib.hid hb; clear hb)
  go_upto_region 5 with fail
  go_loopw [3, 4] (fun sv iv wr => ∃ (k : Nat), k ≤ n ∧ iv = .int .i64 (k : Int) ∧ Hid (OwK wr w1.heap.size sv ((l.take k).filter tyB)) ∧ Hid (Below w1.heap.size w1 wr)) (fun _ iv _ => n - (intOf iv).toNat)
  case atStart => exact ⟨0, Nat.zero_le _, rfl, Lib.hid (owk_nil _ _), Lib.hid (Below.refl _ _)⟩
  case round =>
    obtain ⟨k, hk, rfl, HO, HB⟩ := hrel
    obtain ⟨m, hm⟩ : ∃ m, ((l.take k).filter tyB).length = m := ⟨_, rfl⟩
    have HM := Lib.hid hm
    obtain ⟨ad, cp, rfl⟩ := HO.out.form hm
    have hmk : Hid (m ≤ 60) := Lib.hid (by
      have h1 := List.length_filter_le tyB (l.take k)
      rw [hm, List.length_take] at h1
      have := hn6.out; omega)
    by_cases hlt : k < n
    · have hkl : k < l.length := by rw [HN.out]; exact hlt
      have hk1 : (k : Int) < n := by omega
      have hk0 : (0 : Int) ≤ k := by omega
      have NB := Lib.hid (B1.out.trans (HB.out.mono B1.out.size))
      obtain ⟨b, off, rfl, hblt, c0, c1, c2, c3⟩ := HR.out k hkl
      have d0 := (NB.out.cell (p := ⟨b, off + k * 4, none⟩) hblt).trans c0
      have d1 := (NB.out.cell (p := ⟨b, off + k * 4 + 1, none⟩) hblt).trans c1
      have d2 := (NB.out.cell (p := ⟨b, off + k * 4 + 2, none⟩) hblt).trans c2
      have d3 := (NB.out.cell (p := ⟨b, off + k * 4 + 3, none⟩) hblt).trans c3
      have hsn : Hid ((l.take (k + 1)).filter tyB = (l.take k).filter tyB ++ (if tyB (l.getD k k0) = true then [l.getD k k0] else [])) := Lib.hid (by
        rw [List.take_succ_eq_append_getElem hkl, List.filter_append, List.getD, List.getElem?_eq_getElem hkl]
        congr 1
        simp [List.filter_cons])
      have HC := Lib.hid (And.intro c0 (And.intro c1 (And.intro c2 c3)))
      clear c0 c1 c2 c3 hkl hm
      generalize (l.take k).filter tyB = R at *
      generalize l.getD k k0 = q at *
      have TY := Lib.hid (fun w => typable_any q w)
      obtain ⟨q1, q2, q3, q4⟩ := q
      dsimp only at d0 d1 d2 d3 TY HC
      cases hty : tyB (q1, q2, q3, q4)
      · rw [hty] at TY
        have hsn2 : Hid ((l.take (k + 1)).filter tyB = R) := Lib.hid (by rw [hsn.out, hty]; simp)
        clear hty hsn
        go_wp2_with (go_at_call 18; refine (TY.out _).mono ?_; rintro e w3 ⟨rfl, hb⟩; have O3 := Lib.hid (HO.out.below hb); have N3 := Lib.hid (seqB HB.out hb); clear hb)
        go_roundw
        case rel => exact ⟨k + 1, by omega, by go_num, Lib.hid (by rw [hsn2.out]; exact O3.out), N3⟩
        case measure => (simp [intOf]; try omega)
      · rw [hty] at TY
        have hsn2 : Hid ((l.take (k + 1)).filter tyB = R ++ [(q1, q2, q3, q4)]) := Lib.hid (by rw [hsn.out, hty]; simp)
        clear hty hsn
        go_wp2_with (first
          | (go_at_call 18
             refine (TY.out _).mono ?_
             rintro e w3 ⟨rfl, hb⟩
             have NB3 := seqB NB.out hb
             have g0 := (NB3.cell (p := ⟨b, off + k * 4, none⟩) hblt).trans HC.out.1
             have g1 := (NB3.cell (p := ⟨b, off + k * 4 + 1, none⟩) hblt).trans HC.out.2.1
             have g2 := (NB3.cell (p := ⟨b, off + k * 4 + 2, none⟩) hblt).trans HC.out.2.2.1
             have g3 := (NB3.cell (p := ⟨b, off + k * 4 + 3, none⟩) hblt).trans HC.out.2.2.2
             have B4 := below_alloc w3 (.cells #[.int .i64 q1, .int .i64 q2, .string q3, .bool q4] 44)
             have O4 := Lib.hid ((HO.out.below hb).below B4)
             have N4 := Lib.hid (seqB (seqB HB.out hb) B4)
             have S4 := Lib.hid (key_new1 w3 (q1, q2, q3, q4))
             clear hb NB3 B4)
          | (at_builtin; refine wpList_app_keys rfl _ _ rfl w1.heap.size _ m R rfl HM.out O4.out (some ⟨w3.heap.size, 0, none⟩) 1 1 [(q1, q2, q3, q4)] rfl rfl S4.out (fun e => (by cases e)) ?g3 ?g4 ?_))
        case g3 => have := hmk.out; omega
        case g4 => exact N4.out.size
        intro ad5 c5 w5 o5 g5 p5
        have N5 := Lib.hid (N4.out.grown g5 N4.out.size (fun j e => (O4.out.lt j e).1))
        have O5 := Lib.hid o5
        clear o5 g5 p5
        go_wp2
        go_roundw
        case rel => exact ⟨k + 1, by omega, by go_num, Lib.hid (by rw [hsn2.out]; exact O5.out), N5⟩
        case measure => (simp [intOf]; try omega)
    · obtain rfl : k = n := by omega
      have hk1 : ¬ ((k : Int) < (k : Int)) := by omega
      have hlt2 : l.take k = l := by rw [← HN.out, List.take_length]
      rw [hlt2] at HO HM
      have hall : ∀ q ∈ l.filter tyB, tyB q = true := fun q hq => (List.mem_filter.1 hq).2
      obtain ⟨bd1, bd2⟩ := back_do _ hall
      have HBy := Lib.hid (fun q (hq : q ∈ l.filter tyB) => ty_len q (hall q hq))
      have hil := iyL_len _ HBy.out
      have BD1 := Lib.hid bd1
      have BD2 := Lib.hid bd2
      have NB := Lib.hid (B1.out.trans (HB.out.mono B1.out.size))
      clear bd1 bd2 hall hm hlt2
      obtain ⟨I, hI⟩ : ∃ I, iyL (l.filter tyB) = I := ⟨_, rfl⟩
      have HI := Lib.hid hI
      rw [hI] at hil BD1 BD2
      clear hI
      generalize l.filter tyB = R at *
      have hI9 : Hid (I.length ≤ 9800) := Lib.hid (by have := HM.out; have := hmk.out; omega)
      obtain ⟨_, _, e0, s0⟩ := HO.out.sl
      rw [HM.out] at e0
      cases e0
      have S0 := Lib.hid s0.s
      clear s0 hil
      go_upto_region 10 with (go_at_call 11; refine (innew_any (S := fun j => j < wr.heap.size) 50 wr (by omega) (fun j hj => hj)).mono ?_; rintro e w2 ⟨rfl, h2, b2⟩; have H2 := Lib.hid h2; have D2 := Lib.hid b2; have O2 := Lib.hid (HO.out.below b2); have S2 := Lib.hid (S0.out.below b2); clear h2 b2)
      have OF := Lib.hid (inof_any R ad m cp w2 HM.out hmk.out S2.out (HK.out.below (seqB NB.out D2.out)) HBy.out)
      rw [HI.out] at OF
      go_upto_region 11 with (first
        | (go_at_call 19
           refine OF.out.mono ?_
           rintro e w3 ⟨v3, rfl, o3, b3⟩
           obtain ⟨a3, c3, rfl⟩ := o3.form (n := I.length) rfl
           have H3 := Lib.hid (H2.out.kept b3 (T := fun j => j < wr.heap.size ∨ (Value.slice a3 I.length c3).ownBlock = some j) (fun j hj => by
             rcases hj with hj | hj
             · exact Or.inl hj
             · exact Or.inr (o3.lt j hj)))
           have D3 := Lib.hid (seqB D2.out b3)
           have U3 : Hid (US (fun j => j < wr.heap.size ∨ (Value.slice a3 I.length c3).ownBlock = some j) w3) := Lib.hid ⟨HT.out.below (seqB NB.out D3.out), Or.inl (Nat.lt_of_lt_of_le HT.out.2.1 NB.out.size), Or.inl (Nat.lt_of_lt_of_le HT.out.2.2 NB.out.size)⟩
           have O3 := Lib.hid o3
           clear o3 b3)
        | (go_at_call 14
           refine (do_own (N := 0) H3.out U3.out O3.out (fun j h => Or.inr h) rfl hI9.out (gs_in0 (m := 50) (by omega)) (by have := hI9.out; omega)).mono ?_
           rw [BD1.out]
           rintro e w4 ⟨v4, rfl, o4, h4, k4⟩
           obtain ⟨a4, c4, rfl⟩ := o4.form HM.out
           have H4 := Lib.hid (h4.mono (T := fun j => j < wr.heap.size) (fun j hj => Or.inl (Or.inl hj)))
           have D4 := Lib.hid (D3.out.trans (k4.below wr.heap.size (fun j hj => Or.inl hj)))
           obtain ⟨_, _, e4, s4⟩ := o4.sl
           rw [HM.out] at e4
           cases e4
           have S4 := Lib.hid s4.s
           have T4 := Lib.hid (S0.out.below D4.out)
           clear o4 h4 k4 s4))
      have SM := Lib.hid (ksame_ref R a4 ad m c4 cp w4 HM.out (by have := hmk.out; omega) S4.out T4.out)
      go_wp2_with (first
        | (go_at_call 13
           refine SM.out.mono ?_
           rintro e w5 ⟨rfl, hb⟩
           have H5 := Lib.hid (H4.out.kept hb (T := fun j => j < wr.heap.size) (fun j hj => Or.inl hj))
           have D5 := Lib.hid (seqB NB.out (seqB D4.out hb))
           have WA : Hid (Calls Tryd.prog 16 #[.pointer (some ⟨wr.heap.size, 0, none⟩)] w5 fun e w' => e = .returned (.bool false) ∧ w5 = w') := Lib.hid (by
             have := inwaits_any H5.out
             rw [BD2.out] at this
             exact this)
           clear hb)
        | (go_at_call 16; refine WA.out.mono ?_; rintro e w5' ⟨rfl, rfl⟩))
      go_ret
      exact ⟨rfl, D5.out⟩
end Go.Proofs.YtdafcjjlkjngmaaDoor
