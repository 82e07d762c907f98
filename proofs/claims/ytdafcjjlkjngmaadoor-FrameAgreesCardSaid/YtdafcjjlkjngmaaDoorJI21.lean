/-
  Joined: Fr13.
-/
import Derived.Test.YtdafcjjlkjngmaaDoorJI20
import Derived.Deep.RegionHeld3
set_option linter.unusedVariables false
set_option linter.unusedSimpArgs false
set_option maxRecDepth 100000
set_option linter.unusedVariables false
set_option linter.unusedSimpArgs false
namespace Go.Proofs.YtdafcjjlkjngmaaDoor
open Go.RowKit Go.Sort
/-- Cells of a row, in a block of S. -/
def CI (S : Nat → Prop) (w : World) (a : Option Addr) (m : Nat) (xs : List Value) : Prop := ∀ j, j < m → ∃ g, a = some ⟨g, 0, none⟩ ∧ S g ∧ w.cell? ⟨g, j, none⟩ = xs[j]?
section
variable {S : Nat → Prop} {w w' : World} {a : Option Addr} {m : Nat} {xs : List Value}
theorem CI.keptM (h : CI S w a m xs) (k : KeptM S w w') : CI S w' a m xs := fun j hj => by
  obtain ⟨g, e, hg, hc⟩ := h j hj
  exact ⟨g, e, hg, (cellb_in (k.block g hg) _).trans hc⟩
theorem CI.below (h : CI S w a m xs) (b : Below w.heap.size w w') (hS : ∀ k, S k → k < w.heap.size) : CI S w' a m xs := fun j hj => by
  obtain ⟨g, e, hg, hc⟩ := h j hj
  exact ⟨g, e, hg, (b.cell (p := ⟨g, j, none⟩) (hS g hg)).trans hc⟩
theorem CI.mono {T : Nat → Prop} (h : CI S w a m xs) (hT : ∀ k, S k → T k) : CI T w a m xs := fun j hj => by
  obtain ⟨g, e, hg, hc⟩ := h j hj
  exact ⟨g, e, hT g hg, hc⟩
theorem own_ci {B n sz : Nat} {e : TypeId} {v : Value} (h : w.ownsRow B e sz v n xs) : ∃ a c, v = .slice a n c ∧ CI (fun k => v.ownBlock = some k) w a (n * sz) xs := by
  rcases h.2 with ⟨rfl, h0⟩ | ⟨g, cap, cur, rfl, hB, hg, _⟩
  · refine ⟨none, 0, by rw [h0], fun j hj => ?_⟩
    rw [h0, Nat.zero_mul] at hj; omega
  · exact ⟨_, cap, rfl, fun j hj => ⟨g, rfl, rfl, h.cellAt j hj⟩⟩
theorem own_lt {B n sz : Nat} {e : TypeId} {v : Value} (h : w.ownsRow B e sz v n xs) : ∀ k, v.ownBlock = some k → B ≤ k ∧ k < w.heap.size := h.lt
end
theorem enC_at {L : List Int} {j : Nat} {x : Int} (h : L[j]? = some x) : (L.map (Value.int .i64))[j]? = some (.int .i64 x) := by
  rw [List.getElem?_map, h]; rfl
theorem twC_at {L : List (Int × Int)} {j : Nat} {x : Int × Int} (h : L[j]? = some x) : (twC L)[j * 2]? = some (.int .i64 x.1) ∧ (twC L)[j * 2 + 1]? = some (.int .i64 x.2) := by
  induction L generalizing j with
  | nil => simp at h
  | cons y L ih =>
    cases j with
    | zero =>
      obtain rfl : y = x := by simpa using h
      exact ⟨rfl, rfl⟩
    | succ j =>
      have := ih (j := j) (by simpa using h)
      have e : twC (y :: L) = .int .i64 y.1 :: .int .i64 y.2 :: twC L := rfl
      rw [e, show (j + 1) * 2 = (j * 2 + 1) + 1 by omega]
      exact ⟨by simpa using this.1, by simpa using this.2⟩
theorem opC_at (l : List It) {n j : Nat} (h : j < n) : (opC l n)[j]? = some (.bool (opA l j)) := by
  unfold opC; rw [List.getElem?_map, List.getElem?_range h]; rfl
theorem inqF {P : Program} {f : FuncId} {args : Array Value} {w : World} {n : Nat} {v : Value}
    (h : Calls P f args (w.drewN n) fun e w' => e = .returned v ∧ w.drewN n = w') :
    Calls P f args (w.drewN n) fun e w'' => e = .returned v ∧ ∃ m, w'' = w.drewN m :=
  h.mono fun _ _ h => ⟨h.1, n, h.2.symm⟩
set_option maxHeartbeats 16000000 in
theorem frameagrees_any (l : List It) (a : Option Addr) (c : Nat) (W : World) (hT : UT W) (hmax : l.length ≤ 9223372036854775807) (hR : ItsIn W a l) :
    Calls Tryd.prog 7 #[.slice a l.length c] W fun e w' => e = .returned (.bool true) ∧ Below W.heap.size W w' := by
  obtain ⟨n, hn⟩ : ∃ n, l.length = n := ⟨_, rfl⟩
  rw [hn]
  have AW := Lib.hid (fun w => fawake_any w)
  have HT := Lib.hid hT
  have HR := Lib.hid hR
  have HN := Lib.hid hn
  by_cases h400 : 400 < n
  · have h4 : (400 : Int) < (n : Int) := by omega
    clear hT hR hn hmax
    go_enter Tryd.func7, Tryd.ntmps7
    go_wp2_with (go_at_call 20; refine (AW.out _).mono ?_; rintro e w1 ⟨rfl, hb⟩)
    go_ret
    exact ⟨rfl, hb⟩
  have h4 : ¬ (400 : Int) < (n : Int) := by omega
  have hn4 : Hid (n ≤ 400) := Lib.hid (by omega)
  clear hT hR hn hmax h400
  go_enter Tryd.func7, Tryd.ntmps7
  go_upto_region 3 with (go_at_call 20; refine (AW.out _).mono ?_; rintro e w1 ⟨rfl, hb⟩; have B1 := Lib.hid hb; clear hb)
  go_upto_region 4 with (go_at_call 11; refine (innew_any (S := fun k => k < W.heap.size) 500 w1 (by omega) (fun k hk => Nat.lt_of_lt_of_le hk B1.out.size)).mono ?_; rintro e w2 ⟨rfl, h2, b2⟩; have H2 := Lib.hid h2; have B2 := Lib.hid (B1.out.trans (b2.mono B1.out.size)); clear h2 b2)
  generalize w1.heap.size = p at *
  go_upto_region 6 with fail
  go_upto_region 7 with (first
    | (go_at_call 21
       refine (fenters_any l a n c w2 HN.out hn4.out (its_on HR.out B2.out)).mono ?_
       rintro e w3 ⟨v3, rfl, o3, b3⟩
       have H3 := Lib.hid (H2.out.kept b3 (T := fun k => k < W.heap.size ∨ v3.ownBlock = some k) (fun k hk => by
         rcases hk with hk | hk
         · exact Or.inl hk
         · exact Or.inr (own_lt o3 k hk)))
       have B3 := Lib.hid (seqB B2.out b3)
       obtain ⟨ae, ce, e3, i3⟩ := own_ci o3
       have I3 := Lib.hid (i3.mono (T := fun k => k < W.heap.size ∨ v3.ownBlock = some k) (fun k hk => Or.inr hk))
       clear o3 b3 i3)
    | (go_at_call 22
       refine (fpastes_any l a n c w3 HN.out hn4.out (its_on HR.out B3.out)).mono ?_
       rintro e w4 ⟨v4, rfl, o4, b4⟩
       have H4 := Lib.hid (H3.out.kept b4 (T := fun k => (k < W.heap.size ∨ v3.ownBlock = some k) ∨ v4.ownBlock = some k) (fun k hk => by
         rcases hk with hk | hk
         · exact Or.inl hk
         · exact Or.inr (own_lt o4 k hk)))
       have B4 := Lib.hid (seqB B3.out b4)
       obtain ⟨ap, cp, e4, i4⟩ := own_ci o4
       have I4 := Lib.hid (i4.mono (T := fun k => (k < W.heap.size ∨ v3.ownBlock = some k) ∨ v4.ownBlock = some k) (fun k hk => Or.inr hk))
       have I34 := Lib.hid ((I3.out.below b4 H3.out.lt).mono (T := fun k => (k < W.heap.size ∨ v3.ownBlock = some k) ∨ v4.ownBlock = some k) (fun k hk => Or.inl hk))
       clear o4 b4 i4))
  go_upto_region 8 with (go_at_call 23
                         refine (inside_ref l a n c w4 HN.out hn4.out (its_on HR.out B4.out)).mono ?_
                         rintro e w5 ⟨v5, rfl, o5, b5⟩
                         unfold opW at o5
                         have H5 := Lib.hid (H4.out.kept b5 (T := fun k => ((k < W.heap.size ∨ v3.ownBlock = some k) ∨ v4.ownBlock = some k) ∨ v5.ownBlock = some k) (fun k hk => by
                           rcases hk with hk | hk
                           · exact Or.inl hk
                           · exact Or.inr (own_lt o5 k hk)))
                         have B5 := Lib.hid (seqB B4.out b5)
                         obtain ⟨ax, cx, e5, i5⟩ := own_ci o5
                         have I5 := Lib.hid (i5.mono (T := fun k => ((k < W.heap.size ∨ v3.ownBlock = some k) ∨ v4.ownBlock = some k) ∨ v5.ownBlock = some k) (fun k hk => Or.inr hk))
                         have I35 := Lib.hid ((I34.out.below b5 H4.out.lt).mono (T := fun k => ((k < W.heap.size ∨ v3.ownBlock = some k) ∨ v4.ownBlock = some k) ∨ v5.ownBlock = some k) (fun k hk => Or.inl hk))
                         have I45 := Lib.hid ((I4.out.below b5 H4.out.lt).mono (T := fun k => ((k < W.heap.size ∨ v3.ownBlock = some k) ∨ v4.ownBlock = some k) ∨ v5.ownBlock = some k) (fun k hk => Or.inl hk))
                         clear o5 b5 i5 I3 I4 I34)
  have U5 : Hid (US (fun k => ((k < W.heap.size ∨ v3.ownBlock = some k) ∨ v4.ownBlock = some k) ∨ v5.ownBlock = some k) w5) := Lib.hid ⟨HT.out.below B5.out, Or.inl (Or.inl (Or.inl HT.out.2.1)), Or.inl (Or.inl (Or.inl HT.out.2.2))⟩
  obtain ⟨S, hS⟩ : ∃ S : Nat → Prop, (fun k => ((k < W.heap.size ∨ v3.ownBlock = some k) ∨ v4.ownBlock = some k) ∨ v5.ownBlock = some k) = S := ⟨_, rfl⟩
  have SW : Hid (∀ k, k < W.heap.size → S k) := Lib.hid (fun k hk => by rw [← hS]; exact Or.inl (Or.inl (Or.inl hk)))
  rw [hS] at H5 I5 I35 I45 U5
  clear hS H2 H3 H4 B1 B2 B3 B4 AW HT
  subst e3 e4 e5
  have l1 := enL_len l (List.finRange n)
  have l2 := psF_len l (List.finRange n)
  rw [List.length_finRange] at l1 l2
  generalize hNE : (enL l (List.finRange n)).length = NE at *
  generalize hNP : (psF l (List.finRange n)).2.length = NP at *
  rw [Nat.mul_one] at I5 I35
  have hNE4 : Hid (NE ≤ 400) := Lib.hid (by have := hn4.out; omega)
  have hNP4 : Hid (NP ≤ 400) := Lib.hid (by have := hn4.out; omega)
  clear l1 l2
  replace hNE := Lib.hid hNE
  replace hNP := Lib.hid hNP
  go_upto_region 10 with fail
  go_loopw [8, 9, 10] (fun kv nv iv wr => ∃ (i k q : Nat) (s : IS) (P : List UInt8) (pas : Bool) (m : Nat), i ≤ n ∧ kv = .int .i64 (k : Int) ∧ nv = .int .i64 (q : Int) ∧ iv = .int .i64 (i : Int) ∧ Hid (FS l n i s P pas m) ∧ Hid ((enL l (upN n i)).length = k) ∧ Hid ((psF l (upN n i)).2.length = q) ∧ Hid (InO S p s wr) ∧ Hid (US S wr) ∧ Hid (CI S wr ae NE ((enL l (List.finRange n)).map (Value.int .i64))) ∧ Hid (CI S wr ap (NP * 2) (twC (psF l (List.finRange n)).2)) ∧ Hid (CI S wr ax (n + 1) (opC l (n + 1))) ∧ Hid (Below W.heap.size W wr)) (fun _ _ iv _ => n - (intOf iv).toNat)
  case atStart => exact ⟨0, 0, 0, in0 500, [], false, 0, Nat.zero_le _, rfl, rfl, rfl, Lib.hid (fs_0 l n), Lib.hid rfl, Lib.hid rfl, H5, U5, I35, I45, I5, B5⟩
  case round =>
    clear H5 U5 I35 I45 I5 B5
    obtain ⟨i, k, q, s, P, pas, m, hi, rfl, rfl, rfl, HF, HK, HQ, HO, HU, CE, CP, CX, HB⟩ := hrel
    by_cases hlt : i < n
    · obtain ⟨b, off, rfl, hbW, i0, i1⟩ := HR.out i (by rw [HN.out]; exact hlt)
      have hi1 : (i : Int) < (n : Int) := by omega
      have hi0 : (0 : Int) ≤ (i : Int) := by omega
      have j0 := (HB.out.cell (p := ⟨b, off + i * 2, none⟩) hbW).trans i0
      have j1 := (HB.out.cell (p := ⟨b, off + i * 2 + 1, none⟩) hbW).trans i1
      have DO := Lib.hid (do_one (l.getD i (false, 0)) HO.out HU.out HF.out.gs (by omega))
      obtain ⟨⟨P', pas', m', fs'⟩, kp⟩ := fs_step HF.out HN.out hn4.out hlt
      have hKl := itK_len HF.out.gs (l.getD i (false, 0))
      generalize hs' : (itR s (l.getD i (false, 0))).1 = s' at *
      generalize hK' : (itR s (l.getD i (false, 0))).2 = K at *
      have FS' := Lib.hid fs'
      have HKP := Lib.hid kp
      have HKL := Lib.hid hKl
      clear fs' kp hKl hs' hK' HF
      have HK1 : Hid ((enL l (upN n (i + 1))).length = k + (if enB l i = true then 1 else 0)) := Lib.hid (by
        rw [en_next l hlt, ← HK.out]
        split
        · rw [List.length_append]; rfl
        · rfl)
      have HQ1 : Hid ((psF l (upN n (i + 1))).2.length = q + (if (plA l i).2.2 = true then 1 else 0)) := Lib.hid (by
        rw [ps_next l hlt, ← HQ.out]
        unfold psS
        rcases HKP.out with ⟨_, _, h3⟩ | ⟨_, _, _, _, h3⟩ | ⟨_, _, _, _, h2, h3, _⟩
        · rw [h3]; split <;> rfl
        · rw [h3]; split <;> rfl
        · rw [h2, h3, if_neg (by decide), if_pos rfl, if_pos rfl, List.length_append]; rfl)
      obtain ⟨LL, hLL⟩ : ∃ LL, K.length = LL := ⟨_, rfl⟩
      have KLL := Lib.hid hLL
      have HIJ := Lib.hid (And.intro i0 i1)
      clear i0 i1
      generalize hx0 : (l.getD i (false, 0)).1 = t at *
      generalize hx1 : (l.getD i (false, 0)).2 = u at *
      have HX1 := Lib.hid hx1
      clear hx0 hx1
      go_upto_region 13 with (go_at_call 14
                              refine DO.out.mono ?_
                              rintro e w7 ⟨v7, rfl, o7, h7, k7⟩
                              obtain ⟨a7, c7, e7, s7⟩ := o7.sl
                              rw [hLL] at e7
                              subst e7
                              have H7 := Lib.hid (h7.mono (T := S) (fun k hk => Or.inl hk))
                              have U7 := Lib.hid (HU.out.kept k7)
                              have CE7 := Lib.hid (CE.out.keptM k7)
                              have CP7 := Lib.hid (CP.out.keptM k7)
                              have CX7 := Lib.hid (CX.out.keptM k7)
                              have B7 := Lib.hid (HB.out.trans (k7.below W.heap.size (fun j hj => SW.out j hj)))
                              have K7 := Lib.hid s7.s
                              clear o7 h7 k7 s7 j0 j1 DO)
      clear HO HU CE CP CX HB
      go_upto_region 14 with fail
      clear hLL
      go_loopw [8, 9, 12] (fun kv nv jv wx => ∃ (j kk qq : Nat), j ≤ LL ∧ kv = .int .i64 (kk : Int) ∧ nv = .int .i64 (qq : Int) ∧ jv = .int .i64 (j : Int) ∧ Hid (kk = k + (if enB l i = true ∧ j = LL then 1 else 0)) ∧ Hid (qq = q + (if (plA l i).2.2 = true ∧ j = LL then 1 else 0)) ∧ Hid (Below w7.heap.size w7 wx)) (fun _ _ jv _ => LL - (intOf jv).toNat)
      case atStart =>
        refine ⟨0, k, q, Nat.zero_le _, rfl, rfl, rfl, Lib.hid ?_, Lib.hid ?_, Lib.hid (Below.refl _ _)⟩
        · rw [if_neg]; · rfl
          rintro ⟨h1, h2⟩
          rcases HKP.out with ⟨_, h, _⟩ | ⟨K', h, _⟩ | ⟨_, _, _, h, _⟩
          · rw [h] at h1; cases h1
          · have := KLL.out; rw [h, List.length_append, List.length_singleton] at this; omega
          · rw [h] at h1; cases h1
        · rw [if_neg]; · rfl
          rintro ⟨h1, h2⟩
          rcases HKP.out with ⟨_, _, h⟩ | ⟨_, _, _, _, h⟩ | ⟨_, _, h, _⟩
          · rw [h] at h1; cases h1
          · rw [h] at h1; cases h1
          · have := KLL.out; rw [h, List.length_singleton] at this; omega
      case round =>
        obtain ⟨j, kk, qq, hj, rfl, rfl, rfl, HKK, HQQ, NB⟩ := hrel
        by_cases hjl : j < LL
        · have hkk := HKK.out
          have hqq := HQQ.out
          rw [if_neg (fun e => Nat.ne_of_lt hjl e.2)] at hkk hqq
          obtain rfl : kk = k := hkk
          obtain rfl : qq = q := hqq
          clear HKK HQQ
          have hLL10 : (LL : Int) ≤ 10 := by have := HKL.out; have := KLL.out; omega
          obtain ⟨kb, ko, rfl, hkb, c0, c1, c2, c3⟩ := (K7.out.below NB.out) j (by rw [KLL.out]; exact hjl)
          have hjl1 : (j : Int) < (LL : Int) := by omega
          have hjl0 : (0 : Int) ≤ (j : Int) := by omega
          have HJ := Lib.hid (And.intro hjl hlt)
          have MISS : ¬ j + 1 = LL ∨ (enB l i = false ∧ (plA l i).2.2 = false) → Hid (kk = kk + (if enB l i = true ∧ j + 1 = LL then 1 else 0)) ∧ Hid (qq = qq + (if (plA l i).2.2 = true ∧ j + 1 = LL then 1 else 0)) := fun h => by
            rcases h with h | ⟨h1, h2⟩
            · exact ⟨Lib.hid (by rw [if_neg (fun e => h e.2)]; rfl), Lib.hid (by rw [if_neg (fun e => h e.2)]; rfl)⟩
            · exact ⟨Lib.hid (by rw [h1, if_neg (fun e => by cases e.1)]; rfl), Lib.hid (by rw [h2, if_neg (fun e => by cases e.1)]; rfl)⟩
          have CASES : ((¬ j + 1 = LL ∨ (enB l i = false ∧ (plA l i).2.2 = false)) ∧ (K.getD j k0).1 ≠ 4 ∧ (K.getD j k0).1 ≠ 15) ∨ (j + 1 = LL ∧ enB l i = true ∧ (plA l i).2.2 = false ∧ K.getD j k0 = kv0 4 (u.toNat : Int)) ∨ (j + 1 = LL ∧ enB l i = false ∧ (plA l i).2.2 = true ∧ ∃ (f : Nat) (c : Bool), K.getD j k0 = (15, 0, mkL ((fbL l f (i + 1 - f)).take ((fbL l f (i + 1 - f)).length - 6)), c) ∧ f ≤ i ∧ (psF l (List.finRange n)).2[qq]? = some ((f : Int), (i : Int))) := by
            have hjK : j < K.length := by rw [KLL.out]; exact hjl
            have hget : K.getD j k0 = K[j] := by rw [List.getD, List.getElem?_eq_getElem hjK]; rfl
            rcases HKP.out with ⟨hE, h1, h2⟩ | ⟨K', hKe, hE, h1, h2⟩ | ⟨f, c, hKe, h1, h2, h3, h4, h5⟩
            · refine Or.inl ⟨Or.inr ⟨h1, h2⟩, ?_⟩
              rw [hget]
              exact hE _ (List.getElem_mem hjK)
            · have hlen : K'.length + 1 = LL := by rw [← KLL.out, hKe, List.length_append]; rfl
              by_cases hj1 : j + 1 = LL
              · refine Or.inr (Or.inl ⟨hj1, h1, h2, ?_⟩)
                rw [hKe, List.getD, List.getElem?_append_right (by omega), show j - K'.length = 0 by omega, HX1.out]; rfl
              · refine Or.inl ⟨Or.inl hj1, ?_⟩
                have : K.getD j k0 = K'[j]'(by omega) := by
                  rw [hKe, List.getD, List.getElem?_append_left (by omega), List.getElem?_eq_getElem (by omega)]; rfl
                rw [this]
                exact hE _ (List.getElem_mem _)
            · have hl1 : LL = 1 := by rw [← KLL.out, hKe]; rfl
              have hj0 : j = 0 := by omega
              subst hj0
              refine Or.inr (Or.inr ⟨hl1.symm, h1, h3, f, c, by rw [hKe]; rfl, h5, ?_⟩)
              have := ps_hit l hlt h2 h3
              rw [HQ.out, h4] at this
              exact this
          rcases CASES with ⟨hm, hk4, hk15⟩ | ⟨hj1, he, hp, hk⟩ | ⟨hj1, he, hp, f, cc, hk, hfi, hps⟩
          · obtain ⟨M1, M2⟩ := MISS hm
            have hb4 : ((K.getD j k0).1 == 4) = false := by rw [beq_eq_false_iff_ne]; exact hk4
            have hb15 : ((K.getD j k0).1 == 15) = false := by rw [beq_eq_false_iff_ne]; exact hk15
            generalize (K.getD j k0).1 = kd at *
            clear hm hk4 hk15 c1 c2 c3 MISS
            go_wp2
            go_roundw
            case rel => exact ⟨j + 1, kk, qq, by have := HJ.out.1; omega, rfl, rfl, by go_num, M1, M2, NB⟩
            case measure => (simp [intOf]; try omega)
          · rw [hk] at c0 c1
            have R1 : Hid (kk + 1 = kk + (if enB l i = true ∧ j + 1 = LL then 1 else 0)) := Lib.hid (by rw [if_pos ⟨he, hj1⟩])
            have R2 : Hid (qq = qq + (if (plA l i).2.2 = true ∧ j + 1 = LL then 1 else 0)) := Lib.hid (by rw [hp, if_neg (fun e => by cases e.1)]; rfl)
            have hE := en_hit l hlt he
            rw [HK.out] at hE
            have hkN : kk < NE := by
              have := (List.getElem?_eq_some_iff.1 hE).1
              rw [hNE.out] at this; exact this
            have hkN1 : (kk : Int) < (NE : Int) := by omega
            have hkN4 : (NE : Int) ≤ 400 := by have := hNE4.out; omega
            have hkN2 : ¬ (NE : Int) ≤ (kk : Int) := by omega
            obtain ⟨g, rfl, hg, ce0⟩ := (CE7.out.below NB.out H7.out.lt) kk hkN
            rw [enC_at hE] at ce0
            have u1 := ((seqB B7.out NB.out).cell (p := ⟨b, off + i * 2 + 1, none⟩) hbW).trans HIJ.out.2
            have hu : (u.toNat : Int) < 256 := by have := u.toNat_lt; omega
            have hu0 : (0 : Int) ≤ (u.toNat : Int) := by omega
            have hLj : (LL : Int) - 1 = (j : Int) := by omega
            dsimp only [kv0] at c0 c1
            clear c2 c3 hk he hp MISS hE
            generalize (u.toNat : Int) = uu at *
            go_upto_region 17 with fail
            go_quiet (fail)
            go_wp2
            go_roundw
            case rel => exact ⟨j + 1, kk + 1, qq, by have := HJ.out.1; omega, by go_num, rfl, by go_num, R1, R2, Lib.hid (drewN_below NB.out nq)⟩
            case measure => (simp [intOf]; try omega)
          · rw [hk] at c0 c2
            dsimp only at c0 c2
            have R1 : Hid (kk = kk + (if enB l i = true ∧ j + 1 = LL then 1 else 0)) := Lib.hid (by rw [he, if_neg (fun e => by cases e.1)]; rfl)
            have R2 : Hid (qq + 1 = qq + (if (plA l i).2.2 = true ∧ j + 1 = LL then 1 else 0)) := Lib.hid (by rw [if_pos ⟨hp, hj1⟩])
            have hqN : qq < NP := by
              have := (List.getElem?_eq_some_iff.1 hps).1
              rw [hNP.out] at this; exact this
            have hqN1 : (qq : Int) < (NP : Int) := by omega
            have hqN4 : (NP : Int) ≤ 400 := by have := hNP4.out; omega
            have hqN2 : ¬ (NP : Int) ≤ (qq : Int) := by omega
            obtain ⟨tw0, tw1⟩ := twC_at hps
            dsimp only at tw0 tw1
            obtain ⟨g, rfl, hg, p0⟩ := (CP7.out.below NB.out H7.out.lt) (qq * 2) (by omega)
            obtain ⟨g', eg, _, p1⟩ := (CP7.out.below NB.out H7.out.lt) (qq * 2 + 1) (by omega)
            obtain rfl : g = g' := by simpa using eg
            rw [tw0] at p0
            rw [tw1] at p1
            have hgl : Hid (g < wr.heap.size) := Lib.hid (Nat.lt_of_lt_of_le (H7.out.lt g hg) NB.out.size)
            have hkl : Hid (kb < wr.heap.size) := Lib.hid hkb
            have BT := Lib.hid (fun w h => between_ref l (some ⟨b, off, none⟩) n c f i w HN.out hn4.out h hlt hfi)
            have IX := Lib.hid (its_on HR.out (seqB B7.out NB.out))
            have B3 : Hid (Below wr.heap.size wr wr.drew) := Lib.hid (Below.refl _ _).drew
            have IXd : Hid (ItsIn wr.drew (some ⟨b, off, none⟩) l) := Lib.hid (its_on IX.out B3.out)
            generalize mkL ((fbL l f (i + 1 - f)).take ((fbL l f (i + 1 - f)).length - 6)) = TX at *
            have hf0 : ¬ (f : Int) < 0 := by omega
            clear c1 c3 hk he hp MISS tw0 tw1 hps eg
            go_upto_region 21 with fail
            go_region_held3 (fun w' => w'.cell? ⟨kb, ko + j * 4 + 2, none⟩ = some (.string TX) ∧ w'.cell? ⟨g, qq * 2, none⟩ = some (.int .i64 (f : Int)) ∧ w'.cell? ⟨g, qq * 2 + 1, none⟩ = some (.int .i64 (i : Int))) (first | exact ⟨c2, p0, p1⟩ | exact ⟨c28, p08, p18⟩ | go_keep)
              (first
                | (go_at_call 24
                   with_reducible refine (BT.out _ IXd.out).mono ?_
                   rintro e w8 ⟨rfl, hb⟩
                   have hb' := seqB B3.out hb
                   have N8 := Lib.hid (NB.out.trans (hb'.mono NB.out.size))
                   have c28 := (hb'.cell (p := ⟨kb, ko + j * 4 + 2, none⟩) hkl.out).trans c2
                   have p08 := (hb'.cell (p := ⟨g, qq * 2, none⟩) hgl.out).trans p0
                   have p18 := (hb'.cell (p := ⟨g, qq * 2 + 1, none⟩) hgl.out).trans p1
                   clear hb hb')
                | (go_at_call 24
                   with_reducible refine (BT.out _ IX.out).mono ?_
                   rintro e w8 ⟨rfl, hb⟩
                   have N8 := Lib.hid (NB.out.trans (hb.mono NB.out.size))
                   have c28 := (hb.cell (p := ⟨kb, ko + j * 4 + 2, none⟩) hkl.out).trans c2
                   have p08 := (hb.cell (p := ⟨g, qq * 2, none⟩) hgl.out).trans p0
                   have p18 := (hb.cell (p := ⟨g, qq * 2 + 1, none⟩) hgl.out).trans p1
                   clear hb))
            all_goals
              go_wp2
              go_roundw
              case rel => exact ⟨j + 1, kk, qq + 1, by have := HJ.out.1; omega, rfl, by go_num, by go_num, R1, R2, N8⟩
              case measure => (simp [intOf]; try omega)
        · obtain rfl : j = LL := by omega
          have hjj : ¬ ((j : Int) < (j : Int)) := by omega
          have hkk := HKK.out
          have hqq := HQQ.out
          have hB : enB l i = true ∧ j = j ↔ enB l i = true := ⟨fun h => h.1, fun h => ⟨h, rfl⟩⟩
          have hP : (plA l i).2.2 = true ∧ j = j ↔ (plA l i).2.2 = true := ⟨fun h => h.1, fun h => ⟨h, rfl⟩⟩
          simp only [and_true, eq_self_iff_true] at hkk hqq
          rw [← HK1.out] at hkk
          rw [← HQ1.out] at hqq
          have HK2 := Lib.hid hkk.symm
          have HQ2 := Lib.hid hqq.symm
          have H8 := Lib.hid (H7.out.kept NB.out (T := S) (fun k hk => Or.inl hk))
          have U8 := Lib.hid (U7.out.kept (KeptM.of NB.out H7.out.lt))
          have CE8 := Lib.hid (CE7.out.below NB.out H7.out.lt)
          have CP8 := Lib.hid (CP7.out.below NB.out H7.out.lt)
          have CX8 := Lib.hid (CX7.out.below NB.out H7.out.lt)
          have B8 := Lib.hid (seqB B7.out NB.out)
          obtain ⟨g, rfl, hg, cx0⟩ := CX8.out (i + 1) (by omega)
          rw [opC_at l (by omega), show opA l (i + 1) = pas' from by unfold opA; rw [FS'.out.wk]] at cx0
          have BD : ∀ n, Below wr.heap.size wr (wr.drewN n) := fun n => ⟨rfl, rfl, rfl, Nat.le_refl _, fun _ _ => rfl⟩
          have BD := Lib.hid BD
          have PA : Hid (∀ n, Calls Tryd.prog 15 #[.pointer (some ⟨p, 0, none⟩)] (wr.drewN n) fun e w' => e = .returned (.bool pas') ∧ wr.drewN n = w') := Lib.hid (fun n => by
            have := inpas_any (H8.out.kept (BD.out n) (T := S) (fun j hj => Or.inl hj))
            rw [show s'.pas = pas' from FS'.out.rl.p] at this
            exact this)
          clear hkk hqq hB hP HKK HQQ
          go_upto_region 24 with fail
          go_quiet ((go_at_call 15; exact inqF (PA.out _)))
          go_wp2
          go_roundw
          case rel => exact ⟨i + 1, kk, qq, s', P', pas', m', by omega, rfl, rfl, by go_num, FS', HK2, HQ2, Lib.hid (H8.out.kept (BD.out nq) (T := S) (fun j hj => Or.inl hj)), Lib.hid (U8.out.kept (KeptM.of (BD.out nq) H8.out.lt)), Lib.hid (CE8.out.below (BD.out nq) H8.out.lt), Lib.hid (CP8.out.below (BD.out nq) H8.out.lt), Lib.hid (CX8.out.below (BD.out nq) H8.out.lt), Lib.hid (seqB B8.out (BD.out nq))⟩
          case measure => (simp [intOf]; try omega)
    · obtain rfl : i = n := by omega
      have hni : ¬ ((i : Int) < (i : Int)) := by omega
      have hk := HK.out
      have hq := HQ.out
      rw [upN_all, hNE.out] at hk
      rw [upN_all, hNP.out] at hq
      subst hk hq
      go_wp2
      go_ret
      exact ⟨rfl, HB.out⟩
end Go.Proofs.YtdafcjjlkjngmaaDoor
