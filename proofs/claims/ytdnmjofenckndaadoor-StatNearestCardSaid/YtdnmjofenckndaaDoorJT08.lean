/-
  Joined: St14 St15.
-/
import Derived.Test.YtdnmjofenckndaaDoorJT06
import Derived.Test.YtdnmjofenckndaaDoorJT07
set_option linter.unusedVariables false
set_option linter.unusedSimpArgs false
set_option maxRecDepth 100000
set_option linter.unusedVariables false
set_option linter.unusedSimpArgs false
namespace Go.Proofs.YtdnmjofenckndaaDoor
open Go.RowKit
set_option maxHeartbeats 16000000 in
theorem statdist_nan (C : List (Int × Int)) (a b c : Option Addr) (k d e f : Nat) (w : World) (hT : UT w) (hk : C.length = k) (hl3 : k ≤ 40)
    (ha : SlS (fun _ => True) w a [] d) (hb : SlS (fun _ => True) w b [] e) (hc : SlS (fun _ => True) w c C f) :
    Calls Tryd.prog 11 #[.slice a 0 d, .slice b 0 e, .slice c k f] w fun x w' => x = .returned (.bool true) ∧ Below w.heap.size w w' := by
  have HT := Lib.hid hT
  have z : lev (vL []) (vL []) = 0 := (lev_zero _ _).2 rfl
  have DI := Lib.hid fun (w' : World) (hw : Below w.heap.size w w') => (by
    have h := dist_any (fun _ => True) [] [] a b 0 0 d e w' rfl rfl (by omega) (by omega) (ha.below hw) (hb.below hw)
    rw [z] at h
    exact h : Calls Tryd.prog 66 #[.slice a 0 d, .slice b 0 e] w' fun x w'' => x = .returned (.int .i64 0) ∧ Below w'.heap.size w' w'')
  have DB := Lib.hid fun (w' : World) (hw : Below w.heap.size w w') => (by
    have h := dist_any (fun _ => True) [] [] b a 0 0 e d w' rfl rfl (by omega) (by omega) (hb.below hw) (ha.below hw)
    rw [z] at h
    exact h : Calls Tryd.prog 66 #[.slice b 0 e, .slice a 0 d] w' fun x w'' => x = .returned (.int .i64 0) ∧ Below w'.heap.size w' w'')
  have DR := Lib.hid fun (w' : World) (hw : Below w.heap.size w w') => (by
    have h := rdist_any (fun _ => True) [] [] a b 0 0 d e w' rfl rfl (by omega) (by omega) (ha.below hw).s (hb.below hw).s
    rw [z] at h
    exact h : Calls Tryd.prog 69 #[.slice a 0 d, .slice b 0 e] w' fun x w'' => x = .returned (.int .i64 0) ∧ Below w'.heap.size w' w'')
  obtain ⟨E, hE⟩ : ∃ E, lev (vL []) (vL C) = E := ⟨_, rfl⟩
  obtain ⟨G, hG⟩ : ∃ G, lev (vL C) (vL []) = G := ⟨_, rfl⟩
  have DE := Lib.hid fun (w' : World) (hw : Below w.heap.size w w') => (by
    have h := dist_any (fun _ => True) [] C a c 0 k d f w' rfl hk (by omega) (by omega) (ha.below hw) (hc.below hw)
    rw [hE] at h
    exact h : Calls Tryd.prog 66 #[.slice a 0 d, .slice c k f] w' fun x w'' => x = .returned (.int .i64 (E : Int)) ∧ Below w'.heap.size w' w'')
  have DG := Lib.hid fun (w' : World) (hw : Below w.heap.size w w') => (by
    have h := dist_any (fun _ => True) C [] c b k 0 f e w' hk rfl (by omega) (by omega) (hc.below hw) (hb.below hw)
    rw [hG] at h
    exact h : Calls Tryd.prog 66 #[.slice c k f, .slice b 0 e] w' fun x w'' => x = .returned (.int .i64 (G : Int)) ∧ Below w'.heap.size w' w'')
  have htri : ¬ (E : Int) + (G : Int) < 0 := by omega
  have hE40 : (E : Int) ≤ 40 := by have := lev_len [] C 0 k rfl hk; omega
  have hG40 : (G : Int) ≤ 40 := by have := lev_len C [] k 0 hk rfl; omega
  have LK := Lib.hid fun (w' : World) (hw : Below w.heap.size w w') => like_nan (fun _ => True) a b d e w' (ha.below hw) (hb.below hw)
  have HI := Lib.hid fun (w' : World) => (hi_ref 0 0 w' : Calls Tryd.prog 68 #[.int .i64 0, .int .i64 0] w' fun x w'' => x = .returned (.int .i64 0) ∧ w' = w'')
  have VA := Lib.hid fun (w' : World) (hw : Below w.heap.size w w') => vals_n [] 0 a d w' rfl (by omega) (ha.below hw).s
  have VB := Lib.hid fun (w' : World) (hw : Below w.heap.size w w') => vals_n [] 0 b e w' rfl (by omega) (hb.below hw).s
  have IN := Lib.hid fun (w' : World) (p1 p2 : Option Addr) (c1 c2 : Nat) (r1 : Row w' p1 (vL [])) (r2 : Row w' p2 (vL [])) => ints_n (vL []) (vL []) 0 0 p1 p2 c1 c2 true w' rfl rfl (by omega) (by omega) (by decide) r1 r2
  have AW := Lib.hid fun (w' : World) (hw : Below w.heap.size w w') => stawake_any w' (hT.below hw)
  have SH := Lib.hid fun (w' : World) => rshare_nan w'
  have SM := Lib.hid fun (x y : Nat) (w' : World) hx hy => rsame_nan x y hx hy w'
  have hl3' : ¬ (40 : Int) < k := by omega
  have W0 := Lib.hid (Below.refl w.heap.size w)
  clear hT ha hb hc hE hG hk hl3 z
  go_enter Tryd.func11, Tryd.ntmps11
  go_wp2_with (first
        | (go_at_call 66; (with_reducible refine (DI.out _ W0.out).mono ?_); rintro x w1 ⟨rfl, hb⟩; have W1 := Lib.hid (seqB W0.out hb); clear hb W0)
        | (go_at_call 67; (with_reducible refine (LK.out _ W1.out).mono ?_); rintro x w2 ⟨r, hr, rfl, hb⟩; have HR := Lib.hid hr; have o1 := nan_order hr r; have W2 := Lib.hid (seqB W1.out hb); clear hr hb W1 LK)
        | (go_at_call 68; (with_reducible refine (HI.out _).mono ?_); rintro x w3 ⟨rfl, hb⟩; subst hb)
        | (go_at_call 41; (with_reducible refine (VA.out _ W2.out).mono ?_); rintro x w4 ⟨p1, c1, rfl, hr, hb⟩; have R1 := Lib.hid hr; have W4 := Lib.hid (seqB W2.out hb); clear hr hb W2 VA)
        | (go_at_call 41; (with_reducible refine (VB.out _ W4.out).mono ?_); rintro x w5 ⟨p2, c2, rfl, hr, hb⟩; have R2 := Lib.hid hr; have R1b := Lib.hid (R1.out.below hb); have W5 := Lib.hid (seqB W4.out hb); clear hr hb W4 R1 VB)
        | (go_at_call 40; (with_reducible refine (IN.out _ _ _ _ _ R1b.out R2.out).mono ?_); rintro x w6 ⟨rfl, hb⟩; have W6 := Lib.hid (seqB W5.out hb); clear hb W5 R1b R2 IN)
        | (go_at_call 69; (with_reducible refine (DR.out _ W6.out).mono ?_); rintro x w7 ⟨rfl, hb⟩; have W7 := Lib.hid (seqB W6.out hb); clear hb W6 DR)
        | (go_at_call 66; (with_reducible refine (DB.out _ W7.out).mono ?_); rintro x w8 ⟨rfl, hb⟩; have W8 := Lib.hid (seqB W7.out hb); clear hb W7)
        | (go_at_call 66; (with_reducible refine (DE.out _ W8.out).mono ?_); rintro x w9 ⟨rfl, hb⟩; have W9 := Lib.hid (seqB W8.out hb); clear hb W8)
        | (go_at_call 66; (with_reducible refine (DG.out _ W9.out).mono ?_); rintro x wa ⟨rfl, hb⟩; have WA := Lib.hid (seqB W9.out hb); clear hb W9)
        | (go_at_call 65; (with_reducible refine (AW.out _ WA.out).mono ?_); rintro x wb ⟨rfl, hb⟩; have WF := Lib.hid (seqB WA.out hb); clear hb WA)
        | (go_at_call 71; (with_reducible refine (SH.out _).mono ?_); rintro x wc ⟨r2, hr, rfl, hb⟩; have WG := Lib.hid (seqB WF.out hb); obtain ⟨F, g1, g2⟩ := nan_fun .sub (Or.inl rfl) 4607182418800017408 r2 (nan_sub hr _); have HF := Lib.hid g1; clear hb hr g1)
        | (go_at_call 70; (with_reducible refine (SM.out _ _ _ HR.out (HF.out _)).mono ?_); rintro x wd ⟨rfl, hb⟩; subst hb))
  go_ret
  exact ⟨rfl, WG.out.drew⟩
theorem statdist_any (x y z : SgArg) (w : World) (hT : UT w) (hx : x.In w w.heap.size) (hy : y.In w w.heap.size) (hz : z.In w w.heap.size) :
    Calls Tryd.prog 11 #[.slice x.a x.l.length x.c, .slice y.a y.l.length y.c, .slice z.a z.l.length z.c] w fun e w' => e = .returned (.bool true) ∧ Below w.heap.size w w' := by
  by_cases hl : x.l.length ≤ 40 ∧ y.l.length ≤ 40 ∧ z.l.length ≤ 40
  · obtain ⟨h1, h2, h3⟩ := hl
    have ha : SlS (fun _ => True) w x.a x.l x.c := hx.1.mono (fun _ _ => trivial)
    have hb : SlS (fun _ => True) w y.a y.l y.c := hy.1.mono (fun _ _ => trivial)
    have hc : SlS (fun _ => True) w z.a z.l z.c := hz.1.mono (fun _ _ => trivial)
    by_cases h0 : max x.l.length y.l.length = 0
    · have e1 : x.l = [] := List.eq_nil_of_length_eq_zero (by omega)
      have e2 : y.l = [] := List.eq_nil_of_length_eq_zero (by omega)
      rw [e1] at ha
      rw [e2] at hb
      rw [e1, e2]
      exact statdist_nan z.l x.a y.a z.a _ x.c y.c z.c w hT rfl h3 ha hb hc
    · have hD := lev_len x.l y.l _ _ rfl rfl
      obtain ⟨q, r, g1, g2, g3, g4, g5⟩ := fl_ok (n := max x.l.length y.l.length) (d := lev (vL x.l) (vL y.l)) (by omega) (by omega) hD
      exact statdist_num x.l y.l z.l x.a y.a z.a _ _ _ x.c y.c z.c _ _ q r w hT rfl rfl rfl h1 h2 h3 ha hb hc rfl rfl (by omega) g1 g2 g3 g4 g5
  · exact statdist_far x.a y.a z.a _ _ _ x.c y.c z.c w hT hl
end Go.Proofs.YtdnmjofenckndaaDoor
set_option linter.unusedVariables false
set_option linter.unusedSimpArgs false
namespace Go.Proofs.YtdnmjofenckndaaDoor
open Go.RowKit
theorem HistIn.sgsk {w : World} {a : Option Addr} {H : List SgArg} (h : HistIn w w.heap.size a H) : SgsK (fun _ => True) w a (H.map (·.l)) := fun i hi => by
  have hi2 : i < H.length := by simpa using hi
  obtain ⟨b, off, e, hlt, h1, h2⟩ := h i hi2
  have hg : (H.map (·.l)).getD i [] = (H.getD i SgArg.zero).l := by
    rw [List.getD, List.getElem?_map, List.getD, List.getElem?_eq_getElem hi2]; rfl
  refine ⟨b, off, (H.getD i SgArg.zero).a, (H.getD i SgArg.zero).c, e, trivial, hlt, ?_, ?_⟩
  · rw [hg]; exact h1
  · rw [hg]; exact h2.1.mono (fun _ _ => trivial)
theorem statnear_far (a b : Option Addr) (n m d e : Nat) (w : World) (hT : UT w) (hl : ¬ (n ≤ 30 ∧ m ≤ 12)) :
    Calls Tryd.prog 12 #[.slice a n d, .slice b m e] w fun x w' => x = .returned (.bool true) ∧ Below w.heap.size w w' := by
  have AW := Lib.hid (stawake_any w hT)
  clear hT
  by_cases h1 : (30 : Int) < n
  · go_enter Tryd.func12, Tryd.ntmps12
    go_wp2_with (go_at_call 65; refine AW.out.mono ?_; rintro x w1 ⟨rfl, hb⟩; have N1 := Lib.hid hb; clear hb)
    go_ret
    exact ⟨rfl, N1.out⟩
  have h2 : (12 : Int) < m := by omega
  go_enter Tryd.func12, Tryd.ntmps12
  go_wp2_with (go_at_call 65; refine AW.out.mono ?_; rintro x w1 ⟨rfl, hb⟩; have N1 := Lib.hid hb; clear hb)
  go_ret
  exact ⟨rfl, N1.out⟩
theorem statnear_none (x : List (Int × Int)) (a b : Option Addr) (n c d : Nat) (w : World) (hT : UT w) (hn : x.length = n) (hl : n ≤ 30) (ha : SlS (fun _ => True) w a x c) :
    Calls Tryd.prog 12 #[.slice a n c, .slice b 0 d] w fun x w' => x = .returned (.bool true) ∧ Below w.heap.size w w' := by
  have AW := Lib.hid fun (w' : World) (hw : Below w.heap.size w w') => stawake_any w' (hT.below hw)
  have h0 := near_any x [] a b n c 0 d w hn rfl (by omega) (by simp) (by omega) ha (fun i hi => by simp at hi)
  have NE := Lib.hid (show Calls Tryd.prog 72 #[.slice a n c, .slice b 0 d] w fun e w' => e = .returned (.int .i64 (-1)) ∧ Below w.heap.size w w' from h0.mono (by
    rintro e w' ⟨near, rfl, ⟨least, h⟩, hb⟩
    rcases h with ⟨_, rfl⟩ | ⟨i, h1, _⟩
    · exact ⟨rfl, hb⟩
    · omega))
  have hl1 : ¬ (30 : Int) < n := by omega
  clear hT h0 hn ha hl
  go_enter Tryd.func12, Tryd.ntmps12
  go_wp2_with (first
    | (go_at_call 72; refine NE.out.mono ?_; rintro x w1 ⟨rfl, hb⟩; have N1 := Lib.hid hb; clear hb)
    | (go_at_call 65; refine (AW.out _ N1.out).mono ?_; rintro x w2 ⟨rfl, hb⟩; have N2 := Lib.hid (seqB N1.out hb); clear hb))
  go_ret
  exact ⟨rfl, N2.out⟩
set_option maxHeartbeats 8000000 in
theorem statnear_some (x : List (Int × Int)) (H : List (List (Int × Int))) (a b : Option Addr) (n c m d : Nat) (w : World) (hT : UT w) (hn : x.length = n) (hm : H.length = m) (hl : n ≤ 30) (hm0 : 0 < m) (hl2 : m ≤ 12) (hH : ∀ t ∈ H, t.length ≤ 8796093022208) (ha : SlS (fun _ => True) w a x c) (hb : SgsK (fun _ => True) w b H) :
    Calls Tryd.prog 12 #[.slice a n c, .slice b m d] w fun x w' => x = .returned (.bool true) ∧ Below w.heap.size w w' := by
  obtain ⟨D, hD⟩ : ∃ D : Nat → Nat, (fun i => lev (vL x) (vL (H.getD i []))) = D := ⟨_, rfl⟩
  have AW := Lib.hid fun (w' : World) (hw : Below w.heap.size w w') => stawake_any w' (hT.below hw)
  have NE := Lib.hid (show Calls Tryd.prog 72 #[.slice a n c, .slice b m d] w fun e w' => ∃ i : Nat, e = .returned (.int .i64 (i : Int)) ∧ i < m ∧ (∀ j, j < m → D i ≤ D j) ∧ (∀ j, j < i → D i < D j) ∧ Below w.heap.size w w' from (near_any x H a b n c m d w hn hm (by omega) hH (by omega) ha hb).mono (by
    rintro e w' ⟨near, rfl, ⟨least, h⟩, hbw⟩
    rw [hD] at h
    rcases h with ⟨h0, _⟩ | ⟨i, h1, rfl, _, h3, h4⟩
    · omega
    · exact ⟨i, rfl, h1, h3, h4, hbw⟩))
  have RD := Lib.hid fun (w' : World) (hbw : Below w.heap.size w w') (i : Nat) (hi : i < m) (ai : Option Addr) (ci ni : Nat) (hni : (H.getD i []).length = ni) (hl3 : ni ≤ 30) (hs : SlS (fun _ => True) w' ai (H.getD i []) ci) => (by
    have h := rdist_any (fun _ => True) x (H.getD i []) a ai n ni c ci w' hn hni (by omega) (by omega) (ha.below hbw).s hs.s
    have e : lev (vL x) (vL (H.getD i [])) = D i := congrFun hD i
    rw [e] at h
    exact h : Calls Tryd.prog 69 #[.slice a n c, .slice ai ni ci] w' fun e w'' => e = .returned (.int .i64 (D i : Int)) ∧ Below w'.heap.size w' w'')
  have HB := Lib.hid hb
  have HM := Lib.hid hm
  have hl1 : ¬ (30 : Int) < n := by omega
  have hm1 : ¬ (12 : Int) < m := by omega
  have hm2 : (0 : Int) < m := by omega
  have hm3 : ¬ (m : Int) = 0 := by omega
  have hm4 : ¬ m = 0 := by omega
  clear ha hb hm hn hD hH hT
  go_enter Tryd.func12, Tryd.ntmps12
  go_upto_region 4 with (go_at_call 72; refine NE.out.mono ?_; rintro e w1 ⟨i, rfl, hi, hq1, hq2, hb⟩; have N1 := Lib.hid hb; have Q1 := Lib.hid hq1; have Q2 := Lib.hid hq2; clear hb hq1 hq2 NE)
  obtain ⟨b2, o2, ai, ci, rfl, _, _, c0, hs⟩ := (HB.out.below N1.out) i (by rw [HM.out]; exact hi)
  obtain ⟨ni, hni⟩ : ∃ ni, (H.getD i []).length = ni := ⟨_, rfl⟩
  rw [hni] at c0
  have hi1 : (i : Int) < m := by omega
  have hi0 : ¬ (i : Int) < 0 := by omega
  have hi2 : (0 : Int) ≤ i := by omega
  by_cases h30 : (30 : Int) < ni
  · clear hs hni
    go_wp2_with fail
    go_ret
    exact ⟨by first | rfl | simp, N1.out⟩
  have DK := Lib.hid (RD.out w1 N1.out i hi ai ci ni hni (by omega) hs)
  obtain ⟨q, hq⟩ : ∃ q, D i = q := ⟨_, rfl⟩
  rw [hq] at DK
  have HQ := Lib.hid hq
  clear hs hni hq
  go_wp2_with (go_at_call 69; refine DK.out.mono ?_; rintro e w2 ⟨rfl, hb⟩; have N2 := Lib.hid (seqB N1.out hb); clear hb)
  clear c0 DK
  go_loopw [7] (fun jv wr => ∃ j : Nat, j ≤ m ∧ jv = .int .i64 (j : Int) ∧ Hid (Below w.heap.size w wr)) (fun jv _ => m - (intOf jv).toNat)
  case atStart => exact ⟨0, Nat.zero_le _, rfl, N2⟩
  case round =>
    clear N2 N1
    obtain ⟨j, hj, rfl, HW⟩ := hrel
    by_cases hlt : j < m
    · have hj1 : (j : Int) < m := by omega
      have hj0 : (0 : Int) ≤ j := by omega
      obtain ⟨b3, o3, aj, cj, hbo, _, _, c0, hs⟩ := (HB.out.below HW.out) j (by rw [HM.out]; exact hlt)
      cases hbo
      obtain ⟨nj, hnj⟩ : ∃ nj, (H.getD j []).length = nj := ⟨_, rfl⟩
      rw [hnj] at c0
      by_cases h31 : (30 : Int) < nj
      · clear hs hnj
        go_wp2_with fail
        go_ret
        exact ⟨by first | rfl | simp, HW.out⟩
      have DJ := Lib.hid (RD.out wr HW.out j hlt aj cj nj hnj (by omega) hs)
      obtain ⟨p, hp⟩ : ∃ p, D j = p := ⟨_, rfl⟩
      rw [hp] at DJ
      have hpq : ¬ (p : Int) < (q : Int) := by have := Q1.out j hlt; rw [hp, HQ.out] at this; omega
      have hjj : (j : Int) < i → ¬ (p : Int) = (q : Int) := fun h => by have := Q2.out j (by omega); rw [hp, HQ.out] at this; omega
      clear hs hnj hp
      by_cases hji : (j : Int) < i
      · have hne := hjj hji
        have hneb : ((p : Int) == (q : Int)) = false := beq_eq_false_iff_ne.2 hne
        clear hjj
        go_wp2_with (go_at_call 69; refine DJ.out.mono ?_; rintro e w3 ⟨rfl, hb⟩; have HW2 := Lib.hid (seqB HW.out hb); clear hb)
        go_roundw
        case rel => exact ⟨j + 1, by omega, by go_num, HW2⟩
        case measure => (simp [intOf]; try omega)
      · clear hjj
        go_wp2_with (go_at_call 69; refine DJ.out.mono ?_; rintro e w3 ⟨rfl, hb⟩; have HW2 := Lib.hid (seqB HW.out hb); clear hb)
        go_roundw
        case rel => exact ⟨j + 1, by omega, by go_num, HW2⟩
        case measure => (simp [intOf]; try omega)
    · obtain rfl : j = m := by omega
      have hj1 : ¬ (j : Int) < j := by omega
      go_wp2_with (go_at_call 65; refine (AW.out _ HW.out).mono ?_; rintro x w4 ⟨rfl, hb⟩; have N4 := Lib.hid (seqB HW.out hb); clear hb)
      go_ret
      exact ⟨rfl, N4.out⟩
theorem statnear_any (x : SgArg) (H : List SgArg) (b : Option Addr) (d : Nat) (w : World) (hT : UT w) (hH : ∀ y ∈ H, y.l.length ≤ 8796093022208) (hx : x.In w w.heap.size) (hb : HistIn w w.heap.size b H) :
    Calls Tryd.prog 12 #[.slice x.a x.l.length x.c, .slice b H.length d] w fun e w' => e = .returned (.bool true) ∧ Below w.heap.size w w' := by
  by_cases hl : x.l.length ≤ 30 ∧ H.length ≤ 12
  · have ha : SlS (fun _ => True) w x.a x.l x.c := hx.1.mono (fun _ _ => trivial)
    by_cases h0 : H.length = 0
    · rw [h0]; exact statnear_none x.l x.a b _ x.c d w hT rfl hl.1 ha
    · exact statnear_some x.l (H.map (·.l)) x.a b _ x.c _ d w hT rfl (by simp) hl.1 (by omega) hl.2 (fun t ht => by obtain ⟨y, hy, rfl⟩ := List.mem_map.1 ht; exact hH y hy) ha hb.sgsk
  · exact statnear_far x.a b _ _ x.c d w hT hl
end Go.Proofs.YtdnmjofenckndaaDoor
