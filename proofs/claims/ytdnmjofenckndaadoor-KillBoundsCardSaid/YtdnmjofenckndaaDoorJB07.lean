/-
  Joined: Ki15 Ki16.
-/
import Derived.Test.YtdnmjofenckndaaDoorJB05
import Derived.Test.YtdnmjofenckndaaDoorJB06
import Derived.Deep.RegionHeld3
import Derived.Deep.CutRange
import Derived.Deep.CutBlock
set_option linter.unusedVariables false
set_option linter.unusedSimpArgs false
set_option maxRecDepth 100000
set_option linter.unusedVariables false
set_option linter.unusedSimpArgs false
namespace Go.Proofs.YtdnmjofenckndaaDoor
open Go.RowKit
theorem getD_snocL (U : List (List Sg2)) (u : List Sg2) : (U ++ [u]).getD ((U ++ [u]).length - 1) [] = u := by
  rw [show (U ++ [u]).length - 1 = U.length by simp, getD_snoc, if_neg (Nat.lt_irrefl _), if_pos rfl]
theorem puT_ne {M : Int} (hM : 1 ≤ M) (T : List (List Sg2)) (l : List Sg2) : ∃ V, puT M (T ++ [l]) = V ++ [l] := by
  unfold puT
  split
  · rename_i h
    cases T with
    | nil => simp at h; omega
    | cons x T => exact ⟨T, rfl⟩
  · exact ⟨T, rfl⟩
/-- The newest text behind a call of Push: what came lies at its head or its foot. -/
theorem puK_new {M : Int} (hM : 1 ≤ M) (T : List (List Sg2)) (l : List Sg2) (how : Int) (hl : l ≠ []) :
    puK M T l how ≠ [] ∧ ∃ pre post, (puK M T l how).getD ((puK M T l how).length - 1) [] = pre ++ l ++ post ∧ (how = 1 → post = []) ∧ (how ≠ 1 → pre = []) := by
  unfold puK
  rw [if_neg hl]
  split
  · obtain ⟨V, hV⟩ := puT_ne hM T l
    rw [hV, getD_snocL]
    exact ⟨by simp, [], [], by simp, fun _ => rfl, fun _ => rfl⟩
  · split
    · rw [getD_snocL]
      exact ⟨by simp, T.getLastD [], [], by simp, fun _ => rfl, fun h => by rename_i h1 h2; exact absurd h2 h⟩
    · rw [getD_snocL]
      exact ⟨by simp, [], T.getLastD [], by simp, fun h => by rename_i h1 h2; exact absurd h h2, fun _ => rfl⟩
theorem sgsame_t (l : List Sg2) (a b : Option Addr) (m c d : Nat) (w : World) (hm : l.length = m) (hl : m ≤ 1000000) (hs : Signs w a l) (ht : Signs w b l) : Calls Tryd.prog 29 #[.slice a m c, .slice b m d] w fun e w' => e = .returned (.bool true) ∧ Below w.heap.size w w' := by
  subst hm
  have h := sgsame_ref l l a b c d w (by omega) (by omega) hs ht
  rw [decide_eq_true rfl] at h
  exact h
/-- A ring on the way. -/
structure KB (w : World) (P : Nat) (M : Int) (j : Nat) (T : List (List Sg2)) (h : Nat) (wr : World) : Prop where
  ex : ∃ (S : Nat → Prop) (o : Int), RiS S P M o T h wr ∧ o ≤ j ∧ ∀ k, k < w.heap.size → S k
  b : Below w.heap.size w wr
  tm : (T.length : Int) ≤ M
  sz : ∀ t ∈ T, t.length ≤ 60 * j
section
variable {w wr w' : World} {P j h : Nat} {M : Int} {T : List (List Sg2)}
theorem KB.below (k : KB w P M j T h wr) (hb : Below wr.heap.size wr w') : KB w P M j T h w' := by
  obtain ⟨S, o, h1, h2, h3⟩ := k.ex
  exact ⟨⟨S, o, h1.below hb, h2, h3⟩, seqB k.b hb, k.tm, k.sz⟩
theorem KB.more (k : KB w P M j T h wr) : KB w P M (j + 1) T h wr := by
  obtain ⟨S, o, h1, h2, h3⟩ := k.ex
  exact ⟨⟨S, o, h1, by omega, h3⟩, k.b, k.tm, fun t ht => by have := k.sz t ht; omega⟩
theorem KB.ne (k : KB w P M j T h wr) : ∀ t ∈ T, t ≠ [] := by
  obtain ⟨S, o, h1, _⟩ := k.ex
  exact fun t ht => (h1.ne t ht).1
theorem kb_bad (k : KB w P M j T h wr) (y : SgArg) (hy : y.In w w.heap.size) (hl : y.l.length ≤ 60) (how : Int) (hno : sgC y.l = false) :
    Calls Tryd.prog 32 #[.pointer (some ⟨P, 0, none⟩), .slice y.a y.l.length y.c, .int .i64 how] wr fun e w' => e = .returned (.int .i64 2) ∧ KB w P M (j + 1) T h w' := by
  have kk := k
  obtain ⟨S, o, h1, _⟩ := k.ex
  refine (ri_push_bad h1 y.l y.a y.c _ how (hy.below k.b).1.s rfl (by omega) (Or.inr (Or.inr hno))).mono ?_
  rintro e w' ⟨rfl, hb⟩
  exact ⟨rfl, (kk.below hb).more⟩
theorem kb_push (k : KB w P M j T h wr) (y : SgArg) (hy : y.In w w.heap.size) (hl : y.l.length ≤ 60) (how : Int) (hw : how = 0 ∨ how = 1 ∨ how = 2) (hok : sgC y.l = true) (hj : j ≤ 60) (hM1 : 1 ≤ M) (hM2 : M ≤ 60) :
    Calls Tryd.prog 32 #[.pointer (some ⟨P, 0, none⟩), .slice y.a y.l.length y.c, .int .i64 how] wr fun e w' => e = .returned (.int .i64 0) ∧ KB w P M (j + 1) (puK M T y.l how) (puH M T y.l how h) w' := by
  have kk := k
  obtain ⟨S, o, h1, h2, h3⟩ := k.ex
  refine (ri_push h1 y.l y.a y.c _ how ((hy.below k.b).1.mono h3) rfl (fun t ht => by have := k.sz t ht; omega) (by omega) hok hw hM1 (by omega) (by omega) k.tm).mono ?_
  rintro e w' ⟨rfl, ⟨o', ho', hr⟩, hk⟩
  exact ⟨rfl, ⟨S, o', hr, by omega, h3⟩, kk.b.trans (hk.below _ h3), puK_len hM1 y.l how kk.tm, fun t ht => by have := puK_mem kk.sz ht; omega⟩
theorem kb_now (k : KB w P M j T h wr) (hT : T ≠ []) (m : Nat) (hm : (T.getD h []).length = m) : Calls Tryd.prog 33 #[.pointer (some ⟨P, 0, none⟩)] wr fun e w' => ∃ b d, e = .returned (.slice b m d) ∧ SlS (fun _ => True) w' b (T.getD h []) d ∧ KB w P M j T h w' := by
  have kk := k
  obtain ⟨S, o, h1, _⟩ := k.ex
  refine (ri_now h1 hT).mono ?_
  rintro e w' ⟨b, d, rfl, ho, hb⟩
  obtain ⟨a, c, e1, hs⟩ := ho.sl
  rw [hm] at e1
  injection e1 with e1 e2 e3
  subst e1; subst e3
  exact ⟨_, _, by rw [hm], hs.mono (fun _ _ => trivial), kk.below hb⟩
theorem kb_all (k : KB w P M j T h wr) (hM2 : M ≤ 60) : Calls Tryd.prog 34 #[.pointer (some ⟨P, 0, none⟩)] wr fun e w' => ∃ b d, e = .returned (.slice b T.length d) ∧ SgsK (fun _ => True) w' b T ∧ KB w P M j T h w' := by
  have kk := k
  obtain ⟨S, o, h1, _⟩ := k.ex
  by_cases hT : T = []
  · subst hT
    refine (ri_all_no h1).mono ?_
    rintro e w' ⟨rfl, rfl⟩
    exact ⟨none, 0, rfl, fun i hi => absurd hi (Nat.not_lt_zero i), kk⟩
  · refine (ri_all h1 hT (by have := k.tm; omega)).mono ?_
    rintro e w' ⟨b, d, rfl, ho, hb⟩
    exact ⟨_, _, rfl, ho.mono (fun _ _ => trivial), kk.below hb⟩
end
end Go.Proofs.YtdnmjofenckndaaDoor
set_option linter.unusedVariables false
set_option linter.unusedSimpArgs false
namespace Go.Proofs.YtdnmjofenckndaaDoor
open Go.RowKit
theorem getD_le {T : List (List Sg2)} {m : Nat} (i : Nat) (h : ∀ t ∈ T, t.length ≤ m) : (T.getD i []).length ≤ m := by
  by_cases hi : i < T.length
  · exact h _ (getD_memT hi)
  · rw [List.getD, List.getElem?_eq_none (by omega)]; simp
theorem run_sub {w : World} {b : Option Addr} {L l pre post : List Sg2} {d f n m : Nat} (h : SlS (fun _ => True) w b L d) (hL : L = pre ++ l ++ post) (hf : pre.length = f) (hn : l.length = n) (hm : L.length = m) (i0 i1 : Int) (h0 : i0 = f) (h1 : i1 = (f : Int) + (n : Int)) :
    ∃ bx dx, (∀ wx, (Instr.slice 22 (.slice b m d) (some (.int .i64 i0)) (some (.int .i64 i1)) none).run Tryd.prog wx = .ok (.slice bx n dx) wx) ∧ Signs w bx l := by
  have hlen : f + n ≤ L.length := by rw [hL]; simp; omega
  obtain ⟨g1, g2⟩ := h.sub f (f + n) (by omega) hlen
  have e : (L.drop f).take (f + n - f) = l := by
    rw [hL, show f + n - f = n by omega, ← hf, List.append_assoc, List.drop_left, ← hn, List.take_left]
  rw [e] at g1
  refine ⟨_, d - f, fun wx => ?_, g1.s⟩
  have r := run_cutLH wx b m d f (f + n) (by omega) (Nat.le_trans hlen h.le)
  rw [h0, h1]
  rw [Int.natCast_add, show f + n - f = n by omega] at r
  exact r
theorem killbounds_no (H : List SgArg) (v : Value) (q : Int) (aH : Option Addr) (cH : Nat) (w : World) (hK : UT w) (hlong : 30 < H.length) : Calls Tryd.prog 5 #[.slice aH H.length cH, v, .int .u8 q] w fun x w' => x = .returned (.bool true) ∧ Below w.heap.size w w' := by
  have AW := Lib.hid (riawake_any w hK)
  have h1 : (30 : Int) < H.length := by omega
  clear hK
  go_enter Tryd.func5, Tryd.ntmps5
  go_wp2_with (first
    | (go_at_call 30; refine AW.out.mono ?_; rintro x w1 ⟨rfl, b1⟩))
  go_ret
  exact ⟨rfl, b1⟩
set_option maxHeartbeats 32000000 in
theorem killbounds_yes (H : List SgArg) (Q : List Int) (q : Int) (aH aQ : Option Addr) (cH cQ : Nat) (w : World) (hK : UT w) (hl : H.length ≤ 30) (hl2 : Q.length ≤ 9223372036854775807) (hH : HistIn w w.heap.size aH H) (hQ : U8sIn w aQ Q) (hq : 0 ≤ q ∧ q ≤ 255) :
    Calls Tryd.prog 5 #[.slice aH H.length cH, .slice aQ Q.length cQ, .int .u8 q] w fun x w' => x = .returned (.bool true) ∧ Below w.heap.size w w' := by
  have AW := Lib.hid (riawake_any w hK)
  have HH := Lib.hid hH
  have HQ := Lib.hid hQ
  have h1 : ¬ (30 : Int) < H.length := by omega
  clear hK hH hQ
  go_enter Tryd.func5, Tryd.ntmps5
  go_upto_region 3 with (first
    | (go_at_call 30; refine AW.out.mono ?_; rintro x w1 ⟨rfl, b1⟩))
  have NW := Lib.hid fun w => ri_new (q % 60 + 1) w (by omega) (by omega)
  go_upto_region 6 with (go_at_call 31; refine (NW.out _).mono ?_; rintro x w2 ⟨P, rfl, hm2, _, _, b2⟩)
  have K0 : Hid (KB w P (q % 60 + 1) 0 [] 0 w2) := Lib.hid ⟨⟨fun k => k < w1.heap.size, 0, hm2 _ (fun k hk => hk), by omega, fun k hk => Nat.lt_of_lt_of_le hk b1.size⟩, seqB b1 b2, by simp; omega, fun t ht => by simp at ht⟩
  have hM1 : 1 ≤ q % 60 + 1 := by omega
  have hM2 : q % 60 + 1 ≤ 60 := by omega
  have HM := Lib.hid (And.intro hM1 hM2)
  clear hm2 b1 b2 AW NW hM1 hM2
  go_upto_block 0 with fail
  go_cut [9, 10, 11, 12, 13] from 38 to 120 (fun s9 s10 s11 s12 s13 wx => ∃ (j : Nat) (T : List (List Sg2)) (h : Nat), Hid (KB w P (q % 60 + 1) j T h wx))
  case first =>
    go_wp2_with fail
    go_loopw [9] (fun iv wr => ∃ (j : Nat) (T : List (List Sg2)) (h : Nat), j ≤ H.length ∧ iv = .int .i64 (j : Int) ∧ Hid (KB w P (q % 60 + 1) j T h wr)) (fun iv _ => H.length - (intOf iv).toNat)
    case atStart => exact ⟨0, [], 0, Nat.zero_le _, rfl, K0⟩
    case round =>
      obtain ⟨j, T, h, hj, rfl, HI⟩ := hrel
      clear K0
      by_cases hlt : j < H.length
      rotate_left
      · have hj1 : ¬ (j : Int) < H.length := by omega
        go_wp2_with fail
        go_meet
        exact ⟨j, T, h, HI⟩
      by_cases hlq : j < Q.length
      rotate_left
      · have hj1 : (j : Int) < H.length := by omega
        have hj2 : ¬ (j : Int) < Q.length := by omega
        go_wp2_with fail
        go_meet
        exact ⟨j, T, h, HI⟩
      have hj1 : (j : Int) < H.length := by omega
      have hj2 : (j : Int) < Q.length := by omega
      have hj0 : (0 : Int) ≤ j := by omega
      obtain ⟨bh, oh, rfl, hbh, ch, hyW⟩ := HH.out j hlt
      obtain ⟨bq, oq, rfl, hbq, cq, hx⟩ := HQ.out j hlq
      obtain ⟨y, hy⟩ : ∃ y, H.getD j SgArg.zero = y := ⟨_, rfl⟩
      obtain ⟨x, hxe⟩ : ∃ x, Q.getD j 0 = x := ⟨_, rfl⟩
      rw [hy] at ch hyW
      rw [hxe] at cq hx
      have CH := Lib.hid fun (wx : World) (b : Below w.heap.size w wx) => (b.cell (p := ⟨bh, oh + j, none⟩) hbh).trans ch
      have CQ := Lib.hid fun (wx : World) (b : Below w.heap.size w wx) => (b.cell (p := ⟨bq, oq + j, none⟩) hbq).trans cq
      have HY := Lib.hid hyW
      obtain ⟨k, hk⟩ : ∃ k, x % 3 = k := ⟨_, rfl⟩
      have hk3 : k = 0 ∨ k = 1 ∨ k = 2 := by omega
      have c0 := CH.out _ HI.out.b
      have q0 := CQ.out _ HI.out.b
      have HK3 := Lib.hid hk3
      have hx1 : 0 ≤ x := hx.1
      have hx2 : x ≤ 255 := hx.2
      clear ch cq hyW hy hxe hk3 hx
      go_upto_block 1 with fail
      go_cut [10, 11, 12, 13] from 50 to 120 (fun s10 s11 s12 s13 wx => ∃ (T : List (List Sg2)) (h : Nat), Hid (KB w P (q % 60 + 1) (j + 1) T h wx))
      case first =>
        by_cases h60 : (60 : Int) < y.l.length
        · go_wp2_with fail
          go_ret
          exact ⟨rfl, HI.out.b⟩
        have hy60 : y.l.length ≤ 60 := by omega
        by_cases hok : sgC y.l = false
        · as_aux_lemma =>
            have PB := Lib.hid (kb_bad HI.out y HY.out hy60 k hok)
            clear hok
            go_wp2_with (go_at_call 32; refine PB.out.mono ?_; rintro x w6 ⟨rfl, k6⟩; have K6 := Lib.hid k6; have c6 := CH.out _ k6.b; clear k6)
            go_meet
            exact ⟨T, h, K6⟩
        have hok2 : sgC y.l = true := by
          cases hc : sgC y.l with
          | true => rfl
          | false => exact absurd hc hok
        have hj60 : j ≤ 60 := by omega
        have PG := Lib.hid (kb_push HI.out y HY.out hy60 k HK3.out hok2 hj60 HM.out.1 HM.out.2)
        clear hok hok2
        by_cases hnil : y.l.length = 0
        · skip
          · skip
            rw [hnil] at PG CH c0
            clear hnil h60 hy60
            go_wp2_with (go_at_call 32; refine PG.out.mono ?_; rintro x w6 ⟨rfl, k6⟩; have K6 := Lib.hid k6; have c6 := CH.out _ k6.b; clear k6)
            go_meet
            exact ⟨_, _, K6⟩
        have hlne : y.l ≠ [] := fun e => hnil (by rw [e]; rfl)
        obtain ⟨hTn, pre, post, hgp, hp1, hp2⟩ := puK_new HM.out.1 T y.l k hlne
        have hhe : puH (q % 60 + 1) T y.l k h = (puK (q % 60 + 1) T y.l k).length - 1 := if_neg hlne
        rw [← hhe] at hgp
        have hbd : ((puK (q % 60 + 1) T y.l k).getD (puH (q % 60 + 1) T y.l k h) []).length ≤ 4000 := getD_le _ (fun t ht => by have := puK_mem HI.out.sz ht; omega)
        generalize puH (q % 60 + 1) T y.l k h = h2 at *
        generalize puK (q % 60 + 1) T y.l k = T2 at *
        obtain ⟨n, hn⟩ : ∃ n, y.l.length = n := ⟨_, rfl⟩
        rw [hn] at PG CH c0 h60 hy60 hnil
        have HN := Lib.hid hn
        have hn0 : ¬ (n : Int) = 0 := by omega
        have hnp : 0 < n := by omega
        have HTN := Lib.hid hTn
        clear hhe hn hTn hlne
        by_cases hk1 : k = 1
        · skip
          · skip
            subst hk1
            obtain rfl := hp1 rfl
            rw [List.append_nil] at hgp
            obtain ⟨f, hf⟩ : ∃ f, pre.length = f := ⟨_, rfl⟩
            have HG := Lib.hid hgp
            have hlen : (T2.getD h2 []).length = f + n := by rw [hgp, List.length_append, hf, HN.out]
            have HLn := Lib.hid hlen
            have hfn : (f : Int) + (n : Int) ≤ 4000 := by have := hbd; omega
            have hf0 : (0 : Int) ≤ (f : Int) := by omega
            clear hbd
            have HF := Lib.hid hf
            have NW := Lib.hid fun (wx : World) (kb : KB w P (q % 60 + 1) (j + 1) T2 h2 wx) => kb_now kb HTN.out (f + n) HLn.out
            clear hp1 hp2 hgp hf hlen
            go_upto_region 18 with (first
              | (go_at_call 32; refine PG.out.mono ?_; rintro x w6 ⟨rfl, k6⟩; have K6 := Lib.hid k6; have c6 := CH.out _ k6.b; clear k6)
              | (go_at_call 33; refine (NW.out _ K6.out).mono ?_; rintro x w7 ⟨b7, d7, rfl, s7, k7⟩; have K7 := Lib.hid k7; have c7 := CH.out _ k7.b; have S7 := Lib.hid s7; clear k7 s7))
            obtain ⟨bx, dx, RC, hsx⟩ := run_sub S7.out (pre := pre) (l := y.l) (post := []) (by rw [HG.out, List.append_nil]) HF.out HN.out HLn.out (f : Int) ((f : Int) + (n : Int)) rfl rfl
            have hwr : IntKind.i64.wrap ((f : Int) + (n : Int)) = (f : Int) + (n : Int) := by rw [IntKind.wrap_i64]; omega
            have Kd := Lib.hid (K7.out.below (Below.refl _ _).drew)
            have cd := CH.out _ Kd.out.b
            have S9 := Lib.hid (show Signs w7.drew bx y.l from hsx)
            have hdc : decide ((f : Int) + (n : Int) < (n : Int)) = false := decide_eq_false (by omega)
            have hdc0 : decide ((f : Int) < 0) = false := decide_eq_false (by omega)
            clear hsx
            go_region_held3 (fun w' => w'.cell? ⟨bh, oh + j, none⟩ = some (.slice y.a n y.c)) (first | exact cd | exact c9 | go_keep)
              (first | (go_at_call 29; refine (sgsame_t y.l _ _ n _ _ _ HN.out (by omega) S9.out (HY.out.below Kd.out.b).1.s).mono ?_; rintro x w9 ⟨rfl, b9⟩; have K9 := Lib.hid (Kd.out.below b9); have c9 := CH.out _ K9.out.b; clear b9))
            clear cd c9
            go_wp2_with fail
            go_meet
            exact ⟨T2, h2, K9⟩
        · skip
          · skip
            obtain rfl := hp2 hk1
            rw [List.nil_append] at hgp
            obtain ⟨f, hf⟩ : ∃ f, post.length = f := ⟨_, rfl⟩
            have HG := Lib.hid hgp
            have hlen : (T2.getD h2 []).length = n + f := by rw [hgp, List.length_append, hf, HN.out]
            have HLn := Lib.hid hlen
            have hfn : (n : Int) + (f : Int) ≤ 4000 := by have := hbd; omega
            clear hbd
            have NW := Lib.hid fun (wx : World) (kb : KB w P (q % 60 + 1) (j + 1) T2 h2 wx) => kb_now kb HTN.out (n + f) HLn.out
            clear hp1 hp2 hgp hf hlen
            go_upto_region 18 with (first
              | (go_at_call 32; refine PG.out.mono ?_; rintro x w6 ⟨rfl, k6⟩; have K6 := Lib.hid k6; have c6 := CH.out _ k6.b; clear k6)
              | (go_at_call 33; refine (NW.out _ K6.out).mono ?_; rintro x w7 ⟨b7, d7, rfl, s7, k7⟩; have K7 := Lib.hid k7; have c7 := CH.out _ k7.b; have S7 := Lib.hid s7; clear k7 s7))
            obtain ⟨bx, dx, RC, hsx⟩ := run_sub S7.out (pre := []) (l := y.l) (post := post) (by rw [HG.out, List.nil_append]) rfl HN.out HLn.out 0 (n : Int) rfl (by simp)
            have hwr : IntKind.i64.wrap (0 + (n : Int)) = (n : Int) := by rw [IntKind.wrap_i64]; omega
            have hwr2 : IntKind.i64.wrap (n : Int) = (n : Int) := by rw [IntKind.wrap_i64]; omega
            have Kd := Lib.hid (K7.out.below (Below.refl _ _).drew)
            have cd := CH.out _ Kd.out.b
            have S9 := Lib.hid (show Signs w7.drew bx y.l from hsx)
            have hdc : decide ((n : Int) + (f : Int) < (n : Int)) = false := decide_eq_false (by omega)
            clear hsx
            go_region_held3 (fun w' => w'.cell? ⟨bh, oh + j, none⟩ = some (.slice y.a n y.c)) (first | exact cd | exact c9 | go_keep)
              (first | (go_at_call 29; refine (sgsame_t y.l _ _ n _ _ _ HN.out (by omega) S9.out (HY.out.below Kd.out.b).1.s).mono ?_; rintro x w9 ⟨rfl, b9⟩; have K9 := Lib.hid (Kd.out.below b9); have c9 := CH.out _ K9.out.b; clear b9))
            clear cd c9
            go_wp2_with fail
            go_meet
            exact ⟨T2, h2, K9⟩
      case rest =>
        obtain ⟨T5, h5, D5⟩ := hcut
        go_wp2
        go_roundw
        case rel => exact ⟨j + 1, T5, h5, by omega, by go_num, D5⟩
        case measure => (simp [intOf]; try omega)
  case rest =>
    obtain ⟨j5, T5, h5, D5⟩ := hcut
    clear K0
    have AL := Lib.hid (kb_all D5.out HM.out.2)
    have HTM := Lib.hid D5.out.tm
    have HNE := Lib.hid D5.out.ne
    obtain ⟨n5, hn5⟩ : ∃ n, T5.length = n := ⟨_, rfl⟩
    rw [hn5] at AL HTM
    have HN5 := Lib.hid hn5
    have htm : (n5 : Int) ≤ q % 60 + 1 := HTM.out
    have hM6 : q % 60 + 1 ≤ 60 := HM.out.2
    clear hn5
    go_wp2_with (go_at_call 34; refine AL.out.mono ?_; rintro x w8 ⟨b8, d8, rfl, s8, k8⟩; have S8 := Lib.hid s8; have K8 := Lib.hid k8; clear s8 k8)
    go_loopw [15] (fun iv wr => ∃ i : Nat, i ≤ n5 ∧ iv = .int .i64 (i : Int) ∧ w8 = wr) (fun iv _ => n5 - (intOf iv).toNat)
    case atStart => exact ⟨0, Nat.zero_le _, rfl, rfl⟩
    case round =>
      obtain ⟨i, hi, rfl, rfl⟩ := hrel
      by_cases hlt : i < n5
      · obtain ⟨b, off, ai, ci, rfl, _, hlt2, c1, c2⟩ := S8.out i (by rw [HN5.out]; exact hlt)
        have hne := HNE.out _ (getD_memT (T := T5) (j := i) (by rw [HN5.out]; exact hlt))
        obtain ⟨m, hm⟩ : ∃ m, (T5.getD i []).length = m := ⟨_, rfl⟩
        have hm0 : ¬ (m : Int) = 0 := by
          intro e
          exact hne (List.length_eq_zero_iff.1 (by omega))
        rw [hm] at c1
        have hi1 : (i : Int) < n5 := by omega
        have hi0 : (0 : Int) ≤ i := by omega
        clear hm hne c2
        go_wp2
        go_roundw
        case rel => exact ⟨i + 1, by omega, by go_num, trivial⟩
        case measure => (simp [intOf]; try omega)
      · have hi1 : ¬ (i : Int) < n5 := by omega
        go_wp2
        go_ret
        exact ⟨by first | rfl | simp, K8.out.b⟩
theorem killbounds_any (H : List SgArg) (Q : List Int) (q : Int) (aH aQ : Option Addr) (cH cQ : Nat) (w : World) (hK : UT w) (hl2 : Q.length ≤ 9223372036854775807) (hH : HistIn w w.heap.size aH H) (hQ : U8sIn w aQ Q) (hq : 0 ≤ q ∧ q ≤ 255) :
    Calls Tryd.prog 5 #[.slice aH H.length cH, .slice aQ Q.length cQ, .int .u8 q] w fun x w' => x = .returned (.bool true) ∧ Below w.heap.size w w' := by
  by_cases h : 30 < H.length
  · exact killbounds_no H _ q aH cH w hK h
  · exact killbounds_yes H Q q aH aQ cH cQ w hK (by omega) hl2 hH hQ hq
end Go.Proofs.YtdnmjofenckndaaDoor
