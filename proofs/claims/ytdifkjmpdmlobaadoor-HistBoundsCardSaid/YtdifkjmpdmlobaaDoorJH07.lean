/-
  Joined: Hi12.
-/
import Derived.Test.YtdifkjmpdmlobaaDoorJH01
import Derived.Test.YtdifkjmpdmlobaaDoorJH02
import Derived.Test.YtdifkjmpdmlobaaDoorJH03
import Derived.Test.YtdifkjmpdmlobaaDoorJH05
import Derived.Test.YtdifkjmpdmlobaaDoorJH06
set_option linter.unusedVariables false
set_option linter.unusedSimpArgs false
set_option maxRecDepth 100000
set_option linter.unusedVariables false
set_option linter.unusedSimpArgs false
namespace Go.Proofs.YtdifkjmpdmlobaaDoor
open Go.RowKit
theorem hwith1 (l : List (Int × Int)) (a : Option Addr) (c n : Nat) (w : World) (hn : l.length = n) (hl : n ≤ 100000) (hs : Signs w a l) :
    Calls Tryd.prog 15 #[.slice a n c, .int .i64 3] w fun e w' => ∃ ax cx, e = .returned (.slice ax n cx) ∧ Signs w' ax (wrL l 3) ∧ Below w.heap.size w w' := by
  subst hn
  refine (withr_any l 3 a c w hl hs).mono ?_
  rintro e w' ⟨x, rfl, ho, hb⟩
  obtain ⟨ax, cx, rfl⟩ := ho.form (wrL_len l 3)
  exact ⟨ax, cx, rfl, (ows_slS ho).s, hb⟩
theorem hsame1 (l : List (Int × Int)) (a b : Option Addr) (c d n : Nat) (w : World) (hn : l.length = n) (hl : n ≤ 100000) (hs : Signs w a l) (ht : Signs w b l) :
    Calls Tryd.prog 14 #[.slice a n c, .slice b n d] w fun e w' => e = .returned (.bool true) ∧ Below w.heap.size w w' := by
  subst hn
  have h := sgsame_ref l l a b c d w (by omega) (by omega) hs ht
  rw [decide_eq_true rfl] at h
  exact h
theorem hvals1 (l : List (Int × Int)) (a : Option Addr) (c n : Nat) (w : World) (hn : l.length = n) (hl : n ≤ 1000) (hs : Signs w a l) :
    Calls Tryd.prog 17 #[.slice a n c] w fun e w' => ∃ ax cx, e = .returned (.slice ax n cx) ∧ Row w' ax (l.map (·.1)) ∧ Below w.heap.size w w' := by
  subst hn
  refine (esvals_ref l a c w hl hs).mono ?_
  rintro e w' ⟨x, rfl, ho, hb⟩
  obtain ⟨ax, cx, rfl, hr⟩ := own_row ho
  exact ⟨ax, cx, by rw [List.length_map], hr, hb⟩
theorem hints1 (x y : List Int) (a b : Option Addr) (c d n m : Nat) (w : World) (hn : x.length = n) (hm : y.length = m) (h : x ≠ y) (hl : n ≤ 100000) (hl2 : m ≤ 100000) (hs : Row w a x) (ht : Row w b y) :
    Calls Tryd.prog 16 #[.slice a n c, .slice b m d] w fun e w' => e = .returned (.bool false) ∧ Below w.heap.size w w' := by
  subst hn; subst hm
  refine (ints_ref x y a b c d w hs ht (by omega) (by omega)).mono ?_
  rintro e w' ⟨rfl, k, rfl⟩
  exact ⟨by rw [decide_eq_false h], drewN_below (Below.refl _ w) k⟩
theorem histbounds_no (H : List SgArg) (v1 v2 : Value) (aH : Option Addr) (cH : Nat) (w : World) (hT : UT w) (hlong : 30 < H.length) : Calls Tryd.prog 3 #[.slice aH H.length cH, v1, v2] w fun x w' => x = .returned (.bool true) ∧ Below w.heap.size w w' := by
  have AW := Lib.hid (hawake_any w hT)
  have h1 : (30 : Int) < H.length := by omega
  clear hT
  go_enter Tryd.func3, Tryd.ntmps3
  go_wp2_with (first
    | (go_at_call 10; refine AW.out.mono ?_; rintro x w1 ⟨rfl, b1⟩))
  go_ret
  exact ⟨rfl, b1⟩
set_option maxHeartbeats 32000000 in
theorem histbounds_yes (H : List SgArg) (q1 q2 : Int) (aH : Option Addr) (cH : Nat) (w : World) (hT : UT w) (hl : H.length ≤ 30) (hH : HistIn w w.heap.size aH H) (hq1 : 0 ≤ q1 ∧ q1 ≤ 255) (hq2 : 0 ≤ q2 ∧ q2 ≤ 255) :
    Calls Tryd.prog 3 #[.slice aH H.length cH, .int .u8 q1, .int .u8 q2] w fun x w' => x = .returned (.bool true) ∧ Below w.heap.size w w' := by
  have AW := Lib.hid (hawake_any w hT)
  have HH := Lib.hid hH
  have h1 : ¬ (30 : Int) < H.length := by omega
  obtain ⟨m, hm⟩ : ∃ m : Nat, q1 % 9 + 1 = m := ⟨(q1 % 9 + 1).toNat, by omega⟩
  obtain ⟨n, hn⟩ : ∃ n : Nat, q2 % 40 + 1 = n := ⟨(q2 % 40 + 1).toNat, by omega⟩
  have hm1 : 1 ≤ m ∧ m ≤ 9 := by omega
  have hn1 : 1 ≤ n ∧ n ≤ 40 := by omega
  have NW := Lib.hid fun w => hs_new (q1 % 9 + 1) (q2 % 40 + 1) m n w hm hn hm1.1 (by omega) hn1.1 (by omega)
  have HM := Lib.hid (And.intro hm hm1)
  have HN := Lib.hid (And.intro hn hn1)
  clear hT hH hm hn hm1 hn1
  go_enter Tryd.func3, Tryd.ntmps3
  go_upto_region 3 with (first
    | (go_at_call 10; refine AW.out.mono ?_; rintro x w1 ⟨rfl, b1⟩))
  go_upto_region 7 with (go_at_call 11; refine (NW.out _).mono ?_; rintro x w2 ⟨O, rfl, ho, b2⟩)
  have O2 := Lib.hid ho
  have N2 := Lib.hid (seqB b1 b2)
  have HBB := Lib.hid b1.size
  obtain ⟨B, hB⟩ : ∃ B, w1.heap.size = B := ⟨_, rfl⟩
  rw [hB] at O2 HBB
  clear ho b1 b2 AW NW hB
  go_wp2_with fail
  go_loopw [11] (fun iv wr => ∃ (j : Nat) (E : List (List (Int × Int))) (hd : Nat) (T : List (Int × Int)), j ≤ H.length ∧ iv = .int .i64 (j : Int) ∧ Hid (HsS B O m n E hd T wr) ∧ Hid (HOk m n E) ∧ Hid (Below w.heap.size w wr)) (fun iv _ => H.length - (intOf iv).toNat)
  case atStart => exact ⟨0, [], 0, [], Nat.zero_le _, rfl, O2, Lib.hid (HOk.nil m n), N2⟩
  case round =>
    obtain ⟨j, E, hd, T, hj, rfl, HO, HE, HB⟩ := hrel
    clear O2 N2
    by_cases hlt : j < H.length
    rotate_left
    · obtain rfl : j = H.length := by omega
      have hj1 : ¬ (H.length : Int) < H.length := by omega
      go_wp2_with fail
      go_ret
      exact ⟨rfl, HB.out⟩
    have hj1 : (j : Int) < H.length := by omega
    have hj0 : (0 : Int) ≤ j := by omega
    obtain ⟨bh, oh, rfl, hbh, ch, hyW⟩ := HH.out j hlt
    obtain ⟨y, hy⟩ : ∃ y, H.getD j SgArg.zero = y := ⟨_, rfl⟩
    rw [hy] at ch hyW
    have CH := Lib.hid fun (wx : World) (b : Below w.heap.size w wx) => (b.cell (p := ⟨bh, oh + j, none⟩) hbh).trans ch
    have HY := Lib.hid hyW
    have c0 := CH.out _ HB.out
    clear ch hyW hy
    by_cases h60 : (60 : Int) < y.l.length
    · go_wp2_with fail
      go_ret
      exact ⟨rfl, HB.out⟩
    obtain ⟨ml, hml⟩ : ∃ ml, y.l.length = ml := ⟨_, rfl⟩
    rw [hml] at h60 c0
    have h60n : ml ≤ 60 := by omega
    have HML := Lib.hid hml
    have CH2 : Hid (∀ wx, Below w.heap.size w wx → wx.cell? ⟨bh, oh + j, none⟩ = some (.slice y.a ml y.c)) := Lib.hid fun wx b => by rw [← hml]; exact CH.out wx b
    have sy := (HY.out.below HB.out).1
    have AD := Lib.hid (hs_add y.l y.a ml y.c HO.out hml (by omega) (by have := HN.out.2; omega) HM.out.2.1 (by have := HM.out.2; omega) HE.out sy.s (fun ad e h0 => Or.inl (Nat.lt_of_lt_of_le (sy.st ad e h0) HBB.out)))
    have SY : Hid (∀ wx, Below w.heap.size w wx → Signs wx y.a y.l) := Lib.hid fun wx b => ((HY.out.below b).1).s
    clear sy hml CH HY
    go_upto_region 13 with (go_at_call 12; refine AD.out.mono ?_; rintro e w5 ⟨k, E5, hd5, T5, rfl, ho, hE5, hk5, hb⟩; have O5 := Lib.hid ho; have E5k := Lib.hid hE5; have K5 := Lib.hid hk5; have N5 := Lib.hid (HB.out.trans (hb.mono HBB.out)); clear ho hE5 hk5 hb AD HO HE HB c0)
    obtain ⟨t, ht⟩ : ∃ t, E5.length = t := ⟨_, rfl⟩
    have HT5 := Lib.hid ht
    have htm : t ≤ m := by rw [← ht]; exact E5k.out.le
    have AL := Lib.hid (hs_all O5.out ht (by have := HM.out.2; omega) (fun x hx => by have := (E5k.out.ne x hx).2.1; have := HN.out.2; omega))
    clear ht
    go_upto_region 14 with (go_at_call 13; refine AL.out.mono ?_; rintro e w6 ⟨b, rfl, hs, hb⟩; have S6 := Lib.hid (hs.mono (Q := fun k => k < w6.heap.size) (fun k hk => hk.2)); have N6 := Lib.hid (seqB N5.out hb); have O6 := Lib.hid (O5.out.below hb); clear hs hb AL O5 N5)
    have hm9 : ¬ (q1 % 9 + 1 < (t : Int)) := by rw [HM.out.1]; omega
    have c6 := CH2.out _ N6.out
    go_cut [99] from 64 to 100 (fun s99 wx => s99 = .bool false ∧ Hid (Below w6.heap.size w6 wx))
    case first =>
      by_cases hka : k = 0 ∧ 0 < ml
      · obtain ⟨rfl, hml0⟩ := hka
        obtain ⟨h5a, h5b⟩ := K5.out rfl hml0
        rw [HT5.out] at h5a h5b
        obtain ⟨p, hp⟩ : ∃ p, t = p + 1 := ⟨t - 1, by omega⟩
        have htp : (t : Int) - 1 = (p : Int) := by omega
        have hpt : (p : Int) < (t : Int) := by omega
        have hp0 : (0 : Int) ≤ p := by omega
        have hp9 : p ≤ 9 := by have := HM.out.2; omega
        have ht9 : t ≤ 9 := by have := HM.out.2; omega
        rw [show t - 1 = p by omega] at h5b
        obtain ⟨bb, off, ai, ci, rfl, _, hbl, yc, hsl⟩ := S6.out p (by rw [HT5.out]; omega)
        rw [h5b, wrL_len, HML.out] at yc
        rw [h5b] at hsl
        have sI := Lib.hid hsl.s
        have hw1 : IntKind.i64.wrap ((t : Int) - 1) = (p : Int) := by rw [IntKind.wrap_i64]; omega
        have hw2 : IntKind.i64.wrap (p : Int) = (p : Int) := by rw [IntKind.wrap_i64]; omega
        have t1 : ¬ t = 0 := by omega
        have t2 : ((t : Int) == 0) = false := beq_eq_false_iff_ne.2 (by omega)
        have m1 : (0 : Int) < ml := by omega
        have D6 : Hid (Below w6.heap.size w6 w6.drew) := Lib.hid (Below.refl _ _).drew
        have WI := Lib.hid fun w hs => hwith1 y.l y.a y.c ml w HML.out (by omega) hs
        have SM := Lib.hid fun a b c d w hs ht => hsame1 (wrL y.l 3) a b c d ml w ((wrL_len _ _).trans HML.out) (by omega) hs ht
        clear hp h5a h5b hsl
        go_region_held3 (fun w' => w'.cell? ⟨bb, off + p, none⟩ = some (.slice ai ml ci) ∧ w'.cell? ⟨bh, oh + j, none⟩ = some (.slice y.a ml y.c)) (first | exact ⟨yc, c6⟩ | exact ⟨yc7, c7⟩ | exact ⟨yc8, c8⟩ | go_keep)
          (first
            | (go_at_call 15; refine (WI.out _ (SY.out _ (seqB N6.out D6.out))).mono ?_; rintro e w7 ⟨ax, cx, rfl, hs, hb⟩; have D7 : Below w6.heap.size w6 w7 := D6.out.trans hb; have X7 := Lib.hid hs; have I7 := Lib.hid (sI.out.below D7); have yc7 := (D7.cell (p := ⟨bb, off + p, none⟩) hbl).trans yc; have c7 := CH2.out _ (seqB N6.out D7); have D7 := Lib.hid D7; clear hs hb WI)
            | (go_at_call 14; refine (SM.out _ _ _ _ _ I7.out X7.out).mono ?_; rintro e w8 ⟨rfl, hb⟩; have D8 : Below w6.heap.size w6 w8 := seqB D7.out hb; have yc8 := (D8.cell (p := ⟨bb, off + p, none⟩) hbl).trans yc; have c8 := CH2.out _ (seqB N6.out D8); have D8 := Lib.hid D8; clear hb SM))
        all_goals go_wp2_with fail
        all_goals go_meet
        all_goals exact ⟨congrArg Value.bool (decide_eq_false (by omega)), D8⟩
      · by_cases hk0 : k = 0
        · have m0 : ml = 0 := by
            by_cases h : 0 < ml
            · exact absurd ⟨hk0, h⟩ hka
            · omega
          subst m0
          subst hk0
          clear hka
          go_quiet (fail)
          have DQ : Hid (Below w6.heap.size w6 (w6.drewN nq)) := Lib.hid (drewN_below (Below.refl _ w6) nq)
          go_wp2_with fail
          go_meet
          exact ⟨rfl, DQ⟩
        · have hkb : (k == 0) = false := beq_eq_false_iff_ne.2 hk0
          clear hka
          go_quiet (fail)
          have DQ : Hid (Below w6.heap.size w6 (w6.drewN nq)) := Lib.hid (drewN_below (Below.refl _ w6) nq)
          go_wp2_with fail
          go_meet
          exact ⟨rfl, DQ⟩
    case rest =>
      obtain ⟨rfl, HX⟩ := hcut
      clear c6 K5
      go_wp2_with fail
      go_loopw [14] (fun iv wr => ∃ kk : Nat, kk ≤ t ∧ iv = .int .i64 (kk : Int) ∧ Hid (Below w6.heap.size w6 wr)) (fun iv _ => t - (intOf iv).toNat)
      case atStart => exact ⟨0, Nat.zero_le _, rfl, HX⟩
      case round =>
        obtain ⟨kk, hkk, rfl, HB2⟩ := hrel
        clear HX
        by_cases hlt2 : kk < t
        rotate_left
        · obtain rfl : kk = t := by omega
          have hkn : ¬ (kk : Int) < kk := by omega
          have HR := Lib.hid (seqB N6.out HB2.out)
          have OR := Lib.hid (O6.out.below HB2.out)
          go_wp2_with fail
          go_roundw
          case rel => exact ⟨j + 1, E5, hd5, T5, by omega, by go_num, OR, E5k, HR⟩
          case measure => (simp [intOf]; try omega)
        have hkn : (kk : Int) < t := by omega
        have hk0 : (0 : Int) ≤ kk := by omega
        obtain ⟨b1, o1, a1, c1, rfl, _, hbl1, yc1, hsl1⟩ := (S6.out.below HB2.out) kk (by rw [HT5.out]; exact hlt2)
        have hx := E5k.out.ne _ (getD_memT (show kk < E5.length by rw [HT5.out]; exact hlt2))
        obtain ⟨L, hL⟩ : ∃ L, E5.getD kk [] = L := ⟨_, rfl⟩
        rw [hL] at yc1 hsl1 hx
        obtain ⟨nx, hnx⟩ : ∃ nx, L.length = nx := ⟨_, rfl⟩
        rw [hnx] at yc1 hx
        have HLK := Lib.hid hL
        have HNX := Lib.hid hnx
        have hwl := Lib.hid hx.2.2
        have n1 : ¬ nx = 0 := by omega
        have n2 : ((nx : Int) == 0) = false := beq_eq_false_iff_ne.2 (by omega)
        have n3 : ¬ (q2 % 40 + 1 < (nx : Int)) := by rw [HN.out.1]; omega
        have hnx60 : nx ≤ 40 := by have := HN.out.2; omega
        have sL := Lib.hid hsl1.s
        have D0 : Hid (Below wr.heap.size wr wr.drew) := Lib.hid (Below.refl _ _).drew
        have WI := Lib.hid fun w hs => hwith1 L a1 c1 nx w HNX.out (by omega) hs
        have SM := Lib.hid fun a b c d w hs ht => hsame1 L a b c d nx w HNX.out (by omega) hs ht
        rw [hwl.out] at WI
        clear hx hsl1 hL hnx
        go_upto_region 19 with fail
        go_cut [133] from 106 to 134 (fun s133 wx => s133 = .bool false ∧ Hid (Below wr.heap.size wr wx))
        case first =>
          go_region_held3 (fun w' => w'.cell? ⟨b1, o1 + kk, none⟩ = some (.slice a1 nx c1)) (first | exact yc1 | exact yc7 | exact yc8 | go_keep)
            (first
              | (go_at_call 15; refine (WI.out _ (sL.out.below D0.out)).mono ?_; rintro e w7 ⟨ax, cx, rfl, hs, hb⟩; have D7 : Below wr.heap.size wr w7 := D0.out.trans hb; have X7 := Lib.hid hs; have I7 := Lib.hid (sL.out.below D7); have yc7 := (D7.cell (p := ⟨b1, o1 + kk, none⟩) hbl1).trans yc1; have D7 := Lib.hid D7; clear hs hb WI)
              | (go_at_call 14; refine (SM.out _ _ _ _ _ I7.out X7.out).mono ?_; rintro e w8 ⟨rfl, hb⟩; have D8 : Below wr.heap.size wr w8 := seqB D7.out hb; have yc8 := (D8.cell (p := ⟨b1, o1 + kk, none⟩) hbl1).trans yc1; have D8 := Lib.hid D8; clear hb SM))
          all_goals go_wp2_with fail
          all_goals go_meet
          all_goals exact ⟨rfl, D8⟩
        case rest =>
          obtain ⟨rfl, HX2⟩ := hcut
          have HX3 := Lib.hid (seqB HB2.out HX2.out)
          have EK := Lib.hid (show ∀ jj, jj < kk → (E5.getD jj []).map (·.1) ≠ L.map (·.1) from fun jj hjj => by
            have hkl : kk < E5.length := by rw [HT5.out]; exact hlt2
            have := (List.pairwise_iff_getElem.1 E5k.out.pw) jj kk (by omega) hkl hjj
            rw [← HLK.out, List.getD, List.getElem?_eq_getElem (by omega), List.getD, List.getElem?_eq_getElem hkl]
            exact this)
          have YK : Hid (∀ wx, Below w6.heap.size w6 wx → wx.cell? ⟨b1, o1 + kk, none⟩ = some (.slice a1 nx c1) ∧ Signs wx a1 L) := Lib.hid fun wx b => by
            obtain ⟨b2, o2, a2, c2, e2, _, hbl2, yc2, hsl2⟩ := S6.out kk (by rw [HT5.out]; exact hlt2)
            injection e2 with e2
            injection e2 with e3 e4
            subst e3; subst e4
            have h1 := (HB2.out.cell (p := ⟨b1, o1 + kk, none⟩) hbl2).trans yc2
            have h1 := yc1.symm.trans h1
            rw [HLK.out] at h1 hsl2
            injection h1 with h1
            injection h1 with e5 e6 e7
            subst e5; subst e6; subst e7
            rw [HLK.out] at yc2
            exact ⟨(b.cell (p := ⟨b1, o1 + kk, none⟩) hbl2).trans yc2, hsl2.s.below b⟩
          clear yc1 HX2 WI SM D0 hbl1 sL
          go_wp2_with fail
          go_loopw [15] (fun iv wr => ∃ jj : Nat, jj ≤ kk ∧ iv = .int .i64 (jj : Int) ∧ Hid (Below w6.heap.size w6 wr)) (fun iv _ => kk - (intOf iv).toNat)
          case atStart => exact ⟨0, Nat.zero_le _, rfl, HX3⟩
          case round =>
            obtain ⟨jj, hjj, rfl, HB3⟩ := hrel
            clear HX3 HB2
            by_cases hlt3 : jj < kk
            rotate_left
            · obtain rfl : jj = kk := by omega
              have hkj : ¬ (jj : Int) < jj := by omega
              go_wp2_with fail
              go_roundw
              case rel => exact ⟨jj + 1, by omega, by go_num, HB3⟩
              case measure => (simp [intOf]; try omega)
            have hjk : (jj : Int) < kk := by omega
            have hjt : (jj : Int) < t := by omega
            have hjj0 : (0 : Int) ≤ jj := by omega
            obtain ⟨b2, o2, a2, c2, e2, _, hbl2, yc2, hsl2⟩ := S6.out jj (by rw [HT5.out]; omega)
            injection e2 with e2
            injection e2 with e3 e4
            subst e3; subst e4
            have hx := E5k.out.ne _ (getD_memT (show jj < E5.length by rw [HT5.out]; omega))
            obtain ⟨L2, hL2⟩ : ∃ L, E5.getD jj [] = L := ⟨_, rfl⟩
            have hne := EK.out jj hlt3
            rw [hL2] at yc2 hsl2 hx hne
            obtain ⟨n2', hn2⟩ : ∃ nx, L2.length = nx := ⟨_, rfl⟩
            rw [hn2] at yc2 hx
            have HN2 := Lib.hid hn2
            have HNE := Lib.hid hne
            have hn240 : n2' ≤ 40 := by have := HN.out.2; omega
            have YJ : Hid (∀ wx, Below w6.heap.size w6 wx → wx.cell? ⟨b1, o1 + jj, none⟩ = some (.slice a2 n2' c2) ∧ Signs wx a2 L2) := Lib.hid fun wx b => ⟨(b.cell (p := ⟨b1, o1 + jj, none⟩) hbl2).trans yc2, hsl2.s.below b⟩
            have yj := (YJ.out _ HB3.out).1
            have yk := (YK.out _ HB3.out).1
            have D0 : Hid (Below w6.heap.size w6 wr.drew) := Lib.hid HB3.out.drew
            have VJ := Lib.hid fun w hs => hvals1 L2 a2 c2 n2' w HN2.out (by omega) hs
            have VK := Lib.hid fun w hs => hvals1 L a1 c1 nx w HNX.out (by omega) hs
            have IN := Lib.hid fun a b c d w hs ht => hints1 (L2.map (·.1)) (L.map (·.1)) a b c d n2' nx w (by rw [List.length_map]; exact HN2.out) (by rw [List.length_map]; exact HNX.out) HNE.out (by omega) (by omega) hs ht
            clear hx hsl2 hL2 hn2 yc2 hne
            go_upto_region 24 with fail
            go_cut [149] from 139 to 150 (fun s149 wx => s149 = .bool false ∧ Hid (Below w6.heap.size w6 wx))
            case first =>
              go_region_held3 (fun w' => w'.cell? ⟨b1, o1 + jj, none⟩ = some (.slice a2 n2' c2) ∧ w'.cell? ⟨b1, o1 + kk, none⟩ = some (.slice a1 nx c1)) (first | exact ⟨yj, yk⟩ | exact ⟨yj7, yk7⟩ | exact ⟨yj8, yk8⟩ | exact ⟨yj9, yk9⟩ | go_keep)
                (first
                  | (go_at_call 17; (with_reducible refine (VJ.out _ (YJ.out _ D0.out).2).mono ?_); rintro e w7 ⟨ax, cx, rfl, hs, hb⟩; have D7 : Below w6.heap.size w6 w7 := D0.out.trans (hb.mono D0.out.size); have X7 := Lib.hid hs; have yj7 := (YJ.out _ D7).1; have yk7 := (YK.out _ D7).1; have D7 := Lib.hid D7; clear hs hb VJ)
                  | (go_at_call 17; (with_reducible refine (VK.out _ (YK.out _ D7.out).2).mono ?_); rintro e w8 ⟨ay, cy, rfl, hs, hb⟩; have D8 : Below w6.heap.size w6 w8 := D7.out.trans (hb.mono D7.out.size); have Y8 := Lib.hid hs; have X8 := Lib.hid (X7.out.below hb); have yj8 := (YJ.out _ D8).1; have yk8 := (YK.out _ D8).1; have D8 := Lib.hid D8; clear hs hb VK)
                  | (go_at_call 16; refine (IN.out _ _ _ _ _ X8.out Y8.out).mono ?_; rintro e w9 ⟨rfl, hb⟩; have D9 : Below w6.heap.size w6 w9 := D8.out.trans (hb.mono D8.out.size); have yj9 := (YJ.out _ D9).1; have yk9 := (YK.out _ D9).1; have D9 := Lib.hid D9; clear hb IN))
              all_goals go_wp2_with fail
              all_goals go_meet
              all_goals exact ⟨rfl, D9⟩
            case rest =>
              obtain ⟨rfl, HX4⟩ := hcut
              clear HB3 D0 VJ VK IN yj yk
              go_wp2_with fail
              go_roundw
              case rel => exact ⟨jj + 1, by omega, by go_num, HX4⟩
              case measure => (simp [intOf]; try omega)
theorem histbounds_any (H : List SgArg) (q1 q2 : Int) (aH : Option Addr) (cH : Nat) (w : World) (hT : UT w) (hmax : H.length ≤ 9223372036854775807) (hH : HistIn w w.heap.size aH H) (hq1 : 0 ≤ q1 ∧ q1 ≤ 255) (hq2 : 0 ≤ q2 ∧ q2 ≤ 255) :
    Calls Tryd.prog 3 #[.slice aH H.length cH, .int .u8 q1, .int .u8 q2] w fun x w' => x = .returned (.bool true) ∧ Below w.heap.size w w' := by
  by_cases hl : 30 < H.length
  · exact histbounds_no H _ _ aH cH w hT hl
  · exact histbounds_yes H q1 q2 aH cH w hT (by omega) hH hq1 hq2
end Go.Proofs.YtdifkjmpdmlobaaDoor
