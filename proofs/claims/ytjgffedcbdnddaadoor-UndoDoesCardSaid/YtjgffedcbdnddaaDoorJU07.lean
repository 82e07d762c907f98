/-
  Joined: Ud9.
-/
import Derived.Test.YtjgffedcbdnddaaDoorJU05
import Derived.Test.YtjgffedcbdnddaaDoorJU06
import Derived.BigQuiet
import Derived.Deep.Cut
import Derived.Deep.CutRange
import Derived.Deep.CutBlock
set_option linter.unusedVariables false
set_option linter.unusedSimpArgs false
set_option maxRecDepth 100000
set_option linter.unusedVariables false
set_option linter.unusedSimpArgs false
namespace Go.Proofs.YtjgffedcbdnddaaDoor
open Go.RowKit
/-- A step from x to y, whose signs are new. -/
def BtP (x y : ULn) (w : World) (e : Ending) (w' : World) : Prop := ∃ q : StR, e = .returned (.agg (stA q)) ∧ Ld q.1 x y ∧ StIn (fun k => w.heap.size ≤ k ∧ k < w'.heap.size) w' q ∧ Below w.heap.size w w'
theorem eqSg (a b c d : Int) (w : World) : (binOp .eql 56 (.agg #[.int .i64 a, .int .i64 b]) (.agg #[.int .i64 c, .int .i64 d])).run Tryd.prog w = .ok (.bool (decide ((a, b) = (c, d)))) w := by
  by_cases h1 : a = c
  · by_cases h2 : b = d
    · subst h1; subst h2; simp [go_sem]
    · simp [go_sem, h1, h2]
  · simp [go_sem, h1]
theorem take_one_more {X Y : List Sn} {k : Nat} (h : X.take k = Y.take k) (hx : k < X.length) (hy : k < Y.length) (e : X.getD k (0, 0) = Y.getD k (0, 0)) : X.take (k + 1) = Y.take (k + 1) := by
  rw [List.getD, List.getElem?_eq_getElem hx, List.getD, List.getElem?_eq_getElem hy] at e
  rw [List.take_succ_eq_append_getElem hx, List.take_succ_eq_append_getElem hy, h]
  exact congrArg (fun z => Y.take k ++ [z]) e
theorem drop_one_more {X Y : List Sn} {a b : Nat} (h : X.drop (a + 1) = Y.drop (b + 1)) (hx : a < X.length) (hy : b < Y.length) (e : X.getD a (0, 0) = Y.getD b (0, 0)) : X.drop a = Y.drop b := by
  rw [List.getD, List.getElem?_eq_getElem hx, List.getD, List.getElem?_eq_getElem hy] at e
  rw [List.drop_eq_getElem_cons hx, List.drop_eq_getElem_cons hy, h]
  exact congrArg (· :: Y.drop (b + 1)) e
theorem ows_plb {w : World} {B n c : Nat} {a : Option Addr} {L : List Sn} (h : OwS w B (.slice a n c) L) : PlB w a := fun ad e => by
  unfold OwS at h
  rcases h.2 with ⟨e1, _⟩ | ⟨g, cap, cur, e1, hB, hg, _⟩
  · injection e1 with e2; rw [e2] at e; cases e
  · injection e1 with e2; rw [e2] at e; injection e with e; subst e
    exact ⟨_, cur, 0, 0, hg, Nat.le_refl _⟩
theorem ows_st {w w' : World} {B n c : Nat} {a : Option Addr} {L : List Sn} (h : OwS w B (.slice a n c) L) (hs : w.heap.size ≤ w'.heap.size) (hk : ∀ k, B ≤ k → k < w.heap.size → w'.heap[k]? = w.heap[k]?) : SlS (fun k => B ≤ k ∧ k < w'.heap.size) w' a L c ∧ (L ≠ [] → PlB w' a) ∧ n = L.length := by
  obtain ⟨a', c', e, s⟩ := h.sl
  injection e with e1 e2 e3
  subst e1; subst e3
  refine ⟨(s.keep hs (fun k hh => hk k hh.1 hh.2)).mono fun k hh => ⟨hh.1, by omega⟩, plb_keep (fun _ => ows_plb h) s (fun k hh => hk k hh.1 hh.2), e2⟩
theorem bt_fin {X Y : List Sn} {xi yi : Int} {h a b B2 d5 d6 : Nat} {b5 b6 : Option Addr} {w W3 w5 w6 wf : World} (h1 : ((X.drop h).take (a - h)).length = a - h) (h2 : ((Y.drop h).take (b - h)).length = b - h)
    (hl : Ld (h, (X.drop h).take (a - h), (Y.drop h).take (b - h), yi) (X, xi) (Y, yi)) (n3 : Below w.heap.size w W3) (n5 : Below W3.heap.size W3 w5) (m6 : Below w5.heap.size w5 w6)
    (o5 : OwS w5 W3.heap.size (.slice b5 (a - h) d5) ((X.drop h).take (a - h))) (o6 : OwS w6 w5.heap.size (.slice b6 (b - h) d6) ((Y.drop h).take (b - h))) (hB : B2 < W3.heap.size)
    (bf : Below w.heap.size w wf) (hwf : wf = (((w6.setCell ⟨B2, 0, none⟩ (.int .i64 (h : Int))).setCell ⟨B2, 1, none⟩ (.slice b5 (a - h) d5)).setCell ⟨B2, 2, none⟩ (.slice b6 (b - h) d6)).setCell ⟨B2, 3, none⟩ (.int .i64 yi) := by rfl) :
    BtP (X, xi) (Y, yi) w (.returned (.agg #[.int .i64 (h : Int), .slice b5 (a - h) d5, .slice b6 (b - h) d6, .int .i64 yi])) wf := by
  have hk : ∀ k, k ≠ B2 → wf.heap[k]? = w6.heap[k]? := fun k hk => by
    rw [hwf]
    exact (Below.heap_setCell _ _ _ _ hk).trans ((Below.heap_setCell _ _ _ _ hk).trans ((Below.heap_setCell _ _ _ _ hk).trans (Below.heap_setCell _ _ _ _ hk)))
  have hs : wf.heap.size = w6.heap.size := by rw [hwf]; simp [World.setCell]
  have e1 := n3.size; have e2 := n5.size; have e3 := m6.size
  have s5 := ows_st (w' := wf) o5 (by omega) (fun k hk1 hk2 => (hk k (by omega)).trans (m6.block k hk2))
  have s6 := ows_st (w' := wf) o6 (by omega) (fun k hk1 hk2 => hk k (by omega))
  refine ⟨((h, (X.drop h).take (a - h), (Y.drop h).take (b - h), yi), (b5, d5), (b6, d6)), ?_, hl, ⟨s5.1.mono fun k hh => ⟨by omega, hh.2⟩, s6.1.mono fun k hh => ⟨by omega, hh.2⟩, s5.2.1, s6.2.1⟩, bf⟩
  unfold stA
  dsimp only
  rw [h1, h2]
theorem far4 (w : World) (B k : Nat) (u0 u1 u2 u3 : Value) (i : Nat) (h : k ≠ B) : ((((w.setCell ⟨B, 0, none⟩ u0).setCell ⟨B, 1, none⟩ u1).setCell ⟨B, 2, none⟩ u2).setCell ⟨B, 3, none⟩ u3).cell? ⟨k, i, none⟩ = w.cell? ⟨k, i, none⟩ := by
  rw [cell_far (p := ⟨B, 3, none⟩) (q := ⟨k, i, none⟩) h, cell_far (p := ⟨B, 2, none⟩) (q := ⟨k, i, none⟩) h, cell_far (p := ⟨B, 1, none⟩) (q := ⟨k, i, none⟩) h, cell_far (p := ⟨B, 0, none⟩) (q := ⟨k, i, none⟩) h]
theorem wrap_nat (a : Nat) (h : a ≤ 1000000) : IntKind.i64.wrap (a : Int) = (a : Int) := by
  rw [IntKind.wrap_i64]; omega
theorem dn2 (w : World) (a b : Nat) : ∃ q, (w.drewN a).drewN b = w.drewN q := ⟨_, World.drewN_drewN ..⟩
theorem dn3 (w : World) (a b c : Nat) : ∃ q, ((w.drewN a).drewN b).drewN c = w.drewN q := by
  rw [World.drewN_drewN, World.drewN_drewN]
  exact ⟨_, rfl⟩
set_option maxRecDepth 100000 in
set_option maxHeartbeats 8000000 in
theorem between_any (X Y : List Sn) (xi yi : Int) (xa ya : Option Addr) (n m xc yc : Nat) (w : World) (hn : X.length = n) (hm : Y.length = m) (hn1 : n ≤ 100000) (hm1 : m ≤ 100000) (S T : Nat → Prop) (hx : SlS S w xa X xc) (hy : SlS T w ya Y yc) :
    Calls Tryd.prog 26 #[.agg #[.slice xa n xc, .int .i64 xi], .agg #[.slice ya m yc, .int .i64 yi]] w (BtP (X, xi) (Y, yi) w) := by
  have b0 := below_alloc w (.cells #[.slice xa n xc, .int .i64 xi] 30)
  have r0 := heap_alloc_new w (.cells #[.slice xa n xc, .int .i64 xi] 30)
  obtain ⟨B0, hB0⟩ : ∃ B0, w.heap.size = B0 := ⟨_, rfl⟩
  obtain ⟨W0, hW0⟩ : ∃ W0, w.alloc (.cells #[.slice xa n xc, .int .i64 xi] 30) = W0 := ⟨_, rfl⟩
  rw [hW0] at b0 r0
  have b1 := below_alloc W0 (.cells #[.slice ya m yc, .int .i64 yi] 30)
  have r1 := heap_alloc_new W0 (.cells #[.slice ya m yc, .int .i64 yi] 30)
  obtain ⟨B1, hB1⟩ : ∃ B1, W0.heap.size = B1 := ⟨_, rfl⟩
  obtain ⟨W1, hW1⟩ : ∃ W1, W0.alloc (.cells #[.slice ya m yc, .int .i64 yi] 30) = W1 := ⟨_, rfl⟩
  rw [hW1] at b1 r1
  have b2 := below_alloc W1 (.cells #[.int .i64 0, .slice none 0 0, .slice none 0 0, .int .i64 0] 63)
  have r2 := heap_alloc_new W1 (.cells #[.int .i64 0, .slice none 0 0, .slice none 0 0, .int .i64 0] 63)
  obtain ⟨B2, hB2⟩ : ∃ B2, W1.heap.size = B2 := ⟨_, rfl⟩
  obtain ⟨W2, hW2⟩ : ∃ W2, W1.alloc (.cells #[.int .i64 0, .slice none 0 0, .slice none 0 0, .int .i64 0] 63) = W2 := ⟨_, rfl⟩
  rw [hW2] at b2 r2
  have N2 := seqB (seqB b0 b1) b2
  have r02 := blk_below (blk_below r0 b1) b2
  have r12 := blk_below r1 b2
  rw [hB0] at r02
  rw [hB1] at r12
  rw [hB2] at r2
  have h01 : B0 < B1 := by rw [← hB0, ← hB1]; exact blk_lt r0
  have h12 : B1 < B2 := by rw [← hB1, ← hB2]; exact blk_lt r1
  have HO := Lib.hid (And.intro hB0 (And.intro h01 h12))
  have R0 := Lib.hid r02; have R1 := Lib.hid r12; have R2 := Lib.hid r2; have NN := Lib.hid N2
  have HX := Lib.hid (hx.below N2); have HY := Lib.hid (hy.below N2)
  have HN := Lib.hid hn; have HM := Lib.hid hm
  obtain ⟨N, hN⟩ : ∃ N, min n m = N := ⟨_, rfl⟩
  have hNI : min (n : Int) (m : Int) = (N : Int) := by omega
  have hNn : N ≤ n := by omega
  have hNm : N ≤ m := by omega
  have xx := fun i => cell_of_row _ _ i _ _ _ R0.out
  have x0 := xx 0; have x1 := xx 1
  have yy := fun i => cell_of_row _ _ i _ _ _ R1.out
  have y0 := yy 0; have y1 := yy 1
  dsimp at x0 x1 y0 y1
  have EQS := Lib.hid eqSg
  clear xx yy b0 b1 b2 r0 r1 r2 r02 r12 N2 h01 h12 hx hy hn hm hN
  go_enter Tryd.func26, Tryd.ntmps26
  go_upto_region 3 with fail
  go_loopw [6] (fun hv wr => ∃ h : Nat, h ≤ N ∧ hv = .int .i64 (h : Int) ∧ Hid (X.take h = Y.take h) ∧ ∃ q, wr = W2.drewN q) (fun hv _ => N - (intOf hv).toNat)
  case atStart => exact ⟨0, Nat.zero_le _, rfl, Lib.hid (by simp), 0, rfl⟩
  case round =>
    obtain ⟨h, hhN, rfl, HT, q, rfl⟩ := hrel
    by_cases hlt : h < N
    · have k1 : (h : Int) < (N : Int) := by omega
      have k2 : (h : Int) < (n : Int) := by omega
      have k3 : (h : Int) < (m : Int) := by omega
      have k0 : (0 : Int) ≤ (h : Int) := by omega
      obtain ⟨xb, xo, rfl, hxb, cx0, cx1⟩ := HX.out.s h (by rw [HN.out]; omega)
      obtain ⟨yb, yo, rfl, hyb, cy0, cy1⟩ := HY.out.s h (by rw [HM.out]; omega)
      by_cases he : X.getD h (0, 0) = Y.getD h (0, 0)
      · have HT2 : Hid (X.take (h + 1) = Y.take (h + 1)) := Lib.hid (take_one_more HT.out (by rw [HN.out]; omega) (by rw [HM.out]; omega) he)
        have EQ : ∀ w, (binOp .eql 56 (.agg #[.int .i64 (X.getD h (0, 0)).1, .int .i64 (X.getD h (0, 0)).2]) (.agg #[.int .i64 (Y.getD h (0, 0)).1, .int .i64 (Y.getD h (0, 0)).2])).run Tryd.prog w = .ok (.bool true) w := fun w => by rw [EQS.out, decide_eq_true he]
        clear he
        generalize (X.getD h (0, 0)).1 = p1 at *
        generalize (X.getD h (0, 0)).2 = p2 at *
        generalize (Y.getD h (0, 0)).1 = p3 at *
        generalize (Y.getD h (0, 0)).2 = p4 at *
        go_upto_region 3 with fail
        go_quiet (fail)
        go_wp2
        go_roundw
        case rel => exact ⟨h + 1, by omega, by go_num, HT2, _, (by first | rfl | exact World.drewN_drewN ..)⟩
        case measure => (simp [intOf]; try omega)
      · have EQ : ∀ w, (binOp .eql 56 (.agg #[.int .i64 (X.getD h (0, 0)).1, .int .i64 (X.getD h (0, 0)).2]) (.agg #[.int .i64 (Y.getD h (0, 0)).1, .int .i64 (Y.getD h (0, 0)).2])).run Tryd.prog w = .ok (.bool false) w := fun w => by rw [EQS.out, decide_eq_false (fun e => he (by have h1 := congrArg Prod.fst e; have h2 := congrArg Prod.snd e; exact Prod.ext h1 h2))]
        clear he
        generalize (X.getD h (0, 0)).1 = p1 at *
        generalize (X.getD h (0, 0)).2 = p2 at *
        generalize (Y.getD h (0, 0)).1 = p3 at *
        generalize (Y.getD h (0, 0)).2 = p4 at *
        go_upto_region 3 with fail
        go_quiet (fail)
        clear EQ cx0 cx1 cy0 cy1
        go_upto_region 5 with fail
        go_quiet (fail)
        generalize (some (⟨xb, xo, none⟩ : Addr)) = xa at *
        generalize (some (⟨yb, yo, none⟩ : Addr)) = ya at *
        as_aux_lemma =>
          go_upto_region 6 with fail
          go_loopw [7, 8] (fun av bv wr => ∃ a b : Nat, h ≤ a ∧ h ≤ b ∧ a ≤ n ∧ b ≤ m ∧ av = .int .i64 (a : Int) ∧ bv = .int .i64 (b : Int) ∧ Hid (X.drop a = Y.drop b) ∧ ∃ q, wr = W2.drewN q) (fun av _ _ => (intOf av).toNat)
          case atStart => exact ⟨n, m, by omega, by omega, Nat.le_refl _, Nat.le_refl _, rfl, rfl, Lib.hid (by rw [List.drop_of_length_le (by rw [HN.out]; exact Nat.le_refl _), List.drop_of_length_le (by rw [HM.out]; exact Nat.le_refl _)]), (by first | exact ⟨_, rfl⟩ | exact dn2 _ _ _ | exact dn3 _ _ _ _)⟩
          case round =>
            obtain ⟨a, b, hha, hhb, han, hbm, rfl, rfl, HD, q2, rfl⟩ := hrel
            by_cases ga : h < a
            · by_cases gb : h < b
              · obtain ⟨a1, rfl⟩ : ∃ a1, a = a1 + 1 := ⟨a - 1, by omega⟩
                obtain ⟨b1, rfl⟩ : ∃ b1, b = b1 + 1 := ⟨b - 1, by omega⟩
                have k1 : (h : Int) < (a1 : Int) + 1 := by omega
                have k2 : (h : Int) < (b1 : Int) + 1 := by omega
                have k5 : (0 : Int) ≤ (a1 : Int) := by omega
                have k6 : (0 : Int) ≤ (b1 : Int) := by omega
                have k7 : (a1 : Int) + 1 ≤ 100000 := by omega
                have k8 : (b1 : Int) + 1 ≤ 100000 := by omega
                have wr1 := wrap_nat a1 (by omega)
                have wr2 := wrap_nat b1 (by omega)
                obtain ⟨xb, xo, rfl, hxb, cx0, cx1⟩ := HX.out.s a1 (by rw [HN.out]; omega)
                obtain ⟨yb, yo, rfl, hyb, cy0, cy1⟩ := HY.out.s b1 (by rw [HM.out]; omega)
                have e3 : (a1 : Int) < (n : Int) := by omega
                have e4 : (b1 : Int) < (m : Int) := by omega
                by_cases he : X.getD a1 (0, 0) = Y.getD b1 (0, 0)
                · have HD2 : Hid (X.drop a1 = Y.drop b1) := Lib.hid (drop_one_more HD.out (by rw [HN.out]; omega) (by rw [HM.out]; omega) he)
                  have EQ : ∀ w, (binOp .eql 56 (.agg #[.int .i64 (X.getD a1 (0, 0)).1, .int .i64 (X.getD a1 (0, 0)).2]) (.agg #[.int .i64 (Y.getD b1 (0, 0)).1, .int .i64 (Y.getD b1 (0, 0)).2])).run Tryd.prog w = .ok (.bool true) w := fun w => by rw [EQS.out, decide_eq_true he]
                  clear he
                  generalize (X.getD a1 (0, 0)).1 = p1 at *
                  generalize (X.getD a1 (0, 0)).2 = p2 at *
                  generalize (Y.getD b1 (0, 0)).1 = p3 at *
                  generalize (Y.getD b1 (0, 0)).2 = p4 at *
                  go_upto_region 6 with fail
                  go_quiet (fail)
                  go_wp2
                  go_roundw
                  case rel => exact ⟨a1, b1, by omega, by omega, by omega, by omega, by go_num, by go_num, HD2, (by first | exact ⟨_, rfl⟩ | exact dn2 _ _ _ | exact dn3 _ _ _ _)⟩
                  case measure => (simp [intOf]; try omega)
                · have EQ : ∀ w, (binOp .eql 56 (.agg #[.int .i64 (X.getD a1 (0, 0)).1, .int .i64 (X.getD a1 (0, 0)).2]) (.agg #[.int .i64 (Y.getD b1 (0, 0)).1, .int .i64 (Y.getD b1 (0, 0)).2])).run Tryd.prog w = .ok (.bool false) w := fun w => by rw [EQS.out, decide_eq_false (fun e => he (by have h1 := congrArg Prod.fst e; have h2 := congrArg Prod.snd e; exact Prod.ext h1 h2))]
                  clear he
                  generalize (X.getD a1 (0, 0)).1 = p1 at *
                  generalize (X.getD a1 (0, 0)).2 = p2 at *
                  generalize (Y.getD b1 (0, 0)).1 = p3 at *
                  generalize (Y.getD b1 (0, 0)).2 = p4 at *
                  go_upto_region 6 with fail
                  go_quiet (fail)
                  clear EQ cx0 cx1 cy0 cy1
                  generalize (some (⟨xb, xo, none⟩ : Addr)) = xa at *
                  generalize (some (⟨yb, yo, none⟩ : Addr)) = ya at *
                  obtain ⟨a, hae⟩ : ∃ a, a1 + 1 = a := ⟨_, rfl⟩
                  obtain ⟨b, hbe⟩ : ∃ b, b1 + 1 = b := ⟨_, rfl⟩
                  rw [hae] at hha han HD
                  rw [hbe] at hhb hbm HD
                  have hI1 : (a1 : Int) + 1 = (a : Int) := by omega
                  have hI2 : ((a1 + 1 : Nat) : Int) = (a : Int) := by omega
                  have hI3 : (b1 : Int) + 1 = (b : Int) := by omega
                  have hI4 : ((b1 + 1 : Nat) : Int) = (b : Int) := by omega
                  (try rw [hI1]); (try rw [hI2]); (try rw [hI3]); (try rw [hI4])
                  clear hI1 hI2 hI3 hI4 hae hbe wr1 wr2
                  as_aux_lemma =>
                    obtain ⟨W3, hW3⟩ : ∃ W3, (W2.drewN q2).drewN nq = W3 := ⟨_, rfl⟩
                    have D3 : Below W2.heap.size W2 W3 := by rw [← hW3]; exact drewN_below (drewN_below (Below.refl _ _) _) _
                    have R03 := Lib.hid (blk_below R0.out D3); have R13 := Lib.hid (blk_below R1.out D3); have R23 := Lib.hid (blk_below R2.out D3)
                    have NN3 := Lib.hid (seqB NN.out D3)
                    have SX := (HX.out.below D3).sub h a hha (by rw [HN.out]; exact han)
                    have SY := (HY.out.below D3).sub h b hhb (by rw [HM.out]; exact hbm)
                    have xx := fun i => cell_of_row _ _ i _ _ _ R03.out
                    have x0 := xx 0
                    have yy := fun i => cell_of_row _ _ i _ _ _ R13.out
                    have y0 := yy 0; have y1 := yy 1
                    have zz := fun i => cell_of_row _ _ i _ _ _ R23.out
                    have z0 := zz 0; have z1 := zz 1; have z2 := zz 2; have z3 := zz 3
                    dsimp at x0 y0 y1 z0 z1 z2 z3
                    clear xx yy zz
                    have hxc : n ≤ xc := by have := HX.out.le; rw [HN.out] at this; exact this
                    have hyc : m ≤ yc := by have := HY.out.le; rw [HM.out] at this; exact this
                    have CX := fun w => run_cutLH w xa n xc h a hha (by omega)
                    have CY := fun w => run_cutLH w ya m yc h b hhb (by omega)
                    obtain ⟨XA, hXA⟩ : ∃ x, (if xc = h then xa else xa.map (·.add (h * 2))) = x := ⟨_, rfl⟩
                    obtain ⟨YA, hYA⟩ : ∃ x, (if yc = h then ya else ya.map (·.add (h * 2))) = x := ⟨_, rfl⟩
                    rw [hXA] at CX SX
                    rw [hYA] at CY SY
                    have L1 := Lib.hid (fun (w' : World) (hb : Below W3.heap.size W3 w') => clone_sg ((X.drop h).take (a - h)) XA (a - h) (xc - h) S w' SX.2 (by omega) (SX.1.below hb))
                    have L2 := Lib.hid (fun (w' : World) (hb : Below W3.heap.size W3 w') => clone_sg ((Y.drop h).take (b - h)) YA (b - h) (yc - h) T w' SY.2 (by omega) (SY.1.below hb))
                    have LDH := Lib.hid (ld_between (x := (X, xi)) (y := (Y, yi)) hha hhb (by rw [HN.out]; exact han) (by rw [HM.out]; exact hbm) HT.out HD.out)
                    have HL1 := Lib.hid SX.2; have HL2 := Lib.hid SY.2
                    have HAB := Lib.hid (And.intro hha (And.intro hhb (And.intro han hbm)))
                    have ha1 : (h : Int) ≤ (a : Int) := by omega
                    have hb1 : (h : Int) ≤ (b : Int) := by omega
                    rw [hW3]
                    clear SX SY hXA hYA D3 hW3 R0 R1 R2 NN HX HY hha hhb han hbm hxc hyc
                    go_upto_region 9 with fail
                    have hO := HO.out
                    have hB02 : B0 ≠ B2 := by omega
                    have hB12 : B1 ≠ B2 := by omega
                    have x0d : W3.drew.cell? ⟨B0, 0, none⟩ = some (.slice xa n xc) := x0
                    have y0d : W3.drew.cell? ⟨B1, 0, none⟩ = some (.slice ya m yc) := y0
                    have y1d : W3.drew.cell? ⟨B1, 1, none⟩ = some (.int .i64 yi) := y1
                    have HF := Lib.hid (And.intro hB02 hB12)
                    clear x0 y0 y1 z0 z1 z2 z3 hO hB02 hB12
                    go_region_held3 (fun w' => w'.cell? ⟨B0, 0, none⟩ = some (.slice xa n xc) ∧ w'.cell? ⟨B1, 0, none⟩ = some (.slice ya m yc) ∧ w'.cell? ⟨B1, 1, none⟩ = some (.int .i64 yi))
                      (first | with_reducible exact ⟨x0d, y0d, y1d⟩ | with_reducible exact ⟨x5, y5, y5'⟩ | with_reducible exact ⟨x6, y6, y6'⟩ | with_reducible exact ⟨x7, y7, y7'⟩)
                      (first
                        | (go_at_call 21
                           with_reducible refine (L1.out W3.drew (Below.refl _ _).drew).mono ?_
                           rintro e w5 ⟨b5, d5, rfl, o5, hb5⟩
                           have R05 := Lib.hid (blk_below (w := W3) R03.out (seqB (Below.refl _ _).drew hb5)); have R15 := Lib.hid (blk_below (w := W3) R13.out (seqB (Below.refl _ _).drew hb5)); have R25 := Lib.hid (blk_below (w := W3) R23.out (seqB (Below.refl _ _).drew hb5))
                           have N5 := Lib.hid (seqB (Below.refl _ _).drew hb5 : Below W3.heap.size W3 w5)
                           have O5 := Lib.hid (show OwS w5 W3.heap.size (.slice b5 (a - h) d5) ((X.drop h).take (a - h)) from o5)
                           have xx := fun i => cell_of_row _ _ i _ _ _ R05.out
                           have x5 := xx 0
                           have yy := fun i => cell_of_row _ _ i _ _ _ R15.out
                           have y5 := yy 0; have y5' := yy 1
                           dsimp at x5 y5 y5'
                           clear hb5 o5 xx yy L1)
                        | (go_at_call 21
                           with_reducible refine (L2.out _ N5.out).mono ?_
                           rintro e w6 ⟨b6, d6, rfl, o6, hb6⟩
                           have R06 := Lib.hid (blk_below R05.out hb6); have R16 := Lib.hid (blk_below R15.out hb6); have R26 := Lib.hid (blk_below R25.out hb6)
                           have N6 := Lib.hid (seqB N5.out hb6)
                           have M6 := Lib.hid hb6
                           have O6 := Lib.hid o6
                           have xx := fun i => cell_of_row _ _ i _ _ _ R06.out
                           have x6 := xx 0
                           have yy := fun i => cell_of_row _ _ i _ _ _ R16.out
                           have y6 := yy 0; have y6' := yy 1
                           have zz := fun i => cell_of_row _ _ i _ _ _ R26.out
                           have z0 := zz 0; have z1 := zz 1; have z2 := zz 2; have z3 := zz 3
                           have zf := fun i => frozen_of_row _ B2 i _ _ R26.out
                           dsimp at x6 y6 y6' z0 z1 z2 z3
                           have x7 := (far4 w6 B2 B0 (.int .i64 (h : Int)) (.slice b5 (a - h) d5) (.slice b6 (b - h) d6) (.int .i64 yi) 0 HF.out.1).trans x6
                           have y7 := (far4 w6 B2 B1 (.int .i64 (h : Int)) (.slice b5 (a - h) d5) (.slice b6 (b - h) d6) (.int .i64 yi) 0 HF.out.2).trans y6
                           have y7' := (far4 w6 B2 B1 (.int .i64 (h : Int)) (.slice b5 (a - h) d5) (.slice b6 (b - h) d6) (.int .i64 yi) 1 HF.out.2).trans y6'
                           clear hb6 o6 xx yy zz))
                    have hO := HO.out
                    have hge : w.heap.size ≤ B2 := by omega
                    have RF := Lib.hid (blk_set (blk_set (blk_set (blk_set R26.out 0 (.int .i64 (h : Int))) 1 (.slice b5 (a - h) d5)) 2 (.slice b6 (b - h) d6)) 3 (.int .i64 yi))
                    have BF := Lib.hid (((((seqB NN3.out N6.out).setCell (p := ⟨B2, 0, none⟩) hge (.int .i64 (h : Int))).setCell (p := ⟨B2, 1, none⟩) hge (.slice b5 (a - h) d5)).setCell (p := ⟨B2, 2, none⟩) hge (.slice b6 (b - h) d6)).setCell (p := ⟨B2, 3, none⟩) hge (.int .i64 yi))
                    have ltB := Lib.hid (blk_lt R23.out)
                    clear x0d y0d y1d x5 y5 y5' x6 y6 y6' x7 y7 y7' z0 z1 z2 z3 zf L2 hO hge
                    go_wp2
                    refine bodyPost_ret (results_cell_row rfl _ _ B2 63 _ (0, 0) _ rfl RF.out Tryd.underlying63 rfl (infoUst.trans rfl)) rfl ?_
                    exact bt_fin HL1.out HL2.out LDH.out NN3.out N5.out M6.out O5.out O6.out ltB.out BF.out
              · have k2 : ¬ (h : Int) < (b : Int) := by omega
                have k1 : (h : Int) < (a : Int) := by omega
                go_upto_region 6 with fail
                go_quiet (fail)
                as_aux_lemma =>
                  obtain ⟨W3, hW3⟩ : ∃ W3, (W2.drewN q2).drewN nq = W3 := ⟨_, rfl⟩
                  have D3 : Below W2.heap.size W2 W3 := by rw [← hW3]; exact drewN_below (drewN_below (Below.refl _ _) _) _
                  have R03 := Lib.hid (blk_below R0.out D3); have R13 := Lib.hid (blk_below R1.out D3); have R23 := Lib.hid (blk_below R2.out D3)
                  have NN3 := Lib.hid (seqB NN.out D3)
                  have SX := (HX.out.below D3).sub h a hha (by rw [HN.out]; exact han)
                  have SY := (HY.out.below D3).sub h b hhb (by rw [HM.out]; exact hbm)
                  have xx := fun i => cell_of_row _ _ i _ _ _ R03.out
                  have x0 := xx 0
                  have yy := fun i => cell_of_row _ _ i _ _ _ R13.out
                  have y0 := yy 0; have y1 := yy 1
                  have zz := fun i => cell_of_row _ _ i _ _ _ R23.out
                  have z0 := zz 0; have z1 := zz 1; have z2 := zz 2; have z3 := zz 3
                  dsimp at x0 y0 y1 z0 z1 z2 z3
                  clear xx yy zz
                  have hxc : n ≤ xc := by have := HX.out.le; rw [HN.out] at this; exact this
                  have hyc : m ≤ yc := by have := HY.out.le; rw [HM.out] at this; exact this
                  have CX := fun w => run_cutLH w xa n xc h a hha (by omega)
                  have CY := fun w => run_cutLH w ya m yc h b hhb (by omega)
                  obtain ⟨XA, hXA⟩ : ∃ x, (if xc = h then xa else xa.map (·.add (h * 2))) = x := ⟨_, rfl⟩
                  obtain ⟨YA, hYA⟩ : ∃ x, (if yc = h then ya else ya.map (·.add (h * 2))) = x := ⟨_, rfl⟩
                  rw [hXA] at CX SX
                  rw [hYA] at CY SY
                  have L1 := Lib.hid (fun (w' : World) (hb : Below W3.heap.size W3 w') => clone_sg ((X.drop h).take (a - h)) XA (a - h) (xc - h) S w' SX.2 (by omega) (SX.1.below hb))
                  have L2 := Lib.hid (fun (w' : World) (hb : Below W3.heap.size W3 w') => clone_sg ((Y.drop h).take (b - h)) YA (b - h) (yc - h) T w' SY.2 (by omega) (SY.1.below hb))
                  have LDH := Lib.hid (ld_between (x := (X, xi)) (y := (Y, yi)) hha hhb (by rw [HN.out]; exact han) (by rw [HM.out]; exact hbm) HT.out HD.out)
                  have HL1 := Lib.hid SX.2; have HL2 := Lib.hid SY.2
                  have HAB := Lib.hid (And.intro hha (And.intro hhb (And.intro han hbm)))
                  have ha1 : (h : Int) ≤ (a : Int) := by omega
                  have hb1 : (h : Int) ≤ (b : Int) := by omega
                  rw [hW3]
                  clear SX SY hXA hYA D3 hW3 R0 R1 R2 NN HX HY hha hhb han hbm hxc hyc
                  go_upto_region 9 with fail
                  have hO := HO.out
                  have hB02 : B0 ≠ B2 := by omega
                  have hB12 : B1 ≠ B2 := by omega
                  have x0d : W3.drew.cell? ⟨B0, 0, none⟩ = some (.slice xa n xc) := x0
                  have y0d : W3.drew.cell? ⟨B1, 0, none⟩ = some (.slice ya m yc) := y0
                  have y1d : W3.drew.cell? ⟨B1, 1, none⟩ = some (.int .i64 yi) := y1
                  have HF := Lib.hid (And.intro hB02 hB12)
                  clear x0 y0 y1 z0 z1 z2 z3 hO hB02 hB12
                  go_region_held3 (fun w' => w'.cell? ⟨B0, 0, none⟩ = some (.slice xa n xc) ∧ w'.cell? ⟨B1, 0, none⟩ = some (.slice ya m yc) ∧ w'.cell? ⟨B1, 1, none⟩ = some (.int .i64 yi))
                    (first | with_reducible exact ⟨x0d, y0d, y1d⟩ | with_reducible exact ⟨x5, y5, y5'⟩ | with_reducible exact ⟨x6, y6, y6'⟩ | with_reducible exact ⟨x7, y7, y7'⟩)
                    (first
                      | (go_at_call 21
                         with_reducible refine (L1.out W3.drew (Below.refl _ _).drew).mono ?_
                         rintro e w5 ⟨b5, d5, rfl, o5, hb5⟩
                         have R05 := Lib.hid (blk_below (w := W3) R03.out (seqB (Below.refl _ _).drew hb5)); have R15 := Lib.hid (blk_below (w := W3) R13.out (seqB (Below.refl _ _).drew hb5)); have R25 := Lib.hid (blk_below (w := W3) R23.out (seqB (Below.refl _ _).drew hb5))
                         have N5 := Lib.hid (seqB (Below.refl _ _).drew hb5 : Below W3.heap.size W3 w5)
                         have O5 := Lib.hid (show OwS w5 W3.heap.size (.slice b5 (a - h) d5) ((X.drop h).take (a - h)) from o5)
                         have xx := fun i => cell_of_row _ _ i _ _ _ R05.out
                         have x5 := xx 0
                         have yy := fun i => cell_of_row _ _ i _ _ _ R15.out
                         have y5 := yy 0; have y5' := yy 1
                         dsimp at x5 y5 y5'
                         clear hb5 o5 xx yy L1)
                      | (go_at_call 21
                         with_reducible refine (L2.out _ N5.out).mono ?_
                         rintro e w6 ⟨b6, d6, rfl, o6, hb6⟩
                         have R06 := Lib.hid (blk_below R05.out hb6); have R16 := Lib.hid (blk_below R15.out hb6); have R26 := Lib.hid (blk_below R25.out hb6)
                         have N6 := Lib.hid (seqB N5.out hb6)
                         have M6 := Lib.hid hb6
                         have O6 := Lib.hid o6
                         have xx := fun i => cell_of_row _ _ i _ _ _ R06.out
                         have x6 := xx 0
                         have yy := fun i => cell_of_row _ _ i _ _ _ R16.out
                         have y6 := yy 0; have y6' := yy 1
                         have zz := fun i => cell_of_row _ _ i _ _ _ R26.out
                         have z0 := zz 0; have z1 := zz 1; have z2 := zz 2; have z3 := zz 3
                         have zf := fun i => frozen_of_row _ B2 i _ _ R26.out
                         dsimp at x6 y6 y6' z0 z1 z2 z3
                         have x7 := (far4 w6 B2 B0 (.int .i64 (h : Int)) (.slice b5 (a - h) d5) (.slice b6 (b - h) d6) (.int .i64 yi) 0 HF.out.1).trans x6
                         have y7 := (far4 w6 B2 B1 (.int .i64 (h : Int)) (.slice b5 (a - h) d5) (.slice b6 (b - h) d6) (.int .i64 yi) 0 HF.out.2).trans y6
                         have y7' := (far4 w6 B2 B1 (.int .i64 (h : Int)) (.slice b5 (a - h) d5) (.slice b6 (b - h) d6) (.int .i64 yi) 1 HF.out.2).trans y6'
                         clear hb6 o6 xx yy zz))
                  have hO := HO.out
                  have hge : w.heap.size ≤ B2 := by omega
                  have RF := Lib.hid (blk_set (blk_set (blk_set (blk_set R26.out 0 (.int .i64 (h : Int))) 1 (.slice b5 (a - h) d5)) 2 (.slice b6 (b - h) d6)) 3 (.int .i64 yi))
                  have BF := Lib.hid (((((seqB NN3.out N6.out).setCell (p := ⟨B2, 0, none⟩) hge (.int .i64 (h : Int))).setCell (p := ⟨B2, 1, none⟩) hge (.slice b5 (a - h) d5)).setCell (p := ⟨B2, 2, none⟩) hge (.slice b6 (b - h) d6)).setCell (p := ⟨B2, 3, none⟩) hge (.int .i64 yi))
                  have ltB := Lib.hid (blk_lt R23.out)
                  clear x0d y0d y1d x5 y5 y5' x6 y6 y6' x7 y7 y7' z0 z1 z2 z3 zf L2 hO hge
                  go_wp2
                  refine bodyPost_ret (results_cell_row rfl _ _ B2 63 _ (0, 0) _ rfl RF.out Tryd.underlying63 rfl (infoUst.trans rfl)) rfl ?_
                  exact bt_fin HL1.out HL2.out LDH.out NN3.out N5.out M6.out O5.out O6.out ltB.out BF.out
            · have k1 : ¬ (h : Int) < (a : Int) := by omega
              go_upto_region 6 with fail
              go_quiet (fail)
              as_aux_lemma =>
                obtain ⟨W3, hW3⟩ : ∃ W3, (W2.drewN q2).drewN nq = W3 := ⟨_, rfl⟩
                have D3 : Below W2.heap.size W2 W3 := by rw [← hW3]; exact drewN_below (drewN_below (Below.refl _ _) _) _
                have R03 := Lib.hid (blk_below R0.out D3); have R13 := Lib.hid (blk_below R1.out D3); have R23 := Lib.hid (blk_below R2.out D3)
                have NN3 := Lib.hid (seqB NN.out D3)
                have SX := (HX.out.below D3).sub h a hha (by rw [HN.out]; exact han)
                have SY := (HY.out.below D3).sub h b hhb (by rw [HM.out]; exact hbm)
                have xx := fun i => cell_of_row _ _ i _ _ _ R03.out
                have x0 := xx 0
                have yy := fun i => cell_of_row _ _ i _ _ _ R13.out
                have y0 := yy 0; have y1 := yy 1
                have zz := fun i => cell_of_row _ _ i _ _ _ R23.out
                have z0 := zz 0; have z1 := zz 1; have z2 := zz 2; have z3 := zz 3
                dsimp at x0 y0 y1 z0 z1 z2 z3
                clear xx yy zz
                have hxc : n ≤ xc := by have := HX.out.le; rw [HN.out] at this; exact this
                have hyc : m ≤ yc := by have := HY.out.le; rw [HM.out] at this; exact this
                have CX := fun w => run_cutLH w xa n xc h a hha (by omega)
                have CY := fun w => run_cutLH w ya m yc h b hhb (by omega)
                obtain ⟨XA, hXA⟩ : ∃ x, (if xc = h then xa else xa.map (·.add (h * 2))) = x := ⟨_, rfl⟩
                obtain ⟨YA, hYA⟩ : ∃ x, (if yc = h then ya else ya.map (·.add (h * 2))) = x := ⟨_, rfl⟩
                rw [hXA] at CX SX
                rw [hYA] at CY SY
                have L1 := Lib.hid (fun (w' : World) (hb : Below W3.heap.size W3 w') => clone_sg ((X.drop h).take (a - h)) XA (a - h) (xc - h) S w' SX.2 (by omega) (SX.1.below hb))
                have L2 := Lib.hid (fun (w' : World) (hb : Below W3.heap.size W3 w') => clone_sg ((Y.drop h).take (b - h)) YA (b - h) (yc - h) T w' SY.2 (by omega) (SY.1.below hb))
                have LDH := Lib.hid (ld_between (x := (X, xi)) (y := (Y, yi)) hha hhb (by rw [HN.out]; exact han) (by rw [HM.out]; exact hbm) HT.out HD.out)
                have HL1 := Lib.hid SX.2; have HL2 := Lib.hid SY.2
                have HAB := Lib.hid (And.intro hha (And.intro hhb (And.intro han hbm)))
                have ha1 : (h : Int) ≤ (a : Int) := by omega
                have hb1 : (h : Int) ≤ (b : Int) := by omega
                rw [hW3]
                clear SX SY hXA hYA D3 hW3 R0 R1 R2 NN HX HY hha hhb han hbm hxc hyc
                go_upto_region 9 with fail
                have hO := HO.out
                have hB02 : B0 ≠ B2 := by omega
                have hB12 : B1 ≠ B2 := by omega
                have x0d : W3.drew.cell? ⟨B0, 0, none⟩ = some (.slice xa n xc) := x0
                have y0d : W3.drew.cell? ⟨B1, 0, none⟩ = some (.slice ya m yc) := y0
                have y1d : W3.drew.cell? ⟨B1, 1, none⟩ = some (.int .i64 yi) := y1
                have HF := Lib.hid (And.intro hB02 hB12)
                clear x0 y0 y1 z0 z1 z2 z3 hO hB02 hB12
                go_region_held3 (fun w' => w'.cell? ⟨B0, 0, none⟩ = some (.slice xa n xc) ∧ w'.cell? ⟨B1, 0, none⟩ = some (.slice ya m yc) ∧ w'.cell? ⟨B1, 1, none⟩ = some (.int .i64 yi))
                  (first | with_reducible exact ⟨x0d, y0d, y1d⟩ | with_reducible exact ⟨x5, y5, y5'⟩ | with_reducible exact ⟨x6, y6, y6'⟩ | with_reducible exact ⟨x7, y7, y7'⟩)
                  (first
                    | (go_at_call 21
                       with_reducible refine (L1.out W3.drew (Below.refl _ _).drew).mono ?_
                       rintro e w5 ⟨b5, d5, rfl, o5, hb5⟩
                       have R05 := Lib.hid (blk_below (w := W3) R03.out (seqB (Below.refl _ _).drew hb5)); have R15 := Lib.hid (blk_below (w := W3) R13.out (seqB (Below.refl _ _).drew hb5)); have R25 := Lib.hid (blk_below (w := W3) R23.out (seqB (Below.refl _ _).drew hb5))
                       have N5 := Lib.hid (seqB (Below.refl _ _).drew hb5 : Below W3.heap.size W3 w5)
                       have O5 := Lib.hid (show OwS w5 W3.heap.size (.slice b5 (a - h) d5) ((X.drop h).take (a - h)) from o5)
                       have xx := fun i => cell_of_row _ _ i _ _ _ R05.out
                       have x5 := xx 0
                       have yy := fun i => cell_of_row _ _ i _ _ _ R15.out
                       have y5 := yy 0; have y5' := yy 1
                       dsimp at x5 y5 y5'
                       clear hb5 o5 xx yy L1)
                    | (go_at_call 21
                       with_reducible refine (L2.out _ N5.out).mono ?_
                       rintro e w6 ⟨b6, d6, rfl, o6, hb6⟩
                       have R06 := Lib.hid (blk_below R05.out hb6); have R16 := Lib.hid (blk_below R15.out hb6); have R26 := Lib.hid (blk_below R25.out hb6)
                       have N6 := Lib.hid (seqB N5.out hb6)
                       have M6 := Lib.hid hb6
                       have O6 := Lib.hid o6
                       have xx := fun i => cell_of_row _ _ i _ _ _ R06.out
                       have x6 := xx 0
                       have yy := fun i => cell_of_row _ _ i _ _ _ R16.out
                       have y6 := yy 0; have y6' := yy 1
                       have zz := fun i => cell_of_row _ _ i _ _ _ R26.out
                       have z0 := zz 0; have z1 := zz 1; have z2 := zz 2; have z3 := zz 3
                       have zf := fun i => frozen_of_row _ B2 i _ _ R26.out
                       dsimp at x6 y6 y6' z0 z1 z2 z3
                       have x7 := (far4 w6 B2 B0 (.int .i64 (h : Int)) (.slice b5 (a - h) d5) (.slice b6 (b - h) d6) (.int .i64 yi) 0 HF.out.1).trans x6
                       have y7 := (far4 w6 B2 B1 (.int .i64 (h : Int)) (.slice b5 (a - h) d5) (.slice b6 (b - h) d6) (.int .i64 yi) 0 HF.out.2).trans y6
                       have y7' := (far4 w6 B2 B1 (.int .i64 (h : Int)) (.slice b5 (a - h) d5) (.slice b6 (b - h) d6) (.int .i64 yi) 1 HF.out.2).trans y6'
                       clear hb6 o6 xx yy zz))
                have hO := HO.out
                have hge : w.heap.size ≤ B2 := by omega
                have RF := Lib.hid (blk_set (blk_set (blk_set (blk_set R26.out 0 (.int .i64 (h : Int))) 1 (.slice b5 (a - h) d5)) 2 (.slice b6 (b - h) d6)) 3 (.int .i64 yi))
                have BF := Lib.hid (((((seqB NN3.out N6.out).setCell (p := ⟨B2, 0, none⟩) hge (.int .i64 (h : Int))).setCell (p := ⟨B2, 1, none⟩) hge (.slice b5 (a - h) d5)).setCell (p := ⟨B2, 2, none⟩) hge (.slice b6 (b - h) d6)).setCell (p := ⟨B2, 3, none⟩) hge (.int .i64 yi))
                have ltB := Lib.hid (blk_lt R23.out)
                clear x0d y0d y1d x5 y5 y5' x6 y6 y6' x7 y7 y7' z0 z1 z2 z3 zf L2 hO hge
                go_wp2
                refine bodyPost_ret (results_cell_row rfl _ _ B2 63 _ (0, 0) _ rfl RF.out Tryd.underlying63 rfl (infoUst.trans rfl)) rfl ?_
                exact bt_fin HL1.out HL2.out LDH.out NN3.out N5.out M6.out O5.out O6.out ltB.out BF.out
    · have k1 : ¬ (h : Int) < (N : Int) := by omega
      have k0 : (0 : Int) ≤ (h : Int) := by omega
      go_upto_region 3 with fail
      go_quiet (fail)
      clear k1
      go_upto_region 5 with fail
      go_quiet (fail)
      as_aux_lemma =>
        go_upto_region 6 with fail
        go_loopw [7, 8] (fun av bv wr => ∃ a b : Nat, h ≤ a ∧ h ≤ b ∧ a ≤ n ∧ b ≤ m ∧ av = .int .i64 (a : Int) ∧ bv = .int .i64 (b : Int) ∧ Hid (X.drop a = Y.drop b) ∧ ∃ q, wr = W2.drewN q) (fun av _ _ => (intOf av).toNat)
        case atStart => exact ⟨n, m, by omega, by omega, Nat.le_refl _, Nat.le_refl _, rfl, rfl, Lib.hid (by rw [List.drop_of_length_le (by rw [HN.out]; exact Nat.le_refl _), List.drop_of_length_le (by rw [HM.out]; exact Nat.le_refl _)]), (by first | exact ⟨_, rfl⟩ | exact dn2 _ _ _ | exact dn3 _ _ _ _)⟩
        case round =>
          obtain ⟨a, b, hha, hhb, han, hbm, rfl, rfl, HD, q2, rfl⟩ := hrel
          by_cases ga : h < a
          · by_cases gb : h < b
            · obtain ⟨a1, rfl⟩ : ∃ a1, a = a1 + 1 := ⟨a - 1, by omega⟩
              obtain ⟨b1, rfl⟩ : ∃ b1, b = b1 + 1 := ⟨b - 1, by omega⟩
              have k1 : (h : Int) < (a1 : Int) + 1 := by omega
              have k2 : (h : Int) < (b1 : Int) + 1 := by omega
              have k5 : (0 : Int) ≤ (a1 : Int) := by omega
              have k6 : (0 : Int) ≤ (b1 : Int) := by omega
              have k7 : (a1 : Int) + 1 ≤ 100000 := by omega
              have k8 : (b1 : Int) + 1 ≤ 100000 := by omega
              have wr1 := wrap_nat a1 (by omega)
              have wr2 := wrap_nat b1 (by omega)
              obtain ⟨xb, xo, rfl, hxb, cx0, cx1⟩ := HX.out.s a1 (by rw [HN.out]; omega)
              obtain ⟨yb, yo, rfl, hyb, cy0, cy1⟩ := HY.out.s b1 (by rw [HM.out]; omega)
              have e3 : (a1 : Int) < (n : Int) := by omega
              have e4 : (b1 : Int) < (m : Int) := by omega
              by_cases he : X.getD a1 (0, 0) = Y.getD b1 (0, 0)
              · have HD2 : Hid (X.drop a1 = Y.drop b1) := Lib.hid (drop_one_more HD.out (by rw [HN.out]; omega) (by rw [HM.out]; omega) he)
                have EQ : ∀ w, (binOp .eql 56 (.agg #[.int .i64 (X.getD a1 (0, 0)).1, .int .i64 (X.getD a1 (0, 0)).2]) (.agg #[.int .i64 (Y.getD b1 (0, 0)).1, .int .i64 (Y.getD b1 (0, 0)).2])).run Tryd.prog w = .ok (.bool true) w := fun w => by rw [EQS.out, decide_eq_true he]
                clear he
                generalize (X.getD a1 (0, 0)).1 = p1 at *
                generalize (X.getD a1 (0, 0)).2 = p2 at *
                generalize (Y.getD b1 (0, 0)).1 = p3 at *
                generalize (Y.getD b1 (0, 0)).2 = p4 at *
                go_upto_region 6 with fail
                go_quiet (fail)
                go_wp2
                go_roundw
                case rel => exact ⟨a1, b1, by omega, by omega, by omega, by omega, by go_num, by go_num, HD2, (by first | exact ⟨_, rfl⟩ | exact dn2 _ _ _ | exact dn3 _ _ _ _)⟩
                case measure => (simp [intOf]; try omega)
              · have EQ : ∀ w, (binOp .eql 56 (.agg #[.int .i64 (X.getD a1 (0, 0)).1, .int .i64 (X.getD a1 (0, 0)).2]) (.agg #[.int .i64 (Y.getD b1 (0, 0)).1, .int .i64 (Y.getD b1 (0, 0)).2])).run Tryd.prog w = .ok (.bool false) w := fun w => by rw [EQS.out, decide_eq_false (fun e => he (by have h1 := congrArg Prod.fst e; have h2 := congrArg Prod.snd e; exact Prod.ext h1 h2))]
                clear he
                generalize (X.getD a1 (0, 0)).1 = p1 at *
                generalize (X.getD a1 (0, 0)).2 = p2 at *
                generalize (Y.getD b1 (0, 0)).1 = p3 at *
                generalize (Y.getD b1 (0, 0)).2 = p4 at *
                go_upto_region 6 with fail
                go_quiet (fail)
                clear EQ cx0 cx1 cy0 cy1
                generalize (some (⟨xb, xo, none⟩ : Addr)) = xa at *
                generalize (some (⟨yb, yo, none⟩ : Addr)) = ya at *
                obtain ⟨a, hae⟩ : ∃ a, a1 + 1 = a := ⟨_, rfl⟩
                obtain ⟨b, hbe⟩ : ∃ b, b1 + 1 = b := ⟨_, rfl⟩
                rw [hae] at hha han HD
                rw [hbe] at hhb hbm HD
                have hI1 : (a1 : Int) + 1 = (a : Int) := by omega
                have hI2 : ((a1 + 1 : Nat) : Int) = (a : Int) := by omega
                have hI3 : (b1 : Int) + 1 = (b : Int) := by omega
                have hI4 : ((b1 + 1 : Nat) : Int) = (b : Int) := by omega
                (try rw [hI1]); (try rw [hI2]); (try rw [hI3]); (try rw [hI4])
                clear hI1 hI2 hI3 hI4 hae hbe wr1 wr2
                as_aux_lemma =>
                  obtain ⟨W3, hW3⟩ : ∃ W3, (W2.drewN q2).drewN nq = W3 := ⟨_, rfl⟩
                  have D3 : Below W2.heap.size W2 W3 := by rw [← hW3]; exact drewN_below (drewN_below (Below.refl _ _) _) _
                  have R03 := Lib.hid (blk_below R0.out D3); have R13 := Lib.hid (blk_below R1.out D3); have R23 := Lib.hid (blk_below R2.out D3)
                  have NN3 := Lib.hid (seqB NN.out D3)
                  have SX := (HX.out.below D3).sub h a hha (by rw [HN.out]; exact han)
                  have SY := (HY.out.below D3).sub h b hhb (by rw [HM.out]; exact hbm)
                  have xx := fun i => cell_of_row _ _ i _ _ _ R03.out
                  have x0 := xx 0
                  have yy := fun i => cell_of_row _ _ i _ _ _ R13.out
                  have y0 := yy 0; have y1 := yy 1
                  have zz := fun i => cell_of_row _ _ i _ _ _ R23.out
                  have z0 := zz 0; have z1 := zz 1; have z2 := zz 2; have z3 := zz 3
                  dsimp at x0 y0 y1 z0 z1 z2 z3
                  clear xx yy zz
                  have hxc : n ≤ xc := by have := HX.out.le; rw [HN.out] at this; exact this
                  have hyc : m ≤ yc := by have := HY.out.le; rw [HM.out] at this; exact this
                  have CX := fun w => run_cutLH w xa n xc h a hha (by omega)
                  have CY := fun w => run_cutLH w ya m yc h b hhb (by omega)
                  obtain ⟨XA, hXA⟩ : ∃ x, (if xc = h then xa else xa.map (·.add (h * 2))) = x := ⟨_, rfl⟩
                  obtain ⟨YA, hYA⟩ : ∃ x, (if yc = h then ya else ya.map (·.add (h * 2))) = x := ⟨_, rfl⟩
                  rw [hXA] at CX SX
                  rw [hYA] at CY SY
                  have L1 := Lib.hid (fun (w' : World) (hb : Below W3.heap.size W3 w') => clone_sg ((X.drop h).take (a - h)) XA (a - h) (xc - h) S w' SX.2 (by omega) (SX.1.below hb))
                  have L2 := Lib.hid (fun (w' : World) (hb : Below W3.heap.size W3 w') => clone_sg ((Y.drop h).take (b - h)) YA (b - h) (yc - h) T w' SY.2 (by omega) (SY.1.below hb))
                  have LDH := Lib.hid (ld_between (x := (X, xi)) (y := (Y, yi)) hha hhb (by rw [HN.out]; exact han) (by rw [HM.out]; exact hbm) HT.out HD.out)
                  have HL1 := Lib.hid SX.2; have HL2 := Lib.hid SY.2
                  have HAB := Lib.hid (And.intro hha (And.intro hhb (And.intro han hbm)))
                  have ha1 : (h : Int) ≤ (a : Int) := by omega
                  have hb1 : (h : Int) ≤ (b : Int) := by omega
                  rw [hW3]
                  clear SX SY hXA hYA D3 hW3 R0 R1 R2 NN HX HY hha hhb han hbm hxc hyc
                  go_upto_region 9 with fail
                  have hO := HO.out
                  have hB02 : B0 ≠ B2 := by omega
                  have hB12 : B1 ≠ B2 := by omega
                  have x0d : W3.drew.cell? ⟨B0, 0, none⟩ = some (.slice xa n xc) := x0
                  have y0d : W3.drew.cell? ⟨B1, 0, none⟩ = some (.slice ya m yc) := y0
                  have y1d : W3.drew.cell? ⟨B1, 1, none⟩ = some (.int .i64 yi) := y1
                  have HF := Lib.hid (And.intro hB02 hB12)
                  clear x0 y0 y1 z0 z1 z2 z3 hO hB02 hB12
                  go_region_held3 (fun w' => w'.cell? ⟨B0, 0, none⟩ = some (.slice xa n xc) ∧ w'.cell? ⟨B1, 0, none⟩ = some (.slice ya m yc) ∧ w'.cell? ⟨B1, 1, none⟩ = some (.int .i64 yi))
                    (first | with_reducible exact ⟨x0d, y0d, y1d⟩ | with_reducible exact ⟨x5, y5, y5'⟩ | with_reducible exact ⟨x6, y6, y6'⟩ | with_reducible exact ⟨x7, y7, y7'⟩)
                    (first
                      | (go_at_call 21
                         with_reducible refine (L1.out W3.drew (Below.refl _ _).drew).mono ?_
                         rintro e w5 ⟨b5, d5, rfl, o5, hb5⟩
                         have R05 := Lib.hid (blk_below (w := W3) R03.out (seqB (Below.refl _ _).drew hb5)); have R15 := Lib.hid (blk_below (w := W3) R13.out (seqB (Below.refl _ _).drew hb5)); have R25 := Lib.hid (blk_below (w := W3) R23.out (seqB (Below.refl _ _).drew hb5))
                         have N5 := Lib.hid (seqB (Below.refl _ _).drew hb5 : Below W3.heap.size W3 w5)
                         have O5 := Lib.hid (show OwS w5 W3.heap.size (.slice b5 (a - h) d5) ((X.drop h).take (a - h)) from o5)
                         have xx := fun i => cell_of_row _ _ i _ _ _ R05.out
                         have x5 := xx 0
                         have yy := fun i => cell_of_row _ _ i _ _ _ R15.out
                         have y5 := yy 0; have y5' := yy 1
                         dsimp at x5 y5 y5'
                         clear hb5 o5 xx yy L1)
                      | (go_at_call 21
                         with_reducible refine (L2.out _ N5.out).mono ?_
                         rintro e w6 ⟨b6, d6, rfl, o6, hb6⟩
                         have R06 := Lib.hid (blk_below R05.out hb6); have R16 := Lib.hid (blk_below R15.out hb6); have R26 := Lib.hid (blk_below R25.out hb6)
                         have N6 := Lib.hid (seqB N5.out hb6)
                         have M6 := Lib.hid hb6
                         have O6 := Lib.hid o6
                         have xx := fun i => cell_of_row _ _ i _ _ _ R06.out
                         have x6 := xx 0
                         have yy := fun i => cell_of_row _ _ i _ _ _ R16.out
                         have y6 := yy 0; have y6' := yy 1
                         have zz := fun i => cell_of_row _ _ i _ _ _ R26.out
                         have z0 := zz 0; have z1 := zz 1; have z2 := zz 2; have z3 := zz 3
                         have zf := fun i => frozen_of_row _ B2 i _ _ R26.out
                         dsimp at x6 y6 y6' z0 z1 z2 z3
                         have x7 := (far4 w6 B2 B0 (.int .i64 (h : Int)) (.slice b5 (a - h) d5) (.slice b6 (b - h) d6) (.int .i64 yi) 0 HF.out.1).trans x6
                         have y7 := (far4 w6 B2 B1 (.int .i64 (h : Int)) (.slice b5 (a - h) d5) (.slice b6 (b - h) d6) (.int .i64 yi) 0 HF.out.2).trans y6
                         have y7' := (far4 w6 B2 B1 (.int .i64 (h : Int)) (.slice b5 (a - h) d5) (.slice b6 (b - h) d6) (.int .i64 yi) 1 HF.out.2).trans y6'
                         clear hb6 o6 xx yy zz))
                  have hO := HO.out
                  have hge : w.heap.size ≤ B2 := by omega
                  have RF := Lib.hid (blk_set (blk_set (blk_set (blk_set R26.out 0 (.int .i64 (h : Int))) 1 (.slice b5 (a - h) d5)) 2 (.slice b6 (b - h) d6)) 3 (.int .i64 yi))
                  have BF := Lib.hid (((((seqB NN3.out N6.out).setCell (p := ⟨B2, 0, none⟩) hge (.int .i64 (h : Int))).setCell (p := ⟨B2, 1, none⟩) hge (.slice b5 (a - h) d5)).setCell (p := ⟨B2, 2, none⟩) hge (.slice b6 (b - h) d6)).setCell (p := ⟨B2, 3, none⟩) hge (.int .i64 yi))
                  have ltB := Lib.hid (blk_lt R23.out)
                  clear x0d y0d y1d x5 y5 y5' x6 y6 y6' x7 y7 y7' z0 z1 z2 z3 zf L2 hO hge
                  go_wp2
                  refine bodyPost_ret (results_cell_row rfl _ _ B2 63 _ (0, 0) _ rfl RF.out Tryd.underlying63 rfl (infoUst.trans rfl)) rfl ?_
                  exact bt_fin HL1.out HL2.out LDH.out NN3.out N5.out M6.out O5.out O6.out ltB.out BF.out
            · have k2 : ¬ (h : Int) < (b : Int) := by omega
              have k1 : (h : Int) < (a : Int) := by omega
              go_upto_region 6 with fail
              go_quiet (fail)
              as_aux_lemma =>
                obtain ⟨W3, hW3⟩ : ∃ W3, (W2.drewN q2).drewN nq = W3 := ⟨_, rfl⟩
                have D3 : Below W2.heap.size W2 W3 := by rw [← hW3]; exact drewN_below (drewN_below (Below.refl _ _) _) _
                have R03 := Lib.hid (blk_below R0.out D3); have R13 := Lib.hid (blk_below R1.out D3); have R23 := Lib.hid (blk_below R2.out D3)
                have NN3 := Lib.hid (seqB NN.out D3)
                have SX := (HX.out.below D3).sub h a hha (by rw [HN.out]; exact han)
                have SY := (HY.out.below D3).sub h b hhb (by rw [HM.out]; exact hbm)
                have xx := fun i => cell_of_row _ _ i _ _ _ R03.out
                have x0 := xx 0
                have yy := fun i => cell_of_row _ _ i _ _ _ R13.out
                have y0 := yy 0; have y1 := yy 1
                have zz := fun i => cell_of_row _ _ i _ _ _ R23.out
                have z0 := zz 0; have z1 := zz 1; have z2 := zz 2; have z3 := zz 3
                dsimp at x0 y0 y1 z0 z1 z2 z3
                clear xx yy zz
                have hxc : n ≤ xc := by have := HX.out.le; rw [HN.out] at this; exact this
                have hyc : m ≤ yc := by have := HY.out.le; rw [HM.out] at this; exact this
                have CX := fun w => run_cutLH w xa n xc h a hha (by omega)
                have CY := fun w => run_cutLH w ya m yc h b hhb (by omega)
                obtain ⟨XA, hXA⟩ : ∃ x, (if xc = h then xa else xa.map (·.add (h * 2))) = x := ⟨_, rfl⟩
                obtain ⟨YA, hYA⟩ : ∃ x, (if yc = h then ya else ya.map (·.add (h * 2))) = x := ⟨_, rfl⟩
                rw [hXA] at CX SX
                rw [hYA] at CY SY
                have L1 := Lib.hid (fun (w' : World) (hb : Below W3.heap.size W3 w') => clone_sg ((X.drop h).take (a - h)) XA (a - h) (xc - h) S w' SX.2 (by omega) (SX.1.below hb))
                have L2 := Lib.hid (fun (w' : World) (hb : Below W3.heap.size W3 w') => clone_sg ((Y.drop h).take (b - h)) YA (b - h) (yc - h) T w' SY.2 (by omega) (SY.1.below hb))
                have LDH := Lib.hid (ld_between (x := (X, xi)) (y := (Y, yi)) hha hhb (by rw [HN.out]; exact han) (by rw [HM.out]; exact hbm) HT.out HD.out)
                have HL1 := Lib.hid SX.2; have HL2 := Lib.hid SY.2
                have HAB := Lib.hid (And.intro hha (And.intro hhb (And.intro han hbm)))
                have ha1 : (h : Int) ≤ (a : Int) := by omega
                have hb1 : (h : Int) ≤ (b : Int) := by omega
                rw [hW3]
                clear SX SY hXA hYA D3 hW3 R0 R1 R2 NN HX HY hha hhb han hbm hxc hyc
                go_upto_region 9 with fail
                have hO := HO.out
                have hB02 : B0 ≠ B2 := by omega
                have hB12 : B1 ≠ B2 := by omega
                have x0d : W3.drew.cell? ⟨B0, 0, none⟩ = some (.slice xa n xc) := x0
                have y0d : W3.drew.cell? ⟨B1, 0, none⟩ = some (.slice ya m yc) := y0
                have y1d : W3.drew.cell? ⟨B1, 1, none⟩ = some (.int .i64 yi) := y1
                have HF := Lib.hid (And.intro hB02 hB12)
                clear x0 y0 y1 z0 z1 z2 z3 hO hB02 hB12
                go_region_held3 (fun w' => w'.cell? ⟨B0, 0, none⟩ = some (.slice xa n xc) ∧ w'.cell? ⟨B1, 0, none⟩ = some (.slice ya m yc) ∧ w'.cell? ⟨B1, 1, none⟩ = some (.int .i64 yi))
                  (first | with_reducible exact ⟨x0d, y0d, y1d⟩ | with_reducible exact ⟨x5, y5, y5'⟩ | with_reducible exact ⟨x6, y6, y6'⟩ | with_reducible exact ⟨x7, y7, y7'⟩)
                  (first
                    | (go_at_call 21
                       with_reducible refine (L1.out W3.drew (Below.refl _ _).drew).mono ?_
                       rintro e w5 ⟨b5, d5, rfl, o5, hb5⟩
                       have R05 := Lib.hid (blk_below (w := W3) R03.out (seqB (Below.refl _ _).drew hb5)); have R15 := Lib.hid (blk_below (w := W3) R13.out (seqB (Below.refl _ _).drew hb5)); have R25 := Lib.hid (blk_below (w := W3) R23.out (seqB (Below.refl _ _).drew hb5))
                       have N5 := Lib.hid (seqB (Below.refl _ _).drew hb5 : Below W3.heap.size W3 w5)
                       have O5 := Lib.hid (show OwS w5 W3.heap.size (.slice b5 (a - h) d5) ((X.drop h).take (a - h)) from o5)
                       have xx := fun i => cell_of_row _ _ i _ _ _ R05.out
                       have x5 := xx 0
                       have yy := fun i => cell_of_row _ _ i _ _ _ R15.out
                       have y5 := yy 0; have y5' := yy 1
                       dsimp at x5 y5 y5'
                       clear hb5 o5 xx yy L1)
                    | (go_at_call 21
                       with_reducible refine (L2.out _ N5.out).mono ?_
                       rintro e w6 ⟨b6, d6, rfl, o6, hb6⟩
                       have R06 := Lib.hid (blk_below R05.out hb6); have R16 := Lib.hid (blk_below R15.out hb6); have R26 := Lib.hid (blk_below R25.out hb6)
                       have N6 := Lib.hid (seqB N5.out hb6)
                       have M6 := Lib.hid hb6
                       have O6 := Lib.hid o6
                       have xx := fun i => cell_of_row _ _ i _ _ _ R06.out
                       have x6 := xx 0
                       have yy := fun i => cell_of_row _ _ i _ _ _ R16.out
                       have y6 := yy 0; have y6' := yy 1
                       have zz := fun i => cell_of_row _ _ i _ _ _ R26.out
                       have z0 := zz 0; have z1 := zz 1; have z2 := zz 2; have z3 := zz 3
                       have zf := fun i => frozen_of_row _ B2 i _ _ R26.out
                       dsimp at x6 y6 y6' z0 z1 z2 z3
                       have x7 := (far4 w6 B2 B0 (.int .i64 (h : Int)) (.slice b5 (a - h) d5) (.slice b6 (b - h) d6) (.int .i64 yi) 0 HF.out.1).trans x6
                       have y7 := (far4 w6 B2 B1 (.int .i64 (h : Int)) (.slice b5 (a - h) d5) (.slice b6 (b - h) d6) (.int .i64 yi) 0 HF.out.2).trans y6
                       have y7' := (far4 w6 B2 B1 (.int .i64 (h : Int)) (.slice b5 (a - h) d5) (.slice b6 (b - h) d6) (.int .i64 yi) 1 HF.out.2).trans y6'
                       clear hb6 o6 xx yy zz))
                have hO := HO.out
                have hge : w.heap.size ≤ B2 := by omega
                have RF := Lib.hid (blk_set (blk_set (blk_set (blk_set R26.out 0 (.int .i64 (h : Int))) 1 (.slice b5 (a - h) d5)) 2 (.slice b6 (b - h) d6)) 3 (.int .i64 yi))
                have BF := Lib.hid (((((seqB NN3.out N6.out).setCell (p := ⟨B2, 0, none⟩) hge (.int .i64 (h : Int))).setCell (p := ⟨B2, 1, none⟩) hge (.slice b5 (a - h) d5)).setCell (p := ⟨B2, 2, none⟩) hge (.slice b6 (b - h) d6)).setCell (p := ⟨B2, 3, none⟩) hge (.int .i64 yi))
                have ltB := Lib.hid (blk_lt R23.out)
                clear x0d y0d y1d x5 y5 y5' x6 y6 y6' x7 y7 y7' z0 z1 z2 z3 zf L2 hO hge
                go_wp2
                refine bodyPost_ret (results_cell_row rfl _ _ B2 63 _ (0, 0) _ rfl RF.out Tryd.underlying63 rfl (infoUst.trans rfl)) rfl ?_
                exact bt_fin HL1.out HL2.out LDH.out NN3.out N5.out M6.out O5.out O6.out ltB.out BF.out
          · have k1 : ¬ (h : Int) < (a : Int) := by omega
            go_upto_region 6 with fail
            go_quiet (fail)
            as_aux_lemma =>
              obtain ⟨W3, hW3⟩ : ∃ W3, (W2.drewN q2).drewN nq = W3 := ⟨_, rfl⟩
              have D3 : Below W2.heap.size W2 W3 := by rw [← hW3]; exact drewN_below (drewN_below (Below.refl _ _) _) _
              have R03 := Lib.hid (blk_below R0.out D3); have R13 := Lib.hid (blk_below R1.out D3); have R23 := Lib.hid (blk_below R2.out D3)
              have NN3 := Lib.hid (seqB NN.out D3)
              have SX := (HX.out.below D3).sub h a hha (by rw [HN.out]; exact han)
              have SY := (HY.out.below D3).sub h b hhb (by rw [HM.out]; exact hbm)
              have xx := fun i => cell_of_row _ _ i _ _ _ R03.out
              have x0 := xx 0
              have yy := fun i => cell_of_row _ _ i _ _ _ R13.out
              have y0 := yy 0; have y1 := yy 1
              have zz := fun i => cell_of_row _ _ i _ _ _ R23.out
              have z0 := zz 0; have z1 := zz 1; have z2 := zz 2; have z3 := zz 3
              dsimp at x0 y0 y1 z0 z1 z2 z3
              clear xx yy zz
              have hxc : n ≤ xc := by have := HX.out.le; rw [HN.out] at this; exact this
              have hyc : m ≤ yc := by have := HY.out.le; rw [HM.out] at this; exact this
              have CX := fun w => run_cutLH w xa n xc h a hha (by omega)
              have CY := fun w => run_cutLH w ya m yc h b hhb (by omega)
              obtain ⟨XA, hXA⟩ : ∃ x, (if xc = h then xa else xa.map (·.add (h * 2))) = x := ⟨_, rfl⟩
              obtain ⟨YA, hYA⟩ : ∃ x, (if yc = h then ya else ya.map (·.add (h * 2))) = x := ⟨_, rfl⟩
              rw [hXA] at CX SX
              rw [hYA] at CY SY
              have L1 := Lib.hid (fun (w' : World) (hb : Below W3.heap.size W3 w') => clone_sg ((X.drop h).take (a - h)) XA (a - h) (xc - h) S w' SX.2 (by omega) (SX.1.below hb))
              have L2 := Lib.hid (fun (w' : World) (hb : Below W3.heap.size W3 w') => clone_sg ((Y.drop h).take (b - h)) YA (b - h) (yc - h) T w' SY.2 (by omega) (SY.1.below hb))
              have LDH := Lib.hid (ld_between (x := (X, xi)) (y := (Y, yi)) hha hhb (by rw [HN.out]; exact han) (by rw [HM.out]; exact hbm) HT.out HD.out)
              have HL1 := Lib.hid SX.2; have HL2 := Lib.hid SY.2
              have HAB := Lib.hid (And.intro hha (And.intro hhb (And.intro han hbm)))
              have ha1 : (h : Int) ≤ (a : Int) := by omega
              have hb1 : (h : Int) ≤ (b : Int) := by omega
              rw [hW3]
              clear SX SY hXA hYA D3 hW3 R0 R1 R2 NN HX HY hha hhb han hbm hxc hyc
              go_upto_region 9 with fail
              have hO := HO.out
              have hB02 : B0 ≠ B2 := by omega
              have hB12 : B1 ≠ B2 := by omega
              have x0d : W3.drew.cell? ⟨B0, 0, none⟩ = some (.slice xa n xc) := x0
              have y0d : W3.drew.cell? ⟨B1, 0, none⟩ = some (.slice ya m yc) := y0
              have y1d : W3.drew.cell? ⟨B1, 1, none⟩ = some (.int .i64 yi) := y1
              have HF := Lib.hid (And.intro hB02 hB12)
              clear x0 y0 y1 z0 z1 z2 z3 hO hB02 hB12
              go_region_held3 (fun w' => w'.cell? ⟨B0, 0, none⟩ = some (.slice xa n xc) ∧ w'.cell? ⟨B1, 0, none⟩ = some (.slice ya m yc) ∧ w'.cell? ⟨B1, 1, none⟩ = some (.int .i64 yi))
                (first | with_reducible exact ⟨x0d, y0d, y1d⟩ | with_reducible exact ⟨x5, y5, y5'⟩ | with_reducible exact ⟨x6, y6, y6'⟩ | with_reducible exact ⟨x7, y7, y7'⟩)
                (first
                  | (go_at_call 21
                     with_reducible refine (L1.out W3.drew (Below.refl _ _).drew).mono ?_
                     rintro e w5 ⟨b5, d5, rfl, o5, hb5⟩
                     have R05 := Lib.hid (blk_below (w := W3) R03.out (seqB (Below.refl _ _).drew hb5)); have R15 := Lib.hid (blk_below (w := W3) R13.out (seqB (Below.refl _ _).drew hb5)); have R25 := Lib.hid (blk_below (w := W3) R23.out (seqB (Below.refl _ _).drew hb5))
                     have N5 := Lib.hid (seqB (Below.refl _ _).drew hb5 : Below W3.heap.size W3 w5)
                     have O5 := Lib.hid (show OwS w5 W3.heap.size (.slice b5 (a - h) d5) ((X.drop h).take (a - h)) from o5)
                     have xx := fun i => cell_of_row _ _ i _ _ _ R05.out
                     have x5 := xx 0
                     have yy := fun i => cell_of_row _ _ i _ _ _ R15.out
                     have y5 := yy 0; have y5' := yy 1
                     dsimp at x5 y5 y5'
                     clear hb5 o5 xx yy L1)
                  | (go_at_call 21
                     with_reducible refine (L2.out _ N5.out).mono ?_
                     rintro e w6 ⟨b6, d6, rfl, o6, hb6⟩
                     have R06 := Lib.hid (blk_below R05.out hb6); have R16 := Lib.hid (blk_below R15.out hb6); have R26 := Lib.hid (blk_below R25.out hb6)
                     have N6 := Lib.hid (seqB N5.out hb6)
                     have M6 := Lib.hid hb6
                     have O6 := Lib.hid o6
                     have xx := fun i => cell_of_row _ _ i _ _ _ R06.out
                     have x6 := xx 0
                     have yy := fun i => cell_of_row _ _ i _ _ _ R16.out
                     have y6 := yy 0; have y6' := yy 1
                     have zz := fun i => cell_of_row _ _ i _ _ _ R26.out
                     have z0 := zz 0; have z1 := zz 1; have z2 := zz 2; have z3 := zz 3
                     have zf := fun i => frozen_of_row _ B2 i _ _ R26.out
                     dsimp at x6 y6 y6' z0 z1 z2 z3
                     have x7 := (far4 w6 B2 B0 (.int .i64 (h : Int)) (.slice b5 (a - h) d5) (.slice b6 (b - h) d6) (.int .i64 yi) 0 HF.out.1).trans x6
                     have y7 := (far4 w6 B2 B1 (.int .i64 (h : Int)) (.slice b5 (a - h) d5) (.slice b6 (b - h) d6) (.int .i64 yi) 0 HF.out.2).trans y6
                     have y7' := (far4 w6 B2 B1 (.int .i64 (h : Int)) (.slice b5 (a - h) d5) (.slice b6 (b - h) d6) (.int .i64 yi) 1 HF.out.2).trans y6'
                     clear hb6 o6 xx yy zz))
              have hO := HO.out
              have hge : w.heap.size ≤ B2 := by omega
              have RF := Lib.hid (blk_set (blk_set (blk_set (blk_set R26.out 0 (.int .i64 (h : Int))) 1 (.slice b5 (a - h) d5)) 2 (.slice b6 (b - h) d6)) 3 (.int .i64 yi))
              have BF := Lib.hid (((((seqB NN3.out N6.out).setCell (p := ⟨B2, 0, none⟩) hge (.int .i64 (h : Int))).setCell (p := ⟨B2, 1, none⟩) hge (.slice b5 (a - h) d5)).setCell (p := ⟨B2, 2, none⟩) hge (.slice b6 (b - h) d6)).setCell (p := ⟨B2, 3, none⟩) hge (.int .i64 yi))
              have ltB := Lib.hid (blk_lt R23.out)
              clear x0d y0d y1d x5 y5 y5' x6 y6 y6' x7 y7 y7' z0 z1 z2 z3 zf L2 hO hge
              go_wp2
              refine bodyPost_ret (results_cell_row rfl _ _ B2 63 _ (0, 0) _ rfl RF.out Tryd.underlying63 rfl (infoUst.trans rfl)) rfl ?_
              exact bt_fin HL1.out HL2.out LDH.out NN3.out N5.out M6.out O5.out O6.out ltB.out BF.out
end Go.Proofs.YtjgffedcbdnddaaDoor
