/-
  Joined: Ud33 Ud34.
-/
import Derived.Test.YtjgffedcbdnddaaDoorJU16
set_option linter.unusedVariables false
set_option linter.unusedSimpArgs false
set_option maxRecDepth 100000
set_option linter.unusedVariables false
set_option linter.unusedSimpArgs false
namespace Go.Proofs.YtjgffedcbdnddaaDoor
open Go.RowKit
theorem undodoes_no (M : Int) (v : Value) (w : World) (hT : UT w) (hM : M < 1 ∨ 1000 < M) : Calls Tryd.prog 3 #[.int .i64 M, v] w fun x w' => x = .returned (.bool true) ∧ Below w.heap.size w w' := by
  have AW := Lib.hid (uawake_any w hT)
  have NW := Lib.hid fun w => unew_bad M w hM
  clear hT
  by_cases h1 : M < 1
  · clear hM
    go_enter Tryd.func3, Tryd.ntmps3
    go_wp2_with (first
      | (go_at_call 5; refine AW.out.mono ?_; rintro x w1 ⟨rfl, b1⟩)
      | (go_at_call 6; refine (NW.out _).mono ?_; rintro x w2 ⟨rfl, hw⟩; subst hw))
    go_ret
    exact ⟨rfl, b1⟩
  · have h2 : (1000 : Int) < M := by omega
    clear hM
    go_enter Tryd.func3, Tryd.ntmps3
    go_wp2_with (first
      | (go_at_call 5; refine AW.out.mono ?_; rintro x w1 ⟨rfl, b1⟩)
      | (go_at_call 6; refine (NW.out _).mono ?_; rintro x w2 ⟨rfl, hw⟩; subst hw))
    go_ret
    exact ⟨rfl, b1⟩
set_option maxHeartbeats 32000000 in
theorem undodoes_yes (M : Int) (l : List UCall) (aL : Option Addr) (cL : Nat) (w : World) (hT : UT w) (hl : l.length ≤ 9223372036854775807) (hL : UCallsIn w w.heap.size aL l) (hM : 1 ≤ M ∧ M ≤ 1000) : Calls Tryd.prog 3 #[.int .i64 M, .slice aL l.length cL] w fun x w' => x = .returned (.bool true) ∧ Below w.heap.size w w' := by
  have AW := Lib.hid (uawake_any w hT)
  have HL := Lib.hid hL
  clear hL hT
  have NW := Lib.hid fun w => unew_any M w hM.1 hM.2
  have h1 : ¬ M < 1 := by omega
  have h2 : ¬ 1000 < M := by omega
  have HM := Lib.hid hM
  clear hM
  go_enter Tryd.func3, Tryd.ntmps3
  go_upto_region 9 with (first
    | (go_at_call 5; refine AW.out.mono ?_; rintro x w1 ⟨rfl, b1⟩)
    | (go_at_call 6; refine (NW.out _).mono ?_; rintro x w2 ⟨P, rfl, ht, b2⟩))
  obtain ⟨w3, hw3⟩ : ∃ w3, w2.alloc (.cells #[.slice none 0 0, .int .i64 0, .slice none 0 0, .slice none 0 0] 33) = w3 := ⟨_, rfl⟩
  have I0 := Lib.hid (ul_start b1 HM.out.1 HM.out.2 ht b2 hw3)
  rw [hw3]
  obtain ⟨X, hX⟩ : ∃ X, w2.heap.size = X := ⟨_, rfl⟩
  obtain ⟨B, hB⟩ : ∃ B, w1.heap.size = B := ⟨_, rfl⟩
  rw [hX, hB] at I0
  try rw [hX]
  clear ht hw3 b1 b2 h1 h2 hX hB
  go_upto_region 10 with fail
  go_loopw [8] (fun iv wr => ∃ (j : Nat) (S Sr : Nat → Prop) (x : LnR) (Ps Ls : List LnR) (pa : Option Addr) (pc : Nat) (la : Option Addr) (lc : Nat), j ≤ l.length ∧ j ≤ 60 ∧ iv = .int .i64 (j : Int) ∧ Hid (UL w S Sr B P X M x Ps Ls pa pc la lc wr)) (fun iv _ => l.length - (intOf iv).toNat)
  case atStart => exact ⟨0, _, _, _, _, _, _, _, _, _, Nat.zero_le _, Nat.zero_le _, rfl, I0⟩
  case round =>
    obtain ⟨j, S, Sr, x, Ps, Ls, pa, pc, la, lc, hj, hj60, rfl, HI⟩ := hrel
    clear I0
    by_cases hlt : j < l.length
    rotate_left
    · have hj1 : ¬ (j : Int) < l.length := by omega
      go_wp2_with fail
      go_ret
      exact ⟨rfl, HI.out.b⟩
    by_cases h60 : j < 60
    rotate_left
    · have hj1 : (j : Int) < l.length := by omega
      have hj2 : ¬ (j : Int) < 60 := by omega
      go_wp2_with fail
      go_ret
      exact ⟨rfl, HI.out.b⟩
    have hj1 : (j : Int) < l.length := by omega
    have hj2 : (j : Int) < 60 := by omega
    have hj0 : (0 : Int) ≤ j := by omega
    obtain ⟨kb, off, u, rfl, hcc, hy⟩ := uc_at HL.out j hlt
    obtain ⟨cn, hcn⟩ : ∃ cn, u.y.l.length = cn := ⟨_, rfl⟩
    rw [hcn] at hcc
    have CC := Lib.hid hcc
    obtain ⟨c0, c1, c2, c3⟩ := hcc _ HI.out.b
    by_cases h100 : (60 : Int) < cn
    · go_wp2_with fail
      go_ret
      exact ⟨rfl, HI.out.b⟩
    have hy60 : cn ≤ 60 := by omega
    obtain ⟨xn, hxn⟩ : ∃ xn, x.1.1.length = xn := ⟨_, rfl⟩
    obtain ⟨pn, hpn⟩ : ∃ pn, Ps.length = pn := ⟨_, rfl⟩
    obtain ⟨ln, hln⟩ : ∃ ln, Ls.length = ln := ⟨_, rfl⟩
    obtain ⟨x0, x1, x2, x3⟩ := HI.out.cells hxn hpn hln
    have DZ := Lib.hid (ul_does (HI.out.below (Below.refl _ wr).drew) u hy hxn hpn hln hcn hy60)
    have bz := (below_alloc wr (.cells #[.slice none 0 0, .int .i64 0, .slice none 0 0, .slice none 0 0] 33)).drew
    have DY := Lib.hid (ul_does (HI.out.grow bz) u hy hxn hpn hln hcn hy60)
    have RZ := Lib.hid (show (wr.alloc (.cells #[.slice none 0 0, .int .i64 0, .slice none 0 0, .slice none 0 0] 33)).drew.heap[wr.heap.size]? = _ from heap_alloc_new wr (.cells #[.slice none 0 0, .int .i64 0, .slice none 0 0, .slice none 0 0] 33))
    have SXh := Lib.hid HI.out.sX; have NXh := Lib.hid HI.out.nX; have HCh := Lib.hid HI.out.c
    have HCz := Lib.hid (blk_below HI.out.c bz)
    have XL := Lib.hid (HI.out.d.u.lt X HI.out.sX)
    have NZh := Lib.hid (show ¬ Sr wr.heap.size from fun h => by have := HI.out.d.lr _ h; omega)
    have SZh : Hid (grS S wr (wr.alloc (.cells #[.slice none 0 0, .int .i64 0, .slice none 0 0, .slice none 0 0] 33)).drew wr.heap.size) := Lib.hid (Or.inr ⟨Nat.le_refl _, blk_lt RZ.out⟩)
    have SXz : Hid (grS S wr (wr.alloc (.cells #[.slice none 0 0, .int .i64 0, .slice none 0 0, .slice none 0 0] 33)).drew X) := Lib.hid (Or.inl HI.out.sX)
    obtain ⟨y0, y1, y2, y3⟩ := (HI.out.below bz).cells hxn hpn hln
    obtain ⟨b0, b1, b2, b3⟩ := hcc _ (seqB HI.out.b bz)
    have xx0 : wr.drew.cell? ⟨X, 0, none⟩ = _ := x0
    have xx1 : wr.drew.cell? ⟨X, 1, none⟩ = _ := x1
    have xx2 : wr.drew.cell? ⟨X, 2, none⟩ = _ := x2
    have xx3 : wr.drew.cell? ⟨X, 3, none⟩ = _ := x3
    have cc0 : wr.drew.cell? ⟨kb, off + j * 4, none⟩ = _ := c0
    have cc1 : wr.drew.cell? ⟨kb, off + j * 4 + 1, none⟩ = _ := c1
    have cc2 : wr.drew.cell? ⟨kb, off + j * 4 + 2, none⟩ = _ := c2
    have cc3 : wr.drew.cell? ⟨kb, off + j * 4 + 3, none⟩ = _ := c3
    have za0 := fun o => (below_alloc wr o).cell (p := ⟨X, 0, none⟩) (block_lt_of_cell x0) |>.trans x0
    have za1 := fun o => (below_alloc wr o).cell (p := ⟨X, 1, none⟩) (block_lt_of_cell x1) |>.trans x1
    have za2 := fun o => (below_alloc wr o).cell (p := ⟨X, 2, none⟩) (block_lt_of_cell x2) |>.trans x2
    have za3 := fun o => (below_alloc wr o).cell (p := ⟨X, 3, none⟩) (block_lt_of_cell x3) |>.trans x3
    have zb0 := fun o => (below_alloc wr o).cell (p := ⟨kb, off + j * 4, none⟩) (block_lt_of_cell c0) |>.trans c0
    have zb1 := fun o => (below_alloc wr o).cell (p := ⟨kb, off + j * 4 + 1, none⟩) (block_lt_of_cell c1) |>.trans c1
    have zb2 := fun o => (below_alloc wr o).cell (p := ⟨kb, off + j * 4 + 2, none⟩) (block_lt_of_cell c2) |>.trans c2
    have zb3 := fun o => (below_alloc wr o).cell (p := ⟨kb, off + j * 4 + 3, none⟩) (block_lt_of_cell c3) |>.trans c3
    have hkb0 : kb < wr.heap.size := block_lt_of_cell c0
    have HXZ := Lib.hid (show X ≠ wr.heap.size by have := XL.out; omega)
    have HKZ := Lib.hid (show kb ≠ wr.heap.size by omega)
    have HXN := Lib.hid hxn; have HPN := Lib.hid hpn; have HLN := Lib.hid hln
    have HIb := Lib.hid HI.out.hb
    clear hy hcc hcn hxn hpn hln HI bz hkb0
    go_upto_region 14 with fail
    go_region_held3 (fun w' => w'.cell? ⟨X, 0, none⟩ = some (.slice x.2.1 xn x.2.2) ∧ w'.cell? ⟨X, 1, none⟩ = some (.int .i64 x.1.2) ∧ w'.cell? ⟨X, 2, none⟩ = some (.slice pa pn pc) ∧ w'.cell? ⟨X, 3, none⟩ = some (.slice la ln lc) ∧ w'.cell? ⟨kb, off + j * 4, none⟩ = some (.int .i64 u.k) ∧ w'.cell? ⟨kb, off + j * 4 + 1, none⟩ = some (.slice u.y.a cn u.y.c) ∧ w'.cell? ⟨kb, off + j * 4 + 2, none⟩ = some (.int .i64 u.x) ∧ w'.cell? ⟨kb, off + j * 4 + 3, none⟩ = some (.bool u.j))
      (first | (with_reducible exact ⟨x0, x1, x2, x3, c0, c1, c2, c3⟩) | (with_reducible exact ⟨xx0, xx1, xx2, xx3, cc0, cc1, cc2, cc3⟩) | (with_reducible exact ⟨y0, y1, y2, y3, b0, b1, b2, b3⟩) | (with_reducible exact ⟨za0 _, za1 _, za2 _, za3 _, zb0 _, zb1 _, zb2 _, zb3 _⟩) | (with_reducible exact ⟨e0, e1, e2, e3, d0, d1, d2, d3⟩) | (with_reducible exact ⟨ea0 _, ea1 _, ea2 _, ea3 _, da0 _, da1 _, da2 _, da3 _⟩) | (with_reducible exact ⟨(farT4 HXZ.out).trans e0, (farT4 HXZ.out).trans e1, (farT4 HXZ.out).trans e2, (farT4 HXZ.out).trans e3, (farT4 HKZ.out).trans d0, (farT4 HKZ.out).trans d1, (farT4 HKZ.out).trans d2, (farT4 HKZ.out).trans d3⟩) | go_keep)
      (first
        | (go_at_call 7
           refine DZ.out.mono ?_
           rintro e w5 ⟨x', Ps', Ls', pa', pc', la', lc', rfl, S', Sr', d5, hS5, hN5, hK5, hb5⟩
           have hc5 := (hK5 X SXh.out).trans HCh.out
           have D5 := Lib.hid d5; have SX5 := Lib.hid (hS5 X SXh.out); have NX5 := Lib.hid (hN5 X SXh.out NXh.out)
           have way1 : True := trivial
           rw [HXN.out, HPN.out, HLN.out] at hc5
           have HC5 := Lib.hid hc5; have HB5 := Lib.hid hb5
           have e0 := cell_of_row _ _ 0 _ _ _ hc5
           have e1 := cell_of_row _ _ 1 _ _ _ hc5
           have e2 := cell_of_row _ _ 2 _ _ _ hc5
           have e3 := cell_of_row _ _ 3 _ _ _ hc5
           dsimp at e0 e1 e2 e3
           obtain ⟨d0, d1, d2, d3⟩ := CC.out _ hb5
           have ea0 := fun o => (below_alloc w5 o).cell (p := ⟨X, 0, none⟩) (block_lt_of_cell e0) |>.trans e0
           have ea1 := fun o => (below_alloc w5 o).cell (p := ⟨X, 1, none⟩) (block_lt_of_cell e1) |>.trans e1
           have ea2 := fun o => (below_alloc w5 o).cell (p := ⟨X, 2, none⟩) (block_lt_of_cell e2) |>.trans e2
           have ea3 := fun o => (below_alloc w5 o).cell (p := ⟨X, 3, none⟩) (block_lt_of_cell e3) |>.trans e3
           have da0 := fun o => (below_alloc w5 o).cell (p := ⟨kb, off + j * 4, none⟩) (block_lt_of_cell d0) |>.trans d0
           have da1 := fun o => (below_alloc w5 o).cell (p := ⟨kb, off + j * 4 + 1, none⟩) (block_lt_of_cell d1) |>.trans d1
           have da2 := fun o => (below_alloc w5 o).cell (p := ⟨kb, off + j * 4 + 2, none⟩) (block_lt_of_cell d2) |>.trans d2
           have da3 := fun o => (below_alloc w5 o).cell (p := ⟨kb, off + j * 4 + 3, none⟩) (block_lt_of_cell d3) |>.trans d3
           clear d5 hS5 hN5 hK5 hc5 hb5)
        | (go_at_call 7
           refine DY.out.mono ?_
           rintro e w5 ⟨x', Ps', Ls', pa', pc', la', lc', rfl, S', Sr', d5, hS5, hN5, hK5, hb5⟩
           have hc5 := (hK5 X SXz.out).trans HCz.out
           have rz5 := (hK5 _ SZh.out).trans RZ.out
           have D5 := Lib.hid d5; have SX5 := Lib.hid (hS5 X SXz.out); have NX5 := Lib.hid (hN5 X SXz.out NXh.out); have RZ5 := Lib.hid rz5; have SZ5 := Lib.hid (hS5 _ SZh.out); have NZ5 := Lib.hid (hN5 _ SZh.out NZh.out)
           have way2 : True := trivial
           rw [HXN.out, HPN.out, HLN.out] at hc5
           have HC5 := Lib.hid hc5; have HB5 := Lib.hid hb5
           have e0 := cell_of_row _ _ 0 _ _ _ hc5
           have e1 := cell_of_row _ _ 1 _ _ _ hc5
           have e2 := cell_of_row _ _ 2 _ _ _ hc5
           have e3 := cell_of_row _ _ 3 _ _ _ hc5
           dsimp at e0 e1 e2 e3
           obtain ⟨d0, d1, d2, d3⟩ := CC.out _ hb5
           have q0 := cell_of_row _ _ 0 _ _ _ rz5
           have q1 := cell_of_row _ _ 1 _ _ _ rz5
           have q2 := cell_of_row _ _ 2 _ _ _ rz5
           have q3 := cell_of_row _ _ 3 _ _ _ rz5
           have qf := fun i => frozen_of_row _ wr.heap.size i _ _ rz5
           dsimp at q0 q1 q2 q3
           clear d5 hS5 hN5 hK5 hc5 hb5 rz5))
    clear x0 x1 x2 x3 xx0 xx1 xx2 xx3 y0 y1 y2 y3 c0 c1 c2 c3 cc0 cc1 cc2 cc3 b0 b1 b2 b3 za0 za1 za2 za3 zb0 zb1 zb2 zb3 e0 e1 e2 e3 d0 d1 d2 d3 ea0 ea1 ea2 ea3 da0 da1 da2 da3
    obtain ⟨A, hA⟩ : ∃ A, w5.heap.size = A := ⟨_, rfl⟩
    have bA := below_alloc w5 (.cells #[.slice x'.2.1 x'.1.1.length x'.2.2, .int .i64 x'.1.2, .slice pa' Ps'.length pc', .slice la' Ls'.length lc'] 33)
    have rA := heap_alloc_new w5 (.cells #[.slice x'.2.1 x'.1.1.length x'.2.2, .int .i64 x'.1.2, .slice pa' Ps'.length pc', .slice la' Ls'.length lc'] 33)
    have hXA := Lib.hid (show X ≠ A by have := blk_lt HC5.out; omega)
    rw [hA] at rA
    rw [hA]
    clear hA
    generalize w5.alloc (.cells #[.slice x'.2.1 x'.1.1.length x'.2.2, .int .i64 x'.1.2, .slice pa' Ps'.length pc', .slice la' Ls'.length lc'] 33) = w6 at *
    have D6 := Lib.hid (D5.out.grow bA)
    have SX6 : Hid (grS S' w5 w6 X) := Lib.hid (Or.inl SX5.out)
    generalize grS S' w5 w6 = S6 at D6 SX6
    have HC6 := Lib.hid (blk_below HC5.out bA)
    have HB6 := Lib.hid (seqB HB5.out bA)
    have RA6 := Lib.hid rA
    clear bA rA way1
    rotate_left
    clear x0 x1 x2 x3 xx0 xx1 xx2 xx3 y0 y1 y2 y3 c0 c1 c2 c3 cc0 cc1 cc2 cc3 b0 b1 b2 b3 za0 za1 za2 za3 zb0 zb1 zb2 zb3 e0 e1 e2 e3 d0 d1 d2 d3 q0 q1 q2 q3 qf
    generalize hWA : World.setCell _ _ _ = w6
    obtain ⟨d6, ra6, hF6, hs6, hB6⟩ := D5.out.setT SZ5.out NZ5.out RZ5.out hWA
    have hXA := HXZ
    have HC6 := Lib.hid ((hF6 X HXZ.out).trans HC5.out)
    have HB6 := Lib.hid (HB5.out.trans (hB6.mono HIb.out))
    have RA6 := Lib.hid ra6
    have D6 := Lib.hid d6
    have SX6 := SX5
    clear d6 ra6 hF6 hs6 hB6 hWA RZ5 SZ5 NZ5 SZh SXz NZh RZ HXZ HKZ HCz DY way2
    generalize wr.heap.size = A at *
    all_goals
      have g0 := cell_of_row _ _ 0 _ _ _ RA6.out
      have g1 := cell_of_row _ _ 1 _ _ _ RA6.out
      have g2 := cell_of_row _ _ 2 _ _ _ RA6.out
      have g3 := cell_of_row _ _ 3 _ _ _ RA6.out
      have h0 := cell_of_row _ _ 0 _ _ _ HC6.out
      have h1 := cell_of_row _ _ 1 _ _ _ HC6.out
      have h2 := cell_of_row _ _ 2 _ _ _ HC6.out
      have h3 := cell_of_row _ _ 3 _ _ _ HC6.out
      have hf := fun i => frozen_of_row _ X i _ _ HC6.out
      dsimp at g0 g1 g2 g3 h0 h1 h2 h3
      go_upto_region 16 with fail
      clear g0 g1 g2 g3 h0 h1 h2 h3 hf
      generalize hW7 : World.setCell _ _ _ = w7
      have U7 := Lib.hid (ul_put D6.out SX6.out NX5.out HC6.out HB6.out HIb.out hW7)
      clear hW7 D5 D6 HC5 HC6 HB5 HB6 RA6 DZ
      go_upto_region 17 with (go_at_call 8; refine (usteps_ds U7.out.d rfl rfl).mono ?_; rintro e w8 ⟨rfl, hb8⟩; have U8 := Lib.hid (U7.out.below (hb8.drew)); clear hb8 U7)
      obtain ⟨p0, p1, p2, p3⟩ := U8.out.cells rfl rfl rfl
      have NO := Lib.hid (unow_us U8.out.d.u (n := x'.1.1.length) rfl)
      have hlx := Lib.hid U8.out.d.u.sx
      go_region_held3 (fun w' => w'.cell? ⟨X, 0, none⟩ = some (.slice x'.2.1 x'.1.1.length x'.2.2) ∧ w'.cell? ⟨X, 1, none⟩ = some (.int .i64 x'.1.2) ∧ w'.cell? ⟨X, 2, none⟩ = some (.slice pa' Ps'.length pc') ∧ w'.cell? ⟨X, 3, none⟩ = some (.slice la' Ls'.length lc')) (first | (with_reducible exact ⟨p0, p1, p2, p3⟩) | (with_reducible exact ⟨r0, r1, r2, r3⟩) | (with_reducible exact ⟨s0, s1, s2, s3⟩) | exact ⟨p0, p1, p2, p3⟩ | go_keep)
        (first
          | (go_at_call 10
             refine NO.out.mono ?_
             rintro e w9 ⟨nb, nd, rfl, ho, hb9⟩
             have U9 := Lib.hid (U8.out.below hb9)
             have SG := Lib.hid (show Signs w9 nb x'.1.1 from by obtain ⟨a2, c2, e2, hs2⟩ := ho.sl; injection e2 with e2 e3 e4; subst e2; exact hs2.s)
             obtain ⟨r0, r1, r2, r3⟩ := U9.out.cells rfl rfl rfl
             clear ho hb9)
          | (go_at_call 9
             refine (r16_same x'.1.1 x'.1.1 nb x'.2.1 _ _ nd x'.2.2 x'.1.2 x'.1.2 _ rfl rfl (by have := hlx.out; omega) (by have := hlx.out; omega) SG.out U9.out.d.r.x.s rfl rfl).mono ?_
             rintro e w10 ⟨rfl, hb10⟩
             have U10 := Lib.hid (U9.out.below hb10)
             obtain ⟨s0, s1, s2, s3⟩ := U10.out.cells rfl rfl rfl
             clear hb10))
      clear p0 p1 p2 p3 r0 r1 r2 r3 s0 s1 s2 s3
      go_wp2
      go_roundw
      case rel => exact ⟨j + 1, _, _, x', Ps', Ls', pa', pc', la', lc', by omega, by omega, by go_num, U10⟩
      case measure => (simp [intOf]; try omega)
theorem undodoes_any (M : Int) (l : List UCall) (aL : Option Addr) (cL : Nat) (w : World) (hT : UT w) (hl : l.length ≤ 9223372036854775807) (hL : UCallsIn w w.heap.size aL l) : Calls Tryd.prog 3 #[.int .i64 M, .slice aL l.length cL] w fun x w' => x = .returned (.bool true) ∧ Below w.heap.size w w' := by
  by_cases hM : 1 ≤ M ∧ M ≤ 1000
  · exact undodoes_yes M l aL cL w hT hl hL hM
  · exact undodoes_no M _ w hT (by omega)
end Go.Proofs.YtjgffedcbdnddaaDoor
set_option linter.unusedVariables false
set_option linter.unusedSimpArgs false
namespace Go.Proofs.YtjgffedcbdnddaaDoor
open Go.RowKit
abbrev StU := ULn × List ULn × List ULn
/-- A step back. -/
def bk1 (s : StU) : StU := if h : s.2.1 = [] then s else (s.2.1.getLast h, s.2.1.dropLast, s.2.2 ++ [s.1])
def bkN : Nat → StU → StU
  | 0, s => s
  | n + 1, s => bk1 (bkN n s)
theorem bk1_snoc (x y : ULn) (Ps Ls : List ULn) : bk1 (x, Ps ++ [y], Ls) = (y, Ps, Ls ++ [x]) := by
  unfold bk1
  rw [dif_neg (by simp)]
  simp
theorem st_snoc (s : StU) (h : s.2.1 ≠ []) : ∃ x Ps y Ls, s = (x, Ps ++ [y], Ls) := by
  obtain ⟨x, Ps, Ls⟩ := s
  exact ⟨x, _, _, Ls, by rw [List.dropLast_concat_getLast h]⟩
theorem bkN_len (s : StU) : ∀ i, i ≤ s.2.1.length → (bkN i s).2.1.length = s.2.1.length - i
  | 0, _ => rfl
  | i + 1, hi => by
    have ih := bkN_len s i (by omega)
    have hne : (bkN i s).2.1 ≠ [] := fun e => by rw [e] at ih; simp at ih; omega
    obtain ⟨x, Ps, y, Ls, e⟩ := st_snoc _ hne
    show (bk1 (bkN i s)).2.1.length = _
    rw [e] at ih ⊢
    rw [bk1_snoc]
    simp at ih ⊢
    omega
theorem bkN_ne (s : StU) (i : Nat) (hi : i < s.2.1.length) : (bkN i s).2.1 ≠ [] := fun e => by
  have := bkN_len s i (by omega)
  rw [e] at this; simp at this; omega
/-- A trail beside the line that was told. -/
structure UBk (w0 : World) (S : Nat → Prop) (B P N : Nat) (M : Int) (s0 : ULn) (n : Nat) (nb : Option Addr) (nd : Nat) (s : StU) (w : World) : Prop where
  u : US S B P M s.1 s.2.1 s.2.2 w
  sN : S N
  c : w.heap[N]? = some (.cells #[.slice nb n nd, .int .i64 s0.2] 30 (0, 0))
  g : SlS S w nb s0.1 nd
  b : Below w0.heap.size w0 w
  hb : w0.heap.size ≤ B
section
variable {w0 w w' : World} {S : Nat → Prop} {B P N n : Nat} {M : Int} {s0 : ULn} {nb : Option Addr} {nd : Nat} {s s' : StU}
theorem UBk.below (h : UBk w0 S B P N M s0 n nb nd s w) (hb : Below w.heap.size w w') : UBk w0 S B P N M s0 n nb nd s w' :=
  ⟨h.u.below hb, h.sN, blk_below h.c hb, h.g.below hb, seqB h.b hb, h.hb⟩
theorem UBk.op (h : UBk w0 S B P N M s0 n nb nd s w) (u : US S B P M s'.1 s'.2.1 s'.2.2 w') (k : KpU B S w w') : UBk w0 S B P N M s0 n nb nd s' w' :=
  ⟨u, h.sN, (k.s N h.sN).trans h.c, h.g.keep k.b.size k.s, h.b.trans (k.b.mono h.hb), h.hb⟩
theorem ubk_back (h : UBk w0 S B P N M s0 n nb nd s w) (hne : s.2.1 ≠ []) : Calls Tryd.prog 11 #[.pointer (some ⟨P, 0, none⟩)] w fun e w' => e = .returned (.bool true) ∧ UBk w0 S B P N M s0 n nb nd (bk1 s) w' := by
  obtain ⟨x, Ps, y, Ls, rfl⟩ := st_snoc s hne
  rw [bk1_snoc]
  refine (uback_us h.u).mono ?_
  rintro e w' ⟨rfl, u, k⟩
  exact ⟨rfl, h.op (s' := (y, Ps, Ls ++ [x])) u k⟩
theorem ubk_no (h : UBk w0 S B P N M s0 n nb nd s w) (hne : s.2.1 = []) : Calls Tryd.prog 11 #[.pointer (some ⟨P, 0, none⟩)] w fun e w' => e = .returned (.bool false) ∧ UBk w0 S B P N M s0 n nb nd s w' := by
  obtain ⟨x, Ps, Ls⟩ := s
  dsimp only at hne
  subst hne
  refine (uback_us_no h.u).mono ?_
  rintro e w' ⟨rfl, u, k⟩
  exact ⟨rfl, h.op (s' := (x, [], Ls)) u k⟩
theorem ubk_forth (h : UBk w0 S B P N M s0 n nb nd (bk1 s) w) (hne : s.2.1 ≠ []) : Calls Tryd.prog 12 #[.pointer (some ⟨P, 0, none⟩)] w fun e w' => e = .returned (.bool true) ∧ UBk w0 S B P N M s0 n nb nd s w' := by
  obtain ⟨x, Ps, y, Ls, rfl⟩ := st_snoc s hne
  rw [bk1_snoc] at h
  refine (uforth_us (y := x) h.u).mono ?_
  rintro e w' ⟨rfl, u, k⟩
  exact ⟨rfl, h.op (s' := (x, Ps ++ [y], Ls)) u k⟩
end
set_option maxHeartbeats 32000000 in
theorem undobounds_any (l : List UCall) (q : Int) (aL : Option Addr) (cL : Nat) (w : World) (hT : UT w) (hl : l.length ≤ 9223372036854775807) (hL : UCallsIn w w.heap.size aL l) (hq : 0 ≤ q ∧ q ≤ 255) : Calls Tryd.prog 4 #[.slice aL l.length cL, .int .u8 q] w fun x w' => x = .returned (.bool true) ∧ Below w.heap.size w w' := by
  have AW := Lib.hid (uawake_any w hT)
  have HL := Lib.hid hL
  clear hL hT
  go_enter Tryd.func4, Tryd.ntmps4
  go_upto_region 4 with (go_at_call 5; refine AW.out.mono ?_; rintro x w1 ⟨rfl, b1⟩)
  obtain ⟨M, hMq⟩ : ∃ M, q % 20 + 1 = M := ⟨_, rfl⟩
  have hM1 : 1 ≤ M := by omega
  have hM2 : M ≤ 20 := by omega
  rw [hMq]
  have HM := Lib.hid (And.intro hM1 hM2)
  have NW := Lib.hid fun w => unew_any M w hM1 (by omega)
  clear hMq hM1 hM2
  go_upto_region 8 with (go_at_call 6; refine (NW.out _).mono ?_; rintro x w2 ⟨P, rfl, ht, b2⟩)
  obtain ⟨w3, hw3⟩ : ∃ w3, w2.alloc (.cells #[.slice none 0 0, .int .i64 0, .slice none 0 0, .slice none 0 0] 33) = w3 := ⟨_, rfl⟩
  have I0 := Lib.hid (ul_start b1 HM.out.1 (by have := HM.out.2; omega) ht b2 hw3)
  rw [hw3]
  obtain ⟨X, hX⟩ : ∃ X, w2.heap.size = X := ⟨_, rfl⟩
  obtain ⟨B, hB⟩ : ∃ B, w1.heap.size = B := ⟨_, rfl⟩
  rw [hX, hB] at I0
  try rw [hX]
  clear ht hw3 b1 b2 hX hB
  go_upto_block 0 with fail
  go_cut [9, 10, 11] from 36 to 65 (fun s9 s10 s11 wx => ∃ (S Sr : Nat → Prop) (x : LnR) (Ps Ls : List LnR) (pa : Option Addr) (pc : Nat) (la : Option Addr) (lc : Nat), Hid (UL w S Sr B P X M x Ps Ls pa pc la lc wx))
  case first =>
    go_wp2_with fail
    go_loopw [9] (fun iv wr => ∃ (j : Nat) (S Sr : Nat → Prop) (x : LnR) (Ps Ls : List LnR) (pa : Option Addr) (pc : Nat) (la : Option Addr) (lc : Nat), j ≤ l.length ∧ j ≤ 40 ∧ iv = .int .i64 (j : Int) ∧ Hid (UL w S Sr B P X M x Ps Ls pa pc la lc wr)) (fun iv _ => l.length - (intOf iv).toNat)
    case atStart => exact ⟨0, _, _, _, _, _, _, _, _, _, Nat.zero_le _, Nat.zero_le _, rfl, I0⟩
    case round =>
      obtain ⟨j, S, Sr, x, Ps, Ls, pa, pc, la, lc, hj, hj60, rfl, HI⟩ := hrel
      clear I0
      by_cases hlt : j < l.length
      rotate_left
      · have hj1 : ¬ (j : Int) < l.length := by omega
        go_wp2_with fail
        go_meet
        exact ⟨S, Sr, x, Ps, Ls, pa, pc, la, lc, HI⟩
      by_cases h60 : j < 40
      rotate_left
      · have hj1 : (j : Int) < l.length := by omega
        have hj2 : ¬ (j : Int) < 40 := by omega
        go_wp2_with fail
        go_meet
        exact ⟨S, Sr, x, Ps, Ls, pa, pc, la, lc, HI⟩
      have hj1 : (j : Int) < l.length := by omega
      have hj2 : (j : Int) < 40 := by omega
      have hj0 : (0 : Int) ≤ j := by omega
      obtain ⟨kb, off, u, rfl, hcc, hy⟩ := uc_at HL.out j hlt
      obtain ⟨cn, hcn⟩ : ∃ cn, u.y.l.length = cn := ⟨_, rfl⟩
      rw [hcn] at hcc
      have CC := Lib.hid hcc
      obtain ⟨c0, c1, c2, c3⟩ := hcc _ HI.out.b
      by_cases h100 : (60 : Int) < cn
      · go_wp2_with fail
        go_ret
        exact ⟨rfl, HI.out.b⟩
      have hy60 : cn ≤ 60 := by omega
      obtain ⟨xn, hxn⟩ : ∃ xn, x.1.1.length = xn := ⟨_, rfl⟩
      obtain ⟨pn, hpn⟩ : ∃ pn, Ps.length = pn := ⟨_, rfl⟩
      obtain ⟨ln, hln⟩ : ∃ ln, Ls.length = ln := ⟨_, rfl⟩
      obtain ⟨x0, x1, x2, x3⟩ := HI.out.cells hxn hpn hln
      have DZ := Lib.hid (ul_does (HI.out.below (Below.refl _ wr).drew) u hy hxn hpn hln hcn hy60)
      have bz := (below_alloc wr (.cells #[.slice none 0 0, .int .i64 0, .slice none 0 0, .slice none 0 0] 33)).drew
      have DY := Lib.hid (ul_does (HI.out.grow bz) u hy hxn hpn hln hcn hy60)
      have RZ := Lib.hid (show (wr.alloc (.cells #[.slice none 0 0, .int .i64 0, .slice none 0 0, .slice none 0 0] 33)).drew.heap[wr.heap.size]? = _ from heap_alloc_new wr (.cells #[.slice none 0 0, .int .i64 0, .slice none 0 0, .slice none 0 0] 33))
      have SXh := Lib.hid HI.out.sX; have NXh := Lib.hid HI.out.nX; have HCh := Lib.hid HI.out.c
      have HCz := Lib.hid (blk_below HI.out.c bz)
      have XL := Lib.hid (HI.out.d.u.lt X HI.out.sX)
      have NZh := Lib.hid (show ¬ Sr wr.heap.size from fun h => by have := HI.out.d.lr _ h; omega)
      have SZh : Hid (grS S wr (wr.alloc (.cells #[.slice none 0 0, .int .i64 0, .slice none 0 0, .slice none 0 0] 33)).drew wr.heap.size) := Lib.hid (Or.inr ⟨Nat.le_refl _, blk_lt RZ.out⟩)
      have SXz : Hid (grS S wr (wr.alloc (.cells #[.slice none 0 0, .int .i64 0, .slice none 0 0, .slice none 0 0] 33)).drew X) := Lib.hid (Or.inl HI.out.sX)
      obtain ⟨y0, y1, y2, y3⟩ := (HI.out.below bz).cells hxn hpn hln
      obtain ⟨b0, b1, b2, b3⟩ := hcc _ (seqB HI.out.b bz)
      have xx0 : wr.drew.cell? ⟨X, 0, none⟩ = _ := x0
      have xx1 : wr.drew.cell? ⟨X, 1, none⟩ = _ := x1
      have xx2 : wr.drew.cell? ⟨X, 2, none⟩ = _ := x2
      have xx3 : wr.drew.cell? ⟨X, 3, none⟩ = _ := x3
      have cc0 : wr.drew.cell? ⟨kb, off + j * 4, none⟩ = _ := c0
      have cc1 : wr.drew.cell? ⟨kb, off + j * 4 + 1, none⟩ = _ := c1
      have cc2 : wr.drew.cell? ⟨kb, off + j * 4 + 2, none⟩ = _ := c2
      have cc3 : wr.drew.cell? ⟨kb, off + j * 4 + 3, none⟩ = _ := c3
      have za0 := fun o => (below_alloc wr o).cell (p := ⟨X, 0, none⟩) (block_lt_of_cell x0) |>.trans x0
      have za1 := fun o => (below_alloc wr o).cell (p := ⟨X, 1, none⟩) (block_lt_of_cell x1) |>.trans x1
      have za2 := fun o => (below_alloc wr o).cell (p := ⟨X, 2, none⟩) (block_lt_of_cell x2) |>.trans x2
      have za3 := fun o => (below_alloc wr o).cell (p := ⟨X, 3, none⟩) (block_lt_of_cell x3) |>.trans x3
      have zb0 := fun o => (below_alloc wr o).cell (p := ⟨kb, off + j * 4, none⟩) (block_lt_of_cell c0) |>.trans c0
      have zb1 := fun o => (below_alloc wr o).cell (p := ⟨kb, off + j * 4 + 1, none⟩) (block_lt_of_cell c1) |>.trans c1
      have zb2 := fun o => (below_alloc wr o).cell (p := ⟨kb, off + j * 4 + 2, none⟩) (block_lt_of_cell c2) |>.trans c2
      have zb3 := fun o => (below_alloc wr o).cell (p := ⟨kb, off + j * 4 + 3, none⟩) (block_lt_of_cell c3) |>.trans c3
      have hkb0 : kb < wr.heap.size := block_lt_of_cell c0
      have HXZ := Lib.hid (show X ≠ wr.heap.size by have := XL.out; omega)
      have HKZ := Lib.hid (show kb ≠ wr.heap.size by omega)
      have HXN := Lib.hid hxn; have HPN := Lib.hid hpn; have HLN := Lib.hid hln
      have HIb := Lib.hid HI.out.hb
      clear hy hcc hcn hxn hpn hln HI bz hkb0
      go_upto_region 13 with fail
      go_region_held3 (fun w' => w'.cell? ⟨X, 0, none⟩ = some (.slice x.2.1 xn x.2.2) ∧ w'.cell? ⟨X, 1, none⟩ = some (.int .i64 x.1.2) ∧ w'.cell? ⟨X, 2, none⟩ = some (.slice pa pn pc) ∧ w'.cell? ⟨X, 3, none⟩ = some (.slice la ln lc) ∧ w'.cell? ⟨kb, off + j * 4, none⟩ = some (.int .i64 u.k) ∧ w'.cell? ⟨kb, off + j * 4 + 1, none⟩ = some (.slice u.y.a cn u.y.c) ∧ w'.cell? ⟨kb, off + j * 4 + 2, none⟩ = some (.int .i64 u.x) ∧ w'.cell? ⟨kb, off + j * 4 + 3, none⟩ = some (.bool u.j))
        (first | (with_reducible exact ⟨x0, x1, x2, x3, c0, c1, c2, c3⟩) | (with_reducible exact ⟨xx0, xx1, xx2, xx3, cc0, cc1, cc2, cc3⟩) | (with_reducible exact ⟨y0, y1, y2, y3, b0, b1, b2, b3⟩) | (with_reducible exact ⟨za0 _, za1 _, za2 _, za3 _, zb0 _, zb1 _, zb2 _, zb3 _⟩) | (with_reducible exact ⟨e0, e1, e2, e3, d0, d1, d2, d3⟩) | (with_reducible exact ⟨ea0 _, ea1 _, ea2 _, ea3 _, da0 _, da1 _, da2 _, da3 _⟩) | (with_reducible exact ⟨(farT4 HXZ.out).trans e0, (farT4 HXZ.out).trans e1, (farT4 HXZ.out).trans e2, (farT4 HXZ.out).trans e3, (farT4 HKZ.out).trans d0, (farT4 HKZ.out).trans d1, (farT4 HKZ.out).trans d2, (farT4 HKZ.out).trans d3⟩) | go_keep)
        (first
          | (go_at_call 7
             refine DZ.out.mono ?_
             rintro e w5 ⟨x', Ps', Ls', pa', pc', la', lc', rfl, S', Sr', d5, hS5, hN5, hK5, hb5⟩
             have hc5 := (hK5 X SXh.out).trans HCh.out
             have D5 := Lib.hid d5; have SX5 := Lib.hid (hS5 X SXh.out); have NX5 := Lib.hid (hN5 X SXh.out NXh.out)
             have way1 : True := trivial
             rw [HXN.out, HPN.out, HLN.out] at hc5
             have HC5 := Lib.hid hc5; have HB5 := Lib.hid hb5
             have e0 := cell_of_row _ _ 0 _ _ _ hc5
             have e1 := cell_of_row _ _ 1 _ _ _ hc5
             have e2 := cell_of_row _ _ 2 _ _ _ hc5
             have e3 := cell_of_row _ _ 3 _ _ _ hc5
             dsimp at e0 e1 e2 e3
             obtain ⟨d0, d1, d2, d3⟩ := CC.out _ hb5
             have ea0 := fun o => (below_alloc w5 o).cell (p := ⟨X, 0, none⟩) (block_lt_of_cell e0) |>.trans e0
             have ea1 := fun o => (below_alloc w5 o).cell (p := ⟨X, 1, none⟩) (block_lt_of_cell e1) |>.trans e1
             have ea2 := fun o => (below_alloc w5 o).cell (p := ⟨X, 2, none⟩) (block_lt_of_cell e2) |>.trans e2
             have ea3 := fun o => (below_alloc w5 o).cell (p := ⟨X, 3, none⟩) (block_lt_of_cell e3) |>.trans e3
             have da0 := fun o => (below_alloc w5 o).cell (p := ⟨kb, off + j * 4, none⟩) (block_lt_of_cell d0) |>.trans d0
             have da1 := fun o => (below_alloc w5 o).cell (p := ⟨kb, off + j * 4 + 1, none⟩) (block_lt_of_cell d1) |>.trans d1
             have da2 := fun o => (below_alloc w5 o).cell (p := ⟨kb, off + j * 4 + 2, none⟩) (block_lt_of_cell d2) |>.trans d2
             have da3 := fun o => (below_alloc w5 o).cell (p := ⟨kb, off + j * 4 + 3, none⟩) (block_lt_of_cell d3) |>.trans d3
             clear d5 hS5 hN5 hK5 hc5 hb5)
          | (go_at_call 7
             refine DY.out.mono ?_
             rintro e w5 ⟨x', Ps', Ls', pa', pc', la', lc', rfl, S', Sr', d5, hS5, hN5, hK5, hb5⟩
             have hc5 := (hK5 X SXz.out).trans HCz.out
             have rz5 := (hK5 _ SZh.out).trans RZ.out
             have D5 := Lib.hid d5; have SX5 := Lib.hid (hS5 X SXz.out); have NX5 := Lib.hid (hN5 X SXz.out NXh.out); have RZ5 := Lib.hid rz5; have SZ5 := Lib.hid (hS5 _ SZh.out); have NZ5 := Lib.hid (hN5 _ SZh.out NZh.out)
             have way2 : True := trivial
             rw [HXN.out, HPN.out, HLN.out] at hc5
             have HC5 := Lib.hid hc5; have HB5 := Lib.hid hb5
             have e0 := cell_of_row _ _ 0 _ _ _ hc5
             have e1 := cell_of_row _ _ 1 _ _ _ hc5
             have e2 := cell_of_row _ _ 2 _ _ _ hc5
             have e3 := cell_of_row _ _ 3 _ _ _ hc5
             dsimp at e0 e1 e2 e3
             obtain ⟨d0, d1, d2, d3⟩ := CC.out _ hb5
             have q0 := cell_of_row _ _ 0 _ _ _ rz5
             have q1 := cell_of_row _ _ 1 _ _ _ rz5
             have q2 := cell_of_row _ _ 2 _ _ _ rz5
             have q3 := cell_of_row _ _ 3 _ _ _ rz5
             have qf := fun i => frozen_of_row _ wr.heap.size i _ _ rz5
             dsimp at q0 q1 q2 q3
             clear d5 hS5 hN5 hK5 hc5 hb5 rz5))
      clear x0 x1 x2 x3 xx0 xx1 xx2 xx3 y0 y1 y2 y3 c0 c1 c2 c3 cc0 cc1 cc2 cc3 b0 b1 b2 b3 za0 za1 za2 za3 zb0 zb1 zb2 zb3 e0 e1 e2 e3 d0 d1 d2 d3 ea0 ea1 ea2 ea3 da0 da1 da2 da3
      obtain ⟨A, hA⟩ : ∃ A, w5.heap.size = A := ⟨_, rfl⟩
      have bA := below_alloc w5 (.cells #[.slice x'.2.1 x'.1.1.length x'.2.2, .int .i64 x'.1.2, .slice pa' Ps'.length pc', .slice la' Ls'.length lc'] 33)
      have rA := heap_alloc_new w5 (.cells #[.slice x'.2.1 x'.1.1.length x'.2.2, .int .i64 x'.1.2, .slice pa' Ps'.length pc', .slice la' Ls'.length lc'] 33)
      have hXA := Lib.hid (show X ≠ A by have := blk_lt HC5.out; omega)
      rw [hA] at rA
      rw [hA]
      clear hA
      generalize w5.alloc (.cells #[.slice x'.2.1 x'.1.1.length x'.2.2, .int .i64 x'.1.2, .slice pa' Ps'.length pc', .slice la' Ls'.length lc'] 33) = w6 at *
      have D6 := Lib.hid (D5.out.grow bA)
      have SX6 : Hid (grS S' w5 w6 X) := Lib.hid (Or.inl SX5.out)
      generalize grS S' w5 w6 = S6 at D6 SX6
      have HC6 := Lib.hid (blk_below HC5.out bA)
      have HB6 := Lib.hid (seqB HB5.out bA)
      have RA6 := Lib.hid rA
      clear bA rA way1
      rotate_left
      clear x0 x1 x2 x3 xx0 xx1 xx2 xx3 y0 y1 y2 y3 c0 c1 c2 c3 cc0 cc1 cc2 cc3 b0 b1 b2 b3 za0 za1 za2 za3 zb0 zb1 zb2 zb3 e0 e1 e2 e3 d0 d1 d2 d3 q0 q1 q2 q3 qf
      generalize hWA : World.setCell _ _ _ = w6
      obtain ⟨d6, ra6, hF6, hs6, hB6⟩ := D5.out.setT SZ5.out NZ5.out RZ5.out hWA
      have hXA := HXZ
      have HC6 := Lib.hid ((hF6 X HXZ.out).trans HC5.out)
      have HB6 := Lib.hid (HB5.out.trans (hB6.mono HIb.out))
      have RA6 := Lib.hid ra6
      have D6 := Lib.hid d6
      have SX6 := SX5
      clear d6 ra6 hF6 hs6 hB6 hWA RZ5 SZ5 NZ5 SZh SXz NZh RZ HXZ HKZ HCz DY way2
      generalize wr.heap.size = A at *
      all_goals
        have g0 := cell_of_row _ _ 0 _ _ _ RA6.out
        have g1 := cell_of_row _ _ 1 _ _ _ RA6.out
        have g2 := cell_of_row _ _ 2 _ _ _ RA6.out
        have g3 := cell_of_row _ _ 3 _ _ _ RA6.out
        have h0 := cell_of_row _ _ 0 _ _ _ HC6.out
        have h1 := cell_of_row _ _ 1 _ _ _ HC6.out
        have h2 := cell_of_row _ _ 2 _ _ _ HC6.out
        have h3 := cell_of_row _ _ 3 _ _ _ HC6.out
        have hf := fun i => frozen_of_row _ X i _ _ HC6.out
        dsimp at g0 g1 g2 g3 h0 h1 h2 h3
        go_wp2
        clear g0 g1 g2 g3 h0 h1 h2 h3 hf
        generalize hW7 : World.setCell _ _ _ = w7
        have U7 := Lib.hid (ul_put D6.out SX6.out NX5.out HC6.out HB6.out HIb.out hW7)
        clear hW7 D5 D6 HC5 HC6 HB5 HB6 RA6 DZ
        go_roundw
        case rel => exact ⟨j + 1, _, _, x', Ps', Ls', pa', pc', la', lc', by omega, by omega, by go_num, U7⟩
        case measure => (simp [intOf]; try omega)
  case rest =>
    obtain ⟨S, Sr, x, Ps, Ls, pa, pc, la, lc, HI⟩ := hcut
    clear I0
    obtain ⟨s0, hs0⟩ : ∃ s0 : StU, (x.1, Ps.map (·.1), Ls.map (·.1)) = s0 := ⟨_, rfl⟩
    have hU : US S B P M s0.1 s0.2.1 s0.2.2 wc := by rw [← hs0]; exact HI.out.d.u
    have U0 := Lib.hid hU
    have B0 := Lib.hid HI.out.b
    have HIb := Lib.hid HI.out.hb
    clear hs0 HI hU
    obtain ⟨n, hn⟩ : ∃ n, s0.1.1.length = n := ⟨_, rfl⟩
    obtain ⟨p, hp⟩ : ∃ p, s0.2.1.length = p := ⟨_, rfl⟩
    obtain ⟨r, hr⟩ : ∃ r, s0.2.2.length = r := ⟨_, rfl⟩
    have HN := Lib.hid hn; have HP := Lib.hid hp; have HR := Lib.hid hr
    have hpM : ¬ M < (p : Int) := by have := U0.out.len; omega
    have hn60 : n ≤ 60 := by have := U0.out.sx; omega
    have hp1000 : p ≤ 1000 := by have := HM.out; omega
    have NO := Lib.hid (unow_us U0.out hn)
    clear hn hp hr
    go_upto_region 16 with (go_at_call 10; refine NO.out.mono ?_; rintro e w8 ⟨nb, nd, rfl, ho, hb8⟩; have OS := Lib.hid ho; have B8 := Lib.hid hb8; clear ho hb8)
    obtain ⟨N, hNe⟩ : ∃ N, w8.heap.size = N := ⟨_, rfl⟩
    have bA := below_alloc w8 (.cells #[.slice nb n nd, .int .i64 s0.1.2] 30)
    have rA := heap_alloc_new w8 (.cells #[.slice nb n nd, .int .i64 s0.1.2] 30)
    rw [hNe] at rA
    rw [hNe]
    generalize w8.alloc (.cells #[.slice nb n nd, .int .i64 s0.1.2] 30) = v8 at *
    have hall := seqB B8.out bA
    have sN : grS S wc v8 N := Or.inr ⟨by have := B8.out.size; omega, blk_lt rA⟩
    have hg : SlS (grS S wc v8) v8 nb s0.1.1 nd := by
      obtain ⟨a2, c2, e2, hs2⟩ := OS.out.sl
      injection e2 with e2 e3 e4
      subst e2; subst e4
      exact (hs2.below bA).mono fun k hk => Or.inr ⟨hk.1, Nat.lt_of_lt_of_le hk.2 bA.size⟩
    have V8 : Hid (UBk w (grS S wc v8) B P N M s0.1 n nb nd s0 v8) := Lib.hid ⟨U0.out.grow hall (fun k hk => hk), sN, rA, hg, seqB B0.out hall, HIb.out⟩
    generalize grS S wc v8 = S8 at V8
    clear bA rA hNe hall sN hg NO OS B8 U0 B0
    have ST := Lib.hid (usteps_us V8.out.u)
    rw [HP.out, HR.out] at ST
    go_upto_region 18 with (go_at_call 8; refine ST.out.mono ?_; rintro e w9 ⟨rfl, hb9⟩; have V9 := Lib.hid (V8.out.below hb9); clear hb9)
    clear ST V8
    go_loopw [15] (fun iv wr => ∃ i : Nat, i ≤ p ∧ iv = .int .i64 (i : Int) ∧ Hid (UBk w S8 B P N M s0.1 n nb nd (bkN i s0) wr)) (fun iv _ => p - (intOf iv).toNat)
    case atStart => exact ⟨0, Nat.zero_le _, rfl, V9⟩
    case round =>
      obtain ⟨i, hi, rfl, VI⟩ := hrel
      clear V9
      by_cases hlt : i < p
      · have hi1 : (i : Int) < (p : Int) := by omega
        have BK := Lib.hid (ubk_back VI.out (bkN_ne s0 i (by rw [HP.out]; exact hlt)))
        go_wp2_with (go_at_call 11; refine BK.out.mono ?_; rintro e wa ⟨rfl, va⟩; have VA := Lib.hid va; clear va)
        go_roundw
        case rel => exact ⟨i + 1, by omega, by go_num, VA⟩
        case measure => (simp [intOf]; try omega)
      · have hi1 : ¬ (i : Int) < (p : Int) := by omega
        obtain rfl : i = p := by omega
        have hnil : (bkN i s0).2.1 = [] := List.length_eq_zero_iff.1 (by rw [bkN_len s0 i (by rw [HP.out]; omega), HP.out]; omega)
        have BK := Lib.hid (ubk_no VI.out hnil)
        clear hnil
        go_upto_region 25 with (go_at_call 11; refine BK.out.mono ?_; rintro e wa ⟨rfl, va⟩; have VA := Lib.hid va; clear va)
        clear BK VI
        go_loopw [16] (fun iv wr => ∃ k m : Nat, k + m = i ∧ iv = .int .i64 (k : Int) ∧ Hid (UBk w S8 B P N M s0.1 n nb nd (bkN m s0) wr)) (fun iv _ => i - (intOf iv).toNat)
        case atStart => exact ⟨0, i, by omega, rfl, VA⟩
        case round =>
          obtain ⟨k, m, hkm, rfl, VK⟩ := hrel
          clear VA
          by_cases hlt2 : k < i
          · have hk1 : (k : Int) < (i : Int) := by omega
            obtain ⟨m, rfl⟩ : ∃ m', m = m' + 1 := ⟨m - 1, by omega⟩
            have FW := Lib.hid (ubk_forth (s := bkN m s0) VK.out (bkN_ne s0 m (by rw [HP.out]; omega)))
            go_wp2_with (go_at_call 12; refine FW.out.mono ?_; rintro e wb ⟨rfl, vb⟩; have VB := Lib.hid vb; clear vb)
            go_roundw
            case rel => exact ⟨k + 1, m, by omega, by go_num, VB⟩
            case measure => (simp [intOf]; try omega)
          · have hk1 : ¬ (k : Int) < (i : Int) := by omega
            obtain rfl : m = 0 := by omega
            have V0 : Hid (UBk w S8 B P N M s0.1 n nb nd s0 wr) := VK
            have ST := Lib.hid (usteps_us V0.out.u)
            rw [HP.out, HR.out] at ST
            clear VK
            go_upto_region 30 with (go_at_call 8; refine ST.out.mono ?_; rintro e wb ⟨rfl, hb9⟩; have V1 := Lib.hid (V0.out.below hb9.drew); clear hb9)
            clear ST V0
            have NO := Lib.hid (unow_us V1.out.u HN.out)
            have p0 := cell_of_row _ _ 0 _ _ _ V1.out.c
            have p1 := cell_of_row _ _ 1 _ _ _ V1.out.c
            dsimp at p0 p1
            go_region_held3 (fun w' => w'.cell? ⟨N, 0, none⟩ = some (.slice nb n nd) ∧ w'.cell? ⟨N, 1, none⟩ = some (.int .i64 s0.1.2)) (first | (with_reducible exact ⟨p0, p1⟩) | (with_reducible exact ⟨r0, r1⟩) | (with_reducible exact ⟨t0, t1⟩) | exact ⟨p0, p1⟩ | go_keep)
              (first
                | (go_at_call 10
                   refine NO.out.mono ?_
                   rintro e we ⟨fb, fd, rfl, ho, hbe⟩
                   have V2 := Lib.hid (V1.out.below hbe)
                   have SG := Lib.hid (show Signs we fb s0.1.1 from by obtain ⟨a2, c2, e2, hs2⟩ := ho.sl; injection e2 with e2 e3 e4; subst e2; exact hs2.s)
                   have r0 := cell_of_row _ _ 0 _ _ _ V2.out.c
                   have r1 := cell_of_row _ _ 1 _ _ _ V2.out.c
                   dsimp at r0 r1
                   clear ho hbe)
                | (go_at_call 9
                   refine (r16_same s0.1.1 s0.1.1 fb nb n n fd nd s0.1.2 s0.1.2 _ HN.out HN.out (by omega) (by omega) SG.out V2.out.g.s rfl rfl).mono ?_
                   rintro e wf ⟨rfl, hbf⟩
                   have V3 := Lib.hid (V2.out.below hbf)
                   have t0 := cell_of_row _ _ 0 _ _ _ V3.out.c
                   have t1 := cell_of_row _ _ 1 _ _ _ V3.out.c
                   dsimp at t0 t1
                   clear hbf))
            clear p0 p1 r0 r1 t0 t1
            go_wp2
            go_ret
            exact ⟨by first | rfl | simp, V3.out.b⟩
end Go.Proofs.YtjgffedcbdnddaaDoor
