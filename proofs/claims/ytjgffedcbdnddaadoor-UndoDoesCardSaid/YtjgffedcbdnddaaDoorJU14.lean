/-
  Joined: Ud30 Ud32 Ud33 Ud34.
-/
import Derived.Test.YtjgffedcbdnddaaDoorJU08
import Derived.Test.YtjgffedcbdnddaaDoorJU12
import Derived.Test.YtjgffedcbdnddaaDoorJU13
set_option linter.unusedVariables false
set_option linter.unusedSimpArgs false
set_option maxRecDepth 100000
set_option linter.unusedVariables false
set_option linter.unusedSimpArgs false
namespace Go.Proofs.YtjgffedcbdnddaaDoor
open Go.RowKit
section
variable {S Sr Sc : Nat → Prop} {B P : Nat} {xL cL : List Sn} {xi ci M : Int} {xa ca pa la : Option Addr} {xn xc cn cc pn pc ln lc : Nat} {Ps Ls : List LnR} {w : World}
set_option maxHeartbeats 8000000 in
theorem does_forth_no (d : Ds S Sr B P M ((xL, xi), (xa, xc)) Ps [] pa pc la lc w) (j : Bool) (k : Int) (hk0 : ¬ k = 0) (hk1 : ¬ k = 1) (hxn : xL.length = xn) (hpn : Ps.length = pn) :
    Calls Tryd.prog 7 #[.pointer (some ⟨P, 0, none⟩), tV xa xn xc xi pa pn pc la 0 lc, .agg #[.int .i64 k, .slice ca cn cc, .int .i64 ci, .bool j], .int .i64 M] w (DoPo S Sr B P M w) := by
  obtain ⟨W, hW⟩ : ∃ W, ((w.alloc (.cells #[.slice xa xn xc, .int .i64 xi, .slice pa pn pc, .slice la 0 lc] 33)).alloc (.cells #[.int .i64 k, .slice ca cn cc, .int .i64 ci, .bool j] 35)).alloc (.cells #[.slice none 0 0, .int .i64 0, .slice none 0 0, .slice none 0 0] 33) = W := ⟨_, rfl⟩
  obtain ⟨r0, r1, r2, rb⟩ := three_new w _ _ _ _ _ _ hW
  obtain ⟨X, hX⟩ : ∃ X, w.heap.size = X := ⟨_, rfl⟩
  obtain ⟨Y, hY⟩ : ∃ Y, X + 1 = Y := ⟨_, rfl⟩
  obtain ⟨Z, hZ⟩ : ∃ Z, Y + 1 = Z := ⟨_, rfl⟩
  rw [hX] at r0
  rw [hX, hY] at r1
  rw [hX, show X + 2 = Z by omega] at r2
  have hd := d.grow rb
  have hZl := blk_lt r2
  have hBw := d.u.hB
  have sX : grS S w W X := Or.inr ⟨by omega, by omega⟩
  have sY : grS S w W Y := Or.inr ⟨by omega, by omega⟩
  have sZ : grS S w W Z := Or.inr ⟨by omega, by omega⟩
  have nZ : ∀ k, Sr k → k ≠ Z := fun k hk => by have := d.lr k hk; omega
  have kW : KpU B S w W := KpU.below_of rb hBw (fun k hk => (d.u.lt k hk).2)
  have hlen := d.len
  have sx := d.u.sx
  dsimp only at sx
  have RB_ : Hid (Calls Tryd.prog 19 #[.agg #[.slice xa xn xc, .int .i64 xi, .slice pa pn pc, .slice la 0 lc]] W fun e w' => e = .returned (.tuple #[.agg #[.slice xa xn xc, .int .i64 xi, .slice pa pn pc, .slice la 0 lc], .bool false]) ∧ Below W.heap.size W w') := Lib.hid rforth_no
  have HXN := Lib.hid hxn
  have HPN := Lib.hid hpn
  have R0 := Lib.hid r0; have R1 := Lib.hid r1; have R2 := Lib.hid r2; have RB := Lib.hid rb
  have HX := Lib.hid hX; have HY := Lib.hid hY; have HZ := Lib.hid hZ
  have D := Lib.hid hd; have SX := Lib.hid sX; have SY := Lib.hid sY; have SZ := Lib.hid sZ; have NZ := Lib.hid nZ; have KW := Lib.hid kW
  have HBw := Lib.hid hBw; have HL := Lib.hid hlen; have D0 := Lib.hid d
  have a0 := cell_of_row _ _ 0 _ _ _ R0.out
  have a1 := cell_of_row _ _ 1 _ _ _ R0.out
  have a2 := cell_of_row _ _ 2 _ _ _ R0.out
  have a3 := cell_of_row _ _ 3 _ _ _ R0.out
  have d0 := cell_of_row _ _ 0 _ _ _ R1.out
  have d1 := cell_of_row _ _ 1 _ _ _ R1.out
  have d2 := cell_of_row _ _ 2 _ _ _ R1.out
  have d3 := cell_of_row _ _ 3 _ _ _ R1.out
  have zf := fun i => frozen_of_row _ Z i _ _ R2.out
  have e0 := cell_of_row _ _ 0 _ _ _ R2.out
  have e1 := cell_of_row _ _ 1 _ _ _ R2.out
  have e2 := cell_of_row _ _ 2 _ _ _ R2.out
  have e3 := cell_of_row _ _ 3 _ _ _ R2.out
  dsimp at a0 a1 a2 a3 d0 d1 d2 d3 e0 e1 e2 e3
  have hkk0 : ¬ k = 0 := hk0
  have hkk1 : ¬ k = 1 := hk1
  clear d hd r0 r1 r2 rb sX sY sZ nZ kW hBw hZl hlen sx hxn hpn
  go_enter Tryd.func7, Tryd.ntmps7
  go_upto_region 1 with fail
  try rw [hW]
  clear hW hX hY hZ
  go_upto_region 10 with (go_at_call 19; refine RB_.out.mono ?_; rintro e w1 ⟨rfl, hb1⟩; have B1 := Lib.hid hb1; have R01 := Lib.hid (blk_below R0.out hb1); have R11 := Lib.hid (blk_below R1.out hb1); have R21 := Lib.hid (blk_below R2.out hb1); have a01 := cell_of_row _ _ 0 _ _ _ R01.out; have a11 := cell_of_row _ _ 1 _ _ _ R01.out; have a21 := cell_of_row _ _ 2 _ _ _ R01.out; have a31 := cell_of_row _ _ 3 _ _ _ R01.out; have d01 := cell_of_row _ _ 0 _ _ _ R11.out; have d11 := cell_of_row _ _ 1 _ _ _ R11.out; have d21 := cell_of_row _ _ 2 _ _ _ R11.out; have d31 := cell_of_row _ _ 3 _ _ _ R11.out; have zf1 := fun i => frozen_of_row _ Z i _ _ R21.out; have e01 := cell_of_row _ _ 0 _ _ _ R21.out; have e11 := cell_of_row _ _ 1 _ _ _ R21.out; have e21 := cell_of_row _ _ 2 _ _ _ R21.out; have e31 := cell_of_row _ _ 3 _ _ _ R21.out; dsimp at a01 a11 a21 a31 d01 d11 d21 d31 e01 e11 e21 e31; clear hb1)
  clear a0 a1 a2 a3 d0 d1 d2 d3 zf e0 e1 e2 e3 a01 a11 a21 a31 d01 d11 d21 d31 zf1 e01 e11 e21 e31
  obtain ⟨A, hA⟩ : ∃ A, w1.heap.size = A := ⟨_, rfl⟩
  have bA := below_alloc w1 (.cells #[.slice xa xn xc, .int .i64 xi, .slice pa pn pc, .slice la 0 lc] 33)
  have rA0 := heap_alloc_new w1 (.cells #[.slice xa xn xc, .int .i64 xi, .slice pa pn pc, .slice la 0 lc] 33)
  rw [hA] at rA0
  try rw [hA]
  have HA := Lib.hid hA
  generalize w1.alloc (.cells #[.slice xa xn xc, .int .i64 xi, .slice pa pn pc, .slice la 0 lc] 33) = w2 at *
  have BA := Lib.hid bA
  have hbA := rA0
  have hA2 := blk_lt rA0
  clear bA rA0
  have dB := (D.out.below B1.out).grow BA.out
  have sZA : grS (grS S w W) w1 w2 Z := Or.inl SZ.out
  have sXA : ∀ k, S k → grS (grS S w W) w1 w2 k := fun k hk => Or.inl (Or.inl hk)
  have KA : KpU B S w w2 := by
    have h1 : ∀ k, S k → k < w.heap.size := fun k hk => (D0.out.u.lt k hk).2
    have s1 := RB.out.size; have s2 := B1.out.size; have s3 := BA.out.size; have s4 := HBw.out
    exact (KW.out.trans (KpU.below_of B1.out (by omega) (fun k hk => by have := h1 k hk; omega))).trans (KpU.below_of BA.out (by omega) (fun k hk => by have := h1 k hk; omega))
  have HKA := Lib.hid KA
  have hZne : Z ≠ A := by have := blk_lt R21.out; omega
  have R2w : w2.heap[Z]? = some (.cells #[.slice none 0 0, .int .i64 0, .slice none 0 0, .slice none 0 0] 33 (0, 0)) := blk_below R21.out BA.out
  have R2W := Lib.hid R2w
  have HZA := Lib.hid (show A ≠ Z from fun e => hZne e.symm)
  have SZA := Lib.hid sZA
  have SXA := Lib.hid sXA
  have RAB := Lib.hid hbA
  have a0 := cell_of_row _ _ 0 _ _ _ hbA
  have a1 := cell_of_row _ _ 1 _ _ _ hbA
  have a2 := cell_of_row _ _ 2 _ _ _ hbA
  have a3 := cell_of_row _ _ 3 _ _ _ hbA
  dsimp at a0 a1 a2 a3
  have DB := Lib.hid dB
  have SAA := Lib.hid (show grS (grS S w W) w1 w2 A from Or.inr ⟨by omega, hA2⟩)
  have PB := Lib.hid (uforth_us_no (dB.u.below (Below.refl _ w2).drew))
  clear dB sZA sXA hbA KA hZne R2w
  go_region_held3 (fun w' => w'.cell? ⟨A, 0, none⟩ = some (.slice xa xn xc) ∧ w'.cell? ⟨A, 1, none⟩ = some (.int .i64 xi) ∧ w'.cell? ⟨A, 2, none⟩ = some (.slice pa pn pc) ∧ w'.cell? ⟨A, 3, none⟩ = some (.slice la 0 lc)) (first | exact ⟨a0, a1, a2, a3⟩ | exact ⟨f0, f1, f2, f3⟩ | exact ⟨(farT4 HZA.out).trans f0, (farT4 HZA.out).trans f1, (farT4 HZA.out).trans f2, (farT4 HZA.out).trans f3⟩ | go_keep)
    (first | (go_at_call 12
              refine PB.out.mono ?_
              rintro e w3 ⟨rfl, u3, k3⟩
              have U3 := Lib.hid u3
              have K3 := Lib.hid k3
              have hb3 := (k3.s A SAA.out).trans RAB.out
              have hz3 := (k3.s Z SZA.out).trans R2W.out
              have RZ3 := Lib.hid hz3
              have f0 := cell_of_row _ _ 0 _ _ _ hb3
              have f1 := cell_of_row _ _ 1 _ _ _ hb3
              have f2 := cell_of_row _ _ 2 _ _ _ hb3
              have f3 := cell_of_row _ _ 3 _ _ _ hb3
              have k0 := cell_of_row _ _ 0 _ _ _ hz3
              have k1 := cell_of_row _ _ 1 _ _ _ hz3
              have k2 := cell_of_row _ _ 2 _ _ _ hz3
              have k3' := cell_of_row _ _ 3 _ _ _ hz3
              have zf3 := fun i => frozen_of_row _ Z i _ _ hz3
              dsimp at f0 f1 f2 f3 k0 k1 k2 k3'
              clear u3 k3 hb3 hz3))
  go_wp2
  clear a0 a1 a2 a3 f0 f1 f2 f3 k0 k1 k2 k3' zf3
  generalize hWF : World.setCell _ _ _ = WF
  have d3 : Ds (grS (grS S w W) w1 w2) Sr B P M ((xL, xi), (xa, xc)) Ps [] pa pc la lc w3 :=
    ⟨U3.out, (DB.out.r.keep (w' := w2.drew) (Nat.le_refl _) (fun _ _ => rfl)).kept K3.out (fun k hk => (DB.out.sr k hk).2), fun k hk => ⟨Nat.lt_of_lt_of_le (DB.out.sr k hk).1 K3.out.b.size, (DB.out.sr k hk).2⟩⟩
  obtain ⟨d4, hb4, hF, hs4, hBe⟩ := d3.setT (X := Z) SZA.out (fun h => NZ.out Z h rfl) RZ3.out hWF
  have g0 := cell_of_row _ _ 0 _ _ _ hb4
  have g1 := cell_of_row _ _ 1 _ _ _ hb4
  have g2 := cell_of_row _ _ 2 _ _ _ hb4
  have g3 := cell_of_row _ _ 3 _ _ _ hb4
  dsimp at g0 g1 g2 g3
  refine bodyPost_ret (v := .tuple #[.agg #[.slice xa xn xc, .int .i64 xi, .slice pa pn pc, .slice la 0 lc], .bool true]) (by simp [results, Tryd.results7, go_sem, g0, g1, g2, g3]) rfl ?_
  refine ⟨((xL, xi), (xa, xc)), Ps, [], pa, pc, la, lc, by rw [HPN.out, ← HXN.out]; rfl, _, _, d4, SXA.out, fun k hk => Or.inr (Or.inl hk), ?_⟩
  refine ((HKA.out.trans (w1 := w2) (w' := w2.drew) ⟨(Below.refl B w2).drew, fun _ _ => rfl⟩).trans (K3.out.less SXA.out)).trans ⟨hBe, fun k hk => hF k (fun e => ?_)⟩
  have := (D0.out.u.lt k hk).2; have := HX.out; have := HY.out; have := HZ.out; omega
set_option maxHeartbeats 8000000 in
theorem does_forth_yes {r : LnR} {n rn p : Nat} (d : Ds S Sr B P M ((xL, xi), (xa, xc)) Ps (Ls ++ [r]) pa pc la lc w) (j : Bool) (k : Int) (hk0 : ¬ k = 0) (hk1 : ¬ k = 1) (hxn : xL.length = xn) (hpn : Ps.length = pn) (hln : Ls.length = n) (hrn : r.1.1.length = rn) (hpp : n + 1 = p) :
    Calls Tryd.prog 7 #[.pointer (some ⟨P, 0, none⟩), tV xa xn xc xi pa pn pc la p lc, .agg #[.int .i64 k, .slice ca cn cc, .int .i64 ci, .bool j], .int .i64 M] w (DoPo S Sr B P M w) := by
  obtain ⟨W, hW⟩ : ∃ W, ((w.alloc (.cells #[.slice xa xn xc, .int .i64 xi, .slice pa pn pc, .slice la p lc] 33)).alloc (.cells #[.int .i64 k, .slice ca cn cc, .int .i64 ci, .bool j] 35)).alloc (.cells #[.slice none 0 0, .int .i64 0, .slice none 0 0, .slice none 0 0] 33) = W := ⟨_, rfl⟩
  obtain ⟨r0, r1, r2, rb⟩ := three_new w _ _ _ _ _ _ hW
  obtain ⟨X, hX⟩ : ∃ X, w.heap.size = X := ⟨_, rfl⟩
  obtain ⟨Y, hY⟩ : ∃ Y, X + 1 = Y := ⟨_, rfl⟩
  obtain ⟨Z, hZ⟩ : ∃ Z, Y + 1 = Z := ⟨_, rfl⟩
  rw [hX] at r0
  rw [hX, hY] at r1
  rw [hX, show X + 2 = Z by omega] at r2
  have hd := d.grow rb
  have hZl := blk_lt r2
  have hBw := d.u.hB
  have sX : grS S w W X := Or.inr ⟨by omega, by omega⟩
  have sY : grS S w W Y := Or.inr ⟨by omega, by omega⟩
  have sZ : grS S w W Z := Or.inr ⟨by omega, by omega⟩
  have nZ : ∀ k, Sr k → k ≠ Z := fun k hk => by have := d.lr k hk; omega
  have kW : KpU B S w W := KpU.below_of rb hBw (fun k hk => (d.u.lt k hk).2)
  have hlen := d.len
  have sx := d.u.sx
  dsimp only at sx
  obtain ⟨⟨rL, ri⟩, ⟨ra, rc⟩⟩ := r
  dsimp only at hrn
  simp only [List.length_append, List.length_singleton] at hlen
  have RB_ : Hid (Calls Tryd.prog 19 #[.agg #[.slice xa xn xc, .int .i64 xi, .slice pa pn pc, .slice la p lc]] W fun e w' => ∃ pa' pc', e = .returned (.tuple #[.agg #[.slice ra rn rc, .int .i64 ri, .slice pa' (pn + 1) pc', .slice la n lc], .bool true]) ∧ LnsR (fun k => Sr k ∨ (W.heap.size ≤ k ∧ k < w'.heap.size)) w' pa' pc' (Ps ++ [((xL, xi), (xa, xc))]) ∧ LnsR (fun k => Sr k ∨ (W.heap.size ≤ k ∧ k < w'.heap.size)) w' la lc Ls ∧ Below W.heap.size W w') := Lib.hid (rforth_yes (r := ((rL, ri), (ra, rc))) hd.r.x hd.r.p hd.r.l hpn hln hd.lr hxn hrn (by omega) (by omega) hpp)
  have RR := Lib.hid (hd.r.l.sg ((rL, ri), (ra, rc)) (List.mem_append_right _ (List.mem_singleton_self _)))
  dsimp only at RR
  have HRN := Lib.hid hrn
  have HXN := Lib.hid hxn
  have HPN := Lib.hid hpn
  have HLN := Lib.hid hln
  have R0 := Lib.hid r0; have R1 := Lib.hid r1; have R2 := Lib.hid r2; have RB := Lib.hid rb
  have HX := Lib.hid hX; have HY := Lib.hid hY; have HZ := Lib.hid hZ
  have D := Lib.hid hd; have SX := Lib.hid sX; have SY := Lib.hid sY; have SZ := Lib.hid sZ; have NZ := Lib.hid nZ; have KW := Lib.hid kW
  have HBw := Lib.hid hBw; have HL := Lib.hid hlen; have D0 := Lib.hid d
  have a0 := cell_of_row _ _ 0 _ _ _ R0.out
  have a1 := cell_of_row _ _ 1 _ _ _ R0.out
  have a2 := cell_of_row _ _ 2 _ _ _ R0.out
  have a3 := cell_of_row _ _ 3 _ _ _ R0.out
  have d0 := cell_of_row _ _ 0 _ _ _ R1.out
  have d1 := cell_of_row _ _ 1 _ _ _ R1.out
  have d2 := cell_of_row _ _ 2 _ _ _ R1.out
  have d3 := cell_of_row _ _ 3 _ _ _ R1.out
  have zf := fun i => frozen_of_row _ Z i _ _ R2.out
  have e0 := cell_of_row _ _ 0 _ _ _ R2.out
  have e1 := cell_of_row _ _ 1 _ _ _ R2.out
  have e2 := cell_of_row _ _ 2 _ _ _ R2.out
  have e3 := cell_of_row _ _ 3 _ _ _ R2.out
  dsimp at a0 a1 a2 a3 d0 d1 d2 d3 e0 e1 e2 e3
  have hkk0 : ¬ k = 0 := hk0
  have hkk1 : ¬ k = 1 := hk1
  clear d hd r0 r1 r2 rb sX sY sZ nZ kW hBw hZl hlen sx hxn hpn hln hrn hpp
  go_enter Tryd.func7, Tryd.ntmps7
  go_upto_region 1 with fail
  try rw [hW]
  clear hW hX hY hZ
  go_upto_region 10 with (go_at_call 19; refine RB_.out.mono ?_; rintro e w1 ⟨pa', pc', rfl, hp', hl', hb1⟩; have HP' := Lib.hid hp'; have HL' := Lib.hid hl'; have B1 := Lib.hid hb1; have R01 := Lib.hid (blk_below R0.out hb1); have R11 := Lib.hid (blk_below R1.out hb1); have R21 := Lib.hid (blk_below R2.out hb1); have a01 := cell_of_row _ _ 0 _ _ _ R01.out; have a11 := cell_of_row _ _ 1 _ _ _ R01.out; have a21 := cell_of_row _ _ 2 _ _ _ R01.out; have a31 := cell_of_row _ _ 3 _ _ _ R01.out; have d01 := cell_of_row _ _ 0 _ _ _ R11.out; have d11 := cell_of_row _ _ 1 _ _ _ R11.out; have d21 := cell_of_row _ _ 2 _ _ _ R11.out; have d31 := cell_of_row _ _ 3 _ _ _ R11.out; have zf1 := fun i => frozen_of_row _ Z i _ _ R21.out; have e01 := cell_of_row _ _ 0 _ _ _ R21.out; have e11 := cell_of_row _ _ 1 _ _ _ R21.out; have e21 := cell_of_row _ _ 2 _ _ _ R21.out; have e31 := cell_of_row _ _ 3 _ _ _ R21.out; dsimp at a01 a11 a21 a31 d01 d11 d21 d31 e01 e11 e21 e31; clear hp' hl' hb1)
  clear a0 a1 a2 a3 d0 d1 d2 d3 zf e0 e1 e2 e3 a01 a11 a21 a31 d01 d11 d21 d31 zf1 e01 e11 e21 e31
  obtain ⟨A, hA⟩ : ∃ A, w1.heap.size = A := ⟨_, rfl⟩
  have bA := below_alloc w1 (.cells #[.slice ra rn rc, .int .i64 ri, .slice pa' (pn + 1) pc', .slice la n lc] 33)
  have rA0 := heap_alloc_new w1 (.cells #[.slice ra rn rc, .int .i64 ri, .slice pa' (pn + 1) pc', .slice la n lc] 33)
  rw [hA] at rA0
  try rw [hA]
  have HA := Lib.hid hA
  generalize w1.alloc (.cells #[.slice ra rn rc, .int .i64 ri, .slice pa' (pn + 1) pc', .slice la n lc] 33) = w2 at *
  have BA := Lib.hid bA
  have hbA := rA0
  have hA2 := blk_lt rA0
  clear bA rA0
  have uB : US (grS (grS (grS S w W) W w1) w1 w2) B P M (xL, xi) (Ps.map (·.1)) ((Ls ++ [((rL, ri), (ra, rc))]).map (·.1)) w2 := (D.out.u.grow B1.out (fun k hk => hk)).grow BA.out (fun k hk => hk)
  have rB : RfT (fun k => Sr k ∨ (W.heap.size ≤ k ∧ k < w1.heap.size)) w2 ((rL, ri), (ra, rc)) (Ps ++ [((xL, xi), (xa, xc))]) Ls pa' pc' la lc := by
    have h1 : ∀ k, (Sr k ∨ (W.heap.size ≤ k ∧ k < w1.heap.size)) → k < w1.heap.size := fun k hk => by
      have := B1.out.size; have := RB.out.size
      rcases hk with hk | hk
      · have := D0.out.lr k hk; omega
      · omega
    have h2 : RfT (fun k => Sr k ∨ (W.heap.size ≤ k ∧ k < w1.heap.size)) w1 ((rL, ri), (ra, rc)) (Ps ++ [((xL, xi), (xa, xc))]) Ls pa' pc' la lc := ⟨(RR.out.below B1.out).mono fun k hk => Or.inl hk, HP'.out, HL'.out⟩
    exact h2.keep BA.out.size (fun k hk => BA.out.block k (h1 k hk))
  have srB : ∀ k, (Sr k ∨ (W.heap.size ≤ k ∧ k < w1.heap.size)) → k < w2.heap.size ∧ (k < B ∨ grS (grS (grS S w W) W w1) w1 w2 k) := fun k hk => by
    have := B1.out.size; have := RB.out.size; have := BA.out.size
    rcases hk with hk | hk
    · have h1 := D.out.sr k hk
      exact ⟨by have := D0.out.lr k hk; omega, h1.2.imp id fun h => Or.inl (Or.inl h)⟩
    · exact ⟨by omega, Or.inr (Or.inl (Or.inr hk))⟩
  have sZA : grS (grS (grS S w W) W w1) w1 w2 Z := Or.inl (Or.inl SZ.out)
  have sXA : ∀ k, S k → grS (grS (grS S w W) W w1) w1 w2 k := fun k hk => Or.inl (Or.inl (Or.inl hk))
  have hZ2 := blk_lt R2.out
  have nZA : ¬ (Sr Z ∨ (W.heap.size ≤ Z ∧ Z < w1.heap.size)) := fun h => by
    rcases h with h | h
    · exact NZ.out Z h rfl
    · omega
  have KA : KpU B S w w2 := by
    have h1 : ∀ k, S k → k < w.heap.size := fun k hk => (D0.out.u.lt k hk).2
    have s1 := RB.out.size; have s2 := B1.out.size; have s3 := BA.out.size; have s4 := HBw.out
    exact (KW.out.trans (KpU.below_of B1.out (by omega) (fun k hk => by have := h1 k hk; omega))).trans (KpU.below_of BA.out (by omega) (fun k hk => by have := h1 k hk; omega))
  have HKA := Lib.hid KA
  have hZne : Z ≠ A := by have := blk_lt R21.out; omega
  have R2w : w2.heap[Z]? = some (.cells #[.slice none 0 0, .int .i64 0, .slice none 0 0, .slice none 0 0] 33 (0, 0)) := blk_below R21.out BA.out
  have R2W := Lib.hid R2w
  have HZA := Lib.hid (show A ≠ Z from fun e => hZne e.symm)
  have SZA := Lib.hid sZA
  have SXA := Lib.hid sXA
  have RAB := Lib.hid hbA
  have a0 := cell_of_row _ _ 0 _ _ _ hbA
  have a1 := cell_of_row _ _ 1 _ _ _ hbA
  have a2 := cell_of_row _ _ 2 _ _ _ hbA
  have a3 := cell_of_row _ _ 3 _ _ _ hbA
  dsimp at a0 a1 a2 a3
  have RBh := Lib.hid rB
  have SRB := Lib.hid srB
  have NZA := Lib.hid nZA
  have SAA := Lib.hid (show grS (grS (grS S w W) W w1) w1 w2 A from Or.inr ⟨by omega, hA2⟩)
  have uC := uB.below (Below.refl _ w2).drew
  rw [List.map_append, List.map_cons, List.map_nil] at uC
  have PB := Lib.hid (uforth_us uC)
  clear uB uC rB srB nZA sZA sXA hbA KA hZne R2w hZ2
  go_region_held3 (fun w' => w'.cell? ⟨A, 0, none⟩ = some (.slice ra rn rc) ∧ w'.cell? ⟨A, 1, none⟩ = some (.int .i64 ri) ∧ w'.cell? ⟨A, 2, none⟩ = some (.slice pa' (pn + 1) pc') ∧ w'.cell? ⟨A, 3, none⟩ = some (.slice la n lc)) (first | exact ⟨a0, a1, a2, a3⟩ | exact ⟨f0, f1, f2, f3⟩ | exact ⟨(farT4 HZA.out).trans f0, (farT4 HZA.out).trans f1, (farT4 HZA.out).trans f2, (farT4 HZA.out).trans f3⟩ | go_keep)
    (first | (go_at_call 12
              refine PB.out.mono ?_
              rintro e w3 ⟨rfl, u3, k3⟩
              have U3 := Lib.hid u3
              have K3 := Lib.hid k3
              have hb3 := (k3.s A SAA.out).trans RAB.out
              have hz3 := (k3.s Z SZA.out).trans R2W.out
              have RZ3 := Lib.hid hz3
              have f0 := cell_of_row _ _ 0 _ _ _ hb3
              have f1 := cell_of_row _ _ 1 _ _ _ hb3
              have f2 := cell_of_row _ _ 2 _ _ _ hb3
              have f3 := cell_of_row _ _ 3 _ _ _ hb3
              have k0 := cell_of_row _ _ 0 _ _ _ hz3
              have k1 := cell_of_row _ _ 1 _ _ _ hz3
              have k2 := cell_of_row _ _ 2 _ _ _ hz3
              have k3' := cell_of_row _ _ 3 _ _ _ hz3
              have zf3 := fun i => frozen_of_row _ Z i _ _ hz3
              dsimp at f0 f1 f2 f3 k0 k1 k2 k3'
              clear u3 k3 hb3 hz3))
  go_wp2
  clear a0 a1 a2 a3 f0 f1 f2 f3 k0 k1 k2 k3' zf3
  generalize hWF : World.setCell _ _ _ = WF
  have d3 : Ds (grS (grS (grS S w W) W w1) w1 w2) (fun k => Sr k ∨ (W.heap.size ≤ k ∧ k < w1.heap.size)) B P M ((rL, ri), (ra, rc)) (Ps ++ [((xL, xi), (xa, xc))]) Ls pa' pc' la lc w3 :=
    ⟨by have := U3.out; rw [List.map_append]; exact this, (RBh.out.keep (w' := w2.drew) (Nat.le_refl _) (fun _ _ => rfl)).kept K3.out (fun k hk => (SRB.out k hk).2), fun k hk => ⟨Nat.lt_of_lt_of_le (SRB.out k hk).1 K3.out.b.size, (SRB.out k hk).2⟩⟩
  obtain ⟨d4, hb4, hF, hs4, hBe⟩ := d3.setT (X := Z) SZA.out NZA.out RZ3.out hWF
  have g0 := cell_of_row _ _ 0 _ _ _ hb4
  have g1 := cell_of_row _ _ 1 _ _ _ hb4
  have g2 := cell_of_row _ _ 2 _ _ _ hb4
  have g3 := cell_of_row _ _ 3 _ _ _ hb4
  dsimp at g0 g1 g2 g3
  refine bodyPost_ret (v := .tuple #[.agg #[.slice ra rn rc, .int .i64 ri, .slice pa' (pn + 1) pc', .slice la n lc], .bool true]) (by simp [results, Tryd.results7, go_sem, g0, g1, g2, g3]) rfl ?_
  refine ⟨((rL, ri), (ra, rc)), (Ps ++ [((xL, xi), (xa, xc))]), Ls, pa', pc', la, lc, by rw [List.length_append, HPN.out, HLN.out, ← HRN.out]; rfl, _, _, d4, SXA.out, fun k hk => ?_, ?_⟩
  · rcases hk with hk | hk
    · exact Or.inr (Or.inl hk)
    · have := RB.out.size; exact Or.inr (Or.inr (by omega))
  refine ((HKA.out.trans (w1 := w2) (w' := w2.drew) ⟨(Below.refl B w2).drew, fun _ _ => rfl⟩).trans (K3.out.less SXA.out)).trans ⟨hBe, fun k hk => hF k (fun e => ?_)⟩
  have := (D0.out.u.lt k hk).2; have := HX.out; have := HY.out; have := HZ.out; omega
end
end Go.Proofs.YtjgffedcbdnddaaDoor
set_option linter.unusedVariables false
set_option linter.unusedSimpArgs false
namespace Go.Proofs.YtjgffedcbdnddaaDoor
open Go.RowKit
section
variable {S Sr Sc : Nat → Prop} {B P : Nat} {M : Int} {x : LnR} {Ps Ls : List LnR} {pa la : Option Addr} {pc lc xn pn ln cn : Nat} {w w' : World}
theorem does_any (d : Ds S Sr B P M x Ps Ls pa pc la lc w) (y : SgArg) (k ci : Int) (j : Bool) (hxn : x.1.1.length = xn) (hpn : Ps.length = pn) (hln : Ls.length = ln) (hcn : y.l.length = cn) (hc60 : cn ≤ 60) (hc : SlS Sc w y.a y.l y.c) (hSc : ∀ k, Sc k → k < B) :
    Calls Tryd.prog 7 #[.pointer (some ⟨P, 0, none⟩), tV x.2.1 xn x.2.2 x.1.2 pa pn pc la ln lc, .agg #[.int .i64 k, .slice y.a cn y.c, .int .i64 ci, .bool j], .int .i64 M] w (DoPo S Sr B P M w) := by
  obtain ⟨⟨xL, xi⟩, ⟨xa, xc⟩⟩ := x
  by_cases k0 : k = 0
  · subst k0
    cases hm : mayL y.l ci with
    | false => exact does_arg d j hxn hpn hln hcn hc60 hc hm
    | true => exact does_set d j hxn hpn hln hcn hc60 hc hSc hm
  by_cases k1 : k = 1
  · subst k1
    by_cases hP : Ps = []
    · subst hP
      subst hpn
      exact does_back_no d j hxn hln
    · obtain ⟨Ps, r, rfl⟩ : ∃ P' r, Ps = P' ++ [r] := ⟨_, _, (List.dropLast_concat_getLast hP).symm⟩
      rw [List.length_append] at hpn
      exact does_back_yes d j hxn rfl hln rfl hpn
  · by_cases hP : Ls = []
    · subst hP
      subst hln
      exact does_forth_no d j k k0 k1 hxn hpn
    · obtain ⟨Ls, r, rfl⟩ : ∃ P' r, Ls = P' ++ [r] := ⟨_, _, (List.dropLast_concat_getLast hP).symm⟩
      rw [List.length_append] at hln
      exact does_forth_yes d j k k0 k1 hxn hpn rfl rfl hln
theorem usteps_ds (d : Ds S Sr B P M x Ps Ls pa pc la lc w) (hpn : Ps.length = pn) (hln : Ls.length = ln) : Calls Tryd.prog 8 #[.pointer (some ⟨P, 0, none⟩)] w fun e w' => e = .returned (.tuple #[.int .i64 pn, .int .i64 ln]) ∧ Below w.heap.size w w' := by
  have h := usteps_us d.u
  rw [List.length_map, List.length_map, hpn, hln] at h
  exact h
/-- What the laws' loops carry: the document's box X beside the trail. -/
structure UL (w0 : World) (S Sr : Nat → Prop) (B P X : Nat) (M : Int) (x : LnR) (Ps Ls : List LnR) (pa : Option Addr) (pc : Nat) (la : Option Addr) (lc : Nat) (wr : World) : Prop where
  d : Ds S Sr B P M x Ps Ls pa pc la lc wr
  sX : S X
  nX : ¬ Sr X
  c : wr.heap[X]? = some (.cells #[.slice x.2.1 x.1.1.length x.2.2, .int .i64 x.1.2, .slice pa Ps.length pc, .slice la Ls.length lc] 33 (0, 0))
  b : Below w0.heap.size w0 wr
  hb : w0.heap.size ≤ B
theorem UL.below {w0 : World} {X : Nat} (h : UL w0 S Sr B P X M x Ps Ls pa pc la lc w) (hb : Below w.heap.size w w') : UL w0 S Sr B P X M x Ps Ls pa pc la lc w' :=
  ⟨h.d.below hb, h.sX, h.nX, blk_below h.c hb, seqB h.b hb, h.hb⟩
theorem UL.cells {w0 : World} {X : Nat} (h : UL w0 S Sr B P X M x Ps Ls pa pc la lc w) (hxn : x.1.1.length = xn) (hpn : Ps.length = pn) (hln : Ls.length = ln) : w.cell? ⟨X, 0, none⟩ = some (.slice x.2.1 xn x.2.2) ∧ w.cell? ⟨X, 1, none⟩ = some (.int .i64 x.1.2) ∧ w.cell? ⟨X, 2, none⟩ = some (.slice pa pn pc) ∧ w.cell? ⟨X, 3, none⟩ = some (.slice la ln lc) := by
  subst hxn; subst hpn; subst hln
  have y := fun i => cell_of_row _ _ i _ _ _ h.c
  exact ⟨y 0, y 1, y 2, y 3⟩
theorem ul_start {w0 w1 w2 w3 : World} (b1 : Below w0.heap.size w0 w1) (h1 : 1 ≤ M) (h2 : M ≤ 1000) (ht : TrS (fun _ _ => False) w1.heap.size P M ([], 0) [] [] (.slice none 0 0) (.slice none 0 0) (.slice none 0 0) w2) (b2 : Below w1.heap.size w1 w2) (h3 : w2.alloc (.cells #[.slice none 0 0, .int .i64 0, .slice none 0 0, .slice none 0 0] 33) = w3) :
    UL w0 (grS (fun _ => False) w2 w3) (fun _ => False) w1.heap.size P w2.heap.size M (([], 0), (none, 0)) [] [] none 0 none 0 w3 := by
  subst h3
  have b3 := below_alloc w2 (.cells #[.slice none 0 0, .int .i64 0, .slice none 0 0, .slice none 0 0] 33)
  refine ⟨⟨(us_start h1 h2 ht).grow b3 (fun k hk => hk), ⟨⟨fun i hi => absurd hi (Nat.not_lt_zero i), Nat.le_refl _, fun _ => rfl, fun ad e => (by cases e)⟩, LnsR.nil _ _, LnsR.nil _ _⟩, fun k hk => hk.elim⟩, Or.inr ⟨Nat.le_refl _, by simp⟩, id, heap_alloc_new _ _, seqB (seqB b1 b2) b3, b1.size⟩
/-- The call that comes. -/
theorem uc_at {w0 : World} {l : List UCall} {aL : Option Addr} (hL : UCallsIn w0 w0.heap.size aL l) (j : Nat) (hj : j < l.length) : ∃ (b off : Nat) (u : UCall), aL = some ⟨b, off, none⟩ ∧ (∀ wr, Below w0.heap.size w0 wr → wr.cell? ⟨b, off + j * 4, none⟩ = some (.int .i64 u.k) ∧ wr.cell? ⟨b, off + j * 4 + 1, none⟩ = some (.slice u.y.a u.y.l.length u.y.c) ∧ wr.cell? ⟨b, off + j * 4 + 2, none⟩ = some (.int .i64 u.x) ∧ wr.cell? ⟨b, off + j * 4 + 3, none⟩ = some (.bool u.j)) ∧ u.y.In w0 w0.heap.size := by
  obtain ⟨b, off, e, hlt, h0, h1, h2, h3, h4⟩ := hL j hj
  exact ⟨b, off, _, e, fun wr hb => ⟨(hb.cell (p := ⟨b, off + j * 4, none⟩) hlt).trans h0, (hb.cell (p := ⟨b, off + j * 4 + 1, none⟩) hlt).trans h1, (hb.cell (p := ⟨b, off + j * 4 + 2, none⟩) hlt).trans h2, (hb.cell (p := ⟨b, off + j * 4 + 3, none⟩) hlt).trans h3⟩, h4⟩
/-- The law's call of does: what it leaves beside the box X. -/
theorem ul_does {w0 : World} {X : Nat} (h : UL w0 S Sr B P X M x Ps Ls pa pc la lc w) (u : UCall) (hu : u.y.In w0 w0.heap.size) (hxn : x.1.1.length = xn) (hpn : Ps.length = pn) (hln : Ls.length = ln) (hcn : u.y.l.length = cn) (hc60 : cn ≤ 60) :
    Calls Tryd.prog 7 #[.pointer (some ⟨P, 0, none⟩), .agg #[.slice x.2.1 xn x.2.2, .int .i64 x.1.2, .slice pa pn pc, .slice la ln lc], .agg #[.int .i64 u.k, .slice u.y.a cn u.y.c, .int .i64 u.x, .bool u.j], .int .i64 M] w fun e w' => ∃ (x' : LnR) (Ps' Ls' : List LnR) (pa' : Option Addr) (pc' : Nat) (la' : Option Addr) (lc' : Nat), e = .returned (.tuple #[.agg #[.slice x'.2.1 x'.1.1.length x'.2.2, .int .i64 x'.1.2, .slice pa' Ps'.length pc', .slice la' Ls'.length lc'], .bool true]) ∧
      ∃ S' Sr' : Nat → Prop, Ds S' Sr' B P M x' Ps' Ls' pa' pc' la' lc' w' ∧ (∀ k, S k → S' k) ∧ (∀ k, S k → ¬ Sr k → ¬ Sr' k) ∧ (∀ k, S k → w'.heap[k]? = w.heap[k]?) ∧ Below w0.heap.size w0 w' := by
  have hs : SlS (fun k => k < w0.heap.size) w u.y.a u.y.l u.y.c := hu.1.keep h.b.size (fun k hk => h.b.block k hk)
  refine (does_any h.d u.y u.k u.x u.j hxn hpn hln hcn hc60 hs (fun k hk => Nat.lt_of_lt_of_le hk h.hb)).mono ?_
  rintro e w' ⟨x', Ps', Ls', pa', pc', la', lc', rfl, S', Sr', d', hS, hr, hk⟩
  refine ⟨x', Ps', Ls', pa', pc', la', lc', rfl, S', Sr', d', hS, fun k hk hn hX => ?_, hk.s, h.b.trans (hk.b.mono h.hb)⟩
  have hl := h.d.u.lt k hk
  rcases hr k hX with h1 | h1 | h1
  · omega
  · exact hn h1
  · omega
theorem UL.grow {w0 : World} {X : Nat} (h : UL w0 S Sr B P X M x Ps Ls pa pc la lc w) (hb : Below w.heap.size w w') : UL w0 (grS S w w') Sr B P X M x Ps Ls pa pc la lc w' :=
  ⟨h.d.grow hb, Or.inl h.sX, h.nX, blk_below h.c hb, seqB h.b hb, h.hb⟩
/-- The law's box takes the lines. -/
theorem ul_put {w0 : World} {X : Nat} {m0 m2 m3 k0 k2 k3 : Nat} {a0 a2 a3 : Option Addr} {i1 : Int} (d : Ds S Sr B P M x Ps Ls pa pc la lc w) (sX : S X) (nX : ¬ Sr X) (hc : w.heap[X]? = some (.cells #[.slice a0 m0 k0, .int .i64 i1, .slice a2 m2 k2, .slice a3 m3 k3] 33 (0, 0))) (hb : Below w0.heap.size w0 w) (hB : w0.heap.size ≤ B) {WF : World}
    (hWF : (((w.setCell ⟨X, 0, none⟩ (.slice x.2.1 x.1.1.length x.2.2)).setCell ⟨X, 1, none⟩ (.int .i64 x.1.2)).setCell ⟨X, 2, none⟩ (.slice pa Ps.length pc)).setCell ⟨X, 3, none⟩ (.slice la Ls.length lc) = WF) : UL w0 S Sr B P X M x Ps Ls pa pc la lc WF := by
  obtain ⟨d4, hb4, hF, hs4, hBe⟩ := d.setT sX nX hc hWF
  exact ⟨d4, sX, nX, hb4, hb.trans (hBe.mono hB), hB⟩
end
end Go.Proofs.YtjgffedcbdnddaaDoor
set_option linter.unusedVariables false
set_option linter.unusedSimpArgs false
namespace Go.Proofs.YtjgffedcbdnddaaDoor
open Go.RowKit
theorem undodoes_no (M : Int) (v : Value) (w : World) (hT : UT w) (hM : M < 1 ∨ 1000 < M) : Calls Tryd.prog 3 #[.int .i64 M, v] w fun x w' => x = .returned (.bool true) ∧ Below w.heap.size w w' := by
  have AW := Lib.hid (uawake_any w hT)
  have NW := Lib.hid fun w => unew_bad M w hM
  clear hT
  by_cases h1 : M < 1
  · clear hM
    go_enter Tryd.func3, Tryd.ntmps3
    go_wp2_with (first
      | (go_at_call 5; refine AW.out.mono ?_; rintro x w1 ⟨rfl, b1⟩)
      | (go_at_call 6; refine (NW.out _).mono ?_; rintro x w2 ⟨rfl, hw⟩; subst hw))
    go_ret
    exact ⟨rfl, b1⟩
  · have h2 : (1000 : Int) < M := by omega
    clear hM
    go_enter Tryd.func3, Tryd.ntmps3
    go_wp2_with (first
      | (go_at_call 5; refine AW.out.mono ?_; rintro x w1 ⟨rfl, b1⟩)
      | (go_at_call 6; refine (NW.out _).mono ?_; rintro x w2 ⟨rfl, hw⟩; subst hw))
    go_ret
    exact ⟨rfl, b1⟩
set_option maxHeartbeats 32000000 in
theorem undodoes_yes (M : Int) (l : List UCall) (aL : Option Addr) (cL : Nat) (w : World) (hT : UT w) (hl : l.length ≤ 9223372036854775807) (hL : UCallsIn w w.heap.size aL l) (hM : 1 ≤ M ∧ M ≤ 1000) : Calls Tryd.prog 3 #[.int .i64 M, .slice aL l.length cL] w fun x w' => x = .returned (.bool true) ∧ Below w.heap.size w w' := by
  have AW := Lib.hid (uawake_any w hT)
  have HL := Lib.hid hL
  clear hL hT
  have NW := Lib.hid fun w => unew_any M w hM.1 hM.2
  have h1 : ¬ M < 1 := by omega
  have h2 : ¬ 1000 < M := by omega
  have HM := Lib.hid hM
  clear hM
  go_enter Tryd.func3, Tryd.ntmps3
  go_upto_region 9 with (first
    | (go_at_call 5; refine AW.out.mono ?_; rintro x w1 ⟨rfl, b1⟩)
    | (go_at_call 6; refine (NW.out _).mono ?_; rintro x w2 ⟨P, rfl, ht, b2⟩))
  obtain ⟨w3, hw3⟩ : ∃ w3, w2.alloc (.cells #[.slice none 0 0, .int .i64 0, .slice none 0 0, .slice none 0 0] 33) = w3 := ⟨_, rfl⟩
  have I0 := Lib.hid (ul_start b1 HM.out.1 HM.out.2 ht b2 hw3)
  rw [hw3]
  obtain ⟨X, hX⟩ : ∃ X, w2.heap.size = X := ⟨_, rfl⟩
  obtain ⟨B, hB⟩ : ∃ B, w1.heap.size = B := ⟨_, rfl⟩
  rw [hX, hB] at I0
  try rw [hX]
  clear ht hw3 b1 b2 h1 h2 hX hB
  go_upto_region 10 with fail
  go_loopw [8] (fun iv wr => ∃ (j : Nat) (S Sr : Nat → Prop) (x : LnR) (Ps Ls : List LnR) (pa : Option Addr) (pc : Nat) (la : Option Addr) (lc : Nat), j ≤ l.length ∧ j ≤ 60 ∧ iv = .int .i64 (j : Int) ∧ Hid (UL w S Sr B P X M x Ps Ls pa pc la lc wr)) (fun iv _ => l.length - (intOf iv).toNat)
  case atStart => exact ⟨0, _, _, _, _, _, _, _, _, _, Nat.zero_le _, Nat.zero_le _, rfl, I0⟩
  case round =>
    obtain ⟨j, S, Sr, x, Ps, Ls, pa, pc, la, lc, hj, hj60, rfl, HI⟩ := hrel
    clear I0
    by_cases hlt : j < l.length
    rotate_left
    · have hj1 : ¬ (j : Int) < l.length := by omega
      go_wp2_with fail
      go_ret
      exact ⟨rfl, HI.out.b⟩
    by_cases h60 : j < 60
    rotate_left
    · have hj1 : (j : Int) < l.length := by omega
      have hj2 : ¬ (j : Int) < 60 := by omega
      go_wp2_with fail
      go_ret
      exact ⟨rfl, HI.out.b⟩
    have hj1 : (j : Int) < l.length := by omega
    have hj2 : (j : Int) < 60 := by omega
    have hj0 : (0 : Int) ≤ j := by omega
    obtain ⟨kb, off, u, rfl, hcc, hy⟩ := uc_at HL.out j hlt
    obtain ⟨cn, hcn⟩ : ∃ cn, u.y.l.length = cn := ⟨_, rfl⟩
    rw [hcn] at hcc
    have CC := Lib.hid hcc
    obtain ⟨c0, c1, c2, c3⟩ := hcc _ HI.out.b
    by_cases h100 : (60 : Int) < cn
    · go_wp2_with fail
      go_ret
      exact ⟨rfl, HI.out.b⟩
    have hy60 : cn ≤ 60 := by omega
    obtain ⟨xn, hxn⟩ : ∃ xn, x.1.1.length = xn := ⟨_, rfl⟩
    obtain ⟨pn, hpn⟩ : ∃ pn, Ps.length = pn := ⟨_, rfl⟩
    obtain ⟨ln, hln⟩ : ∃ ln, Ls.length = ln := ⟨_, rfl⟩
    obtain ⟨x0, x1, x2, x3⟩ := HI.out.cells hxn hpn hln
    have DZ := Lib.hid (ul_does (HI.out.below (Below.refl _ wr).drew) u hy hxn hpn hln hcn hy60)
    have bz := (below_alloc wr (.cells #[.slice none 0 0, .int .i64 0, .slice none 0 0, .slice none 0 0] 33)).drew
    have DY := Lib.hid (ul_does (HI.out.grow bz) u hy hxn hpn hln hcn hy60)
    have RZ := Lib.hid (show (wr.alloc (.cells #[.slice none 0 0, .int .i64 0, .slice none 0 0, .slice none 0 0] 33)).drew.heap[wr.heap.size]? = _ from heap_alloc_new wr (.cells #[.slice none 0 0, .int .i64 0, .slice none 0 0, .slice none 0 0] 33))
    have SXh := Lib.hid HI.out.sX; have NXh := Lib.hid HI.out.nX; have HCh := Lib.hid HI.out.c
    have HCz := Lib.hid (blk_below HI.out.c bz)
    have XL := Lib.hid (HI.out.d.u.lt X HI.out.sX)
    have NZh := Lib.hid (show ¬ Sr wr.heap.size from fun h => by have := HI.out.d.lr _ h; omega)
    have SZh : Hid (grS S wr (wr.alloc (.cells #[.slice none 0 0, .int .i64 0, .slice none 0 0, .slice none 0 0] 33)).drew wr.heap.size) := Lib.hid (Or.inr ⟨Nat.le_refl _, blk_lt RZ.out⟩)
    have SXz : Hid (grS S wr (wr.alloc (.cells #[.slice none 0 0, .int .i64 0, .slice none 0 0, .slice none 0 0] 33)).drew X) := Lib.hid (Or.inl HI.out.sX)
    obtain ⟨y0, y1, y2, y3⟩ := (HI.out.below bz).cells hxn hpn hln
    obtain ⟨b0, b1, b2, b3⟩ := hcc _ (seqB HI.out.b bz)
    have xx0 : wr.drew.cell? ⟨X, 0, none⟩ = _ := x0
    have xx1 : wr.drew.cell? ⟨X, 1, none⟩ = _ := x1
    have xx2 : wr.drew.cell? ⟨X, 2, none⟩ = _ := x2
    have xx3 : wr.drew.cell? ⟨X, 3, none⟩ = _ := x3
    have cc0 : wr.drew.cell? ⟨kb, off + j * 4, none⟩ = _ := c0
    have cc1 : wr.drew.cell? ⟨kb, off + j * 4 + 1, none⟩ = _ := c1
    have cc2 : wr.drew.cell? ⟨kb, off + j * 4 + 2, none⟩ = _ := c2
    have cc3 : wr.drew.cell? ⟨kb, off + j * 4 + 3, none⟩ = _ := c3
    have za0 := fun o => (below_alloc wr o).cell (p := ⟨X, 0, none⟩) (block_lt_of_cell x0) |>.trans x0
    have za1 := fun o => (below_alloc wr o).cell (p := ⟨X, 1, none⟩) (block_lt_of_cell x1) |>.trans x1
    have za2 := fun o => (below_alloc wr o).cell (p := ⟨X, 2, none⟩) (block_lt_of_cell x2) |>.trans x2
    have za3 := fun o => (below_alloc wr o).cell (p := ⟨X, 3, none⟩) (block_lt_of_cell x3) |>.trans x3
    have zb0 := fun o => (below_alloc wr o).cell (p := ⟨kb, off + j * 4, none⟩) (block_lt_of_cell c0) |>.trans c0
    have zb1 := fun o => (below_alloc wr o).cell (p := ⟨kb, off + j * 4 + 1, none⟩) (block_lt_of_cell c1) |>.trans c1
    have zb2 := fun o => (below_alloc wr o).cell (p := ⟨kb, off + j * 4 + 2, none⟩) (block_lt_of_cell c2) |>.trans c2
    have zb3 := fun o => (below_alloc wr o).cell (p := ⟨kb, off + j * 4 + 3, none⟩) (block_lt_of_cell c3) |>.trans c3
    have hkb0 : kb < wr.heap.size := block_lt_of_cell c0
    have HXZ := Lib.hid (show X ≠ wr.heap.size by have := XL.out; omega)
    have HKZ := Lib.hid (show kb ≠ wr.heap.size by omega)
    have HXN := Lib.hid hxn; have HPN := Lib.hid hpn; have HLN := Lib.hid hln
    have HIb := Lib.hid HI.out.hb
    clear hy hcc hcn hxn hpn hln HI bz hkb0
    go_upto_region 14 with fail
    go_region_held3 (fun w' => w'.cell? ⟨X, 0, none⟩ = some (.slice x.2.1 xn x.2.2) ∧ w'.cell? ⟨X, 1, none⟩ = some (.int .i64 x.1.2) ∧ w'.cell? ⟨X, 2, none⟩ = some (.slice pa pn pc) ∧ w'.cell? ⟨X, 3, none⟩ = some (.slice la ln lc) ∧ w'.cell? ⟨kb, off + j * 4, none⟩ = some (.int .i64 u.k) ∧ w'.cell? ⟨kb, off + j * 4 + 1, none⟩ = some (.slice u.y.a cn u.y.c) ∧ w'.cell? ⟨kb, off + j * 4 + 2, none⟩ = some (.int .i64 u.x) ∧ w'.cell? ⟨kb, off + j * 4 + 3, none⟩ = some (.bool u.j))
      (first | (with_reducible exact ⟨x0, x1, x2, x3, c0, c1, c2, c3⟩) | (with_reducible exact ⟨xx0, xx1, xx2, xx3, cc0, cc1, cc2, cc3⟩) | (with_reducible exact ⟨y0, y1, y2, y3, b0, b1, b2, b3⟩) | (with_reducible exact ⟨za0 _, za1 _, za2 _, za3 _, zb0 _, zb1 _, zb2 _, zb3 _⟩) | (with_reducible exact ⟨e0, e1, e2, e3, d0, d1, d2, d3⟩) | (with_reducible exact ⟨ea0 _, ea1 _, ea2 _, ea3 _, da0 _, da1 _, da2 _, da3 _⟩) | (with_reducible exact ⟨(farT4 HXZ.out).trans e0, (farT4 HXZ.out).trans e1, (farT4 HXZ.out).trans e2, (farT4 HXZ.out).trans e3, (farT4 HKZ.out).trans d0, (farT4 HKZ.out).trans d1, (farT4 HKZ.out).trans d2, (farT4 HKZ.out).trans d3⟩) | go_keep)
      (first
        | (go_at_call 7
           refine DZ.out.mono ?_
           rintro e w5 ⟨x', Ps', Ls', pa', pc', la', lc', rfl, S', Sr', d5, hS5, hN5, hK5, hb5⟩
           have hc5 := (hK5 X SXh.out).trans HCh.out
           have D5 := Lib.hid d5; have SX5 := Lib.hid (hS5 X SXh.out); have NX5 := Lib.hid (hN5 X SXh.out NXh.out)
           have way1 : True := trivial
           rw [HXN.out, HPN.out, HLN.out] at hc5
           have HC5 := Lib.hid hc5; have HB5 := Lib.hid hb5
           have e0 := cell_of_row _ _ 0 _ _ _ hc5
           have e1 := cell_of_row _ _ 1 _ _ _ hc5
           have e2 := cell_of_row _ _ 2 _ _ _ hc5
           have e3 := cell_of_row _ _ 3 _ _ _ hc5
           dsimp at e0 e1 e2 e3
           obtain ⟨d0, d1, d2, d3⟩ := CC.out _ hb5
           have ea0 := fun o => (below_alloc w5 o).cell (p := ⟨X, 0, none⟩) (block_lt_of_cell e0) |>.trans e0
           have ea1 := fun o => (below_alloc w5 o).cell (p := ⟨X, 1, none⟩) (block_lt_of_cell e1) |>.trans e1
           have ea2 := fun o => (below_alloc w5 o).cell (p := ⟨X, 2, none⟩) (block_lt_of_cell e2) |>.trans e2
           have ea3 := fun o => (below_alloc w5 o).cell (p := ⟨X, 3, none⟩) (block_lt_of_cell e3) |>.trans e3
           have da0 := fun o => (below_alloc w5 o).cell (p := ⟨kb, off + j * 4, none⟩) (block_lt_of_cell d0) |>.trans d0
           have da1 := fun o => (below_alloc w5 o).cell (p := ⟨kb, off + j * 4 + 1, none⟩) (block_lt_of_cell d1) |>.trans d1
           have da2 := fun o => (below_alloc w5 o).cell (p := ⟨kb, off + j * 4 + 2, none⟩) (block_lt_of_cell d2) |>.trans d2
           have da3 := fun o => (below_alloc w5 o).cell (p := ⟨kb, off + j * 4 + 3, none⟩) (block_lt_of_cell d3) |>.trans d3
           clear d5 hS5 hN5 hK5 hc5 hb5)
        | (go_at_call 7
           refine DY.out.mono ?_
           rintro e w5 ⟨x', Ps', Ls', pa', pc', la', lc', rfl, S', Sr', d5, hS5, hN5, hK5, hb5⟩
           have hc5 := (hK5 X SXz.out).trans HCz.out
           have rz5 := (hK5 _ SZh.out).trans RZ.out
           have D5 := Lib.hid d5; have SX5 := Lib.hid (hS5 X SXz.out); have NX5 := Lib.hid (hN5 X SXz.out NXh.out); have RZ5 := Lib.hid rz5; have SZ5 := Lib.hid (hS5 _ SZh.out); have NZ5 := Lib.hid (hN5 _ SZh.out NZh.out)
           have way2 : True := trivial
           rw [HXN.out, HPN.out, HLN.out] at hc5
           have HC5 := Lib.hid hc5; have HB5 := Lib.hid hb5
           have e0 := cell_of_row _ _ 0 _ _ _ hc5
           have e1 := cell_of_row _ _ 1 _ _ _ hc5
           have e2 := cell_of_row _ _ 2 _ _ _ hc5
           have e3 := cell_of_row _ _ 3 _ _ _ hc5
           dsimp at e0 e1 e2 e3
           obtain ⟨d0, d1, d2, d3⟩ := CC.out _ hb5
           have q0 := cell_of_row _ _ 0 _ _ _ rz5
           have q1 := cell_of_row _ _ 1 _ _ _ rz5
           have q2 := cell_of_row _ _ 2 _ _ _ rz5
           have q3 := cell_of_row _ _ 3 _ _ _ rz5
           have qf := fun i => frozen_of_row _ wr.heap.size i _ _ rz5
           dsimp at q0 q1 q2 q3
           clear d5 hS5 hN5 hK5 hc5 hb5 rz5))
    clear x0 x1 x2 x3 xx0 xx1 xx2 xx3 y0 y1 y2 y3 c0 c1 c2 c3 cc0 cc1 cc2 cc3 b0 b1 b2 b3 za0 za1 za2 za3 zb0 zb1 zb2 zb3 e0 e1 e2 e3 d0 d1 d2 d3 ea0 ea1 ea2 ea3 da0 da1 da2 da3
    obtain ⟨A, hA⟩ : ∃ A, w5.heap.size = A := ⟨_, rfl⟩
    have bA := below_alloc w5 (.cells #[.slice x'.2.1 x'.1.1.length x'.2.2, .int .i64 x'.1.2, .slice pa' Ps'.length pc', .slice la' Ls'.length lc'] 33)
    have rA := heap_alloc_new w5 (.cells #[.slice x'.2.1 x'.1.1.length x'.2.2, .int .i64 x'.1.2, .slice pa' Ps'.length pc', .slice la' Ls'.length lc'] 33)
    have hXA := Lib.hid (show X ≠ A by have := blk_lt HC5.out; omega)
    rw [hA] at rA
    rw [hA]
    clear hA
    generalize w5.alloc (.cells #[.slice x'.2.1 x'.1.1.length x'.2.2, .int .i64 x'.1.2, .slice pa' Ps'.length pc', .slice la' Ls'.length lc'] 33) = w6 at *
    have D6 := Lib.hid (D5.out.grow bA)
    have SX6 : Hid (grS S' w5 w6 X) := Lib.hid (Or.inl SX5.out)
    generalize grS S' w5 w6 = S6 at D6 SX6
    have HC6 := Lib.hid (blk_below HC5.out bA)
    have HB6 := Lib.hid (seqB HB5.out bA)
    have RA6 := Lib.hid rA
    clear bA rA way1
    rotate_left
    clear x0 x1 x2 x3 xx0 xx1 xx2 xx3 y0 y1 y2 y3 c0 c1 c2 c3 cc0 cc1 cc2 cc3 b0 b1 b2 b3 za0 za1 za2 za3 zb0 zb1 zb2 zb3 e0 e1 e2 e3 d0 d1 d2 d3 q0 q1 q2 q3 qf
    generalize hWA : World.setCell _ _ _ = w6
    obtain ⟨d6, ra6, hF6, hs6, hB6⟩ := D5.out.setT SZ5.out NZ5.out RZ5.out hWA
    have hXA := HXZ
    have HC6 := Lib.hid ((hF6 X HXZ.out).trans HC5.out)
    have HB6 := Lib.hid (HB5.out.trans (hB6.mono HIb.out))
    have RA6 := Lib.hid ra6
    have D6 := Lib.hid d6
    have SX6 := SX5
    clear d6 ra6 hF6 hs6 hB6 hWA RZ5 SZ5 NZ5 SZh SXz NZh RZ HXZ HKZ HCz DY way2
    generalize wr.heap.size = A at *
    all_goals
      have g0 := cell_of_row _ _ 0 _ _ _ RA6.out
      have g1 := cell_of_row _ _ 1 _ _ _ RA6.out
      have g2 := cell_of_row _ _ 2 _ _ _ RA6.out
      have g3 := cell_of_row _ _ 3 _ _ _ RA6.out
      have h0 := cell_of_row _ _ 0 _ _ _ HC6.out
      have h1 := cell_of_row _ _ 1 _ _ _ HC6.out
      have h2 := cell_of_row _ _ 2 _ _ _ HC6.out
      have h3 := cell_of_row _ _ 3 _ _ _ HC6.out
      have hf := fun i => frozen_of_row _ X i _ _ HC6.out
      dsimp at g0 g1 g2 g3 h0 h1 h2 h3
      go_upto_region 16 with fail
      clear g0 g1 g2 g3 h0 h1 h2 h3 hf
      generalize hW7 : World.setCell _ _ _ = w7
      have U7 := Lib.hid (ul_put D6.out SX6.out NX5.out HC6.out HB6.out HIb.out hW7)
      clear hW7 D5 D6 HC5 HC6 HB5 HB6 RA6 DZ
      go_upto_region 17 with (go_at_call 8; refine (usteps_ds U7.out.d rfl rfl).mono ?_; rintro e w8 ⟨rfl, hb8⟩; have U8 := Lib.hid (U7.out.below (hb8.drew)); clear hb8 U7)
      obtain ⟨p0, p1, p2, p3⟩ := U8.out.cells rfl rfl rfl
      have NO := Lib.hid (unow_us U8.out.d.u (n := x'.1.1.length) rfl)
      have hlx := Lib.hid U8.out.d.u.sx
      go_region_held3 (fun w' => w'.cell? ⟨X, 0, none⟩ = some (.slice x'.2.1 x'.1.1.length x'.2.2) ∧ w'.cell? ⟨X, 1, none⟩ = some (.int .i64 x'.1.2) ∧ w'.cell? ⟨X, 2, none⟩ = some (.slice pa' Ps'.length pc') ∧ w'.cell? ⟨X, 3, none⟩ = some (.slice la' Ls'.length lc')) (first | (with_reducible exact ⟨p0, p1, p2, p3⟩) | (with_reducible exact ⟨r0, r1, r2, r3⟩) | (with_reducible exact ⟨s0, s1, s2, s3⟩) | exact ⟨p0, p1, p2, p3⟩ | go_keep)
        (first
          | (go_at_call 10
             refine NO.out.mono ?_
             rintro e w9 ⟨nb, nd, rfl, ho, hb9⟩
             have U9 := Lib.hid (U8.out.below hb9)
             have SG := Lib.hid (show Signs w9 nb x'.1.1 from by obtain ⟨a2, c2, e2, hs2⟩ := ho.sl; injection e2 with e2 e3 e4; subst e2; exact hs2.s)
             obtain ⟨r0, r1, r2, r3⟩ := U9.out.cells rfl rfl rfl
             clear ho hb9)
          | (go_at_call 9
             refine (r16_same x'.1.1 x'.1.1 nb x'.2.1 _ _ nd x'.2.2 x'.1.2 x'.1.2 _ rfl rfl (by have := hlx.out; omega) (by have := hlx.out; omega) SG.out U9.out.d.r.x.s rfl rfl).mono ?_
             rintro e w10 ⟨rfl, hb10⟩
             have U10 := Lib.hid (U9.out.below hb10)
             obtain ⟨s0, s1, s2, s3⟩ := U10.out.cells rfl rfl rfl
             clear hb10))
      clear p0 p1 p2 p3 r0 r1 r2 r3 s0 s1 s2 s3
      go_wp2
      go_roundw
      case rel => exact ⟨j + 1, _, _, x', Ps', Ls', pa', pc', la', lc', by omega, by omega, by go_num, U10⟩
      case measure => (simp [intOf]; try omega)
theorem undodoes_any (M : Int) (l : List UCall) (aL : Option Addr) (cL : Nat) (w : World) (hT : UT w) (hl : l.length ≤ 9223372036854775807) (hL : UCallsIn w w.heap.size aL l) : Calls Tryd.prog 3 #[.int .i64 M, .slice aL l.length cL] w fun x w' => x = .returned (.bool true) ∧ Below w.heap.size w w' := by
  by_cases hM : 1 ≤ M ∧ M ≤ 1000
  · exact undodoes_yes M l aL cL w hT hl hL hM
  · exact undodoes_no M _ w hT (by omega)
end Go.Proofs.YtjgffedcbdnddaaDoor
set_option linter.unusedVariables false
set_option linter.unusedSimpArgs false
namespace Go.Proofs.YtjgffedcbdnddaaDoor
open Go.RowKit
abbrev StU := ULn × List ULn × List ULn
/-- A step back. -/
def bk1 (s : StU) : StU := if h : s.2.1 = [] then s else (s.2.1.getLast h, s.2.1.dropLast, s.2.2 ++ [s.1])
def bkN : Nat → StU → StU
  | 0, s => s
  | n + 1, s => bk1 (bkN n s)
theorem bk1_snoc (x y : ULn) (Ps Ls : List ULn) : bk1 (x, Ps ++ [y], Ls) = (y, Ps, Ls ++ [x]) := by
  unfold bk1
  rw [dif_neg (by simp)]
  simp
theorem st_snoc (s : StU) (h : s.2.1 ≠ []) : ∃ x Ps y Ls, s = (x, Ps ++ [y], Ls) := by
  obtain ⟨x, Ps, Ls⟩ := s
  exact ⟨x, _, _, Ls, by rw [List.dropLast_concat_getLast h]⟩
theorem bkN_len (s : StU) : ∀ i, i ≤ s.2.1.length → (bkN i s).2.1.length = s.2.1.length - i
  | 0, _ => rfl
  | i + 1, hi => by
    have ih := bkN_len s i (by omega)
    have hne : (bkN i s).2.1 ≠ [] := fun e => by rw [e] at ih; simp at ih; omega
    obtain ⟨x, Ps, y, Ls, e⟩ := st_snoc _ hne
    show (bk1 (bkN i s)).2.1.length = _
    rw [e] at ih ⊢
    rw [bk1_snoc]
    simp at ih ⊢
    omega
theorem bkN_ne (s : StU) (i : Nat) (hi : i < s.2.1.length) : (bkN i s).2.1 ≠ [] := fun e => by
  have := bkN_len s i (by omega)
  rw [e] at this; simp at this; omega
/-- A trail beside the line that was told. -/
structure UBk (w0 : World) (S : Nat → Prop) (B P N : Nat) (M : Int) (s0 : ULn) (n : Nat) (nb : Option Addr) (nd : Nat) (s : StU) (w : World) : Prop where
  u : US S B P M s.1 s.2.1 s.2.2 w
  sN : S N
  c : w.heap[N]? = some (.cells #[.slice nb n nd, .int .i64 s0.2] 30 (0, 0))
  g : SlS S w nb s0.1 nd
  b : Below w0.heap.size w0 w
  hb : w0.heap.size ≤ B
section
variable {w0 w w' : World} {S : Nat → Prop} {B P N n : Nat} {M : Int} {s0 : ULn} {nb : Option Addr} {nd : Nat} {s s' : StU}
theorem UBk.below (h : UBk w0 S B P N M s0 n nb nd s w) (hb : Below w.heap.size w w') : UBk w0 S B P N M s0 n nb nd s w' :=
  ⟨h.u.below hb, h.sN, blk_below h.c hb, h.g.below hb, seqB h.b hb, h.hb⟩
theorem UBk.op (h : UBk w0 S B P N M s0 n nb nd s w) (u : US S B P M s'.1 s'.2.1 s'.2.2 w') (k : KpU B S w w') : UBk w0 S B P N M s0 n nb nd s' w' :=
  ⟨u, h.sN, (k.s N h.sN).trans h.c, h.g.keep k.b.size k.s, h.b.trans (k.b.mono h.hb), h.hb⟩
theorem ubk_back (h : UBk w0 S B P N M s0 n nb nd s w) (hne : s.2.1 ≠ []) : Calls Tryd.prog 11 #[.pointer (some ⟨P, 0, none⟩)] w fun e w' => e = .returned (.bool true) ∧ UBk w0 S B P N M s0 n nb nd (bk1 s) w' := by
  obtain ⟨x, Ps, y, Ls, rfl⟩ := st_snoc s hne
  rw [bk1_snoc]
  refine (uback_us h.u).mono ?_
  rintro e w' ⟨rfl, u, k⟩
  exact ⟨rfl, h.op (s' := (y, Ps, Ls ++ [x])) u k⟩
theorem ubk_no (h : UBk w0 S B P N M s0 n nb nd s w) (hne : s.2.1 = []) : Calls Tryd.prog 11 #[.pointer (some ⟨P, 0, none⟩)] w fun e w' => e = .returned (.bool false) ∧ UBk w0 S B P N M s0 n nb nd s w' := by
  obtain ⟨x, Ps, Ls⟩ := s
  dsimp only at hne
  subst hne
  refine (uback_us_no h.u).mono ?_
  rintro e w' ⟨rfl, u, k⟩
  exact ⟨rfl, h.op (s' := (x, [], Ls)) u k⟩
theorem ubk_forth (h : UBk w0 S B P N M s0 n nb nd (bk1 s) w) (hne : s.2.1 ≠ []) : Calls Tryd.prog 12 #[.pointer (some ⟨P, 0, none⟩)] w fun e w' => e = .returned (.bool true) ∧ UBk w0 S B P N M s0 n nb nd s w' := by
  obtain ⟨x, Ps, y, Ls, rfl⟩ := st_snoc s hne
  rw [bk1_snoc] at h
  refine (uforth_us (y := x) h.u).mono ?_
  rintro e w' ⟨rfl, u, k⟩
  exact ⟨rfl, h.op (s' := (x, Ps ++ [y], Ls)) u k⟩
end
set_option maxHeartbeats 32000000 in
theorem undobounds_any (l : List UCall) (q : Int) (aL : Option Addr) (cL : Nat) (w : World) (hT : UT w) (hl : l.length ≤ 9223372036854775807) (hL : UCallsIn w w.heap.size aL l) (hq : 0 ≤ q ∧ q ≤ 255) : Calls Tryd.prog 4 #[.slice aL l.length cL, .int .u8 q] w fun x w' => x = .returned (.bool true) ∧ Below w.heap.size w w' := by
  have AW := Lib.hid (uawake_any w hT)
  have HL := Lib.hid hL
  clear hL hT
  go_enter Tryd.func4, Tryd.ntmps4
  go_upto_region 4 with (go_at_call 5; refine AW.out.mono ?_; rintro x w1 ⟨rfl, b1⟩)
  obtain ⟨M, hMq⟩ : ∃ M, q % 20 + 1 = M := ⟨_, rfl⟩
  have hM1 : 1 ≤ M := by omega
  have hM2 : M ≤ 20 := by omega
  rw [hMq]
  have HM := Lib.hid (And.intro hM1 hM2)
  have NW := Lib.hid fun w => unew_any M w hM1 (by omega)
  clear hMq hM1 hM2
  go_upto_region 8 with (go_at_call 6; refine (NW.out _).mono ?_; rintro x w2 ⟨P, rfl, ht, b2⟩)
  obtain ⟨w3, hw3⟩ : ∃ w3, w2.alloc (.cells #[.slice none 0 0, .int .i64 0, .slice none 0 0, .slice none 0 0] 33) = w3 := ⟨_, rfl⟩
  have I0 := Lib.hid (ul_start b1 HM.out.1 (by have := HM.out.2; omega) ht b2 hw3)
  rw [hw3]
  obtain ⟨X, hX⟩ : ∃ X, w2.heap.size = X := ⟨_, rfl⟩
  obtain ⟨B, hB⟩ : ∃ B, w1.heap.size = B := ⟨_, rfl⟩
  rw [hX, hB] at I0
  try rw [hX]
  clear ht hw3 b1 b2 hX hB
  go_upto_block 0 with fail
  go_cut [9, 10, 11] from 36 to 65 (fun s9 s10 s11 wx => ∃ (S Sr : Nat → Prop) (x : LnR) (Ps Ls : List LnR) (pa : Option Addr) (pc : Nat) (la : Option Addr) (lc : Nat), Hid (UL w S Sr B P X M x Ps Ls pa pc la lc wx))
  case first =>
    go_wp2_with fail
    go_loopw [9] (fun iv wr => ∃ (j : Nat) (S Sr : Nat → Prop) (x : LnR) (Ps Ls : List LnR) (pa : Option Addr) (pc : Nat) (la : Option Addr) (lc : Nat), j ≤ l.length ∧ j ≤ 40 ∧ iv = .int .i64 (j : Int) ∧ Hid (UL w S Sr B P X M x Ps Ls pa pc la lc wr)) (fun iv _ => l.length - (intOf iv).toNat)
    case atStart => exact ⟨0, _, _, _, _, _, _, _, _, _, Nat.zero_le _, Nat.zero_le _, rfl, I0⟩
    case round =>
      obtain ⟨j, S, Sr, x, Ps, Ls, pa, pc, la, lc, hj, hj60, rfl, HI⟩ := hrel
      clear I0
      by_cases hlt : j < l.length
      rotate_left
      · have hj1 : ¬ (j : Int) < l.length := by omega
        go_wp2_with fail
        go_meet
        exact ⟨S, Sr, x, Ps, Ls, pa, pc, la, lc, HI⟩
      by_cases h60 : j < 40
      rotate_left
      · have hj1 : (j : Int) < l.length := by omega
        have hj2 : ¬ (j : Int) < 40 := by omega
        go_wp2_with fail
        go_meet
        exact ⟨S, Sr, x, Ps, Ls, pa, pc, la, lc, HI⟩
      have hj1 : (j : Int) < l.length := by omega
      have hj2 : (j : Int) < 40 := by omega
      have hj0 : (0 : Int) ≤ j := by omega
      obtain ⟨kb, off, u, rfl, hcc, hy⟩ := uc_at HL.out j hlt
      obtain ⟨cn, hcn⟩ : ∃ cn, u.y.l.length = cn := ⟨_, rfl⟩
      rw [hcn] at hcc
      have CC := Lib.hid hcc
      obtain ⟨c0, c1, c2, c3⟩ := hcc _ HI.out.b
      by_cases h100 : (60 : Int) < cn
      · go_wp2_with fail
        go_ret
        exact ⟨rfl, HI.out.b⟩
      have hy60 : cn ≤ 60 := by omega
      obtain ⟨xn, hxn⟩ : ∃ xn, x.1.1.length = xn := ⟨_, rfl⟩
      obtain ⟨pn, hpn⟩ : ∃ pn, Ps.length = pn := ⟨_, rfl⟩
      obtain ⟨ln, hln⟩ : ∃ ln, Ls.length = ln := ⟨_, rfl⟩
      obtain ⟨x0, x1, x2, x3⟩ := HI.out.cells hxn hpn hln
      have DZ := Lib.hid (ul_does (HI.out.below (Below.refl _ wr).drew) u hy hxn hpn hln hcn hy60)
      have bz := (below_alloc wr (.cells #[.slice none 0 0, .int .i64 0, .slice none 0 0, .slice none 0 0] 33)).drew
      have DY := Lib.hid (ul_does (HI.out.grow bz) u hy hxn hpn hln hcn hy60)
      have RZ := Lib.hid (show (wr.alloc (.cells #[.slice none 0 0, .int .i64 0, .slice none 0 0, .slice none 0 0] 33)).drew.heap[wr.heap.size]? = _ from heap_alloc_new wr (.cells #[.slice none 0 0, .int .i64 0, .slice none 0 0, .slice none 0 0] 33))
      have SXh := Lib.hid HI.out.sX; have NXh := Lib.hid HI.out.nX; have HCh := Lib.hid HI.out.c
      have HCz := Lib.hid (blk_below HI.out.c bz)
      have XL := Lib.hid (HI.out.d.u.lt X HI.out.sX)
      have NZh := Lib.hid (show ¬ Sr wr.heap.size from fun h => by have := HI.out.d.lr _ h; omega)
      have SZh : Hid (grS S wr (wr.alloc (.cells #[.slice none 0 0, .int .i64 0, .slice none 0 0, .slice none 0 0] 33)).drew wr.heap.size) := Lib.hid (Or.inr ⟨Nat.le_refl _, blk_lt RZ.out⟩)
      have SXz : Hid (grS S wr (wr.alloc (.cells #[.slice none 0 0, .int .i64 0, .slice none 0 0, .slice none 0 0] 33)).drew X) := Lib.hid (Or.inl HI.out.sX)
      obtain ⟨y0, y1, y2, y3⟩ := (HI.out.below bz).cells hxn hpn hln
      obtain ⟨b0, b1, b2, b3⟩ := hcc _ (seqB HI.out.b bz)
      have xx0 : wr.drew.cell? ⟨X, 0, none⟩ = _ := x0
      have xx1 : wr.drew.cell? ⟨X, 1, none⟩ = _ := x1
      have xx2 : wr.drew.cell? ⟨X, 2, none⟩ = _ := x2
      have xx3 : wr.drew.cell? ⟨X, 3, none⟩ = _ := x3
      have cc0 : wr.drew.cell? ⟨kb, off + j * 4, none⟩ = _ := c0
      have cc1 : wr.drew.cell? ⟨kb, off + j * 4 + 1, none⟩ = _ := c1
      have cc2 : wr.drew.cell? ⟨kb, off + j * 4 + 2, none⟩ = _ := c2
      have cc3 : wr.drew.cell? ⟨kb, off + j * 4 + 3, none⟩ = _ := c3
      have za0 := fun o => (below_alloc wr o).cell (p := ⟨X, 0, none⟩) (block_lt_of_cell x0) |>.trans x0
      have za1 := fun o => (below_alloc wr o).cell (p := ⟨X, 1, none⟩) (block_lt_of_cell x1) |>.trans x1
      have za2 := fun o => (below_alloc wr o).cell (p := ⟨X, 2, none⟩) (block_lt_of_cell x2) |>.trans x2
      have za3 := fun o => (below_alloc wr o).cell (p := ⟨X, 3, none⟩) (block_lt_of_cell x3) |>.trans x3
      have zb0 := fun o => (below_alloc wr o).cell (p := ⟨kb, off + j * 4, none⟩) (block_lt_of_cell c0) |>.trans c0
      have zb1 := fun o => (below_alloc wr o).cell (p := ⟨kb, off + j * 4 + 1, none⟩) (block_lt_of_cell c1) |>.trans c1
      have zb2 := fun o => (below_alloc wr o).cell (p := ⟨kb, off + j * 4 + 2, none⟩) (block_lt_of_cell c2) |>.trans c2
      have zb3 := fun o => (below_alloc wr o).cell (p := ⟨kb, off + j * 4 + 3, none⟩) (block_lt_of_cell c3) |>.trans c3
      have hkb0 : kb < wr.heap.size := block_lt_of_cell c0
      have HXZ := Lib.hid (show X ≠ wr.heap.size by have := XL.out; omega)
      have HKZ := Lib.hid (show kb ≠ wr.heap.size by omega)
      have HXN := Lib.hid hxn; have HPN := Lib.hid hpn; have HLN := Lib.hid hln
      have HIb := Lib.hid HI.out.hb
      clear hy hcc hcn hxn hpn hln HI bz hkb0
      go_upto_region 13 with fail
      go_region_held3 (fun w' => w'.cell? ⟨X, 0, none⟩ = some (.slice x.2.1 xn x.2.2) ∧ w'.cell? ⟨X, 1, none⟩ = some (.int .i64 x.1.2) ∧ w'.cell? ⟨X, 2, none⟩ = some (.slice pa pn pc) ∧ w'.cell? ⟨X, 3, none⟩ = some (.slice la ln lc) ∧ w'.cell? ⟨kb, off + j * 4, none⟩ = some (.int .i64 u.k) ∧ w'.cell? ⟨kb, off + j * 4 + 1, none⟩ = some (.slice u.y.a cn u.y.c) ∧ w'.cell? ⟨kb, off + j * 4 + 2, none⟩ = some (.int .i64 u.x) ∧ w'.cell? ⟨kb, off + j * 4 + 3, none⟩ = some (.bool u.j))
        (first | (with_reducible exact ⟨x0, x1, x2, x3, c0, c1, c2, c3⟩) | (with_reducible exact ⟨xx0, xx1, xx2, xx3, cc0, cc1, cc2, cc3⟩) | (with_reducible exact ⟨y0, y1, y2, y3, b0, b1, b2, b3⟩) | (with_reducible exact ⟨za0 _, za1 _, za2 _, za3 _, zb0 _, zb1 _, zb2 _, zb3 _⟩) | (with_reducible exact ⟨e0, e1, e2, e3, d0, d1, d2, d3⟩) | (with_reducible exact ⟨ea0 _, ea1 _, ea2 _, ea3 _, da0 _, da1 _, da2 _, da3 _⟩) | (with_reducible exact ⟨(farT4 HXZ.out).trans e0, (farT4 HXZ.out).trans e1, (farT4 HXZ.out).trans e2, (farT4 HXZ.out).trans e3, (farT4 HKZ.out).trans d0, (farT4 HKZ.out).trans d1, (farT4 HKZ.out).trans d2, (farT4 HKZ.out).trans d3⟩) | go_keep)
        (first
          | (go_at_call 7
             refine DZ.out.mono ?_
             rintro e w5 ⟨x', Ps', Ls', pa', pc', la', lc', rfl, S', Sr', d5, hS5, hN5, hK5, hb5⟩
             have hc5 := (hK5 X SXh.out).trans HCh.out
             have D5 := Lib.hid d5; have SX5 := Lib.hid (hS5 X SXh.out); have NX5 := Lib.hid (hN5 X SXh.out NXh.out)
             have way1 : True := trivial
             rw [HXN.out, HPN.out, HLN.out] at hc5
             have HC5 := Lib.hid hc5; have HB5 := Lib.hid hb5
             have e0 := cell_of_row _ _ 0 _ _ _ hc5
             have e1 := cell_of_row _ _ 1 _ _ _ hc5
             have e2 := cell_of_row _ _ 2 _ _ _ hc5
             have e3 := cell_of_row _ _ 3 _ _ _ hc5
             dsimp at e0 e1 e2 e3
             obtain ⟨d0, d1, d2, d3⟩ := CC.out _ hb5
             have ea0 := fun o => (below_alloc w5 o).cell (p := ⟨X, 0, none⟩) (block_lt_of_cell e0) |>.trans e0
             have ea1 := fun o => (below_alloc w5 o).cell (p := ⟨X, 1, none⟩) (block_lt_of_cell e1) |>.trans e1
             have ea2 := fun o => (below_alloc w5 o).cell (p := ⟨X, 2, none⟩) (block_lt_of_cell e2) |>.trans e2
             have ea3 := fun o => (below_alloc w5 o).cell (p := ⟨X, 3, none⟩) (block_lt_of_cell e3) |>.trans e3
             have da0 := fun o => (below_alloc w5 o).cell (p := ⟨kb, off + j * 4, none⟩) (block_lt_of_cell d0) |>.trans d0
             have da1 := fun o => (below_alloc w5 o).cell (p := ⟨kb, off + j * 4 + 1, none⟩) (block_lt_of_cell d1) |>.trans d1
             have da2 := fun o => (below_alloc w5 o).cell (p := ⟨kb, off + j * 4 + 2, none⟩) (block_lt_of_cell d2) |>.trans d2
             have da3 := fun o => (below_alloc w5 o).cell (p := ⟨kb, off + j * 4 + 3, none⟩) (block_lt_of_cell d3) |>.trans d3
             clear d5 hS5 hN5 hK5 hc5 hb5)
          | (go_at_call 7
             refine DY.out.mono ?_
             rintro e w5 ⟨x', Ps', Ls', pa', pc', la', lc', rfl, S', Sr', d5, hS5, hN5, hK5, hb5⟩
             have hc5 := (hK5 X SXz.out).trans HCz.out
             have rz5 := (hK5 _ SZh.out).trans RZ.out
             have D5 := Lib.hid d5; have SX5 := Lib.hid (hS5 X SXz.out); have NX5 := Lib.hid (hN5 X SXz.out NXh.out); have RZ5 := Lib.hid rz5; have SZ5 := Lib.hid (hS5 _ SZh.out); have NZ5 := Lib.hid (hN5 _ SZh.out NZh.out)
             have way2 : True := trivial
             rw [HXN.out, HPN.out, HLN.out] at hc5
             have HC5 := Lib.hid hc5; have HB5 := Lib.hid hb5
             have e0 := cell_of_row _ _ 0 _ _ _ hc5
             have e1 := cell_of_row _ _ 1 _ _ _ hc5
             have e2 := cell_of_row _ _ 2 _ _ _ hc5
             have e3 := cell_of_row _ _ 3 _ _ _ hc5
             dsimp at e0 e1 e2 e3
             obtain ⟨d0, d1, d2, d3⟩ := CC.out _ hb5
             have q0 := cell_of_row _ _ 0 _ _ _ rz5
             have q1 := cell_of_row _ _ 1 _ _ _ rz5
             have q2 := cell_of_row _ _ 2 _ _ _ rz5
             have q3 := cell_of_row _ _ 3 _ _ _ rz5
             have qf := fun i => frozen_of_row _ wr.heap.size i _ _ rz5
             dsimp at q0 q1 q2 q3
             clear d5 hS5 hN5 hK5 hc5 hb5 rz5))
      clear x0 x1 x2 x3 xx0 xx1 xx2 xx3 y0 y1 y2 y3 c0 c1 c2 c3 cc0 cc1 cc2 cc3 b0 b1 b2 b3 za0 za1 za2 za3 zb0 zb1 zb2 zb3 e0 e1 e2 e3 d0 d1 d2 d3 ea0 ea1 ea2 ea3 da0 da1 da2 da3
      obtain ⟨A, hA⟩ : ∃ A, w5.heap.size = A := ⟨_, rfl⟩
      have bA := below_alloc w5 (.cells #[.slice x'.2.1 x'.1.1.length x'.2.2, .int .i64 x'.1.2, .slice pa' Ps'.length pc', .slice la' Ls'.length lc'] 33)
      have rA := heap_alloc_new w5 (.cells #[.slice x'.2.1 x'.1.1.length x'.2.2, .int .i64 x'.1.2, .slice pa' Ps'.length pc', .slice la' Ls'.length lc'] 33)
      have hXA := Lib.hid (show X ≠ A by have := blk_lt HC5.out; omega)
      rw [hA] at rA
      rw [hA]
      clear hA
      generalize w5.alloc (.cells #[.slice x'.2.1 x'.1.1.length x'.2.2, .int .i64 x'.1.2, .slice pa' Ps'.length pc', .slice la' Ls'.length lc'] 33) = w6 at *
      have D6 := Lib.hid (D5.out.grow bA)
      have SX6 : Hid (grS S' w5 w6 X) := Lib.hid (Or.inl SX5.out)
      generalize grS S' w5 w6 = S6 at D6 SX6
      have HC6 := Lib.hid (blk_below HC5.out bA)
      have HB6 := Lib.hid (seqB HB5.out bA)
      have RA6 := Lib.hid rA
      clear bA rA way1
      rotate_left
      clear x0 x1 x2 x3 xx0 xx1 xx2 xx3 y0 y1 y2 y3 c0 c1 c2 c3 cc0 cc1 cc2 cc3 b0 b1 b2 b3 za0 za1 za2 za3 zb0 zb1 zb2 zb3 e0 e1 e2 e3 d0 d1 d2 d3 q0 q1 q2 q3 qf
      generalize hWA : World.setCell _ _ _ = w6
      obtain ⟨d6, ra6, hF6, hs6, hB6⟩ := D5.out.setT SZ5.out NZ5.out RZ5.out hWA
      have hXA := HXZ
      have HC6 := Lib.hid ((hF6 X HXZ.out).trans HC5.out)
      have HB6 := Lib.hid (HB5.out.trans (hB6.mono HIb.out))
      have RA6 := Lib.hid ra6
      have D6 := Lib.hid d6
      have SX6 := SX5
      clear d6 ra6 hF6 hs6 hB6 hWA RZ5 SZ5 NZ5 SZh SXz NZh RZ HXZ HKZ HCz DY way2
      generalize wr.heap.size = A at *
      all_goals
        have g0 := cell_of_row _ _ 0 _ _ _ RA6.out
        have g1 := cell_of_row _ _ 1 _ _ _ RA6.out
        have g2 := cell_of_row _ _ 2 _ _ _ RA6.out
        have g3 := cell_of_row _ _ 3 _ _ _ RA6.out
        have h0 := cell_of_row _ _ 0 _ _ _ HC6.out
        have h1 := cell_of_row _ _ 1 _ _ _ HC6.out
        have h2 := cell_of_row _ _ 2 _ _ _ HC6.out
        have h3 := cell_of_row _ _ 3 _ _ _ HC6.out
        have hf := fun i => frozen_of_row _ X i _ _ HC6.out
        dsimp at g0 g1 g2 g3 h0 h1 h2 h3
        go_wp2
        clear g0 g1 g2 g3 h0 h1 h2 h3 hf
        generalize hW7 : World.setCell _ _ _ = w7
        have U7 := Lib.hid (ul_put D6.out SX6.out NX5.out HC6.out HB6.out HIb.out hW7)
        clear hW7 D5 D6 HC5 HC6 HB5 HB6 RA6 DZ
        go_roundw
        case rel => exact ⟨j + 1, _, _, x', Ps', Ls', pa', pc', la', lc', by omega, by omega, by go_num, U7⟩
        case measure => (simp [intOf]; try omega)
  case rest =>
    obtain ⟨S, Sr, x, Ps, Ls, pa, pc, la, lc, HI⟩ := hcut
    clear I0
    obtain ⟨s0, hs0⟩ : ∃ s0 : StU, (x.1, Ps.map (·.1), Ls.map (·.1)) = s0 := ⟨_, rfl⟩
    have hU : US S B P M s0.1 s0.2.1 s0.2.2 wc := by rw [← hs0]; exact HI.out.d.u
    have U0 := Lib.hid hU
    have B0 := Lib.hid HI.out.b
    have HIb := Lib.hid HI.out.hb
    clear hs0 HI hU
    obtain ⟨n, hn⟩ : ∃ n, s0.1.1.length = n := ⟨_, rfl⟩
    obtain ⟨p, hp⟩ : ∃ p, s0.2.1.length = p := ⟨_, rfl⟩
    obtain ⟨r, hr⟩ : ∃ r, s0.2.2.length = r := ⟨_, rfl⟩
    have HN := Lib.hid hn; have HP := Lib.hid hp; have HR := Lib.hid hr
    have hpM : ¬ M < (p : Int) := by have := U0.out.len; omega
    have hn60 : n ≤ 60 := by have := U0.out.sx; omega
    have hp1000 : p ≤ 1000 := by have := HM.out; omega
    have NO := Lib.hid (unow_us U0.out hn)
    clear hn hp hr
    go_upto_region 16 with (go_at_call 10; refine NO.out.mono ?_; rintro e w8 ⟨nb, nd, rfl, ho, hb8⟩; have OS := Lib.hid ho; have B8 := Lib.hid hb8; clear ho hb8)
    obtain ⟨N, hNe⟩ : ∃ N, w8.heap.size = N := ⟨_, rfl⟩
    have bA := below_alloc w8 (.cells #[.slice nb n nd, .int .i64 s0.1.2] 30)
    have rA := heap_alloc_new w8 (.cells #[.slice nb n nd, .int .i64 s0.1.2] 30)
    rw [hNe] at rA
    rw [hNe]
    generalize w8.alloc (.cells #[.slice nb n nd, .int .i64 s0.1.2] 30) = v8 at *
    have hall := seqB B8.out bA
    have sN : grS S wc v8 N := Or.inr ⟨by have := B8.out.size; omega, blk_lt rA⟩
    have hg : SlS (grS S wc v8) v8 nb s0.1.1 nd := by
      obtain ⟨a2, c2, e2, hs2⟩ := OS.out.sl
      injection e2 with e2 e3 e4
      subst e2; subst e4
      exact (hs2.below bA).mono fun k hk => Or.inr ⟨hk.1, Nat.lt_of_lt_of_le hk.2 bA.size⟩
    have V8 : Hid (UBk w (grS S wc v8) B P N M s0.1 n nb nd s0 v8) := Lib.hid ⟨U0.out.grow hall (fun k hk => hk), sN, rA, hg, seqB B0.out hall, HIb.out⟩
    generalize grS S wc v8 = S8 at V8
    clear bA rA hNe hall sN hg NO OS B8 U0 B0
    have ST := Lib.hid (usteps_us V8.out.u)
    rw [HP.out, HR.out] at ST
    go_upto_region 18 with (go_at_call 8; refine ST.out.mono ?_; rintro e w9 ⟨rfl, hb9⟩; have V9 := Lib.hid (V8.out.below hb9); clear hb9)
    clear ST V8
    go_loopw [15] (fun iv wr => ∃ i : Nat, i ≤ p ∧ iv = .int .i64 (i : Int) ∧ Hid (UBk w S8 B P N M s0.1 n nb nd (bkN i s0) wr)) (fun iv _ => p - (intOf iv).toNat)
    case atStart => exact ⟨0, Nat.zero_le _, rfl, V9⟩
    case round =>
      obtain ⟨i, hi, rfl, VI⟩ := hrel
      clear V9
      by_cases hlt : i < p
      · have hi1 : (i : Int) < (p : Int) := by omega
        have BK := Lib.hid (ubk_back VI.out (bkN_ne s0 i (by rw [HP.out]; exact hlt)))
        go_wp2_with (go_at_call 11; refine BK.out.mono ?_; rintro e wa ⟨rfl, va⟩; have VA := Lib.hid va; clear va)
        go_roundw
        case rel => exact ⟨i + 1, by omega, by go_num, VA⟩
        case measure => (simp [intOf]; try omega)
      · have hi1 : ¬ (i : Int) < (p : Int) := by omega
        obtain rfl : i = p := by omega
        have hnil : (bkN i s0).2.1 = [] := List.length_eq_zero_iff.1 (by rw [bkN_len s0 i (by rw [HP.out]; omega), HP.out]; omega)
        have BK := Lib.hid (ubk_no VI.out hnil)
        clear hnil
        go_upto_region 25 with (go_at_call 11; refine BK.out.mono ?_; rintro e wa ⟨rfl, va⟩; have VA := Lib.hid va; clear va)
        clear BK VI
        go_loopw [16] (fun iv wr => ∃ k m : Nat, k + m = i ∧ iv = .int .i64 (k : Int) ∧ Hid (UBk w S8 B P N M s0.1 n nb nd (bkN m s0) wr)) (fun iv _ => i - (intOf iv).toNat)
        case atStart => exact ⟨0, i, by omega, rfl, VA⟩
        case round =>
          obtain ⟨k, m, hkm, rfl, VK⟩ := hrel
          clear VA
          by_cases hlt2 : k < i
          · have hk1 : (k : Int) < (i : Int) := by omega
            obtain ⟨m, rfl⟩ : ∃ m', m = m' + 1 := ⟨m - 1, by omega⟩
            have FW := Lib.hid (ubk_forth (s := bkN m s0) VK.out (bkN_ne s0 m (by rw [HP.out]; omega)))
            go_wp2_with (go_at_call 12; refine FW.out.mono ?_; rintro e wb ⟨rfl, vb⟩; have VB := Lib.hid vb; clear vb)
            go_roundw
            case rel => exact ⟨k + 1, m, by omega, by go_num, VB⟩
            case measure => (simp [intOf]; try omega)
          · have hk1 : ¬ (k : Int) < (i : Int) := by omega
            obtain rfl : m = 0 := by omega
            have V0 : Hid (UBk w S8 B P N M s0.1 n nb nd s0 wr) := VK
            have ST := Lib.hid (usteps_us V0.out.u)
            rw [HP.out, HR.out] at ST
            clear VK
            go_upto_region 30 with (go_at_call 8; refine ST.out.mono ?_; rintro e wb ⟨rfl, hb9⟩; have V1 := Lib.hid (V0.out.below hb9.drew); clear hb9)
            clear ST V0
            have NO := Lib.hid (unow_us V1.out.u HN.out)
            have p0 := cell_of_row _ _ 0 _ _ _ V1.out.c
            have p1 := cell_of_row _ _ 1 _ _ _ V1.out.c
            dsimp at p0 p1
            go_region_held3 (fun w' => w'.cell? ⟨N, 0, none⟩ = some (.slice nb n nd) ∧ w'.cell? ⟨N, 1, none⟩ = some (.int .i64 s0.1.2)) (first | (with_reducible exact ⟨p0, p1⟩) | (with_reducible exact ⟨r0, r1⟩) | (with_reducible exact ⟨t0, t1⟩) | exact ⟨p0, p1⟩ | go_keep)
              (first
                | (go_at_call 10
                   refine NO.out.mono ?_
                   rintro e we ⟨fb, fd, rfl, ho, hbe⟩
                   have V2 := Lib.hid (V1.out.below hbe)
                   have SG := Lib.hid (show Signs we fb s0.1.1 from by obtain ⟨a2, c2, e2, hs2⟩ := ho.sl; injection e2 with e2 e3 e4; subst e2; exact hs2.s)
                   have r0 := cell_of_row _ _ 0 _ _ _ V2.out.c
                   have r1 := cell_of_row _ _ 1 _ _ _ V2.out.c
                   dsimp at r0 r1
                   clear ho hbe)
                | (go_at_call 9
                   refine (r16_same s0.1.1 s0.1.1 fb nb n n fd nd s0.1.2 s0.1.2 _ HN.out HN.out (by omega) (by omega) SG.out V2.out.g.s rfl rfl).mono ?_
                   rintro e wf ⟨rfl, hbf⟩
                   have V3 := Lib.hid (V2.out.below hbf)
                   have t0 := cell_of_row _ _ 0 _ _ _ V3.out.c
                   have t1 := cell_of_row _ _ 1 _ _ _ V3.out.c
                   dsimp at t0 t1
                   clear hbf))
            clear p0 p1 r0 r1 t0 t1
            go_wp2
            go_ret
            exact ⟨by first | rfl | simp, V3.out.b⟩
end Go.Proofs.YtjgffedcbdnddaaDoor
