/-
  Joined: Ud29 Ud30 Ud32.
-/
import Derived.Test.YtjgffedcbdnddaaDoorJU08
import Derived.Test.YtjgffedcbdnddaaDoorJU14
import Derived.Test.YtjgffedcbdnddaaDoorJU15
set_option linter.unusedVariables false
set_option linter.unusedSimpArgs false
set_option maxRecDepth 100000
set_option linter.unusedVariables false
set_option linter.unusedSimpArgs false
namespace Go.Proofs.YtjgffedcbdnddaaDoor
open Go.RowKit
section
variable {S Sr Sc : Nat → Prop} {B P : Nat} {xL cL : List Sn} {xi ci M : Int} {xa ca pa la : Option Addr} {xn xc cn cc pn pc ln lc : Nat} {Ps Ls : List LnR} {w : World}
theorem us_setT {Sr : Nat → Prop} {x : ULn} {xr : LnR} {Pu Lu : List ULn} (d : US S B P M x Pu Lu w) (r : RfT Sr w xr Ps Ls pa pc la lc) {X : Nat} {a0 a2 a3 b0 b2 b3 : Option Addr} {m0 m2 m3 n0 n2 n3 k0 k2 k3 j0 j2 j3 : Nat} {i1 j1 : Int} {t : TypeId} (hS : S X) (hr : ¬ Sr X) (hX : w.heap[X]? = some (.cells #[.slice a0 m0 k0, .int .i64 i1, .slice a2 m2 k2, .slice a3 m3 k3] t (0, 0))) {WF : World}
    (hWF : (((w.setCell ⟨X, 0, none⟩ (.slice b0 n0 j0)).setCell ⟨X, 1, none⟩ (.int .i64 j1)).setCell ⟨X, 2, none⟩ (.slice b2 n2 j2)).setCell ⟨X, 3, none⟩ (.slice b3 n3 j3) = WF) : US S B P M x Pu Lu WF ∧ RfT Sr WF xr Ps Ls pa pc la lc ∧ WF.heap[X]? = some (.cells #[.slice b0 n0 j0, .int .i64 j1, .slice b2 n2 j2, .slice b3 n3 j3] t (0, 0)) ∧ (∀ k, k ≠ X → WF.heap[k]? = w.heap[k]?) ∧ WF.heap.size = w.heap.size ∧ Below B w WF := by
  subst hWF
  have h1 := blk_set hX 0 (.slice b0 n0 j0)
  have h2 := blk_set h1 1 (.int .i64 j1)
  have h3 := blk_set h2 2 (.slice b2 n2 j2)
  have h4 := blk_set h3 3 (.slice b3 n3 j3)
  have hs : ((((w.setCell ⟨X, 0, none⟩ (.slice b0 n0 j0)).setCell ⟨X, 1, none⟩ (.int .i64 j1)).setCell ⟨X, 2, none⟩ (.slice b2 n2 j2)).setCell ⟨X, 3, none⟩ (.slice b3 n3 j3)).heap.size = w.heap.size := by simp
  have hF : ∀ k, k ≠ X → ((((w.setCell ⟨X, 0, none⟩ (.slice b0 n0 j0)).setCell ⟨X, 1, none⟩ (.int .i64 j1)).setCell ⟨X, 2, none⟩ (.slice b2 n2 j2)).setCell ⟨X, 3, none⟩ (.slice b3 n3 j3)).heap[k]? = w.heap[k]? := fun k hk => by
    rw [Below.heap_setCell _ _ _ _ hk, Below.heap_setCell _ _ _ _ hk, Below.heap_setCell _ _ _ _ hk, Below.heap_setCell _ _ _ _ hk]
  have hBX : B ≤ X := (d.lt X hS).1
  exact ⟨(((d.setX hS hX (no2_T _ _ _ _ _ _ _ _ _ _) 0 _).setX hS h1 (no2_T _ _ _ _ _ _ _ _ _ _) 1 _).setX hS h2 (no2_T _ _ _ _ _ _ _ _ _ _) 2 _).setX hS h3 (no2_T _ _ _ _ _ _ _ _ _ _) 3 _, r.keep (Nat.le_of_eq hs.symm) (fun k hk => hF k (fun e => hr (e ▸ hk))), h4, hF, hs, (((((Below.refl B w).setCell (p := ⟨X, 0, none⟩) hBX _).setCell (p := ⟨X, 1, none⟩) hBX _).setCell (p := ⟨X, 2, none⟩) hBX _).setCell (p := ⟨X, 3, none⟩) hBX _)⟩
set_option maxHeartbeats 8000000 in
theorem does_back_no (d : Ds S Sr B P M ((xL, xi), (xa, xc)) [] Ls pa pc la lc w) (j : Bool) (hxn : xL.length = xn) (hln : Ls.length = ln) :
    Calls Tryd.prog 7 #[.pointer (some ⟨P, 0, none⟩), tV xa xn xc xi pa 0 pc la ln lc, .agg #[.int .i64 1, .slice ca cn cc, .int .i64 ci, .bool j], .int .i64 M] w (DoPo S Sr B P M w) := by
  obtain ⟨W, hW⟩ : ∃ W, ((w.alloc (.cells #[.slice xa xn xc, .int .i64 xi, .slice pa 0 pc, .slice la ln lc] 33)).alloc (.cells #[.int .i64 1, .slice ca cn cc, .int .i64 ci, .bool j] 35)).alloc (.cells #[.slice none 0 0, .int .i64 0, .slice none 0 0, .slice none 0 0] 33) = W := ⟨_, rfl⟩
  obtain ⟨r0, r1, r2, rb⟩ := three_new w _ _ _ _ _ _ hW
  obtain ⟨X, hX⟩ : ∃ X, w.heap.size = X := ⟨_, rfl⟩
  obtain ⟨Y, hY⟩ : ∃ Y, X + 1 = Y := ⟨_, rfl⟩
  obtain ⟨Z, hZ⟩ : ∃ Z, Y + 1 = Z := ⟨_, rfl⟩
  rw [hX] at r0
  rw [hX, hY] at r1
  rw [hX, show X + 2 = Z by omega] at r2
  have hd := d.grow rb
  have hZl := blk_lt r2
  have hBw := d.u.hB
  have sX : grS S w W X := Or.inr ⟨by omega, by omega⟩
  have sY : grS S w W Y := Or.inr ⟨by omega, by omega⟩
  have sZ : grS S w W Z := Or.inr ⟨by omega, by omega⟩
  have nZ : ∀ k, Sr k → k ≠ Z := fun k hk => by have := d.lr k hk; omega
  have kW : KpU B S w W := KpU.below_of rb hBw (fun k hk => (d.u.lt k hk).2)
  have hlen := d.len
  have sx := d.u.sx
  dsimp only at sx
  have RB_ : Hid (Calls Tryd.prog 18 #[.agg #[.slice xa xn xc, .int .i64 xi, .slice pa 0 pc, .slice la ln lc]] W fun e w' => e = .returned (.tuple #[.agg #[.slice xa xn xc, .int .i64 xi, .slice pa 0 pc, .slice la ln lc], .bool false]) ∧ Below W.heap.size W w') := Lib.hid rback_no
  have HXN := Lib.hid hxn
  have HLN := Lib.hid hln
  have R0 := Lib.hid r0; have R1 := Lib.hid r1; have R2 := Lib.hid r2; have RB := Lib.hid rb
  have HX := Lib.hid hX; have HY := Lib.hid hY; have HZ := Lib.hid hZ
  have D := Lib.hid hd; have SX := Lib.hid sX; have SY := Lib.hid sY; have SZ := Lib.hid sZ; have NZ := Lib.hid nZ; have KW := Lib.hid kW
  have HBw := Lib.hid hBw; have HL := Lib.hid hlen; have D0 := Lib.hid d
  have a0 := cell_of_row _ _ 0 _ _ _ R0.out
  have a1 := cell_of_row _ _ 1 _ _ _ R0.out
  have a2 := cell_of_row _ _ 2 _ _ _ R0.out
  have a3 := cell_of_row _ _ 3 _ _ _ R0.out
  have d0 := cell_of_row _ _ 0 _ _ _ R1.out
  have d1 := cell_of_row _ _ 1 _ _ _ R1.out
  have d2 := cell_of_row _ _ 2 _ _ _ R1.out
  have d3 := cell_of_row _ _ 3 _ _ _ R1.out
  have zf := fun i => frozen_of_row _ Z i _ _ R2.out
  have e0 := cell_of_row _ _ 0 _ _ _ R2.out
  have e1 := cell_of_row _ _ 1 _ _ _ R2.out
  have e2 := cell_of_row _ _ 2 _ _ _ R2.out
  have e3 := cell_of_row _ _ 3 _ _ _ R2.out
  dsimp at a0 a1 a2 a3 d0 d1 d2 d3 e0 e1 e2 e3
  clear d hd r0 r1 r2 rb sX sY sZ nZ kW hBw hZl hlen sx hxn hln
  go_enter Tryd.func7, Tryd.ntmps7
  go_upto_region 1 with fail
  try rw [hW]
  clear hW hX hY hZ
  go_upto_region 8 with (go_at_call 18; refine RB_.out.mono ?_; rintro e w1 ⟨rfl, hb1⟩; have B1 := Lib.hid hb1; have R01 := Lib.hid (blk_below R0.out hb1); have R11 := Lib.hid (blk_below R1.out hb1); have R21 := Lib.hid (blk_below R2.out hb1); have a01 := cell_of_row _ _ 0 _ _ _ R01.out; have a11 := cell_of_row _ _ 1 _ _ _ R01.out; have a21 := cell_of_row _ _ 2 _ _ _ R01.out; have a31 := cell_of_row _ _ 3 _ _ _ R01.out; have d01 := cell_of_row _ _ 0 _ _ _ R11.out; have d11 := cell_of_row _ _ 1 _ _ _ R11.out; have d21 := cell_of_row _ _ 2 _ _ _ R11.out; have d31 := cell_of_row _ _ 3 _ _ _ R11.out; have zf1 := fun i => frozen_of_row _ Z i _ _ R21.out; have e01 := cell_of_row _ _ 0 _ _ _ R21.out; have e11 := cell_of_row _ _ 1 _ _ _ R21.out; have e21 := cell_of_row _ _ 2 _ _ _ R21.out; have e31 := cell_of_row _ _ 3 _ _ _ R21.out; dsimp at a01 a11 a21 a31 d01 d11 d21 d31 e01 e11 e21 e31; clear hb1)
  clear a0 a1 a2 a3 d0 d1 d2 d3 zf e0 e1 e2 e3 a01 a11 a21 a31 d01 d11 d21 d31 zf1 e01 e11 e21 e31
  obtain ⟨A, hA⟩ : ∃ A, w1.heap.size = A := ⟨_, rfl⟩
  have bA := below_alloc w1 (.cells #[.slice xa xn xc, .int .i64 xi, .slice pa 0 pc, .slice la ln lc] 33)
  have rA0 := heap_alloc_new w1 (.cells #[.slice xa xn xc, .int .i64 xi, .slice pa 0 pc, .slice la ln lc] 33)
  rw [hA] at rA0
  try rw [hA]
  have HA := Lib.hid hA
  generalize w1.alloc (.cells #[.slice xa xn xc, .int .i64 xi, .slice pa 0 pc, .slice la ln lc] 33) = w2 at *
  have BA := Lib.hid bA
  have hbA := rA0
  have hA2 := blk_lt rA0
  clear bA rA0
  have dB := (D.out.below B1.out).grow BA.out
  have sZA : grS (grS S w W) w1 w2 Z := Or.inl SZ.out
  have sXA : ∀ k, S k → grS (grS S w W) w1 w2 k := fun k hk => Or.inl (Or.inl hk)
  have KA : KpU B S w w2 := by
    have h1 : ∀ k, S k → k < w.heap.size := fun k hk => (D0.out.u.lt k hk).2
    have s1 := RB.out.size; have s2 := B1.out.size; have s3 := BA.out.size; have s4 := HBw.out
    exact (KW.out.trans (KpU.below_of B1.out (by omega) (fun k hk => by have := h1 k hk; omega))).trans (KpU.below_of BA.out (by omega) (fun k hk => by have := h1 k hk; omega))
  have HKA := Lib.hid KA
  have hZne : Z ≠ A := by have := blk_lt R21.out; omega
  have R2w : w2.heap[Z]? = some (.cells #[.slice none 0 0, .int .i64 0, .slice none 0 0, .slice none 0 0] 33 (0, 0)) := blk_below R21.out BA.out
  have R2W := Lib.hid R2w
  have HZA := Lib.hid (show A ≠ Z from fun e => hZne e.symm)
  have SZA := Lib.hid sZA
  have SXA := Lib.hid sXA
  have RAB := Lib.hid hbA
  have a0 := cell_of_row _ _ 0 _ _ _ hbA
  have a1 := cell_of_row _ _ 1 _ _ _ hbA
  have a2 := cell_of_row _ _ 2 _ _ _ hbA
  have a3 := cell_of_row _ _ 3 _ _ _ hbA
  dsimp at a0 a1 a2 a3
  have DB := Lib.hid dB
  have SAA := Lib.hid (show grS (grS S w W) w1 w2 A from Or.inr ⟨by omega, hA2⟩)
  have PB := Lib.hid (uback_us_no (dB.u.below (Below.refl _ w2).drew))
  clear dB sZA sXA hbA KA hZne R2w
  go_region_held3 (fun w' => w'.cell? ⟨A, 0, none⟩ = some (.slice xa xn xc) ∧ w'.cell? ⟨A, 1, none⟩ = some (.int .i64 xi) ∧ w'.cell? ⟨A, 2, none⟩ = some (.slice pa 0 pc) ∧ w'.cell? ⟨A, 3, none⟩ = some (.slice la ln lc)) (first | exact ⟨a0, a1, a2, a3⟩ | exact ⟨f0, f1, f2, f3⟩ | exact ⟨(farT4 HZA.out).trans f0, (farT4 HZA.out).trans f1, (farT4 HZA.out).trans f2, (farT4 HZA.out).trans f3⟩ | go_keep)
    (first | (go_at_call 11
              refine PB.out.mono ?_
              rintro e w3 ⟨rfl, u3, k3⟩
              have U3 := Lib.hid u3
              have K3 := Lib.hid k3
              have hb3 := (k3.s A SAA.out).trans RAB.out
              have hz3 := (k3.s Z SZA.out).trans R2W.out
              have RZ3 := Lib.hid hz3
              have f0 := cell_of_row _ _ 0 _ _ _ hb3
              have f1 := cell_of_row _ _ 1 _ _ _ hb3
              have f2 := cell_of_row _ _ 2 _ _ _ hb3
              have f3 := cell_of_row _ _ 3 _ _ _ hb3
              have k0 := cell_of_row _ _ 0 _ _ _ hz3
              have k1 := cell_of_row _ _ 1 _ _ _ hz3
              have k2 := cell_of_row _ _ 2 _ _ _ hz3
              have k3' := cell_of_row _ _ 3 _ _ _ hz3
              have zf3 := fun i => frozen_of_row _ Z i _ _ hz3
              dsimp at f0 f1 f2 f3 k0 k1 k2 k3'
              clear u3 k3 hb3 hz3))
  go_wp2
  clear a0 a1 a2 a3 f0 f1 f2 f3 k0 k1 k2 k3' zf3
  generalize hWF : World.setCell _ _ _ = WF
  have d3 : Ds (grS (grS S w W) w1 w2) Sr B P M ((xL, xi), (xa, xc)) [] Ls pa pc la lc w3 :=
    ⟨U3.out, (DB.out.r.keep (w' := w2.drew) (Nat.le_refl _) (fun _ _ => rfl)).kept K3.out (fun k hk => (DB.out.sr k hk).2), fun k hk => ⟨Nat.lt_of_lt_of_le (DB.out.sr k hk).1 K3.out.b.size, (DB.out.sr k hk).2⟩⟩
  obtain ⟨d4, hb4, hF, hs4, hBe⟩ := d3.setT (X := Z) SZA.out (fun h => NZ.out Z h rfl) RZ3.out hWF
  have g0 := cell_of_row _ _ 0 _ _ _ hb4
  have g1 := cell_of_row _ _ 1 _ _ _ hb4
  have g2 := cell_of_row _ _ 2 _ _ _ hb4
  have g3 := cell_of_row _ _ 3 _ _ _ hb4
  dsimp at g0 g1 g2 g3
  refine bodyPost_ret (v := .tuple #[.agg #[.slice xa xn xc, .int .i64 xi, .slice pa 0 pc, .slice la ln lc], .bool true]) (by simp [results, Tryd.results7, go_sem, g0, g1, g2, g3]) rfl ?_
  refine ⟨((xL, xi), (xa, xc)), [], Ls, pa, pc, la, lc, by rw [HLN.out, ← HXN.out]; rfl, _, _, d4, SXA.out, fun k hk => Or.inr (Or.inl hk), ?_⟩
  refine ((HKA.out.trans (w1 := w2) (w' := w2.drew) ⟨(Below.refl B w2).drew, fun _ _ => rfl⟩).trans (K3.out.less SXA.out)).trans ⟨hBe, fun k hk => hF k (fun e => ?_)⟩
  have := (D0.out.u.lt k hk).2; have := HX.out; have := HY.out; have := HZ.out; omega
set_option maxHeartbeats 8000000 in
theorem does_back_yes {r : LnR} {n rn p : Nat} (d : Ds S Sr B P M ((xL, xi), (xa, xc)) (Ps ++ [r]) Ls pa pc la lc w) (j : Bool) (hxn : xL.length = xn) (hpn : Ps.length = n) (hln : Ls.length = ln) (hrn : r.1.1.length = rn) (hpp : n + 1 = p) :
    Calls Tryd.prog 7 #[.pointer (some ⟨P, 0, none⟩), tV xa xn xc xi pa p pc la ln lc, .agg #[.int .i64 1, .slice ca cn cc, .int .i64 ci, .bool j], .int .i64 M] w (DoPo S Sr B P M w) := by
  obtain ⟨W, hW⟩ : ∃ W, ((w.alloc (.cells #[.slice xa xn xc, .int .i64 xi, .slice pa p pc, .slice la ln lc] 33)).alloc (.cells #[.int .i64 1, .slice ca cn cc, .int .i64 ci, .bool j] 35)).alloc (.cells #[.slice none 0 0, .int .i64 0, .slice none 0 0, .slice none 0 0] 33) = W := ⟨_, rfl⟩
  obtain ⟨r0, r1, r2, rb⟩ := three_new w _ _ _ _ _ _ hW
  obtain ⟨X, hX⟩ : ∃ X, w.heap.size = X := ⟨_, rfl⟩
  obtain ⟨Y, hY⟩ : ∃ Y, X + 1 = Y := ⟨_, rfl⟩
  obtain ⟨Z, hZ⟩ : ∃ Z, Y + 1 = Z := ⟨_, rfl⟩
  rw [hX] at r0
  rw [hX, hY] at r1
  rw [hX, show X + 2 = Z by omega] at r2
  have hd := d.grow rb
  have hZl := blk_lt r2
  have hBw := d.u.hB
  have sX : grS S w W X := Or.inr ⟨by omega, by omega⟩
  have sY : grS S w W Y := Or.inr ⟨by omega, by omega⟩
  have sZ : grS S w W Z := Or.inr ⟨by omega, by omega⟩
  have nZ : ∀ k, Sr k → k ≠ Z := fun k hk => by have := d.lr k hk; omega
  have kW : KpU B S w W := KpU.below_of rb hBw (fun k hk => (d.u.lt k hk).2)
  have hlen := d.len
  have sx := d.u.sx
  dsimp only at sx
  obtain ⟨⟨rL, ri⟩, ⟨ra, rc⟩⟩ := r
  dsimp only at hrn
  simp only [List.length_append, List.length_singleton] at hlen
  have RB_ : Hid (Calls Tryd.prog 18 #[.agg #[.slice xa xn xc, .int .i64 xi, .slice pa p pc, .slice la ln lc]] W fun e w' => ∃ la' lc', e = .returned (.tuple #[.agg #[.slice ra rn rc, .int .i64 ri, .slice pa n pc, .slice la' (ln + 1) lc'], .bool true]) ∧ LnsR (fun k => Sr k ∨ (W.heap.size ≤ k ∧ k < w'.heap.size)) w' pa pc Ps ∧ LnsR (fun k => Sr k ∨ (W.heap.size ≤ k ∧ k < w'.heap.size)) w' la' lc' (Ls ++ [((xL, xi), (xa, xc))]) ∧ Below W.heap.size W w') := Lib.hid (rback_yes (r := ((rL, ri), (ra, rc))) hd.r.x hd.r.p hd.r.l hpn hln hd.lr hxn hrn (by omega) (by omega) hpp)
  have RR := Lib.hid (hd.r.p.sg ((rL, ri), (ra, rc)) (List.mem_append_right _ (List.mem_singleton_self _)))
  dsimp only at RR
  have HRN := Lib.hid hrn
  have HXN := Lib.hid hxn
  have HPN := Lib.hid hpn
  have HLN := Lib.hid hln
  have R0 := Lib.hid r0; have R1 := Lib.hid r1; have R2 := Lib.hid r2; have RB := Lib.hid rb
  have HX := Lib.hid hX; have HY := Lib.hid hY; have HZ := Lib.hid hZ
  have D := Lib.hid hd; have SX := Lib.hid sX; have SY := Lib.hid sY; have SZ := Lib.hid sZ; have NZ := Lib.hid nZ; have KW := Lib.hid kW
  have HBw := Lib.hid hBw; have HL := Lib.hid hlen; have D0 := Lib.hid d
  have a0 := cell_of_row _ _ 0 _ _ _ R0.out
  have a1 := cell_of_row _ _ 1 _ _ _ R0.out
  have a2 := cell_of_row _ _ 2 _ _ _ R0.out
  have a3 := cell_of_row _ _ 3 _ _ _ R0.out
  have d0 := cell_of_row _ _ 0 _ _ _ R1.out
  have d1 := cell_of_row _ _ 1 _ _ _ R1.out
  have d2 := cell_of_row _ _ 2 _ _ _ R1.out
  have d3 := cell_of_row _ _ 3 _ _ _ R1.out
  have zf := fun i => frozen_of_row _ Z i _ _ R2.out
  have e0 := cell_of_row _ _ 0 _ _ _ R2.out
  have e1 := cell_of_row _ _ 1 _ _ _ R2.out
  have e2 := cell_of_row _ _ 2 _ _ _ R2.out
  have e3 := cell_of_row _ _ 3 _ _ _ R2.out
  dsimp at a0 a1 a2 a3 d0 d1 d2 d3 e0 e1 e2 e3
  clear d hd r0 r1 r2 rb sX sY sZ nZ kW hBw hZl hlen sx hxn hpn hln hrn hpp
  go_enter Tryd.func7, Tryd.ntmps7
  go_upto_region 1 with fail
  try rw [hW]
  clear hW hX hY hZ
  go_upto_region 8 with (go_at_call 18; refine RB_.out.mono ?_; rintro e w1 ⟨la', lc', rfl, hp', hl', hb1⟩; have HP' := Lib.hid hp'; have HL' := Lib.hid hl'; have B1 := Lib.hid hb1; have R01 := Lib.hid (blk_below R0.out hb1); have R11 := Lib.hid (blk_below R1.out hb1); have R21 := Lib.hid (blk_below R2.out hb1); have a01 := cell_of_row _ _ 0 _ _ _ R01.out; have a11 := cell_of_row _ _ 1 _ _ _ R01.out; have a21 := cell_of_row _ _ 2 _ _ _ R01.out; have a31 := cell_of_row _ _ 3 _ _ _ R01.out; have d01 := cell_of_row _ _ 0 _ _ _ R11.out; have d11 := cell_of_row _ _ 1 _ _ _ R11.out; have d21 := cell_of_row _ _ 2 _ _ _ R11.out; have d31 := cell_of_row _ _ 3 _ _ _ R11.out; have zf1 := fun i => frozen_of_row _ Z i _ _ R21.out; have e01 := cell_of_row _ _ 0 _ _ _ R21.out; have e11 := cell_of_row _ _ 1 _ _ _ R21.out; have e21 := cell_of_row _ _ 2 _ _ _ R21.out; have e31 := cell_of_row _ _ 3 _ _ _ R21.out; dsimp at a01 a11 a21 a31 d01 d11 d21 d31 e01 e11 e21 e31; clear hp' hl' hb1)
  clear a0 a1 a2 a3 d0 d1 d2 d3 zf e0 e1 e2 e3 a01 a11 a21 a31 d01 d11 d21 d31 zf1 e01 e11 e21 e31
  obtain ⟨A, hA⟩ : ∃ A, w1.heap.size = A := ⟨_, rfl⟩
  have bA := below_alloc w1 (.cells #[.slice ra rn rc, .int .i64 ri, .slice pa n pc, .slice la' (ln + 1) lc'] 33)
  have rA0 := heap_alloc_new w1 (.cells #[.slice ra rn rc, .int .i64 ri, .slice pa n pc, .slice la' (ln + 1) lc'] 33)
  rw [hA] at rA0
  try rw [hA]
  have HA := Lib.hid hA
  generalize w1.alloc (.cells #[.slice ra rn rc, .int .i64 ri, .slice pa n pc, .slice la' (ln + 1) lc'] 33) = w2 at *
  have BA := Lib.hid bA
  have hbA := rA0
  have hA2 := blk_lt rA0
  clear bA rA0
  have uB : US (grS (grS (grS S w W) W w1) w1 w2) B P M (xL, xi) ((Ps ++ [((rL, ri), (ra, rc))]).map (·.1)) (Ls.map (·.1)) w2 := (D.out.u.grow B1.out (fun k hk => hk)).grow BA.out (fun k hk => hk)
  have rB : RfT (fun k => Sr k ∨ (W.heap.size ≤ k ∧ k < w1.heap.size)) w2 ((rL, ri), (ra, rc)) Ps (Ls ++ [((xL, xi), (xa, xc))]) pa pc la' lc' := by
    have h1 : ∀ k, (Sr k ∨ (W.heap.size ≤ k ∧ k < w1.heap.size)) → k < w1.heap.size := fun k hk => by
      have := B1.out.size; have := RB.out.size
      rcases hk with hk | hk
      · have := D0.out.lr k hk; omega
      · omega
    have h2 : RfT (fun k => Sr k ∨ (W.heap.size ≤ k ∧ k < w1.heap.size)) w1 ((rL, ri), (ra, rc)) Ps (Ls ++ [((xL, xi), (xa, xc))]) pa pc la' lc' := ⟨(RR.out.below B1.out).mono fun k hk => Or.inl hk, HP'.out, HL'.out⟩
    exact h2.keep BA.out.size (fun k hk => BA.out.block k (h1 k hk))
  have srB : ∀ k, (Sr k ∨ (W.heap.size ≤ k ∧ k < w1.heap.size)) → k < w2.heap.size ∧ (k < B ∨ grS (grS (grS S w W) W w1) w1 w2 k) := fun k hk => by
    have := B1.out.size; have := RB.out.size; have := BA.out.size
    rcases hk with hk | hk
    · have h1 := D.out.sr k hk
      exact ⟨by have := D0.out.lr k hk; omega, h1.2.imp id fun h => Or.inl (Or.inl h)⟩
    · exact ⟨by omega, Or.inr (Or.inl (Or.inr hk))⟩
  have sZA : grS (grS (grS S w W) W w1) w1 w2 Z := Or.inl (Or.inl SZ.out)
  have sXA : ∀ k, S k → grS (grS (grS S w W) W w1) w1 w2 k := fun k hk => Or.inl (Or.inl (Or.inl hk))
  have hZ2 := blk_lt R2.out
  have nZA : ¬ (Sr Z ∨ (W.heap.size ≤ Z ∧ Z < w1.heap.size)) := fun h => by
    rcases h with h | h
    · exact NZ.out Z h rfl
    · omega
  have KA : KpU B S w w2 := by
    have h1 : ∀ k, S k → k < w.heap.size := fun k hk => (D0.out.u.lt k hk).2
    have s1 := RB.out.size; have s2 := B1.out.size; have s3 := BA.out.size; have s4 := HBw.out
    exact (KW.out.trans (KpU.below_of B1.out (by omega) (fun k hk => by have := h1 k hk; omega))).trans (KpU.below_of BA.out (by omega) (fun k hk => by have := h1 k hk; omega))
  have HKA := Lib.hid KA
  have hZne : Z ≠ A := by have := blk_lt R21.out; omega
  have R2w : w2.heap[Z]? = some (.cells #[.slice none 0 0, .int .i64 0, .slice none 0 0, .slice none 0 0] 33 (0, 0)) := blk_below R21.out BA.out
  have R2W := Lib.hid R2w
  have HZA := Lib.hid (show A ≠ Z from fun e => hZne e.symm)
  have SZA := Lib.hid sZA
  have SXA := Lib.hid sXA
  have RAB := Lib.hid hbA
  have a0 := cell_of_row _ _ 0 _ _ _ hbA
  have a1 := cell_of_row _ _ 1 _ _ _ hbA
  have a2 := cell_of_row _ _ 2 _ _ _ hbA
  have a3 := cell_of_row _ _ 3 _ _ _ hbA
  dsimp at a0 a1 a2 a3
  have RBh := Lib.hid rB
  have SRB := Lib.hid srB
  have NZA := Lib.hid nZA
  have SAA := Lib.hid (show grS (grS (grS S w W) W w1) w1 w2 A from Or.inr ⟨by omega, hA2⟩)
  have uC := uB.below (Below.refl _ w2).drew
  rw [List.map_append, List.map_cons, List.map_nil] at uC
  have PB := Lib.hid (uback_us uC)
  clear uB uC rB srB nZA sZA sXA hbA KA hZne R2w hZ2
  go_region_held3 (fun w' => w'.cell? ⟨A, 0, none⟩ = some (.slice ra rn rc) ∧ w'.cell? ⟨A, 1, none⟩ = some (.int .i64 ri) ∧ w'.cell? ⟨A, 2, none⟩ = some (.slice pa n pc) ∧ w'.cell? ⟨A, 3, none⟩ = some (.slice la' (ln + 1) lc')) (first | exact ⟨a0, a1, a2, a3⟩ | exact ⟨f0, f1, f2, f3⟩ | exact ⟨(farT4 HZA.out).trans f0, (farT4 HZA.out).trans f1, (farT4 HZA.out).trans f2, (farT4 HZA.out).trans f3⟩ | go_keep)
    (first | (go_at_call 11
              refine PB.out.mono ?_
              rintro e w3 ⟨rfl, u3, k3⟩
              have U3 := Lib.hid u3
              have K3 := Lib.hid k3
              have hb3 := (k3.s A SAA.out).trans RAB.out
              have hz3 := (k3.s Z SZA.out).trans R2W.out
              have RZ3 := Lib.hid hz3
              have f0 := cell_of_row _ _ 0 _ _ _ hb3
              have f1 := cell_of_row _ _ 1 _ _ _ hb3
              have f2 := cell_of_row _ _ 2 _ _ _ hb3
              have f3 := cell_of_row _ _ 3 _ _ _ hb3
              have k0 := cell_of_row _ _ 0 _ _ _ hz3
              have k1 := cell_of_row _ _ 1 _ _ _ hz3
              have k2 := cell_of_row _ _ 2 _ _ _ hz3
              have k3' := cell_of_row _ _ 3 _ _ _ hz3
              have zf3 := fun i => frozen_of_row _ Z i _ _ hz3
              dsimp at f0 f1 f2 f3 k0 k1 k2 k3'
              clear u3 k3 hb3 hz3))
  go_wp2
  clear a0 a1 a2 a3 f0 f1 f2 f3 k0 k1 k2 k3' zf3
  generalize hWF : World.setCell _ _ _ = WF
  have d3 : Ds (grS (grS (grS S w W) W w1) w1 w2) (fun k => Sr k ∨ (W.heap.size ≤ k ∧ k < w1.heap.size)) B P M ((rL, ri), (ra, rc)) Ps (Ls ++ [((xL, xi), (xa, xc))]) pa pc la' lc' w3 :=
    ⟨by have := U3.out; rw [List.map_append]; exact this, (RBh.out.keep (w' := w2.drew) (Nat.le_refl _) (fun _ _ => rfl)).kept K3.out (fun k hk => (SRB.out k hk).2), fun k hk => ⟨Nat.lt_of_lt_of_le (SRB.out k hk).1 K3.out.b.size, (SRB.out k hk).2⟩⟩
  obtain ⟨d4, hb4, hF, hs4, hBe⟩ := d3.setT (X := Z) SZA.out NZA.out RZ3.out hWF
  have g0 := cell_of_row _ _ 0 _ _ _ hb4
  have g1 := cell_of_row _ _ 1 _ _ _ hb4
  have g2 := cell_of_row _ _ 2 _ _ _ hb4
  have g3 := cell_of_row _ _ 3 _ _ _ hb4
  dsimp at g0 g1 g2 g3
  refine bodyPost_ret (v := .tuple #[.agg #[.slice ra rn rc, .int .i64 ri, .slice pa n pc, .slice la' (ln + 1) lc'], .bool true]) (by simp [results, Tryd.results7, go_sem, g0, g1, g2, g3]) rfl ?_
  refine ⟨((rL, ri), (ra, rc)), Ps, (Ls ++ [((xL, xi), (xa, xc))]), pa, pc, la', lc', by rw [List.length_append, HPN.out, HLN.out, ← HRN.out]; rfl, _, _, d4, SXA.out, fun k hk => ?_, ?_⟩
  · rcases hk with hk | hk
    · exact Or.inr (Or.inl hk)
    · have := RB.out.size; exact Or.inr (Or.inr (by omega))
  refine ((HKA.out.trans (w1 := w2) (w' := w2.drew) ⟨(Below.refl B w2).drew, fun _ _ => rfl⟩).trans (K3.out.less SXA.out)).trans ⟨hBe, fun k hk => hF k (fun e => ?_)⟩
  have := (D0.out.u.lt k hk).2; have := HX.out; have := HY.out; have := HZ.out; omega
end
end Go.Proofs.YtjgffedcbdnddaaDoor
set_option linter.unusedVariables false
set_option linter.unusedSimpArgs false
namespace Go.Proofs.YtjgffedcbdnddaaDoor
open Go.RowKit
section
variable {S Sr Sc : Nat → Prop} {B P : Nat} {xL cL : List Sn} {xi ci M : Int} {xa ca pa la : Option Addr} {xn xc cn cc pn pc ln lc : Nat} {Ps Ls : List LnR} {w : World}
set_option maxHeartbeats 8000000 in
theorem does_forth_no (d : Ds S Sr B P M ((xL, xi), (xa, xc)) Ps [] pa pc la lc w) (j : Bool) (k : Int) (hk0 : ¬ k = 0) (hk1 : ¬ k = 1) (hxn : xL.length = xn) (hpn : Ps.length = pn) :
    Calls Tryd.prog 7 #[.pointer (some ⟨P, 0, none⟩), tV xa xn xc xi pa pn pc la 0 lc, .agg #[.int .i64 k, .slice ca cn cc, .int .i64 ci, .bool j], .int .i64 M] w (DoPo S Sr B P M w) := by
  obtain ⟨W, hW⟩ : ∃ W, ((w.alloc (.cells #[.slice xa xn xc, .int .i64 xi, .slice pa pn pc, .slice la 0 lc] 33)).alloc (.cells #[.int .i64 k, .slice ca cn cc, .int .i64 ci, .bool j] 35)).alloc (.cells #[.slice none 0 0, .int .i64 0, .slice none 0 0, .slice none 0 0] 33) = W := ⟨_, rfl⟩
  obtain ⟨r0, r1, r2, rb⟩ := three_new w _ _ _ _ _ _ hW
  obtain ⟨X, hX⟩ : ∃ X, w.heap.size = X := ⟨_, rfl⟩
  obtain ⟨Y, hY⟩ : ∃ Y, X + 1 = Y := ⟨_, rfl⟩
  obtain ⟨Z, hZ⟩ : ∃ Z, Y + 1 = Z := ⟨_, rfl⟩
  rw [hX] at r0
  rw [hX, hY] at r1
  rw [hX, show X + 2 = Z by omega] at r2
  have hd := d.grow rb
  have hZl := blk_lt r2
  have hBw := d.u.hB
  have sX : grS S w W X := Or.inr ⟨by omega, by omega⟩
  have sY : grS S w W Y := Or.inr ⟨by omega, by omega⟩
  have sZ : grS S w W Z := Or.inr ⟨by omega, by omega⟩
  have nZ : ∀ k, Sr k → k ≠ Z := fun k hk => by have := d.lr k hk; omega
  have kW : KpU B S w W := KpU.below_of rb hBw (fun k hk => (d.u.lt k hk).2)
  have hlen := d.len
  have sx := d.u.sx
  dsimp only at sx
  have RB_ : Hid (Calls Tryd.prog 19 #[.agg #[.slice xa xn xc, .int .i64 xi, .slice pa pn pc, .slice la 0 lc]] W fun e w' => e = .returned (.tuple #[.agg #[.slice xa xn xc, .int .i64 xi, .slice pa pn pc, .slice la 0 lc], .bool false]) ∧ Below W.heap.size W w') := Lib.hid rforth_no
  have HXN := Lib.hid hxn
  have HPN := Lib.hid hpn
  have R0 := Lib.hid r0; have R1 := Lib.hid r1; have R2 := Lib.hid r2; have RB := Lib.hid rb
  have HX := Lib.hid hX; have HY := Lib.hid hY; have HZ := Lib.hid hZ
  have D := Lib.hid hd; have SX := Lib.hid sX; have SY := Lib.hid sY; have SZ := Lib.hid sZ; have NZ := Lib.hid nZ; have KW := Lib.hid kW
  have HBw := Lib.hid hBw; have HL := Lib.hid hlen; have D0 := Lib.hid d
  have a0 := cell_of_row _ _ 0 _ _ _ R0.out
  have a1 := cell_of_row _ _ 1 _ _ _ R0.out
  have a2 := cell_of_row _ _ 2 _ _ _ R0.out
  have a3 := cell_of_row _ _ 3 _ _ _ R0.out
  have d0 := cell_of_row _ _ 0 _ _ _ R1.out
  have d1 := cell_of_row _ _ 1 _ _ _ R1.out
  have d2 := cell_of_row _ _ 2 _ _ _ R1.out
  have d3 := cell_of_row _ _ 3 _ _ _ R1.out
  have zf := fun i => frozen_of_row _ Z i _ _ R2.out
  have e0 := cell_of_row _ _ 0 _ _ _ R2.out
  have e1 := cell_of_row _ _ 1 _ _ _ R2.out
  have e2 := cell_of_row _ _ 2 _ _ _ R2.out
  have e3 := cell_of_row _ _ 3 _ _ _ R2.out
  dsimp at a0 a1 a2 a3 d0 d1 d2 d3 e0 e1 e2 e3
  have hkk0 : ¬ k = 0 := hk0
  have hkk1 : ¬ k = 1 := hk1
  clear d hd r0 r1 r2 rb sX sY sZ nZ kW hBw hZl hlen sx hxn hpn
  go_enter Tryd.func7, Tryd.ntmps7
  go_upto_region 1 with fail
  try rw [hW]
  clear hW hX hY hZ
  go_upto_region 10 with (go_at_call 19; refine RB_.out.mono ?_; rintro e w1 ⟨rfl, hb1⟩; have B1 := Lib.hid hb1; have R01 := Lib.hid (blk_below R0.out hb1); have R11 := Lib.hid (blk_below R1.out hb1); have R21 := Lib.hid (blk_below R2.out hb1); have a01 := cell_of_row _ _ 0 _ _ _ R01.out; have a11 := cell_of_row _ _ 1 _ _ _ R01.out; have a21 := cell_of_row _ _ 2 _ _ _ R01.out; have a31 := cell_of_row _ _ 3 _ _ _ R01.out; have d01 := cell_of_row _ _ 0 _ _ _ R11.out; have d11 := cell_of_row _ _ 1 _ _ _ R11.out; have d21 := cell_of_row _ _ 2 _ _ _ R11.out; have d31 := cell_of_row _ _ 3 _ _ _ R11.out; have zf1 := fun i => frozen_of_row _ Z i _ _ R21.out; have e01 := cell_of_row _ _ 0 _ _ _ R21.out; have e11 := cell_of_row _ _ 1 _ _ _ R21.out; have e21 := cell_of_row _ _ 2 _ _ _ R21.out; have e31 := cell_of_row _ _ 3 _ _ _ R21.out; dsimp at a01 a11 a21 a31 d01 d11 d21 d31 e01 e11 e21 e31; clear hb1)
  clear a0 a1 a2 a3 d0 d1 d2 d3 zf e0 e1 e2 e3 a01 a11 a21 a31 d01 d11 d21 d31 zf1 e01 e11 e21 e31
  obtain ⟨A, hA⟩ : ∃ A, w1.heap.size = A := ⟨_, rfl⟩
  have bA := below_alloc w1 (.cells #[.slice xa xn xc, .int .i64 xi, .slice pa pn pc, .slice la 0 lc] 33)
  have rA0 := heap_alloc_new w1 (.cells #[.slice xa xn xc, .int .i64 xi, .slice pa pn pc, .slice la 0 lc] 33)
  rw [hA] at rA0
  try rw [hA]
  have HA := Lib.hid hA
  generalize w1.alloc (.cells #[.slice xa xn xc, .int .i64 xi, .slice pa pn pc, .slice la 0 lc] 33) = w2 at *
  have BA := Lib.hid bA
  have hbA := rA0
  have hA2 := blk_lt rA0
  clear bA rA0
  have dB := (D.out.below B1.out).grow BA.out
  have sZA : grS (grS S w W) w1 w2 Z := Or.inl SZ.out
  have sXA : ∀ k, S k → grS (grS S w W) w1 w2 k := fun k hk => Or.inl (Or.inl hk)
  have KA : KpU B S w w2 := by
    have h1 : ∀ k, S k → k < w.heap.size := fun k hk => (D0.out.u.lt k hk).2
    have s1 := RB.out.size; have s2 := B1.out.size; have s3 := BA.out.size; have s4 := HBw.out
    exact (KW.out.trans (KpU.below_of B1.out (by omega) (fun k hk => by have := h1 k hk; omega))).trans (KpU.below_of BA.out (by omega) (fun k hk => by have := h1 k hk; omega))
  have HKA := Lib.hid KA
  have hZne : Z ≠ A := by have := blk_lt R21.out; omega
  have R2w : w2.heap[Z]? = some (.cells #[.slice none 0 0, .int .i64 0, .slice none 0 0, .slice none 0 0] 33 (0, 0)) := blk_below R21.out BA.out
  have R2W := Lib.hid R2w
  have HZA := Lib.hid (show A ≠ Z from fun e => hZne e.symm)
  have SZA := Lib.hid sZA
  have SXA := Lib.hid sXA
  have RAB := Lib.hid hbA
  have a0 := cell_of_row _ _ 0 _ _ _ hbA
  have a1 := cell_of_row _ _ 1 _ _ _ hbA
  have a2 := cell_of_row _ _ 2 _ _ _ hbA
  have a3 := cell_of_row _ _ 3 _ _ _ hbA
  dsimp at a0 a1 a2 a3
  have DB := Lib.hid dB
  have SAA := Lib.hid (show grS (grS S w W) w1 w2 A from Or.inr ⟨by omega, hA2⟩)
  have PB := Lib.hid (uforth_us_no (dB.u.below (Below.refl _ w2).drew))
  clear dB sZA sXA hbA KA hZne R2w
  go_region_held3 (fun w' => w'.cell? ⟨A, 0, none⟩ = some (.slice xa xn xc) ∧ w'.cell? ⟨A, 1, none⟩ = some (.int .i64 xi) ∧ w'.cell? ⟨A, 2, none⟩ = some (.slice pa pn pc) ∧ w'.cell? ⟨A, 3, none⟩ = some (.slice la 0 lc)) (first | exact ⟨a0, a1, a2, a3⟩ | exact ⟨f0, f1, f2, f3⟩ | exact ⟨(farT4 HZA.out).trans f0, (farT4 HZA.out).trans f1, (farT4 HZA.out).trans f2, (farT4 HZA.out).trans f3⟩ | go_keep)
    (first | (go_at_call 12
              refine PB.out.mono ?_
              rintro e w3 ⟨rfl, u3, k3⟩
              have U3 := Lib.hid u3
              have K3 := Lib.hid k3
              have hb3 := (k3.s A SAA.out).trans RAB.out
              have hz3 := (k3.s Z SZA.out).trans R2W.out
              have RZ3 := Lib.hid hz3
              have f0 := cell_of_row _ _ 0 _ _ _ hb3
              have f1 := cell_of_row _ _ 1 _ _ _ hb3
              have f2 := cell_of_row _ _ 2 _ _ _ hb3
              have f3 := cell_of_row _ _ 3 _ _ _ hb3
              have k0 := cell_of_row _ _ 0 _ _ _ hz3
              have k1 := cell_of_row _ _ 1 _ _ _ hz3
              have k2 := cell_of_row _ _ 2 _ _ _ hz3
              have k3' := cell_of_row _ _ 3 _ _ _ hz3
              have zf3 := fun i => frozen_of_row _ Z i _ _ hz3
              dsimp at f0 f1 f2 f3 k0 k1 k2 k3'
              clear u3 k3 hb3 hz3))
  go_wp2
  clear a0 a1 a2 a3 f0 f1 f2 f3 k0 k1 k2 k3' zf3
  generalize hWF : World.setCell _ _ _ = WF
  have d3 : Ds (grS (grS S w W) w1 w2) Sr B P M ((xL, xi), (xa, xc)) Ps [] pa pc la lc w3 :=
    ⟨U3.out, (DB.out.r.keep (w' := w2.drew) (Nat.le_refl _) (fun _ _ => rfl)).kept K3.out (fun k hk => (DB.out.sr k hk).2), fun k hk => ⟨Nat.lt_of_lt_of_le (DB.out.sr k hk).1 K3.out.b.size, (DB.out.sr k hk).2⟩⟩
  obtain ⟨d4, hb4, hF, hs4, hBe⟩ := d3.setT (X := Z) SZA.out (fun h => NZ.out Z h rfl) RZ3.out hWF
  have g0 := cell_of_row _ _ 0 _ _ _ hb4
  have g1 := cell_of_row _ _ 1 _ _ _ hb4
  have g2 := cell_of_row _ _ 2 _ _ _ hb4
  have g3 := cell_of_row _ _ 3 _ _ _ hb4
  dsimp at g0 g1 g2 g3
  refine bodyPost_ret (v := .tuple #[.agg #[.slice xa xn xc, .int .i64 xi, .slice pa pn pc, .slice la 0 lc], .bool true]) (by simp [results, Tryd.results7, go_sem, g0, g1, g2, g3]) rfl ?_
  refine ⟨((xL, xi), (xa, xc)), Ps, [], pa, pc, la, lc, by rw [HPN.out, ← HXN.out]; rfl, _, _, d4, SXA.out, fun k hk => Or.inr (Or.inl hk), ?_⟩
  refine ((HKA.out.trans (w1 := w2) (w' := w2.drew) ⟨(Below.refl B w2).drew, fun _ _ => rfl⟩).trans (K3.out.less SXA.out)).trans ⟨hBe, fun k hk => hF k (fun e => ?_)⟩
  have := (D0.out.u.lt k hk).2; have := HX.out; have := HY.out; have := HZ.out; omega
set_option maxHeartbeats 8000000 in
theorem does_forth_yes {r : LnR} {n rn p : Nat} (d : Ds S Sr B P M ((xL, xi), (xa, xc)) Ps (Ls ++ [r]) pa pc la lc w) (j : Bool) (k : Int) (hk0 : ¬ k = 0) (hk1 : ¬ k = 1) (hxn : xL.length = xn) (hpn : Ps.length = pn) (hln : Ls.length = n) (hrn : r.1.1.length = rn) (hpp : n + 1 = p) :
    Calls Tryd.prog 7 #[.pointer (some ⟨P, 0, none⟩), tV xa xn xc xi pa pn pc la p lc, .agg #[.int .i64 k, .slice ca cn cc, .int .i64 ci, .bool j], .int .i64 M] w (DoPo S Sr B P M w) := by
  obtain ⟨W, hW⟩ : ∃ W, ((w.alloc (.cells #[.slice xa xn xc, .int .i64 xi, .slice pa pn pc, .slice la p lc] 33)).alloc (.cells #[.int .i64 k, .slice ca cn cc, .int .i64 ci, .bool j] 35)).alloc (.cells #[.slice none 0 0, .int .i64 0, .slice none 0 0, .slice none 0 0] 33) = W := ⟨_, rfl⟩
  obtain ⟨r0, r1, r2, rb⟩ := three_new w _ _ _ _ _ _ hW
  obtain ⟨X, hX⟩ : ∃ X, w.heap.size = X := ⟨_, rfl⟩
  obtain ⟨Y, hY⟩ : ∃ Y, X + 1 = Y := ⟨_, rfl⟩
  obtain ⟨Z, hZ⟩ : ∃ Z, Y + 1 = Z := ⟨_, rfl⟩
  rw [hX] at r0
  rw [hX, hY] at r1
  rw [hX, show X + 2 = Z by omega] at r2
  have hd := d.grow rb
  have hZl := blk_lt r2
  have hBw := d.u.hB
  have sX : grS S w W X := Or.inr ⟨by omega, by omega⟩
  have sY : grS S w W Y := Or.inr ⟨by omega, by omega⟩
  have sZ : grS S w W Z := Or.inr ⟨by omega, by omega⟩
  have nZ : ∀ k, Sr k → k ≠ Z := fun k hk => by have := d.lr k hk; omega
  have kW : KpU B S w W := KpU.below_of rb hBw (fun k hk => (d.u.lt k hk).2)
  have hlen := d.len
  have sx := d.u.sx
  dsimp only at sx
  obtain ⟨⟨rL, ri⟩, ⟨ra, rc⟩⟩ := r
  dsimp only at hrn
  simp only [List.length_append, List.length_singleton] at hlen
  have RB_ : Hid (Calls Tryd.prog 19 #[.agg #[.slice xa xn xc, .int .i64 xi, .slice pa pn pc, .slice la p lc]] W fun e w' => ∃ pa' pc', e = .returned (.tuple #[.agg #[.slice ra rn rc, .int .i64 ri, .slice pa' (pn + 1) pc', .slice la n lc], .bool true]) ∧ LnsR (fun k => Sr k ∨ (W.heap.size ≤ k ∧ k < w'.heap.size)) w' pa' pc' (Ps ++ [((xL, xi), (xa, xc))]) ∧ LnsR (fun k => Sr k ∨ (W.heap.size ≤ k ∧ k < w'.heap.size)) w' la lc Ls ∧ Below W.heap.size W w') := Lib.hid (rforth_yes (r := ((rL, ri), (ra, rc))) hd.r.x hd.r.p hd.r.l hpn hln hd.lr hxn hrn (by omega) (by omega) hpp)
  have RR := Lib.hid (hd.r.l.sg ((rL, ri), (ra, rc)) (List.mem_append_right _ (List.mem_singleton_self _)))
  dsimp only at RR
  have HRN := Lib.hid hrn
  have HXN := Lib.hid hxn
  have HPN := Lib.hid hpn
  have HLN := Lib.hid hln
  have R0 := Lib.hid r0; have R1 := Lib.hid r1; have R2 := Lib.hid r2; have RB := Lib.hid rb
  have HX := Lib.hid hX; have HY := Lib.hid hY; have HZ := Lib.hid hZ
  have D := Lib.hid hd; have SX := Lib.hid sX; have SY := Lib.hid sY; have SZ := Lib.hid sZ; have NZ := Lib.hid nZ; have KW := Lib.hid kW
  have HBw := Lib.hid hBw; have HL := Lib.hid hlen; have D0 := Lib.hid d
  have a0 := cell_of_row _ _ 0 _ _ _ R0.out
  have a1 := cell_of_row _ _ 1 _ _ _ R0.out
  have a2 := cell_of_row _ _ 2 _ _ _ R0.out
  have a3 := cell_of_row _ _ 3 _ _ _ R0.out
  have d0 := cell_of_row _ _ 0 _ _ _ R1.out
  have d1 := cell_of_row _ _ 1 _ _ _ R1.out
  have d2 := cell_of_row _ _ 2 _ _ _ R1.out
  have d3 := cell_of_row _ _ 3 _ _ _ R1.out
  have zf := fun i => frozen_of_row _ Z i _ _ R2.out
  have e0 := cell_of_row _ _ 0 _ _ _ R2.out
  have e1 := cell_of_row _ _ 1 _ _ _ R2.out
  have e2 := cell_of_row _ _ 2 _ _ _ R2.out
  have e3 := cell_of_row _ _ 3 _ _ _ R2.out
  dsimp at a0 a1 a2 a3 d0 d1 d2 d3 e0 e1 e2 e3
  have hkk0 : ¬ k = 0 := hk0
  have hkk1 : ¬ k = 1 := hk1
  clear d hd r0 r1 r2 rb sX sY sZ nZ kW hBw hZl hlen sx hxn hpn hln hrn hpp
  go_enter Tryd.func7, Tryd.ntmps7
  go_upto_region 1 with fail
  try rw [hW]
  clear hW hX hY hZ
  go_upto_region 10 with (go_at_call 19; refine RB_.out.mono ?_; rintro e w1 ⟨pa', pc', rfl, hp', hl', hb1⟩; have HP' := Lib.hid hp'; have HL' := Lib.hid hl'; have B1 := Lib.hid hb1; have R01 := Lib.hid (blk_below R0.out hb1); have R11 := Lib.hid (blk_below R1.out hb1); have R21 := Lib.hid (blk_below R2.out hb1); have a01 := cell_of_row _ _ 0 _ _ _ R01.out; have a11 := cell_of_row _ _ 1 _ _ _ R01.out; have a21 := cell_of_row _ _ 2 _ _ _ R01.out; have a31 := cell_of_row _ _ 3 _ _ _ R01.out; have d01 := cell_of_row _ _ 0 _ _ _ R11.out; have d11 := cell_of_row _ _ 1 _ _ _ R11.out; have d21 := cell_of_row _ _ 2 _ _ _ R11.out; have d31 := cell_of_row _ _ 3 _ _ _ R11.out; have zf1 := fun i => frozen_of_row _ Z i _ _ R21.out; have e01 := cell_of_row _ _ 0 _ _ _ R21.out; have e11 := cell_of_row _ _ 1 _ _ _ R21.out; have e21 := cell_of_row _ _ 2 _ _ _ R21.out; have e31 := cell_of_row _ _ 3 _ _ _ R21.out; dsimp at a01 a11 a21 a31 d01 d11 d21 d31 e01 e11 e21 e31; clear hp' hl' hb1)
  clear a0 a1 a2 a3 d0 d1 d2 d3 zf e0 e1 e2 e3 a01 a11 a21 a31 d01 d11 d21 d31 zf1 e01 e11 e21 e31
  obtain ⟨A, hA⟩ : ∃ A, w1.heap.size = A := ⟨_, rfl⟩
  have bA := below_alloc w1 (.cells #[.slice ra rn rc, .int .i64 ri, .slice pa' (pn + 1) pc', .slice la n lc] 33)
  have rA0 := heap_alloc_new w1 (.cells #[.slice ra rn rc, .int .i64 ri, .slice pa' (pn + 1) pc', .slice la n lc] 33)
  rw [hA] at rA0
  try rw [hA]
  have HA := Lib.hid hA
  generalize w1.alloc (.cells #[.slice ra rn rc, .int .i64 ri, .slice pa' (pn + 1) pc', .slice la n lc] 33) = w2 at *
  have BA := Lib.hid bA
  have hbA := rA0
  have hA2 := blk_lt rA0
  clear bA rA0
  have uB : US (grS (grS (grS S w W) W w1) w1 w2) B P M (xL, xi) (Ps.map (·.1)) ((Ls ++ [((rL, ri), (ra, rc))]).map (·.1)) w2 := (D.out.u.grow B1.out (fun k hk => hk)).grow BA.out (fun k hk => hk)
  have rB : RfT (fun k => Sr k ∨ (W.heap.size ≤ k ∧ k < w1.heap.size)) w2 ((rL, ri), (ra, rc)) (Ps ++ [((xL, xi), (xa, xc))]) Ls pa' pc' la lc := by
    have h1 : ∀ k, (Sr k ∨ (W.heap.size ≤ k ∧ k < w1.heap.size)) → k < w1.heap.size := fun k hk => by
      have := B1.out.size; have := RB.out.size
      rcases hk with hk | hk
      · have := D0.out.lr k hk; omega
      · omega
    have h2 : RfT (fun k => Sr k ∨ (W.heap.size ≤ k ∧ k < w1.heap.size)) w1 ((rL, ri), (ra, rc)) (Ps ++ [((xL, xi), (xa, xc))]) Ls pa' pc' la lc := ⟨(RR.out.below B1.out).mono fun k hk => Or.inl hk, HP'.out, HL'.out⟩
    exact h2.keep BA.out.size (fun k hk => BA.out.block k (h1 k hk))
  have srB : ∀ k, (Sr k ∨ (W.heap.size ≤ k ∧ k < w1.heap.size)) → k < w2.heap.size ∧ (k < B ∨ grS (grS (grS S w W) W w1) w1 w2 k) := fun k hk => by
    have := B1.out.size; have := RB.out.size; have := BA.out.size
    rcases hk with hk | hk
    · have h1 := D.out.sr k hk
      exact ⟨by have := D0.out.lr k hk; omega, h1.2.imp id fun h => Or.inl (Or.inl h)⟩
    · exact ⟨by omega, Or.inr (Or.inl (Or.inr hk))⟩
  have sZA : grS (grS (grS S w W) W w1) w1 w2 Z := Or.inl (Or.inl SZ.out)
  have sXA : ∀ k, S k → grS (grS (grS S w W) W w1) w1 w2 k := fun k hk => Or.inl (Or.inl (Or.inl hk))
  have hZ2 := blk_lt R2.out
  have nZA : ¬ (Sr Z ∨ (W.heap.size ≤ Z ∧ Z < w1.heap.size)) := fun h => by
    rcases h with h | h
    · exact NZ.out Z h rfl
    · omega
  have KA : KpU B S w w2 := by
    have h1 : ∀ k, S k → k < w.heap.size := fun k hk => (D0.out.u.lt k hk).2
    have s1 := RB.out.size; have s2 := B1.out.size; have s3 := BA.out.size; have s4 := HBw.out
    exact (KW.out.trans (KpU.below_of B1.out (by omega) (fun k hk => by have := h1 k hk; omega))).trans (KpU.below_of BA.out (by omega) (fun k hk => by have := h1 k hk; omega))
  have HKA := Lib.hid KA
  have hZne : Z ≠ A := by have := blk_lt R21.out; omega
  have R2w : w2.heap[Z]? = some (.cells #[.slice none 0 0, .int .i64 0, .slice none 0 0, .slice none 0 0] 33 (0, 0)) := blk_below R21.out BA.out
  have R2W := Lib.hid R2w
  have HZA := Lib.hid (show A ≠ Z from fun e => hZne e.symm)
  have SZA := Lib.hid sZA
  have SXA := Lib.hid sXA
  have RAB := Lib.hid hbA
  have a0 := cell_of_row _ _ 0 _ _ _ hbA
  have a1 := cell_of_row _ _ 1 _ _ _ hbA
  have a2 := cell_of_row _ _ 2 _ _ _ hbA
  have a3 := cell_of_row _ _ 3 _ _ _ hbA
  dsimp at a0 a1 a2 a3
  have RBh := Lib.hid rB
  have SRB := Lib.hid srB
  have NZA := Lib.hid nZA
  have SAA := Lib.hid (show grS (grS (grS S w W) W w1) w1 w2 A from Or.inr ⟨by omega, hA2⟩)
  have uC := uB.below (Below.refl _ w2).drew
  rw [List.map_append, List.map_cons, List.map_nil] at uC
  have PB := Lib.hid (uforth_us uC)
  clear uB uC rB srB nZA sZA sXA hbA KA hZne R2w hZ2
  go_region_held3 (fun w' => w'.cell? ⟨A, 0, none⟩ = some (.slice ra rn rc) ∧ w'.cell? ⟨A, 1, none⟩ = some (.int .i64 ri) ∧ w'.cell? ⟨A, 2, none⟩ = some (.slice pa' (pn + 1) pc') ∧ w'.cell? ⟨A, 3, none⟩ = some (.slice la n lc)) (first | exact ⟨a0, a1, a2, a3⟩ | exact ⟨f0, f1, f2, f3⟩ | exact ⟨(farT4 HZA.out).trans f0, (farT4 HZA.out).trans f1, (farT4 HZA.out).trans f2, (farT4 HZA.out).trans f3⟩ | go_keep)
    (first | (go_at_call 12
              refine PB.out.mono ?_
              rintro e w3 ⟨rfl, u3, k3⟩
              have U3 := Lib.hid u3
              have K3 := Lib.hid k3
              have hb3 := (k3.s A SAA.out).trans RAB.out
              have hz3 := (k3.s Z SZA.out).trans R2W.out
              have RZ3 := Lib.hid hz3
              have f0 := cell_of_row _ _ 0 _ _ _ hb3
              have f1 := cell_of_row _ _ 1 _ _ _ hb3
              have f2 := cell_of_row _ _ 2 _ _ _ hb3
              have f3 := cell_of_row _ _ 3 _ _ _ hb3
              have k0 := cell_of_row _ _ 0 _ _ _ hz3
              have k1 := cell_of_row _ _ 1 _ _ _ hz3
              have k2 := cell_of_row _ _ 2 _ _ _ hz3
              have k3' := cell_of_row _ _ 3 _ _ _ hz3
              have zf3 := fun i => frozen_of_row _ Z i _ _ hz3
              dsimp at f0 f1 f2 f3 k0 k1 k2 k3'
              clear u3 k3 hb3 hz3))
  go_wp2
  clear a0 a1 a2 a3 f0 f1 f2 f3 k0 k1 k2 k3' zf3
  generalize hWF : World.setCell _ _ _ = WF
  have d3 : Ds (grS (grS (grS S w W) W w1) w1 w2) (fun k => Sr k ∨ (W.heap.size ≤ k ∧ k < w1.heap.size)) B P M ((rL, ri), (ra, rc)) (Ps ++ [((xL, xi), (xa, xc))]) Ls pa' pc' la lc w3 :=
    ⟨by have := U3.out; rw [List.map_append]; exact this, (RBh.out.keep (w' := w2.drew) (Nat.le_refl _) (fun _ _ => rfl)).kept K3.out (fun k hk => (SRB.out k hk).2), fun k hk => ⟨Nat.lt_of_lt_of_le (SRB.out k hk).1 K3.out.b.size, (SRB.out k hk).2⟩⟩
  obtain ⟨d4, hb4, hF, hs4, hBe⟩ := d3.setT (X := Z) SZA.out NZA.out RZ3.out hWF
  have g0 := cell_of_row _ _ 0 _ _ _ hb4
  have g1 := cell_of_row _ _ 1 _ _ _ hb4
  have g2 := cell_of_row _ _ 2 _ _ _ hb4
  have g3 := cell_of_row _ _ 3 _ _ _ hb4
  dsimp at g0 g1 g2 g3
  refine bodyPost_ret (v := .tuple #[.agg #[.slice ra rn rc, .int .i64 ri, .slice pa' (pn + 1) pc', .slice la n lc], .bool true]) (by simp [results, Tryd.results7, go_sem, g0, g1, g2, g3]) rfl ?_
  refine ⟨((rL, ri), (ra, rc)), (Ps ++ [((xL, xi), (xa, xc))]), Ls, pa', pc', la, lc, by rw [List.length_append, HPN.out, HLN.out, ← HRN.out]; rfl, _, _, d4, SXA.out, fun k hk => ?_, ?_⟩
  · rcases hk with hk | hk
    · exact Or.inr (Or.inl hk)
    · have := RB.out.size; exact Or.inr (Or.inr (by omega))
  refine ((HKA.out.trans (w1 := w2) (w' := w2.drew) ⟨(Below.refl B w2).drew, fun _ _ => rfl⟩).trans (K3.out.less SXA.out)).trans ⟨hBe, fun k hk => hF k (fun e => ?_)⟩
  have := (D0.out.u.lt k hk).2; have := HX.out; have := HY.out; have := HZ.out; omega
end
end Go.Proofs.YtjgffedcbdnddaaDoor
set_option linter.unusedVariables false
set_option linter.unusedSimpArgs false
namespace Go.Proofs.YtjgffedcbdnddaaDoor
open Go.RowKit
section
variable {S Sr Sc : Nat → Prop} {B P : Nat} {M : Int} {x : LnR} {Ps Ls : List LnR} {pa la : Option Addr} {pc lc xn pn ln cn : Nat} {w w' : World}
theorem does_any (d : Ds S Sr B P M x Ps Ls pa pc la lc w) (y : SgArg) (k ci : Int) (j : Bool) (hxn : x.1.1.length = xn) (hpn : Ps.length = pn) (hln : Ls.length = ln) (hcn : y.l.length = cn) (hc60 : cn ≤ 60) (hc : SlS Sc w y.a y.l y.c) (hSc : ∀ k, Sc k → k < B) :
    Calls Tryd.prog 7 #[.pointer (some ⟨P, 0, none⟩), tV x.2.1 xn x.2.2 x.1.2 pa pn pc la ln lc, .agg #[.int .i64 k, .slice y.a cn y.c, .int .i64 ci, .bool j], .int .i64 M] w (DoPo S Sr B P M w) := by
  obtain ⟨⟨xL, xi⟩, ⟨xa, xc⟩⟩ := x
  by_cases k0 : k = 0
  · subst k0
    cases hm : mayL y.l ci with
    | false => exact does_arg d j hxn hpn hln hcn hc60 hc hm
    | true => exact does_set d j hxn hpn hln hcn hc60 hc hSc hm
  by_cases k1 : k = 1
  · subst k1
    by_cases hP : Ps = []
    · subst hP
      subst hpn
      exact does_back_no d j hxn hln
    · obtain ⟨Ps, r, rfl⟩ : ∃ P' r, Ps = P' ++ [r] := ⟨_, _, (List.dropLast_concat_getLast hP).symm⟩
      rw [List.length_append] at hpn
      exact does_back_yes d j hxn rfl hln rfl hpn
  · by_cases hP : Ls = []
    · subst hP
      subst hln
      exact does_forth_no d j k k0 k1 hxn hpn
    · obtain ⟨Ls, r, rfl⟩ : ∃ P' r, Ls = P' ++ [r] := ⟨_, _, (List.dropLast_concat_getLast hP).symm⟩
      rw [List.length_append] at hln
      exact does_forth_yes d j k k0 k1 hxn hpn rfl rfl hln
theorem usteps_ds (d : Ds S Sr B P M x Ps Ls pa pc la lc w) (hpn : Ps.length = pn) (hln : Ls.length = ln) : Calls Tryd.prog 8 #[.pointer (some ⟨P, 0, none⟩)] w fun e w' => e = .returned (.tuple #[.int .i64 pn, .int .i64 ln]) ∧ Below w.heap.size w w' := by
  have h := usteps_us d.u
  rw [List.length_map, List.length_map, hpn, hln] at h
  exact h
/-- What the laws' loops carry: the document's box X beside the trail. -/
structure UL (w0 : World) (S Sr : Nat → Prop) (B P X : Nat) (M : Int) (x : LnR) (Ps Ls : List LnR) (pa : Option Addr) (pc : Nat) (la : Option Addr) (lc : Nat) (wr : World) : Prop where
  d : Ds S Sr B P M x Ps Ls pa pc la lc wr
  sX : S X
  nX : ¬ Sr X
  c : wr.heap[X]? = some (.cells #[.slice x.2.1 x.1.1.length x.2.2, .int .i64 x.1.2, .slice pa Ps.length pc, .slice la Ls.length lc] 33 (0, 0))
  b : Below w0.heap.size w0 wr
  hb : w0.heap.size ≤ B
theorem UL.below {w0 : World} {X : Nat} (h : UL w0 S Sr B P X M x Ps Ls pa pc la lc w) (hb : Below w.heap.size w w') : UL w0 S Sr B P X M x Ps Ls pa pc la lc w' :=
  ⟨h.d.below hb, h.sX, h.nX, blk_below h.c hb, seqB h.b hb, h.hb⟩
theorem UL.cells {w0 : World} {X : Nat} (h : UL w0 S Sr B P X M x Ps Ls pa pc la lc w) (hxn : x.1.1.length = xn) (hpn : Ps.length = pn) (hln : Ls.length = ln) : w.cell? ⟨X, 0, none⟩ = some (.slice x.2.1 xn x.2.2) ∧ w.cell? ⟨X, 1, none⟩ = some (.int .i64 x.1.2) ∧ w.cell? ⟨X, 2, none⟩ = some (.slice pa pn pc) ∧ w.cell? ⟨X, 3, none⟩ = some (.slice la ln lc) := by
  subst hxn; subst hpn; subst hln
  have y := fun i => cell_of_row _ _ i _ _ _ h.c
  exact ⟨y 0, y 1, y 2, y 3⟩
theorem ul_start {w0 w1 w2 w3 : World} (b1 : Below w0.heap.size w0 w1) (h1 : 1 ≤ M) (h2 : M ≤ 1000) (ht : TrS (fun _ _ => False) w1.heap.size P M ([], 0) [] [] (.slice none 0 0) (.slice none 0 0) (.slice none 0 0) w2) (b2 : Below w1.heap.size w1 w2) (h3 : w2.alloc (.cells #[.slice none 0 0, .int .i64 0, .slice none 0 0, .slice none 0 0] 33) = w3) :
    UL w0 (grS (fun _ => False) w2 w3) (fun _ => False) w1.heap.size P w2.heap.size M (([], 0), (none, 0)) [] [] none 0 none 0 w3 := by
  subst h3
  have b3 := below_alloc w2 (.cells #[.slice none 0 0, .int .i64 0, .slice none 0 0, .slice none 0 0] 33)
  refine ⟨⟨(us_start h1 h2 ht).grow b3 (fun k hk => hk), ⟨⟨fun i hi => absurd hi (Nat.not_lt_zero i), Nat.le_refl _, fun _ => rfl, fun ad e => (by cases e)⟩, LnsR.nil _ _, LnsR.nil _ _⟩, fun k hk => hk.elim⟩, Or.inr ⟨Nat.le_refl _, by simp⟩, id, heap_alloc_new _ _, seqB (seqB b1 b2) b3, b1.size⟩
/-- The call that comes. -/
theorem uc_at {w0 : World} {l : List UCall} {aL : Option Addr} (hL : UCallsIn w0 w0.heap.size aL l) (j : Nat) (hj : j < l.length) : ∃ (b off : Nat) (u : UCall), aL = some ⟨b, off, none⟩ ∧ (∀ wr, Below w0.heap.size w0 wr → wr.cell? ⟨b, off + j * 4, none⟩ = some (.int .i64 u.k) ∧ wr.cell? ⟨b, off + j * 4 + 1, none⟩ = some (.slice u.y.a u.y.l.length u.y.c) ∧ wr.cell? ⟨b, off + j * 4 + 2, none⟩ = some (.int .i64 u.x) ∧ wr.cell? ⟨b, off + j * 4 + 3, none⟩ = some (.bool u.j)) ∧ u.y.In w0 w0.heap.size := by
  obtain ⟨b, off, e, hlt, h0, h1, h2, h3, h4⟩ := hL j hj
  exact ⟨b, off, _, e, fun wr hb => ⟨(hb.cell (p := ⟨b, off + j * 4, none⟩) hlt).trans h0, (hb.cell (p := ⟨b, off + j * 4 + 1, none⟩) hlt).trans h1, (hb.cell (p := ⟨b, off + j * 4 + 2, none⟩) hlt).trans h2, (hb.cell (p := ⟨b, off + j * 4 + 3, none⟩) hlt).trans h3⟩, h4⟩
/-- The law's call of does: what it leaves beside the box X. -/
theorem ul_does {w0 : World} {X : Nat} (h : UL w0 S Sr B P X M x Ps Ls pa pc la lc w) (u : UCall) (hu : u.y.In w0 w0.heap.size) (hxn : x.1.1.length = xn) (hpn : Ps.length = pn) (hln : Ls.length = ln) (hcn : u.y.l.length = cn) (hc60 : cn ≤ 60) :
    Calls Tryd.prog 7 #[.pointer (some ⟨P, 0, none⟩), .agg #[.slice x.2.1 xn x.2.2, .int .i64 x.1.2, .slice pa pn pc, .slice la ln lc], .agg #[.int .i64 u.k, .slice u.y.a cn u.y.c, .int .i64 u.x, .bool u.j], .int .i64 M] w fun e w' => ∃ (x' : LnR) (Ps' Ls' : List LnR) (pa' : Option Addr) (pc' : Nat) (la' : Option Addr) (lc' : Nat), e = .returned (.tuple #[.agg #[.slice x'.2.1 x'.1.1.length x'.2.2, .int .i64 x'.1.2, .slice pa' Ps'.length pc', .slice la' Ls'.length lc'], .bool true]) ∧
      ∃ S' Sr' : Nat → Prop, Ds S' Sr' B P M x' Ps' Ls' pa' pc' la' lc' w' ∧ (∀ k, S k → S' k) ∧ (∀ k, S k → ¬ Sr k → ¬ Sr' k) ∧ (∀ k, S k → w'.heap[k]? = w.heap[k]?) ∧ Below w0.heap.size w0 w' := by
  have hs : SlS (fun k => k < w0.heap.size) w u.y.a u.y.l u.y.c := hu.1.keep h.b.size (fun k hk => h.b.block k hk)
  refine (does_any h.d u.y u.k u.x u.j hxn hpn hln hcn hc60 hs (fun k hk => Nat.lt_of_lt_of_le hk h.hb)).mono ?_
  rintro e w' ⟨x', Ps', Ls', pa', pc', la', lc', rfl, S', Sr', d', hS, hr, hk⟩
  refine ⟨x', Ps', Ls', pa', pc', la', lc', rfl, S', Sr', d', hS, fun k hk hn hX => ?_, hk.s, h.b.trans (hk.b.mono h.hb)⟩
  have hl := h.d.u.lt k hk
  rcases hr k hX with h1 | h1 | h1
  · omega
  · exact hn h1
  · omega
theorem UL.grow {w0 : World} {X : Nat} (h : UL w0 S Sr B P X M x Ps Ls pa pc la lc w) (hb : Below w.heap.size w w') : UL w0 (grS S w w') Sr B P X M x Ps Ls pa pc la lc w' :=
  ⟨h.d.grow hb, Or.inl h.sX, h.nX, blk_below h.c hb, seqB h.b hb, h.hb⟩
/-- The law's box takes the lines. -/
theorem ul_put {w0 : World} {X : Nat} {m0 m2 m3 k0 k2 k3 : Nat} {a0 a2 a3 : Option Addr} {i1 : Int} (d : Ds S Sr B P M x Ps Ls pa pc la lc w) (sX : S X) (nX : ¬ Sr X) (hc : w.heap[X]? = some (.cells #[.slice a0 m0 k0, .int .i64 i1, .slice a2 m2 k2, .slice a3 m3 k3] 33 (0, 0))) (hb : Below w0.heap.size w0 w) (hB : w0.heap.size ≤ B) {WF : World}
    (hWF : (((w.setCell ⟨X, 0, none⟩ (.slice x.2.1 x.1.1.length x.2.2)).setCell ⟨X, 1, none⟩ (.int .i64 x.1.2)).setCell ⟨X, 2, none⟩ (.slice pa Ps.length pc)).setCell ⟨X, 3, none⟩ (.slice la Ls.length lc) = WF) : UL w0 S Sr B P X M x Ps Ls pa pc la lc WF := by
  obtain ⟨d4, hb4, hF, hs4, hBe⟩ := d.setT sX nX hc hWF
  exact ⟨d4, sX, nX, hb4, hb.trans (hBe.mono hB), hB⟩
end
end Go.Proofs.YtjgffedcbdnddaaDoor
