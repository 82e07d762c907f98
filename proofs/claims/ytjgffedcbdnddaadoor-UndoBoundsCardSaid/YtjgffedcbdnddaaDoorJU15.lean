/-
  Joined: Ud25 Ud26 Ud27 Ud28.
-/
import Derived.Test.YtjgffedcbdnddaaDoorJU04
import Derived.Test.YtjgffedcbdnddaaDoorJU10
import Derived.Test.YtjgffedcbdnddaaDoorJU14
set_option linter.unusedVariables false
set_option linter.unusedSimpArgs false
set_option maxRecDepth 100000
set_option linter.unusedVariables false
set_option linter.unusedSimpArgs false
namespace Go.Proofs.YtjgffedcbdnddaaDoor
open Go.RowKit
/-- A value of the document's lines. -/
abbrev tV (xa : Option Addr) (xn xc : Nat) (xi : Int) (pa : Option Addr) (pn pc : Nat) (la : Option Addr) (ln lc : Nat) : Value := .agg #[.slice xa xn xc, .int .i64 xi, .slice pa pn pc, .slice la ln lc]
theorem three_new (w : World) (c1 c2 c3 : Array Value) (t1 t2 t3 : TypeId) {W : World} (hW : ((w.alloc (.cells c1 t1)).alloc (.cells c2 t2)).alloc (.cells c3 t3) = W) : W.heap[w.heap.size]? = some (.cells c1 t1 (0, 0)) ∧ W.heap[w.heap.size + 1]? = some (.cells c2 t2 (0, 0)) ∧ W.heap[w.heap.size + 2]? = some (.cells c3 t3 (0, 0)) ∧ Below w.heap.size w W := by
  subst hW
  have s1 : (w.alloc (.cells c1 t1)).heap.size = w.heap.size + 1 := by simp
  have s2 : ((w.alloc (.cells c1 t1)).alloc (.cells c2 t2)).heap.size = w.heap.size + 2 := by simp
  have b1 := below_alloc w (.cells c1 t1)
  have b2 := below_alloc (w.alloc (.cells c1 t1)) (.cells c2 t2)
  have b3 := below_alloc ((w.alloc (.cells c1 t1)).alloc (.cells c2 t2)) (.cells c3 t3)
  have h1 := heap_alloc_new w (.cells c1 t1)
  have h2 := heap_alloc_new (w.alloc (.cells c1 t1)) (.cells c2 t2)
  have h3 := heap_alloc_new ((w.alloc (.cells c1 t1)).alloc (.cells c2 t2)) (.cells c3 t3)
  rw [s1] at h2
  rw [s2] at h3
  exact ⟨blk_below (blk_below h1 b2) b3, blk_below h2 b3, h3, seqB (seqB b1 b2) b3⟩
theorem tfin {w wr WF : World} {X : Nat} {a b c d v0 v1 v2 v3 : Value} {t : TypeId} (h : wr.heap[X]? = some (.cells #[a, b, c, d] t (0, 0))) (hX : w.heap.size ≤ X) (hb : Below w.heap.size w wr) (hWF : (((wr.setCell ⟨X, 0, none⟩ v0).setCell ⟨X, 1, none⟩ v1).setCell ⟨X, 2, none⟩ v2).setCell ⟨X, 3, none⟩ v3 = WF) :
    WF.cell? ⟨X, 0, none⟩ = some v0 ∧ WF.cell? ⟨X, 1, none⟩ = some v1 ∧ WF.cell? ⟨X, 2, none⟩ = some v2 ∧ WF.cell? ⟨X, 3, none⟩ = some v3 ∧ Below w.heap.size w WF ∧ (∀ k, k ≠ X → WF.heap[k]? = wr.heap[k]?) ∧ WF.heap.size = wr.heap.size := by
  subst hWF
  have b4 := blk_set (blk_set (blk_set (blk_set h 0 v0) 1 v1) 2 v2) 3 v3
  have y := fun i => cell_of_row _ _ i _ _ _ b4
  refine ⟨y 0, y 1, y 2, y 3, (((hb.setCell (p := ⟨X, 0, none⟩) hX _).setCell (p := ⟨X, 1, none⟩) hX _).setCell (p := ⟨X, 2, none⟩) hX _).setCell (p := ⟨X, 3, none⟩) hX _, fun k hk => ?_, by simp⟩
  rw [Below.heap_setCell _ _ _ _ hk, Below.heap_setCell _ _ _ _ hk, Below.heap_setCell _ _ _ _ hk, Below.heap_setCell _ _ _ _ hk]
theorem lnsr_other {S : Nat → Prop} {w w' : World} {X : Nat} {a : Option Addr} {c : Nat} {R : List LnR} (h : LnsR S w a c R) (hs : w'.heap.size = w.heap.size) (hX : ∀ k, S k → k ≠ X) (hk : ∀ k, k ≠ X → w'.heap[k]? = w.heap[k]?) : LnsR S w' a c R := h.keep (Nat.le_of_eq hs.symm) fun k h1 => hk k (hX k h1)
/-- What the document's Set leaves. -/
def RsPost (S : Nat → Prop) (ca : Option Addr) (cn cc : Nat) (ci : Int) (Ps Ls : List LnR) (w : World) (e : Ending) (w' : World) : Prop :=
  ∃ pa pc la lc, e = .returned (tV ca cn cc ci pa Ps.length pc la Ls.length lc) ∧ LnsR (fun k => S k ∨ (w.heap.size ≤ k ∧ k < w'.heap.size)) w' pa pc Ps ∧ LnsR (fun k => S k ∨ (w.heap.size ≤ k ∧ k < w'.heap.size)) w' la lc Ls ∧ Below w.heap.size w w'
section
variable {S : Nat → Prop} {xL cL : List Sn} {xi ci M : Int} {xa ca pa la : Option Addr} {xn xc cn cc pn pc ln lc : Nat} {Ps Ls : List LnR} {w : World}
set_option maxHeartbeats 4000000 in
theorem rset_same {j : Bool} (hx : SlS S w xa xL xc) (hp : LnsR S w pa pc Ps) (hl : LnsR S w la lc Ls) (hc : SlS S w ca cL cc) (hS : ∀ k, S k → k < w.heap.size) (hxn : xL.length = xn) (hpn : Ps.length = pn) (hln : Ls.length = ln) (hcn : cL.length = cn) (hx1 : xn ≤ 1000) (hc1 : cn ≤ 1000) (hp1 : pn ≤ 10000) (he : cL = xL) :
    Calls Tryd.prog 17 #[tV xa xn xc xi pa pn pc la ln lc, .agg #[.slice ca cn cc, .int .i64 ci], .bool j, .int .i64 M] w (RsPost S ca cn cc ci Ps Ls w) := by
  obtain ⟨W, hW⟩ : ∃ W, ((w.alloc (.cells #[.slice xa xn xc, .int .i64 xi, .slice pa pn pc, .slice la ln lc] 33)).alloc (.cells #[.slice ca cn cc, .int .i64 ci] 30)).alloc (.cells #[.slice none 0 0, .int .i64 0, .slice none 0 0, .slice none 0 0] 33) = W := ⟨_, rfl⟩
  obtain ⟨r0, r1, r2, rb⟩ := three_new w _ _ _ _ _ _ hW
  obtain ⟨X, hX⟩ : ∃ X, w.heap.size = X := ⟨_, rfl⟩
  obtain ⟨Y, hY⟩ : ∃ Y, X + 1 = Y := ⟨_, rfl⟩
  obtain ⟨Z, hZ⟩ : ∃ Z, Y + 1 = Z := ⟨_, rfl⟩
  rw [hX] at r0
  rw [hX, hY] at r1
  rw [hX, show X + 2 = Z by omega] at r2
  have SM : Hid (Calls Tryd.prog 20 #[.slice ca cn cc, .slice xa xn xc] W fun e w' => e = .returned (.bool true) ∧ Below W.heap.size W w') := Lib.hid (by
    have h1 := sgsame_ref cL xL ca xa cc xc W (by omega) (by omega) (hc.s.below rb) (hx.s.below rb)
    rw [hcn, hxn, decide_eq_true he] at h1
    exact h1)
  have HP := Lib.hid hp; have HLr := Lib.hid hl; have HPN := Lib.hid hpn; have HLN := Lib.hid hln; have HS := Lib.hid hS
  have R0 := Lib.hid r0; have R1 := Lib.hid r1; have R2 := Lib.hid r2; have RB := Lib.hid rb
  have HX := Lib.hid hX; have HY := Lib.hid hY; have HZ := Lib.hid hZ
  have a0 := cell_of_row _ _ 0 _ _ _ R0.out
  have a1 := cell_of_row _ _ 1 _ _ _ R0.out
  have a2 := cell_of_row _ _ 2 _ _ _ R0.out
  have a3 := cell_of_row _ _ 3 _ _ _ R0.out
  have d0 := cell_of_row _ _ 0 _ _ _ R1.out
  have d1 := cell_of_row _ _ 1 _ _ _ R1.out
  have zf := fun i => frozen_of_row _ Z i _ _ R2.out
  dsimp at a0 a1 a2 a3 d0 d1
  clear hx hp hl hc hS hxn hpn hln hcn r0 r1 r2 rb he
  go_enter Tryd.func17, Tryd.ntmps17
  go_upto_region 1 with fail
  try rw [hW]
  try rw [HX.out]
  try rw [HY.out]
  try rw [HZ.out]
  clear hW hX hY hZ
  go_wp2_with (first | (go_at_call 20; refine SM.out.mono ?_; rintro e w1 ⟨rfl, hb1⟩; have RB1 := Lib.hid (seqB RB.out hb1); have R01 := Lib.hid (blk_below R0.out hb1); have R11 := Lib.hid (blk_below R1.out hb1); have R21 := Lib.hid (blk_below R2.out hb1); have a01 := cell_of_row _ _ 0 _ _ _ R01.out; have a11 := cell_of_row _ _ 1 _ _ _ R01.out; have a21 := cell_of_row _ _ 2 _ _ _ R01.out; have a31 := cell_of_row _ _ 3 _ _ _ R01.out; have d01 := cell_of_row _ _ 0 _ _ _ R11.out; have d11 := cell_of_row _ _ 1 _ _ _ R11.out; have zf1 := fun i => frozen_of_row _ Z i _ _ R21.out; have e01 := cell_of_row _ _ 0 _ _ _ R21.out; have e11 := cell_of_row _ _ 1 _ _ _ R21.out; have e21 := cell_of_row _ _ 2 _ _ _ R21.out; have e31 := cell_of_row _ _ 3 _ _ _ R21.out; dsimp at a01 a11 a21 a31 d01 d11 e01 e11 e21 e31; clear hb1))
  generalize hWF : World.setCell _ _ _ = WF
  obtain ⟨g0, g1, g2, g3, gB, gO, gS⟩ := tfin (w := w) R21.out (by have := HZ.out; have := HY.out; have := HX.out; omega) RB1.out hWF
  refine bodyPost_ret (v := .agg #[.slice ca cn cc, .int .i64 ci, .slice pa pn pc, .slice la ln lc]) (by simp [results, Tryd.results17, go_sem, g0, g1, g2, g3]) rfl ?_
  refine ⟨pa, pc, la, lc, by rw [HPN.out, HLN.out], ?_, ?_, gB⟩
  · exact (HP.out.keep gB.size (fun k hk => gB.block k (HS.out k hk))).mono fun k hk => Or.inl hk
  · exact (HLr.out.keep gB.size (fun k hk => gB.block k (HS.out k hk))).mono fun k hk => Or.inl hk
set_option maxHeartbeats 4000000 in
theorem rset_F (hx : SlS S w xa xL xc) (hp : LnsR S w pa pc Ps) (hl : LnsR S w la lc Ls) (hc : SlS S w ca cL cc) (hS : ∀ k, S k → k < w.heap.size) (hxn : xL.length = xn) (hpn : Ps.length = pn) (hln : Ls.length = ln) (hcn : cL.length = cn) (hx1 : xn ≤ 1000) (hc1 : cn ≤ 1000) (hp1 : pn ≤ 10000) (he : ¬ cL = xL) (ho : ¬ M < (pn : Int) + 1) :
    Calls Tryd.prog 17 #[tV xa xn xc xi pa pn pc la ln lc, .agg #[.slice ca cn cc, .int .i64 ci], .bool false, .int .i64 M] w (RsPost S ca cn cc ci (Ps ++ [((xL, xi), (xa, xc))]) [] w) := by
  obtain ⟨W, hW⟩ : ∃ W, ((w.alloc (.cells #[.slice xa xn xc, .int .i64 xi, .slice pa pn pc, .slice la ln lc] 33)).alloc (.cells #[.slice ca cn cc, .int .i64 ci] 30)).alloc (.cells #[.slice none 0 0, .int .i64 0, .slice none 0 0, .slice none 0 0] 33) = W := ⟨_, rfl⟩
  obtain ⟨r0, r1, r2, rb⟩ := three_new w _ _ _ _ _ _ hW
  obtain ⟨X, hX⟩ : ∃ X, w.heap.size = X := ⟨_, rfl⟩
  obtain ⟨Y, hY⟩ : ∃ Y, X + 1 = Y := ⟨_, rfl⟩
  obtain ⟨Z, hZ⟩ : ∃ Z, Y + 1 = Z := ⟨_, rfl⟩
  rw [hX] at r0
  rw [hX, hY] at r1
  rw [hX, show X + 2 = Z by omega] at r2
  have SM : Hid (Calls Tryd.prog 20 #[.slice ca cn cc, .slice xa xn xc] W fun e w' => e = .returned (.bool false) ∧ Below W.heap.size W w') := Lib.hid (by
    have h1 := sgsame_ref cL xL ca xa cc xc W (by omega) (by omega) (hc.s.below rb) (hx.s.below rb)
    rw [hcn, hxn, decide_eq_false he] at h1
    exact h1)
  have LN : Hid (∀ w1, Below w.heap.size w w1 → Calls Tryd.prog 32 #[.slice pa pn pc, .agg #[.slice xa xn xc, .int .i64 xi]] w1 fun e w' => ∃ b d, e = .returned (.slice b (pn + 1) d) ∧ LnsR (fun k => S k ∨ (w1.heap.size ≤ k ∧ k < w'.heap.size)) w' b d (Ps ++ [((xL, xi), (xa, xc))]) ∧ Below w1.heap.size w1 w') := Lib.hid fun w1 hb1 => rlines_ref (hp.below hb1) hpn (by omega) ((xL, xi), (xa, xc)) (hx.below hb1) hxn
  have HP := Lib.hid hp; have HLr := Lib.hid hl; have HPN := Lib.hid hpn; have HLN := Lib.hid hln; have HS := Lib.hid hS
  have R0 := Lib.hid r0; have R1 := Lib.hid r1; have R2 := Lib.hid r2; have RB := Lib.hid rb
  have HX := Lib.hid hX; have HY := Lib.hid hY; have HZ := Lib.hid hZ
  have hcast : ((pn + 1 : Nat) : Int) = (pn : Int) + 1 := by omega
  have a0 := cell_of_row _ _ 0 _ _ _ R0.out
  have a1 := cell_of_row _ _ 1 _ _ _ R0.out
  have a2 := cell_of_row _ _ 2 _ _ _ R0.out
  have a3 := cell_of_row _ _ 3 _ _ _ R0.out
  have d0 := cell_of_row _ _ 0 _ _ _ R1.out
  have d1 := cell_of_row _ _ 1 _ _ _ R1.out
  have zf := fun i => frozen_of_row _ Z i _ _ R2.out
  dsimp at a0 a1 a2 a3 d0 d1
  clear hx hp hl hc hS hxn hpn hln hcn r0 r1 r2 rb he
  go_enter Tryd.func17, Tryd.ntmps17
  go_upto_region 1 with fail
  try rw [hW]
  try rw [HX.out]
  try rw [HY.out]
  try rw [HZ.out]
  clear hW hX hY hZ
  go_wp2_with (first
    | (go_at_call 20; refine SM.out.mono ?_; rintro e w1 ⟨rfl, hb1⟩; have RB1 := Lib.hid (seqB RB.out hb1); have R01 := Lib.hid (blk_below R0.out hb1); have R11 := Lib.hid (blk_below R1.out hb1); have R21 := Lib.hid (blk_below R2.out hb1); have a01 := cell_of_row _ _ 0 _ _ _ R01.out; have a11 := cell_of_row _ _ 1 _ _ _ R01.out; have a21 := cell_of_row _ _ 2 _ _ _ R01.out; have a31 := cell_of_row _ _ 3 _ _ _ R01.out; have d01 := cell_of_row _ _ 0 _ _ _ R11.out; have d11 := cell_of_row _ _ 1 _ _ _ R11.out; have zf1 := fun i => frozen_of_row _ Z i _ _ R21.out; have e01 := cell_of_row _ _ 0 _ _ _ R21.out; have e11 := cell_of_row _ _ 1 _ _ _ R21.out; have e21 := cell_of_row _ _ 2 _ _ _ R21.out; have e31 := cell_of_row _ _ 3 _ _ _ R21.out; dsimp at a01 a11 a21 a31 d01 d11 e01 e11 e21 e31; clear hb1)
    | (go_at_call 32; refine (LN.out _ RB1.out).mono ?_; rintro e w2 ⟨ba, bd, rfl, hq, hb2⟩; have RB2 := Lib.hid (seqB RB1.out hb2); have R02 := Lib.hid (blk_below R01.out hb2); have R12 := Lib.hid (blk_below R11.out hb2); have R22 := Lib.hid (blk_below R21.out hb2); have a02 := cell_of_row _ _ 0 _ _ _ R02.out; have a12 := cell_of_row _ _ 1 _ _ _ R02.out; have a22 := cell_of_row _ _ 2 _ _ _ R02.out; have a32 := cell_of_row _ _ 3 _ _ _ R02.out; have d02 := cell_of_row _ _ 0 _ _ _ R12.out; have d12 := cell_of_row _ _ 1 _ _ _ R12.out; have zf2 := fun i => frozen_of_row _ Z i _ _ R22.out; have e02 := cell_of_row _ _ 0 _ _ _ R22.out; have e12 := cell_of_row _ _ 1 _ _ _ R22.out; have e22 := cell_of_row _ _ 2 _ _ _ R22.out; have e32 := cell_of_row _ _ 3 _ _ _ R22.out; dsimp at a02 a12 a22 a32 d02 d12 e02 e12 e22 e32; have Q2 := Lib.hid hq; clear hq hb2))
  generalize hWF : World.setCell _ _ _ = WF
  obtain ⟨g0, g1, g2, g3, gB, gO, gS⟩ := tfin (w := w) R22.out (by have := HZ.out; have := HY.out; have := HX.out; omega) RB2.out hWF
  refine bodyPost_ret (v := .agg #[.slice ca cn cc, .int .i64 ci, .slice ba (pn + 1) bd, .slice none 0 0]) (by simp [results, Tryd.results17, go_sem, g0, g1, g2, g3]) rfl ?_
  refine ⟨ba, bd, none, 0, by rw [List.length_append, HPN.out]; rfl, ?_, LnsR.nil _ _, gB⟩
  have hlow : ∀ k, (S k ∨ (w1.heap.size ≤ k ∧ k < w2.heap.size)) → k ≠ Z := fun k hk => by
    have h1 := blk_lt R21.out
    have h2 := HZ.out
    have h3 := HX.out
    have h4 := HY.out
    rcases hk with hk | hk
    · have := HS.out k hk; omega
    · omega
  refine (lnsr_other Q2.out gS hlow gO).mono fun k hk => hk.imp id fun hk => ⟨Nat.le_trans RB1.out.size hk.1, by rw [gS]; exact hk.2⟩
set_option maxHeartbeats 4000000 in
theorem rset_FC (hx : SlS S w xa xL xc) (hp : LnsR S w pa pc Ps) (hl : LnsR S w la lc Ls) (hc : SlS S w ca cL cc) (hS : ∀ k, S k → k < w.heap.size) (hxn : xL.length = xn) (hpn : Ps.length = pn) (hln : Ls.length = ln) (hcn : cL.length = cn) (hx1 : xn ≤ 1000) (hc1 : cn ≤ 1000) (hp1 : pn ≤ 10000) (he : ¬ cL = xL) (ho : M < (pn : Int) + 1) :
    Calls Tryd.prog 17 #[tV xa xn xc xi pa pn pc la ln lc, .agg #[.slice ca cn cc, .int .i64 ci], .bool false, .int .i64 M] w (RsPost S ca cn cc ci (Ps ++ [((xL, xi), (xa, xc))]).tail [] w) := by
  obtain ⟨W, hW⟩ : ∃ W, ((w.alloc (.cells #[.slice xa xn xc, .int .i64 xi, .slice pa pn pc, .slice la ln lc] 33)).alloc (.cells #[.slice ca cn cc, .int .i64 ci] 30)).alloc (.cells #[.slice none 0 0, .int .i64 0, .slice none 0 0, .slice none 0 0] 33) = W := ⟨_, rfl⟩
  obtain ⟨r0, r1, r2, rb⟩ := three_new w _ _ _ _ _ _ hW
  obtain ⟨X, hX⟩ : ∃ X, w.heap.size = X := ⟨_, rfl⟩
  obtain ⟨Y, hY⟩ : ∃ Y, X + 1 = Y := ⟨_, rfl⟩
  obtain ⟨Z, hZ⟩ : ∃ Z, Y + 1 = Z := ⟨_, rfl⟩
  rw [hX] at r0
  rw [hX, hY] at r1
  rw [hX, show X + 2 = Z by omega] at r2
  have SM : Hid (Calls Tryd.prog 20 #[.slice ca cn cc, .slice xa xn xc] W fun e w' => e = .returned (.bool false) ∧ Below W.heap.size W w') := Lib.hid (by
    have h1 := sgsame_ref cL xL ca xa cc xc W (by omega) (by omega) (hc.s.below rb) (hx.s.below rb)
    rw [hcn, hxn, decide_eq_false he] at h1
    exact h1)
  have LN : Hid (∀ w1, Below w.heap.size w w1 → Calls Tryd.prog 32 #[.slice pa pn pc, .agg #[.slice xa xn xc, .int .i64 xi]] w1 fun e w' => ∃ b d, e = .returned (.slice b (pn + 1) d) ∧ LnsR (fun k => S k ∨ (w1.heap.size ≤ k ∧ k < w'.heap.size)) w' b d (Ps ++ [((xL, xi), (xa, xc))]) ∧ Below w1.heap.size w1 w') := Lib.hid fun w1 hb1 => rlines_ref (hp.below hb1) hpn (by omega) ((xL, xi), (xa, xc)) (hx.below hb1) hxn
  have HP := Lib.hid hp; have HLr := Lib.hid hl; have HPN := Lib.hid hpn; have HLN := Lib.hid hln; have HS := Lib.hid hS
  have R0 := Lib.hid r0; have R1 := Lib.hid r1; have R2 := Lib.hid r2; have RB := Lib.hid rb
  have HX := Lib.hid hX; have HY := Lib.hid hY; have HZ := Lib.hid hZ
  have hcast : ((pn + 1 : Nat) : Int) = (pn : Int) + 1 := by omega
  have a0 := cell_of_row _ _ 0 _ _ _ R0.out
  have a1 := cell_of_row _ _ 1 _ _ _ R0.out
  have a2 := cell_of_row _ _ 2 _ _ _ R0.out
  have a3 := cell_of_row _ _ 3 _ _ _ R0.out
  have d0 := cell_of_row _ _ 0 _ _ _ R1.out
  have d1 := cell_of_row _ _ 1 _ _ _ R1.out
  have zf := fun i => frozen_of_row _ Z i _ _ R2.out
  dsimp at a0 a1 a2 a3 d0 d1
  clear hx hp hl hc hS hxn hpn hln hcn r0 r1 r2 rb he
  go_enter Tryd.func17, Tryd.ntmps17
  go_upto_region 1 with fail
  try rw [hW]
  try rw [HX.out]
  try rw [HY.out]
  try rw [HZ.out]
  clear hW hX hY hZ
  go_wp2_with (first
    | (go_at_call 20; refine SM.out.mono ?_; rintro e w1 ⟨rfl, hb1⟩; have RB1 := Lib.hid (seqB RB.out hb1); have R01 := Lib.hid (blk_below R0.out hb1); have R11 := Lib.hid (blk_below R1.out hb1); have R21 := Lib.hid (blk_below R2.out hb1); have a01 := cell_of_row _ _ 0 _ _ _ R01.out; have a11 := cell_of_row _ _ 1 _ _ _ R01.out; have a21 := cell_of_row _ _ 2 _ _ _ R01.out; have a31 := cell_of_row _ _ 3 _ _ _ R01.out; have d01 := cell_of_row _ _ 0 _ _ _ R11.out; have d11 := cell_of_row _ _ 1 _ _ _ R11.out; have zf1 := fun i => frozen_of_row _ Z i _ _ R21.out; have e01 := cell_of_row _ _ 0 _ _ _ R21.out; have e11 := cell_of_row _ _ 1 _ _ _ R21.out; have e21 := cell_of_row _ _ 2 _ _ _ R21.out; have e31 := cell_of_row _ _ 3 _ _ _ R21.out; dsimp at a01 a11 a21 a31 d01 d11 e01 e11 e21 e31; clear hb1)
    | (go_at_call 32; refine (LN.out _ RB1.out).mono ?_; rintro e w2 ⟨ba, bd, rfl, hq, hb2⟩; have RB2 := Lib.hid (seqB RB1.out hb2); have R02 := Lib.hid (blk_below R01.out hb2); have R12 := Lib.hid (blk_below R11.out hb2); have R22 := Lib.hid (blk_below R21.out hb2); have a02 := cell_of_row _ _ 0 _ _ _ R02.out; have a12 := cell_of_row _ _ 1 _ _ _ R02.out; have a22 := cell_of_row _ _ 2 _ _ _ R02.out; have a32 := cell_of_row _ _ 3 _ _ _ R02.out; have d02 := cell_of_row _ _ 0 _ _ _ R12.out; have d12 := cell_of_row _ _ 1 _ _ _ R12.out; have zf2 := fun i => frozen_of_row _ Z i _ _ R22.out; have e02 := cell_of_row _ _ 0 _ _ _ R22.out; have e12 := cell_of_row _ _ 1 _ _ _ R22.out; have e22 := cell_of_row _ _ 2 _ _ _ R22.out; have e32 := cell_of_row _ _ 3 _ _ _ R22.out; dsimp at a02 a12 a22 a32 d02 d12 e02 e12 e22 e32; have Q2 := Lib.hid hq; have HQ := Lib.hid (show (Ps ++ [((xL, xi), (xa, xc))]).length = pn + 1 by rw [List.length_append, HPN.out]; rfl); obtain ⟨rq, Rq, hrq⟩ : ∃ q R, Ps ++ [((xL, xi), (xa, xc))] = q :: R := List.exists_cons_of_ne_nil (by simp); have HRQ := Lib.hid hrq; rw [hrq] at hq; obtain ⟨ca9, hcut, hq9⟩ := hq.cut (n := pn) (by have := HQ.out; rw [hrq] at this; simpa using this); have Q9 := Lib.hid hq9; clear hq9 hrq; clear hq hb2))
  generalize hWF : World.setCell _ _ _ = WF
  obtain ⟨g0, g1, g2, g3, gB, gO, gS⟩ := tfin (w := w) R22.out (by have := HZ.out; have := HY.out; have := HX.out; omega) RB2.out hWF
  refine bodyPost_ret (v := .agg #[.slice ca cn cc, .int .i64 ci, .slice ca9 pn (bd - 1), .slice none 0 0]) (by simp [results, Tryd.results17, go_sem, g0, g1, g2, g3]) rfl ?_
  rw [HRQ.out]
  have hrl : Rq.length = pn := by have := HQ.out; rw [HRQ.out] at this; simpa using this
  refine ⟨ca9, (bd - 1), none, 0, by rw [List.tail_cons, hrl]; rfl, ?_, LnsR.nil _ _, gB⟩
  have hlow : ∀ k, (S k ∨ (w1.heap.size ≤ k ∧ k < w2.heap.size)) → k ≠ Z := fun k hk => by
    have h1 := blk_lt R21.out
    have h2 := HZ.out
    have h3 := HX.out
    have h4 := HY.out
    rcases hk with hk | hk
    · have := HS.out k hk; omega
    · omega
  refine (lnsr_other Q9.out gS hlow gO).mono fun k hk => hk.imp id fun hk => ⟨Nat.le_trans RB1.out.size hk.1, by rw [gS]; exact hk.2⟩
set_option maxHeartbeats 4000000 in
theorem rset_T0 (hx : SlS S w xa xL xc) (hp : LnsR S w pa pc Ps) (hl : LnsR S w la lc Ls) (hc : SlS S w ca cL cc) (hS : ∀ k, S k → k < w.heap.size) (hxn : xL.length = xn) (hpn : Ps.length = pn) (hln : Ls.length = ln) (hcn : cL.length = cn) (hx1 : xn ≤ 1000) (hc1 : cn ≤ 1000) (hp1 : pn ≤ 10000) (he : ¬ cL = xL) (h0 : pn = 0) (ho : 1 ≤ M) :
    Calls Tryd.prog 17 #[tV xa xn xc xi pa pn pc la ln lc, .agg #[.slice ca cn cc, .int .i64 ci], .bool true, .int .i64 M] w (RsPost S ca cn cc ci (Ps ++ [((xL, xi), (xa, xc))]) [] w) := by
  obtain ⟨W, hW⟩ : ∃ W, ((w.alloc (.cells #[.slice xa xn xc, .int .i64 xi, .slice pa pn pc, .slice la ln lc] 33)).alloc (.cells #[.slice ca cn cc, .int .i64 ci] 30)).alloc (.cells #[.slice none 0 0, .int .i64 0, .slice none 0 0, .slice none 0 0] 33) = W := ⟨_, rfl⟩
  obtain ⟨r0, r1, r2, rb⟩ := three_new w _ _ _ _ _ _ hW
  obtain ⟨X, hX⟩ : ∃ X, w.heap.size = X := ⟨_, rfl⟩
  obtain ⟨Y, hY⟩ : ∃ Y, X + 1 = Y := ⟨_, rfl⟩
  obtain ⟨Z, hZ⟩ : ∃ Z, Y + 1 = Z := ⟨_, rfl⟩
  rw [hX] at r0
  rw [hX, hY] at r1
  rw [hX, show X + 2 = Z by omega] at r2
  have SM : Hid (Calls Tryd.prog 20 #[.slice ca cn cc, .slice xa xn xc] W fun e w' => e = .returned (.bool false) ∧ Below W.heap.size W w') := Lib.hid (by
    have h1 := sgsame_ref cL xL ca xa cc xc W (by omega) (by omega) (hc.s.below rb) (hx.s.below rb)
    rw [hcn, hxn, decide_eq_false he] at h1
    exact h1)
  have LN : Hid (∀ w1, Below w.heap.size w w1 → Calls Tryd.prog 32 #[.slice pa pn pc, .agg #[.slice xa xn xc, .int .i64 xi]] w1 fun e w' => ∃ b d, e = .returned (.slice b (pn + 1) d) ∧ LnsR (fun k => S k ∨ (w1.heap.size ≤ k ∧ k < w'.heap.size)) w' b d (Ps ++ [((xL, xi), (xa, xc))]) ∧ Below w1.heap.size w1 w') := Lib.hid fun w1 hb1 => rlines_ref (hp.below hb1) hpn (by omega) ((xL, xi), (xa, xc)) (hx.below hb1) hxn
  have HP := Lib.hid hp; have HLr := Lib.hid hl; have HPN := Lib.hid hpn; have HLN := Lib.hid hln; have HS := Lib.hid hS
  have R0 := Lib.hid r0; have R1 := Lib.hid r1; have R2 := Lib.hid r2; have RB := Lib.hid rb
  have HX := Lib.hid hX; have HY := Lib.hid hY; have HZ := Lib.hid hZ
  have hcast : ((pn + 1 : Nat) : Int) = (pn : Int) + 1 := by omega
  have hg : (pn : Int) = 0 := by omega
  have ho2 : ¬ M < (pn : Int) + 1 := by omega
  have a0 := cell_of_row _ _ 0 _ _ _ R0.out
  have a1 := cell_of_row _ _ 1 _ _ _ R0.out
  have a2 := cell_of_row _ _ 2 _ _ _ R0.out
  have a3 := cell_of_row _ _ 3 _ _ _ R0.out
  have d0 := cell_of_row _ _ 0 _ _ _ R1.out
  have d1 := cell_of_row _ _ 1 _ _ _ R1.out
  have zf := fun i => frozen_of_row _ Z i _ _ R2.out
  dsimp at a0 a1 a2 a3 d0 d1
  clear hx hp hl hc hS hxn hpn hln hcn r0 r1 r2 rb he h0 ho
  go_enter Tryd.func17, Tryd.ntmps17
  go_upto_region 1 with fail
  try rw [hW]
  try rw [HX.out]
  try rw [HY.out]
  try rw [HZ.out]
  clear hW hX hY hZ
  go_wp2_with (first
    | (go_at_call 20; refine SM.out.mono ?_; rintro e w1 ⟨rfl, hb1⟩; have RB1 := Lib.hid (seqB RB.out hb1); have R01 := Lib.hid (blk_below R0.out hb1); have R11 := Lib.hid (blk_below R1.out hb1); have R21 := Lib.hid (blk_below R2.out hb1); have a01 := cell_of_row _ _ 0 _ _ _ R01.out; have a11 := cell_of_row _ _ 1 _ _ _ R01.out; have a21 := cell_of_row _ _ 2 _ _ _ R01.out; have a31 := cell_of_row _ _ 3 _ _ _ R01.out; have d01 := cell_of_row _ _ 0 _ _ _ R11.out; have d11 := cell_of_row _ _ 1 _ _ _ R11.out; have zf1 := fun i => frozen_of_row _ Z i _ _ R21.out; have e01 := cell_of_row _ _ 0 _ _ _ R21.out; have e11 := cell_of_row _ _ 1 _ _ _ R21.out; have e21 := cell_of_row _ _ 2 _ _ _ R21.out; have e31 := cell_of_row _ _ 3 _ _ _ R21.out; dsimp at a01 a11 a21 a31 d01 d11 e01 e11 e21 e31; clear hb1)
    | (go_at_call 32; refine (LN.out _ RB1.out).mono ?_; rintro e w2 ⟨ba, bd, rfl, hq, hb2⟩; have RB2 := Lib.hid (seqB RB1.out hb2); have R02 := Lib.hid (blk_below R01.out hb2); have R12 := Lib.hid (blk_below R11.out hb2); have R22 := Lib.hid (blk_below R21.out hb2); have a02 := cell_of_row _ _ 0 _ _ _ R02.out; have a12 := cell_of_row _ _ 1 _ _ _ R02.out; have a22 := cell_of_row _ _ 2 _ _ _ R02.out; have a32 := cell_of_row _ _ 3 _ _ _ R02.out; have d02 := cell_of_row _ _ 0 _ _ _ R12.out; have d12 := cell_of_row _ _ 1 _ _ _ R12.out; have zf2 := fun i => frozen_of_row _ Z i _ _ R22.out; have e02 := cell_of_row _ _ 0 _ _ _ R22.out; have e12 := cell_of_row _ _ 1 _ _ _ R22.out; have e22 := cell_of_row _ _ 2 _ _ _ R22.out; have e32 := cell_of_row _ _ 3 _ _ _ R22.out; dsimp at a02 a12 a22 a32 d02 d12 e02 e12 e22 e32; have Q2 := Lib.hid hq; clear hq hb2))
  generalize hWF : World.setCell _ _ _ = WF
  obtain ⟨g0, g1, g2, g3, gB, gO, gS⟩ := tfin (w := w) R22.out (by have := HZ.out; have := HY.out; have := HX.out; omega) RB2.out hWF
  refine bodyPost_ret (v := .agg #[.slice ca cn cc, .int .i64 ci, .slice ba (pn + 1) bd, .slice none 0 0]) (by simp [results, Tryd.results17, go_sem, g0, g1, g2, g3]) rfl ?_
  refine ⟨ba, bd, none, 0, by rw [List.length_append, HPN.out]; rfl, ?_, LnsR.nil _ _, gB⟩
  have hlow : ∀ k, (S k ∨ (w1.heap.size ≤ k ∧ k < w2.heap.size)) → k ≠ Z := fun k hk => by
    have h1 := blk_lt R21.out
    have h2 := HZ.out
    have h3 := HX.out
    have h4 := HY.out
    rcases hk with hk | hk
    · have := HS.out k hk; omega
    · omega
  refine (lnsr_other Q2.out gS hlow gO).mono fun k hk => hk.imp id fun hk => ⟨Nat.le_trans RB1.out.size hk.1, by rw [gS]; exact hk.2⟩
set_option maxHeartbeats 4000000 in
theorem rset_TP (hx : SlS S w xa xL xc) (hp : LnsR S w pa pc Ps) (hl : LnsR S w la lc Ls) (hc : SlS S w ca cL cc) (hS : ∀ k, S k → k < w.heap.size) (hxn : xL.length = xn) (hpn : Ps.length = pn) (hln : Ls.length = ln) (hcn : cL.length = cn) (hx1 : xn ≤ 1000) (hc1 : cn ≤ 1000) (hp1 : pn ≤ 10000) (he : ¬ cL = xL) (h0 : 0 < pn) (ho : (pn : Int) ≤ M) :
    Calls Tryd.prog 17 #[tV xa xn xc xi pa pn pc la ln lc, .agg #[.slice ca cn cc, .int .i64 ci], .bool true, .int .i64 M] w (RsPost S ca cn cc ci Ps [] w) := by
  obtain ⟨W, hW⟩ : ∃ W, ((w.alloc (.cells #[.slice xa xn xc, .int .i64 xi, .slice pa pn pc, .slice la ln lc] 33)).alloc (.cells #[.slice ca cn cc, .int .i64 ci] 30)).alloc (.cells #[.slice none 0 0, .int .i64 0, .slice none 0 0, .slice none 0 0] 33) = W := ⟨_, rfl⟩
  obtain ⟨r0, r1, r2, rb⟩ := three_new w _ _ _ _ _ _ hW
  obtain ⟨X, hX⟩ : ∃ X, w.heap.size = X := ⟨_, rfl⟩
  obtain ⟨Y, hY⟩ : ∃ Y, X + 1 = Y := ⟨_, rfl⟩
  obtain ⟨Z, hZ⟩ : ∃ Z, Y + 1 = Z := ⟨_, rfl⟩
  rw [hX] at r0
  rw [hX, hY] at r1
  rw [hX, show X + 2 = Z by omega] at r2
  have SM : Hid (Calls Tryd.prog 20 #[.slice ca cn cc, .slice xa xn xc] W fun e w' => e = .returned (.bool false) ∧ Below W.heap.size W w') := Lib.hid (by
    have h1 := sgsame_ref cL xL ca xa cc xc W (by omega) (by omega) (hc.s.below rb) (hx.s.below rb)
    rw [hcn, hxn, decide_eq_false he] at h1
    exact h1)
  have HP := Lib.hid hp; have HLr := Lib.hid hl; have HPN := Lib.hid hpn; have HLN := Lib.hid hln; have HS := Lib.hid hS
  have R0 := Lib.hid r0; have R1 := Lib.hid r1; have R2 := Lib.hid r2; have RB := Lib.hid rb
  have HX := Lib.hid hX; have HY := Lib.hid hY; have HZ := Lib.hid hZ
  have hg : ¬ (pn : Int) = 0 := by omega
  have ho2 : ¬ M < (pn : Int) := by omega
  have hg2 : ¬ pn = 0 := by omega
  have a0 := cell_of_row _ _ 0 _ _ _ R0.out
  have a1 := cell_of_row _ _ 1 _ _ _ R0.out
  have a2 := cell_of_row _ _ 2 _ _ _ R0.out
  have a3 := cell_of_row _ _ 3 _ _ _ R0.out
  have d0 := cell_of_row _ _ 0 _ _ _ R1.out
  have d1 := cell_of_row _ _ 1 _ _ _ R1.out
  have zf := fun i => frozen_of_row _ Z i _ _ R2.out
  dsimp at a0 a1 a2 a3 d0 d1
  clear hx hp hl hc hS hxn hpn hln hcn r0 r1 r2 rb he h0 ho
  go_enter Tryd.func17, Tryd.ntmps17
  go_upto_region 1 with fail
  try rw [hW]
  try rw [HX.out]
  try rw [HY.out]
  try rw [HZ.out]
  clear hW hX hY hZ
  go_wp2_with (first | (go_at_call 20; refine SM.out.mono ?_; rintro e w1 ⟨rfl, hb1⟩; have RB1 := Lib.hid (seqB RB.out hb1); have R01 := Lib.hid (blk_below R0.out hb1); have R11 := Lib.hid (blk_below R1.out hb1); have R21 := Lib.hid (blk_below R2.out hb1); have a01 := cell_of_row _ _ 0 _ _ _ R01.out; have a11 := cell_of_row _ _ 1 _ _ _ R01.out; have a21 := cell_of_row _ _ 2 _ _ _ R01.out; have a31 := cell_of_row _ _ 3 _ _ _ R01.out; have d01 := cell_of_row _ _ 0 _ _ _ R11.out; have d11 := cell_of_row _ _ 1 _ _ _ R11.out; have zf1 := fun i => frozen_of_row _ Z i _ _ R21.out; have e01 := cell_of_row _ _ 0 _ _ _ R21.out; have e11 := cell_of_row _ _ 1 _ _ _ R21.out; have e21 := cell_of_row _ _ 2 _ _ _ R21.out; have e31 := cell_of_row _ _ 3 _ _ _ R21.out; dsimp at a01 a11 a21 a31 d01 d11 e01 e11 e21 e31; clear hb1))
  generalize hWF : World.setCell _ _ _ = WF
  obtain ⟨g0, g1, g2, g3, gB, gO, gS⟩ := tfin (w := w) R21.out (by have := HZ.out; have := HY.out; have := HX.out; omega) RB1.out hWF
  refine bodyPost_ret (v := .agg #[.slice ca cn cc, .int .i64 ci, .slice pa pn pc, .slice none 0 0]) (by simp [results, Tryd.results17, go_sem, g0, g1, g2, g3]) rfl ?_
  refine ⟨pa, pc, none, 0, by rw [HPN.out]; rfl, ?_, LnsR.nil _ _, gB⟩
  exact (HP.out.keep gB.size (fun k hk => gB.block k (HS.out k hk))).mono fun k hk => Or.inl hk
end
end Go.Proofs.YtjgffedcbdnddaaDoor
set_option linter.unusedVariables false
set_option linter.unusedSimpArgs false
namespace Go.Proofs.YtjgffedcbdnddaaDoor
open Go.RowKit
theorem farT4 {w : World} {p q k : Nat} {u0 u1 u2 u3 : Value} (h : q ≠ p) : ((((w.setCell ⟨p, 0, none⟩ u0).setCell ⟨p, 1, none⟩ u1).setCell ⟨p, 2, none⟩ u2).setCell ⟨p, 3, none⟩ u3).cell? ⟨q, k, none⟩ = w.cell? ⟨q, k, none⟩ := by
  unfold World.cell?
  rw [Below.heap_setCell _ _ _ _ h, Below.heap_setCell _ _ _ _ h, Below.heap_setCell _ _ _ _ h, Below.heap_setCell _ _ _ _ h]
theorem two_newW (w : World) (c1 c2 : Array Value) (t1 t2 : TypeId) {W : World} (hW : (w.alloc (.cells c1 t1)).alloc (.cells c2 t2) = W) : W.heap[w.heap.size]? = some (.cells c1 t1 (0, 0)) ∧ W.heap[w.heap.size + 1]? = some (.cells c2 t2 (0, 0)) ∧ Below w.heap.size w W := by
  subst hW
  have s1 : (w.alloc (.cells c1 t1)).heap.size = w.heap.size + 1 := by simp
  have b1 := below_alloc w (.cells c1 t1)
  have b2 := below_alloc (w.alloc (.cells c1 t1)) (.cells c2 t2)
  have h1 := heap_alloc_new w (.cells c1 t1)
  have h2 := heap_alloc_new (w.alloc (.cells c1 t1)) (.cells c2 t2)
  rw [s1] at h2
  exact ⟨blk_below h1 b2, h2, seqB b1 b2⟩
section
variable {S : Nat → Prop} {xL : List Sn} {xi : Int} {xa pa la : Option Addr} {xn xc pn pc ln lc : Nat} {Ps Ls : List LnR} {w : World}
set_option maxHeartbeats 2000000 in
theorem rback_no : Calls Tryd.prog 18 #[tV xa xn xc xi pa 0 pc la ln lc] w fun e w' => e = .returned (.tuple #[tV xa xn xc xi pa 0 pc la ln lc, .bool false]) ∧ Below w.heap.size w w' := by
  obtain ⟨W, hW⟩ : ∃ W, (w.alloc (.cells #[.slice xa xn xc, .int .i64 xi, .slice pa 0 pc, .slice la ln lc] 33)).alloc (.cells #[.slice none 0 0, .int .i64 0, .slice none 0 0, .slice none 0 0] 33) = W := ⟨_, rfl⟩
  obtain ⟨r0, r1, rb⟩ := two_newW w _ _ _ _ hW
  obtain ⟨X, hX⟩ : ∃ X, w.heap.size = X := ⟨_, rfl⟩
  obtain ⟨Z, hZ⟩ : ∃ Z, X + 1 = Z := ⟨_, rfl⟩
  rw [hX] at r0
  rw [hX, hZ] at r1
  have R0 := Lib.hid r0; have R1 := Lib.hid r1; have RB := Lib.hid rb; have HX := Lib.hid hX; have HZ := Lib.hid hZ
  have a0 := cell_of_row _ _ 0 _ _ _ r0
  have a1 := cell_of_row _ _ 1 _ _ _ r0
  have a2 := cell_of_row _ _ 2 _ _ _ r0
  have a3 := cell_of_row _ _ 3 _ _ _ r0
  have zf := fun i => frozen_of_row _ Z i _ _ r1
  have e0 := cell_of_row _ _ 0 _ _ _ r1
  have e1 := cell_of_row _ _ 1 _ _ _ r1
  have e2 := cell_of_row _ _ 2 _ _ _ r1
  have e3 := cell_of_row _ _ 3 _ _ _ r1
  dsimp at a0 a1 a2 a3 e0 e1 e2 e3
  clear r0 r1 rb
  go_enter Tryd.func18, Tryd.ntmps18
  go_upto_region 1 with fail
  try rw [hW]
  clear hW hX hZ
  go_wp2
  generalize hWF : World.setCell _ _ _ = WF
  obtain ⟨g0, g1, g2, g3, gB, gO, gS⟩ := tfin (w := w) R1.out (by have := HZ.out; have := HX.out; omega) RB.out hWF
  refine bodyPost_ret (v := .tuple #[.agg #[.slice xa xn xc, .int .i64 xi, .slice pa 0 pc, .slice la ln lc], .bool false]) (by simp [results, Tryd.results18, go_sem, g0, g1, g2, g3]) rfl ?_
  exact ⟨rfl, gB⟩
set_option maxHeartbeats 2000000 in
theorem rforth_no : Calls Tryd.prog 19 #[tV xa xn xc xi pa pn pc la 0 lc] w fun e w' => e = .returned (.tuple #[tV xa xn xc xi pa pn pc la 0 lc, .bool false]) ∧ Below w.heap.size w w' := by
  obtain ⟨W, hW⟩ : ∃ W, (w.alloc (.cells #[.slice xa xn xc, .int .i64 xi, .slice pa pn pc, .slice la 0 lc] 33)).alloc (.cells #[.slice none 0 0, .int .i64 0, .slice none 0 0, .slice none 0 0] 33) = W := ⟨_, rfl⟩
  obtain ⟨r0, r1, rb⟩ := two_newW w _ _ _ _ hW
  obtain ⟨X, hX⟩ : ∃ X, w.heap.size = X := ⟨_, rfl⟩
  obtain ⟨Z, hZ⟩ : ∃ Z, X + 1 = Z := ⟨_, rfl⟩
  rw [hX] at r0
  rw [hX, hZ] at r1
  have R0 := Lib.hid r0; have R1 := Lib.hid r1; have RB := Lib.hid rb; have HX := Lib.hid hX; have HZ := Lib.hid hZ
  have a0 := cell_of_row _ _ 0 _ _ _ r0
  have a1 := cell_of_row _ _ 1 _ _ _ r0
  have a2 := cell_of_row _ _ 2 _ _ _ r0
  have a3 := cell_of_row _ _ 3 _ _ _ r0
  have zf := fun i => frozen_of_row _ Z i _ _ r1
  have e0 := cell_of_row _ _ 0 _ _ _ r1
  have e1 := cell_of_row _ _ 1 _ _ _ r1
  have e2 := cell_of_row _ _ 2 _ _ _ r1
  have e3 := cell_of_row _ _ 3 _ _ _ r1
  dsimp at a0 a1 a2 a3 e0 e1 e2 e3
  clear r0 r1 rb
  go_enter Tryd.func19, Tryd.ntmps19
  go_upto_region 1 with fail
  try rw [hW]
  clear hW hX hZ
  go_wp2
  generalize hWF : World.setCell _ _ _ = WF
  obtain ⟨g0, g1, g2, g3, gB, gO, gS⟩ := tfin (w := w) R1.out (by have := HZ.out; have := HX.out; omega) RB.out hWF
  refine bodyPost_ret (v := .tuple #[.agg #[.slice xa xn xc, .int .i64 xi, .slice pa pn pc, .slice la 0 lc], .bool false]) (by simp [results, Tryd.results19, go_sem, g0, g1, g2, g3]) rfl ?_
  exact ⟨rfl, gB⟩
set_option maxHeartbeats 4000000 in
theorem rback_yes {r : LnR} {n rn : Nat} (hx : SlS S w xa xL xc) (hp : LnsR S w pa pc (Ps ++ [r])) (hl : LnsR S w la lc Ls) (hpn : Ps.length = n) (hln : Ls.length = ln) (hS : ∀ k, S k → k < w.heap.size) (hxn : xL.length = xn) (hrn : r.1.1.length = rn) (hb : ln ≤ 10000) (hn1 : n ≤ 10000) {p : Nat} (hpp : n + 1 = p) :
    Calls Tryd.prog 18 #[tV xa xn xc xi pa p pc la ln lc] w fun e w' => ∃ la' lc', e = .returned (.tuple #[tV r.2.1 rn r.2.2 r.1.2 pa n pc la' (ln + 1) lc', .bool true]) ∧ LnsR (fun k => S k ∨ (w.heap.size ≤ k ∧ k < w'.heap.size)) w' pa pc Ps ∧ LnsR (fun k => S k ∨ (w.heap.size ≤ k ∧ k < w'.heap.size)) w' la' lc' (Ls ++ [((xL, xi), (xa, xc))]) ∧ Below w.heap.size w w' := by
  obtain ⟨⟨rL, ri⟩, ⟨ra, rc⟩⟩ := r
  dsimp only at *
  obtain ⟨gb, off, rfl, hSg, hgl, t0, t1⟩ := hp.last hpn
  dsimp only at t0 t1
  rw [hrn] at t0
  have hM := hp.pop
  have hle := hp.le
  rw [List.length_append, List.length_singleton, hpn] at hle
  have hcut : ∀ w : World, (Instr.slice 31 (.slice (some ⟨gb, off, none⟩) p pc) none (some (.int .i64 (n : Int))) none).run Tryd.prog w = .ok (.slice (some ⟨gb, off, none⟩) n pc) w := fun w => by
    rw [← hpp]; exact run_popL w gb off n pc (by omega) (by omega)
  obtain ⟨W, hW⟩ : ∃ W, (w.alloc (.cells #[.slice xa xn xc, .int .i64 xi, .slice (some ⟨gb, off, none⟩) p pc, .slice la ln lc] 33)).alloc (.cells #[.slice none 0 0, .int .i64 0, .slice none 0 0, .slice none 0 0] 33) = W := ⟨_, rfl⟩
  obtain ⟨r0, r1, rb⟩ := two_newW w _ _ _ _ hW
  obtain ⟨X, hX⟩ : ∃ X, w.heap.size = X := ⟨_, rfl⟩
  obtain ⟨Z, hZ⟩ : ∃ Z, X + 1 = Z := ⟨_, rfl⟩
  rw [hX] at r0
  rw [hX, hZ] at r1
  have R0 := Lib.hid r0; have R1 := Lib.hid r1; have RB := Lib.hid rb; have HX := Lib.hid hX; have HZ := Lib.hid hZ
  have a0 := cell_of_row _ _ 0 _ _ _ r0
  have a1 := cell_of_row _ _ 1 _ _ _ r0
  have a2 := cell_of_row _ _ 2 _ _ _ r0
  have a3 := cell_of_row _ _ 3 _ _ _ r0
  have zf := fun i => frozen_of_row _ Z i _ _ r1
  have e0 := cell_of_row _ _ 0 _ _ _ r1
  have e1 := cell_of_row _ _ 1 _ _ _ r1
  have e2 := cell_of_row _ _ 2 _ _ _ r1
  have e3 := cell_of_row _ _ 3 _ _ _ r1
  dsimp at a0 a1 a2 a3 e0 e1 e2 e3
  have LNh : Hid (∀ w1, Below W.heap.size W w1 → Calls Tryd.prog 32 #[.slice la ln lc, .agg #[.slice xa xn xc, .int .i64 xi]] w1 fun e w' => ∃ b d, e = .returned (.slice b (ln + 1) d) ∧ LnsR (fun k => S k ∨ (w1.heap.size ≤ k ∧ k < w'.heap.size)) w' b d (Ls ++ [((xL, xi), (xa, xc))]) ∧ Below w1.heap.size w1 w') := Lib.hid fun w1 hb1 => rlines_ref (hl.below (seqB rb hb1)) hln (by omega) ((xL, xi), (xa, xc)) (hx.below (seqB rb hb1)) hxn
  have HM := Lib.hid hM; have HS := Lib.hid hS
  have c0 := (rb.cell (p := ⟨gb, off + n * 2, none⟩) hgl).trans t0
  have c1 := (rb.cell (p := ⟨gb, off + n * 2 + 1, none⟩) hgl).trans t1
  have hXl := Lib.hid (blk_lt r0)
  have hgl2 := Lib.hid (Nat.lt_of_lt_of_le hgl rb.size)
  have hXZ := Lib.hid (show X ≠ Z by omega)
  have hgZ := Lib.hid (show gb ≠ Z by omega)
  have hsub : IntKind.i64.wrap ((p : Int) - 1) = (n : Int) := by rw [IntKind.wrap_i64]; omega
  have hp0 : ¬ (p : Int) = 0 := by omega
  have hp00 : ¬ p = 0 := by omega
  have hnp : (n : Int) < (p : Int) := by omega
  have hnp' : n < p := by omega
  have h0n : (0 : Int) ≤ (n : Int) := by omega
  have hpm : p ≤ pc := by omega
  clear hx hp hl hS hpn hln hxn r0 r1 rb t0 t1 hM hle hgl hpp hrn
  go_enter Tryd.func18, Tryd.ntmps18
  go_upto_region 4 with fail
  try rw [hW]
  clear hW hX hZ
  go_region_held3 (fun w' => w'.cell? ⟨X, 0, none⟩ = some (.slice xa xn xc) ∧ w'.cell? ⟨X, 1, none⟩ = some (.int .i64 xi) ∧ w'.cell? ⟨X, 2, none⟩ = some (.slice (some ⟨gb, off, none⟩) p pc) ∧ w'.cell? ⟨X, 3, none⟩ = some (.slice la ln lc) ∧ w'.cell? ⟨gb, off + n * 2, none⟩ = some (.slice ra rn rc) ∧ w'.cell? ⟨gb, off + n * 2 + 1, none⟩ = some (.int .i64 ri)) (first | exact ⟨a0, a1, a2, a3, c0, c1⟩ | exact ⟨f0, f1, f2, f3, h0, h1⟩ | exact ⟨(farT4 hXZ.out).trans f0, (farT4 hXZ.out).trans f1, (farT4 hXZ.out).trans f2, (farT4 hXZ.out).trans f3, (farT4 hgZ.out).trans h0, (farT4 hgZ.out).trans h1⟩ | go_keep)
    (first | (go_at_call 32
              refine (LNh.out _ (Below.refl _ W).drew).mono ?_
              rintro e w2 ⟨ba, bd, rfl, hq, hb2⟩
              have hb2' := (Below.refl _ W).drew.trans hb2
              have f0 := (hb2'.cell (p := ⟨X, 0, none⟩) hXl.out).trans a0
              have f1 := (hb2'.cell (p := ⟨X, 1, none⟩) hXl.out).trans a1
              have f2 := (hb2'.cell (p := ⟨X, 2, none⟩) hXl.out).trans a2
              have f3 := (hb2'.cell (p := ⟨X, 3, none⟩) hXl.out).trans a3
              have h0 := (hb2'.cell (p := ⟨gb, off + n * 2, none⟩) hgl2.out).trans c0
              have h1 := (hb2'.cell (p := ⟨gb, off + n * 2 + 1, none⟩) hgl2.out).trans c1
              have Q2 := Lib.hid hq
              have B2 := Lib.hid hb2'
              have R12 := Lib.hid (blk_below R1.out hb2')
              have zf2 := fun i => frozen_of_row _ Z i _ _ R12.out
              have k0 := cell_of_row _ _ 0 _ _ _ R12.out
              have k1 := cell_of_row _ _ 1 _ _ _ R12.out
              have k2 := cell_of_row _ _ 2 _ _ _ R12.out
              have k3 := cell_of_row _ _ 3 _ _ _ R12.out
              dsimp at k0 k1 k2 k3
              clear hq hb2 hb2'))
  go_wp2
  clear a0 a1 a2 a3 c0 c1 f0 f1 f2 f3 h0 h1 e0 e1 e2 e3 k0 k1 k2 k3 zf zf2
  generalize hWF : World.setCell _ _ _ = WF
  obtain ⟨g0, g1, g2, g3, gB, gO, gS⟩ := tfin (w := w) R12.out (by have := HZ.out; have := HX.out; omega) (seqB RB.out B2.out) hWF
  refine bodyPost_ret (v := .tuple #[.agg #[.slice ra rn rc, .int .i64 ri, .slice (some ⟨gb, off, none⟩) n pc, .slice ba (ln + 1) bd], .bool true]) (by simp [results, Tryd.results18, go_sem, g0, g1, g2, g3]) rfl ?_
  have hlow : ∀ k, (S k ∨ (W.heap.size ≤ k ∧ k < w2.heap.size)) → k ≠ Z := fun k hk => by
    have h1 := blk_lt R1.out
    have h2 := HZ.out
    have h3 := HX.out
    rcases hk with hk | hk
    · have := HS.out k hk; omega
    · omega
  refine ⟨ba, bd, rfl, ?_, ?_, gB⟩
  · exact (HM.out.keep gB.size (fun k hk => gB.block k (HS.out k hk))).mono fun k hk => Or.inl hk
  · exact (lnsr_other Q2.out gS hlow gO).mono fun k hk => hk.imp id fun hk => ⟨Nat.le_trans RB.out.size hk.1, by rw [gS]; exact hk.2⟩
set_option maxHeartbeats 4000000 in
theorem rforth_yes {r : LnR} {n rn : Nat} (hx : SlS S w xa xL xc) (hp : LnsR S w pa pc Ps) (hl : LnsR S w la lc (Ls ++ [r])) (hpn : Ps.length = pn) (hln : Ls.length = n) (hS : ∀ k, S k → k < w.heap.size) (hxn : xL.length = xn) (hrn : r.1.1.length = rn) (hb : pn ≤ 10000) (hn1 : n ≤ 10000) {p : Nat} (hpp : n + 1 = p) :
    Calls Tryd.prog 19 #[tV xa xn xc xi pa pn pc la p lc] w fun e w' => ∃ pa' pc', e = .returned (.tuple #[tV r.2.1 rn r.2.2 r.1.2 pa' (pn + 1) pc' la n lc, .bool true]) ∧ LnsR (fun k => S k ∨ (w.heap.size ≤ k ∧ k < w'.heap.size)) w' pa' pc' (Ps ++ [((xL, xi), (xa, xc))]) ∧ LnsR (fun k => S k ∨ (w.heap.size ≤ k ∧ k < w'.heap.size)) w' la lc Ls ∧ Below w.heap.size w w' := by
  obtain ⟨⟨rL, ri⟩, ⟨ra, rc⟩⟩ := r
  dsimp only at *
  obtain ⟨gb, off, rfl, hSg, hgl, t0, t1⟩ := hl.last hln
  dsimp only at t0 t1
  rw [hrn] at t0
  have hM := hl.pop
  have hle := hl.le
  rw [List.length_append, List.length_singleton, hln] at hle
  have hcut : ∀ w : World, (Instr.slice 31 (.slice (some ⟨gb, off, none⟩) p lc) none (some (.int .i64 (n : Int))) none).run Tryd.prog w = .ok (.slice (some ⟨gb, off, none⟩) n lc) w := fun w => by
    rw [← hpp]; exact run_popL w gb off n lc (by omega) (by omega)
  obtain ⟨W, hW⟩ : ∃ W, (w.alloc (.cells #[.slice xa xn xc, .int .i64 xi, .slice pa pn pc, .slice (some ⟨gb, off, none⟩) p lc] 33)).alloc (.cells #[.slice none 0 0, .int .i64 0, .slice none 0 0, .slice none 0 0] 33) = W := ⟨_, rfl⟩
  obtain ⟨r0, r1, rb⟩ := two_newW w _ _ _ _ hW
  obtain ⟨X, hX⟩ : ∃ X, w.heap.size = X := ⟨_, rfl⟩
  obtain ⟨Z, hZ⟩ : ∃ Z, X + 1 = Z := ⟨_, rfl⟩
  rw [hX] at r0
  rw [hX, hZ] at r1
  have R0 := Lib.hid r0; have R1 := Lib.hid r1; have RB := Lib.hid rb; have HX := Lib.hid hX; have HZ := Lib.hid hZ
  have a0 := cell_of_row _ _ 0 _ _ _ r0
  have a1 := cell_of_row _ _ 1 _ _ _ r0
  have a2 := cell_of_row _ _ 2 _ _ _ r0
  have a3 := cell_of_row _ _ 3 _ _ _ r0
  have zf := fun i => frozen_of_row _ Z i _ _ r1
  have e0 := cell_of_row _ _ 0 _ _ _ r1
  have e1 := cell_of_row _ _ 1 _ _ _ r1
  have e2 := cell_of_row _ _ 2 _ _ _ r1
  have e3 := cell_of_row _ _ 3 _ _ _ r1
  dsimp at a0 a1 a2 a3 e0 e1 e2 e3
  have LNh : Hid (∀ w1, Below W.heap.size W w1 → Calls Tryd.prog 32 #[.slice pa pn pc, .agg #[.slice xa xn xc, .int .i64 xi]] w1 fun e w' => ∃ b d, e = .returned (.slice b (pn + 1) d) ∧ LnsR (fun k => S k ∨ (w1.heap.size ≤ k ∧ k < w'.heap.size)) w' b d (Ps ++ [((xL, xi), (xa, xc))]) ∧ Below w1.heap.size w1 w') := Lib.hid fun w1 hb1 => rlines_ref (hp.below (seqB rb hb1)) hpn (by omega) ((xL, xi), (xa, xc)) (hx.below (seqB rb hb1)) hxn
  have HM := Lib.hid hM; have HS := Lib.hid hS
  have c0 := (rb.cell (p := ⟨gb, off + n * 2, none⟩) hgl).trans t0
  have c1 := (rb.cell (p := ⟨gb, off + n * 2 + 1, none⟩) hgl).trans t1
  have hXl := Lib.hid (blk_lt r0)
  have hgl2 := Lib.hid (Nat.lt_of_lt_of_le hgl rb.size)
  have hXZ := Lib.hid (show X ≠ Z by omega)
  have hgZ := Lib.hid (show gb ≠ Z by omega)
  have hsub : IntKind.i64.wrap ((p : Int) - 1) = (n : Int) := by rw [IntKind.wrap_i64]; omega
  have hp0 : ¬ (p : Int) = 0 := by omega
  have hp00 : ¬ p = 0 := by omega
  have hnp : (n : Int) < (p : Int) := by omega
  have hnp' : n < p := by omega
  have h0n : (0 : Int) ≤ (n : Int) := by omega
  have hpm : p ≤ lc := by omega
  clear hx hp hl hS hpn hln hxn r0 r1 rb t0 t1 hM hle hgl hpp hrn
  go_enter Tryd.func19, Tryd.ntmps19
  go_upto_region 4 with fail
  try rw [hW]
  clear hW hX hZ
  go_region_held3 (fun w' => w'.cell? ⟨X, 0, none⟩ = some (.slice xa xn xc) ∧ w'.cell? ⟨X, 1, none⟩ = some (.int .i64 xi) ∧ w'.cell? ⟨X, 2, none⟩ = some (.slice pa pn pc) ∧ w'.cell? ⟨X, 3, none⟩ = some (.slice (some ⟨gb, off, none⟩) p lc) ∧ w'.cell? ⟨gb, off + n * 2, none⟩ = some (.slice ra rn rc) ∧ w'.cell? ⟨gb, off + n * 2 + 1, none⟩ = some (.int .i64 ri)) (first | exact ⟨a0, a1, a2, a3, c0, c1⟩ | exact ⟨f0, f1, f2, f3, h0, h1⟩ | exact ⟨(farT4 hXZ.out).trans f0, (farT4 hXZ.out).trans f1, (farT4 hXZ.out).trans f2, (farT4 hXZ.out).trans f3, (farT4 hgZ.out).trans h0, (farT4 hgZ.out).trans h1⟩ | go_keep)
    (first | (go_at_call 32
              refine (LNh.out _ (Below.refl _ W).drew).mono ?_
              rintro e w2 ⟨ba, bd, rfl, hq, hb2⟩
              have hb2' := (Below.refl _ W).drew.trans hb2
              have f0 := (hb2'.cell (p := ⟨X, 0, none⟩) hXl.out).trans a0
              have f1 := (hb2'.cell (p := ⟨X, 1, none⟩) hXl.out).trans a1
              have f2 := (hb2'.cell (p := ⟨X, 2, none⟩) hXl.out).trans a2
              have f3 := (hb2'.cell (p := ⟨X, 3, none⟩) hXl.out).trans a3
              have h0 := (hb2'.cell (p := ⟨gb, off + n * 2, none⟩) hgl2.out).trans c0
              have h1 := (hb2'.cell (p := ⟨gb, off + n * 2 + 1, none⟩) hgl2.out).trans c1
              have Q2 := Lib.hid hq
              have B2 := Lib.hid hb2'
              have R12 := Lib.hid (blk_below R1.out hb2')
              have zf2 := fun i => frozen_of_row _ Z i _ _ R12.out
              have k0 := cell_of_row _ _ 0 _ _ _ R12.out
              have k1 := cell_of_row _ _ 1 _ _ _ R12.out
              have k2 := cell_of_row _ _ 2 _ _ _ R12.out
              have k3 := cell_of_row _ _ 3 _ _ _ R12.out
              dsimp at k0 k1 k2 k3
              clear hq hb2 hb2'))
  go_wp2
  clear a0 a1 a2 a3 c0 c1 f0 f1 f2 f3 h0 h1 e0 e1 e2 e3 k0 k1 k2 k3 zf zf2
  generalize hWF : World.setCell _ _ _ = WF
  obtain ⟨g0, g1, g2, g3, gB, gO, gS⟩ := tfin (w := w) R12.out (by have := HZ.out; have := HX.out; omega) (seqB RB.out B2.out) hWF
  refine bodyPost_ret (v := .tuple #[.agg #[.slice ra rn rc, .int .i64 ri, .slice ba (pn + 1) bd, .slice (some ⟨gb, off, none⟩) n lc], .bool true]) (by simp [results, Tryd.results19, go_sem, g0, g1, g2, g3]) rfl ?_
  have hlow : ∀ k, (S k ∨ (W.heap.size ≤ k ∧ k < w2.heap.size)) → k ≠ Z := fun k hk => by
    have h1 := blk_lt R1.out
    have h2 := HZ.out
    have h3 := HX.out
    rcases hk with hk | hk
    · have := HS.out k hk; omega
    · omega
  refine ⟨ba, bd, rfl, ?_, ?_, gB⟩
  · exact (lnsr_other Q2.out gS hlow gO).mono fun k hk => hk.imp id fun hk => ⟨Nat.le_trans RB.out.size hk.1, by rw [gS]; exact hk.2⟩
  · exact (HM.out.keep gB.size (fun k hk => gB.block k (HS.out k hk))).mono fun k hk => Or.inl hk
end
end Go.Proofs.YtjgffedcbdnddaaDoor
set_option linter.unusedVariables false
set_option linter.unusedSimpArgs false
namespace Go.Proofs.YtjgffedcbdnddaaDoor
open Go.RowKit
/-- No two whole numbers stand side by side. -/
def no2 (cs : Array Value) : Prop := ∀ off a b, ¬ (cs[off]? = some (.int .i64 a) ∧ cs[off + 1]? = some (.int .i64 b))
theorem no2_T (a d g : Option Addr) (b c e f h k : Nat) (i : Int) : no2 #[.slice a b c, .int .i64 i, .slice d e f, .slice g h k] := fun off x y h => by
  match off, h with
  | 0, h => simp at h
  | 1, h => simp at h
  | 2, h => simp at h
  | 3, h => simp at h
  | (n + 4), h => simp at h
theorem no2_L (a : Option Addr) (b c : Nat) (i : Int) : no2 #[.slice a b c, .int .i64 i] := fun off x y h => by
  match off, h with
  | 0, h => simp at h
  | 1, h => simp at h
  | (n + 2), h => simp at h
theorem sg_far {w : World} {a : Option Addr} {L : List Sn} {X : Nat} {cs : Array Value} {t : TypeId} {f : Nat × Nat} (h : Signs w a L) (hx : w.heap[X]? = some (.cells cs t f)) (hn : no2 cs) : ∀ ad, a = some ad → L ≠ [] → ad.block ≠ X := fun ad e hL hX => by
  obtain ⟨b, off, e2, hlt, h1, h2⟩ := h 0 (List.length_pos_iff.2 hL)
  rw [e] at e2
  injection e2 with e2
  subst e2
  simp only at hX
  subst hX
  rw [cell_of_row _ _ _ _ _ _ hx] at h1 h2
  rw [Nat.zero_mul, Nat.add_zero] at h1 h2
  exact hn off _ _ ⟨h1, h2⟩
theorem StIn.far {F : Nat → Prop} {w : World} {q : StR} (h : StIn F w q) {X : Nat} {cs : Array Value} {t : TypeId} {f : Nat × Nat} (hx : w.heap[X]? = some (.cells cs t f)) (hn : no2 cs) : StIn (fun k => F k ∧ k ≠ X) w q :=
  ⟨⟨h.g.s, h.g.le, h.g.nl, fun ad e hL => ⟨h.g.st ad e hL, sg_far h.g.s hx hn ad e hL⟩⟩, ⟨h.c.s, h.c.le, h.c.nl, fun ad e hL => ⟨h.c.st ad e hL, sg_far h.c.s hx hn ad e hL⟩⟩, h.pg, h.pc⟩
section
variable {S : Nat → Prop} {B P : Nat} {M : Int} {x : ULn} {Ps Ls : List ULn} {w w' : World}
theorem US.setX (h : US S B P M x Ps Ls w) {X : Nat} {cs : Array Value} {t : TypeId} {f : Nat × Nat} (hS : S X) (hX : w.heap[X]? = some (.cells cs t f)) (hn : no2 cs) (i : Nat) (u : Value) : US S B P M x Ps Ls (w.setCell ⟨X, i, none⟩ u) := by
  obtain ⟨W, T, vs, rw, rt, h0, hc, hd⟩ := h.ex
  have hs : (w.setCell ⟨X, i, none⟩ u).heap.size = w.heap.size := by simp
  have hF : ∀ j, j ≠ X → (w.setCell ⟨X, i, none⟩ u).heap[j]? = w.heap[j]? := fun j hj => Below.heap_setCell w ⟨X, i, none⟩ _ j hj
  obtain ⟨o, ho⟩ := some_lt (h.lt X hS).2
  have hf := (h0.fo X o ⟨hS, ho⟩).1
  have hU : ∀ k, FrS B P vs rw rt w k → FrS B P vs rw rt (w.setCell ⟨X, i, none⟩ u) k := FrS.up (Nat.le_of_eq hs.symm)
  refine ⟨⟨W, T, vs, rw, rt, ⟨(hF P (fun e => hf.2.2.1 e.symm)).trans h0.blk, h0.now.keep fun j hj => hF j (fun e => hf.2.2.2.1 (e ▸ hj)), h0.were.keep fun j hj => hF j (fun e => hf.2.2.2.2.1 (e ▸ hj)), h0.taken.keep fun j hj => hF j (fun e => hf.2.2.2.2.2 (e ▸ hj)), h0.ap, fun q hq => ?_, fun q hq => ?_, h0.le, fun k o hk => ?_⟩, hc, hd⟩, fun k hk => ?_, h.len, h.m1, h.m2, h.sx, h.sp, h.sl⟩
  · exact (((h0.stW q hq).far hX hn).keep (Nat.le_of_eq hs.symm) (fun k hk => hF k hk.2)).mono fun k hk => hU k hk.1
  · exact (((h0.stT q hq).far hX hn).keep (Nat.le_of_eq hs.symm) (fun k hk => hF k hk.2)).mono fun k hk => hU k hk.1
  · obtain ⟨o', ho'⟩ := some_lt (h.lt k hk.1).2
    exact ⟨hU k (h0.fo k o' ⟨hk.1, ho'⟩).1, hk.2⟩
  · rw [hs]; exact h.lt k hk
end
/-- The document's lines. -/
structure RfT (Sr : Nat → Prop) (w : World) (x : LnR) (Ps Ls : List LnR) (pa : Option Addr) (pc : Nat) (la : Option Addr) (lc : Nat) : Prop where
  x : SlS Sr w x.2.1 x.1.1 x.2.2
  p : LnsR Sr w pa pc Ps
  l : LnsR Sr w la lc Ls
theorem RfT.keep {Sr : Nat → Prop} {w w' : World} {x : LnR} {Ps Ls : List LnR} {pa : Option Addr} {pc : Nat} {la : Option Addr} {lc : Nat} (h : RfT Sr w x Ps Ls pa pc la lc) (hs : w.heap.size ≤ w'.heap.size) (hk : ∀ k, Sr k → w'.heap[k]? = w.heap[k]?) : RfT Sr w' x Ps Ls pa pc la lc := ⟨h.x.keep hs hk, h.p.keep hs hk, h.l.keep hs hk⟩
/-- A trail beside the document's lines. -/
structure Ds (S Sr : Nat → Prop) (B P : Nat) (M : Int) (x : LnR) (Ps Ls : List LnR) (pa : Option Addr) (pc : Nat) (la : Option Addr) (lc : Nat) (w : World) : Prop where
  u : US S B P M x.1 (Ps.map (·.1)) (Ls.map (·.1)) w
  r : RfT Sr w x Ps Ls pa pc la lc
  sr : ∀ k, Sr k → k < w.heap.size ∧ (k < B ∨ S k)
abbrev grS (S : Nat → Prop) (w w' : World) : Nat → Prop := fun k => S k ∨ (w.heap.size ≤ k ∧ k < w'.heap.size)
section
variable {S Sr : Nat → Prop} {B P : Nat} {M : Int} {x : LnR} {Ps Ls : List LnR} {pa la : Option Addr} {pc lc : Nat} {w w' : World}
theorem Ds.grow (d : Ds S Sr B P M x Ps Ls pa pc la lc w) (hb : Below w.heap.size w w') : Ds (grS S w w') Sr B P M x Ps Ls pa pc la lc w' :=
  ⟨d.u.grow hb fun k hk => hk, d.r.keep hb.size (fun k hk => hb.block k (d.sr k hk).1), fun k hk => ⟨Nat.lt_of_lt_of_le (d.sr k hk).1 hb.size, (d.sr k hk).2.imp id Or.inl⟩⟩
theorem Ds.below (d : Ds S Sr B P M x Ps Ls pa pc la lc w) (hb : Below w.heap.size w w') : Ds S Sr B P M x Ps Ls pa pc la lc w' :=
  ⟨d.u.below hb, d.r.keep hb.size (fun k hk => hb.block k (d.sr k hk).1), fun k hk => ⟨Nat.lt_of_lt_of_le (d.sr k hk).1 hb.size, (d.sr k hk).2⟩⟩
theorem Ds.lr (d : Ds S Sr B P M x Ps Ls pa pc la lc w) : ∀ k, Sr k → k < w.heap.size := fun k hk => (d.sr k hk).1
theorem Ds.len (d : Ds S Sr B P M x Ps Ls pa pc la lc w) : (Ps.length : Int) + Ls.length ≤ M ∧ M ≤ 1000 ∧ 1 ≤ M := by
  have := d.u.len
  rw [List.length_map, List.length_map] at this
  exact ⟨this, d.u.m2, d.u.m1⟩
theorem KpU.below_of (hb : Below w.heap.size w w') (hB : B ≤ w.heap.size) (hS : ∀ k, S k → k < w.heap.size) : KpU B S w w' := ⟨hb.mono hB, fun k hk => hb.block k (hS k hk)⟩
theorem KpU.trans {w1 : World} (h : KpU B S w w1) (h' : KpU B S w1 w') : KpU B S w w' := ⟨h.b.trans h'.b, fun k hk => (h'.s k hk).trans (h.s k hk)⟩
theorem KpU.less {S' : Nat → Prop} (h : KpU B S' w w') (hS : ∀ k, S k → S' k) : KpU B S w w' := ⟨h.b, fun k hk => h.s k (hS k hk)⟩
/-- A call on the trail leaves the document's lines. -/
theorem RfT.kept (h : RfT Sr w x Ps Ls pa pc la lc) (hk : KpU B S w w') (hsr : ∀ k, Sr k → k < B ∨ S k) : RfT Sr w' x Ps Ls pa pc la lc :=
  h.keep hk.b.size fun k h1 => by
    rcases hsr k h1 with h2 | h2
    · exact hk.b.block k h2
    · exact hk.s k h2
/-- A box of the caller's is written. -/
theorem Ds.setT (d : Ds S Sr B P M x Ps Ls pa pc la lc w) {X : Nat} {a0 a2 a3 b0 b2 b3 : Option Addr} {m0 m2 m3 n0 n2 n3 k0 k2 k3 j0 j2 j3 : Nat} {i1 j1 : Int} {t : TypeId} (hS : S X) (hr : ¬ Sr X) (hX : w.heap[X]? = some (.cells #[.slice a0 m0 k0, .int .i64 i1, .slice a2 m2 k2, .slice a3 m3 k3] t (0, 0))) {WF : World}
    (hWF : (((w.setCell ⟨X, 0, none⟩ (.slice b0 n0 j0)).setCell ⟨X, 1, none⟩ (.int .i64 j1)).setCell ⟨X, 2, none⟩ (.slice b2 n2 j2)).setCell ⟨X, 3, none⟩ (.slice b3 n3 j3) = WF) : Ds S Sr B P M x Ps Ls pa pc la lc WF ∧ WF.heap[X]? = some (.cells #[.slice b0 n0 j0, .int .i64 j1, .slice b2 n2 j2, .slice b3 n3 j3] t (0, 0)) ∧ (∀ k, k ≠ X → WF.heap[k]? = w.heap[k]?) ∧ WF.heap.size = w.heap.size ∧ Below B w WF := by
  subst hWF
  have h1 := blk_set hX 0 (.slice b0 n0 j0)
  have h2 := blk_set h1 1 (.int .i64 j1)
  have h3 := blk_set h2 2 (.slice b2 n2 j2)
  have h4 := blk_set h3 3 (.slice b3 n3 j3)
  have hs : ((((w.setCell ⟨X, 0, none⟩ (.slice b0 n0 j0)).setCell ⟨X, 1, none⟩ (.int .i64 j1)).setCell ⟨X, 2, none⟩ (.slice b2 n2 j2)).setCell ⟨X, 3, none⟩ (.slice b3 n3 j3)).heap.size = w.heap.size := by simp
  have hF : ∀ k, k ≠ X → ((((w.setCell ⟨X, 0, none⟩ (.slice b0 n0 j0)).setCell ⟨X, 1, none⟩ (.int .i64 j1)).setCell ⟨X, 2, none⟩ (.slice b2 n2 j2)).setCell ⟨X, 3, none⟩ (.slice b3 n3 j3)).heap[k]? = w.heap[k]? := fun k hk => by
    rw [Below.heap_setCell _ _ _ _ hk, Below.heap_setCell _ _ _ _ hk, Below.heap_setCell _ _ _ _ hk, Below.heap_setCell _ _ _ _ hk]
  have hBX : B ≤ X := (d.u.lt X hS).1
  refine ⟨⟨(((d.u.setX hS hX (no2_T _ _ _ _ _ _ _ _ _ _) 0 _).setX hS h1 (no2_T _ _ _ _ _ _ _ _ _ _) 1 _).setX hS h2 (no2_T _ _ _ _ _ _ _ _ _ _) 2 _).setX hS h3 (no2_T _ _ _ _ _ _ _ _ _ _) 3 _, d.r.keep (Nat.le_of_eq hs.symm) (fun k hk => hF k (fun e => hr (e ▸ hk))), fun k hk => by rw [hs]; exact d.sr k hk⟩, h4, hF, hs, (((((Below.refl B w).setCell (p := ⟨X, 0, none⟩) hBX _).setCell (p := ⟨X, 1, none⟩) hBX _).setCell (p := ⟨X, 2, none⟩) hBX _).setCell (p := ⟨X, 3, none⟩) hBX _)⟩
end
section
variable {S : Nat → Prop} {xL cL : List Sn} {xi ci M : Int} {xa ca pa la : Option Addr} {xn xc cn cc pn pc ln lc : Nat} {Ps Ls : List LnR} {w : World}
/-- The document's Set. -/
theorem rset_any (j : Bool) (hx : SlS S w xa xL xc) (hp : LnsR S w pa pc Ps) (hl : LnsR S w la lc Ls) (hc : SlS S w ca cL cc) (hS : ∀ k, S k → k < w.heap.size) (hxn : xL.length = xn) (hpn : Ps.length = pn) (hln : Ls.length = ln) (hcn : cL.length = cn) (hx1 : xn ≤ 1000) (hc1 : cn ≤ 1000) (hp1 : pn ≤ 10000) (hM : 1 ≤ M) (hpM : (pn : Int) ≤ M) :
    Calls Tryd.prog 17 #[tV xa xn xc xi pa pn pc la ln lc, .agg #[.slice ca cn cc, .int .i64 ci], .bool j, .int .i64 M] w fun e w' => ∃ Ps' Ls' : List LnR, Ps'.map (·.1) = stP M (xL, xi) (cL, ci) (Ps.map (·.1)) j ∧ Ls'.map (·.1) = stT (xL, xi) (cL, ci) (Ls.map (·.1)) ∧ RsPost S ca cn cc ci Ps' Ls' w e w' := by
  by_cases he : cL = xL
  · have e1 : sgS cL xL = true := decide_eq_true he
    refine (rset_same hx hp hl hc hS hxn hpn hln hcn hx1 hc1 hp1 he).mono fun e w' h => ⟨Ps, Ls, ?_, ?_, h⟩
    · unfold stP; rw [if_pos e1]
    · unfold stT; rw [if_pos e1]
  have e1 : ¬ sgS cL xL = true := fun h => he (of_decide_eq_true h)
  have e2 : ∀ Ls : List ULn, stT (xL, xi) (cL, ci) Ls = [] := fun Ls => if_neg e1
  have hml : (Ps.map (·.1)).length = pn := by rw [List.length_map, hpn]
  cases j with
  | false =>
    have e3 : stP M (xL, xi) (cL, ci) (Ps.map (·.1)) false = if M < (pn : Int) + 1 then (Ps.map (·.1) ++ [(xL, xi)]).tail else Ps.map (·.1) ++ [(xL, xi)] := by
      unfold stP; rw [if_neg e1, if_neg (by simp), hml]
    by_cases ho : M < (pn : Int) + 1
    · refine (rset_FC hx hp hl hc hS hxn hpn hln hcn hx1 hc1 hp1 he ho).mono fun e w' h => ⟨_, _, ?_, ?_, h⟩
      · rw [e3, if_pos ho, List.map_tail, List.map_append]; rfl
      · rw [e2]; rfl
    · refine (rset_F hx hp hl hc hS hxn hpn hln hcn hx1 hc1 hp1 he ho).mono fun e w' h => ⟨_, _, ?_, ?_, h⟩
      · rw [e3, if_neg ho, List.map_append]; rfl
      · rw [e2]; rfl
  | true =>
    by_cases h0 : pn = 0
    · have hPs : Ps.map (·.1) = [] := List.length_eq_zero_iff.1 (hml.trans h0)
      refine (rset_T0 hx hp hl hc hS hxn hpn hln hcn hx1 hc1 hp1 he h0 hM).mono fun e w' h => ⟨_, _, ?_, ?_, h⟩
      · unfold stP; rw [if_neg e1, if_neg (by rw [hPs]; simp), hml, if_neg (by omega), List.map_append]; rfl
      · rw [e2]; rfl
    · have hPs : Ps.map (·.1) ≠ [] := fun e => h0 (by rw [← hml, e]; rfl)
      refine (rset_TP hx hp hl hc hS hxn hpn hln hcn hx1 hc1 hp1 he (by omega) hpM).mono fun e w' h => ⟨_, _, ?_, ?_, h⟩
      · unfold stP; rw [if_neg e1, if_pos ⟨rfl, hPs⟩]
      · rw [e2]; rfl
end
end Go.Proofs.YtjgffedcbdnddaaDoor
set_option linter.unusedVariables false
set_option linter.unusedSimpArgs false
namespace Go.Proofs.YtjgffedcbdnddaaDoor
open Go.RowKit
/-- What a call of the law leaves. -/
def DoPo (S Sr : Nat → Prop) (B P : Nat) (M : Int) (w : World) (e : Ending) (w' : World) : Prop :=
  ∃ (x' : LnR) (Ps' Ls' : List LnR) (pa' : Option Addr) (pc' : Nat) (la' : Option Addr) (lc' : Nat), e = .returned (.tuple #[tV x'.2.1 x'.1.1.length x'.2.2 x'.1.2 pa' Ps'.length pc' la' Ls'.length lc', .bool true]) ∧
    ∃ S' Sr' : Nat → Prop, Ds S' Sr' B P M x' Ps' Ls' pa' pc' la' lc' w' ∧ (∀ k, S k → S' k) ∧ (∀ k, Sr' k → k < B ∨ Sr k ∨ w.heap.size ≤ k) ∧ KpU B S w w'
section
variable {S Sr Sc : Nat → Prop} {B P : Nat} {xL cL : List Sn} {xi ci M : Int} {xa ca pa la : Option Addr} {xn xc cn cc pn pc ln lc : Nat} {Ps Ls : List LnR} {w : World}
set_option maxHeartbeats 8000000 in
theorem does_arg (d : Ds S Sr B P M ((xL, xi), (xa, xc)) Ps Ls pa pc la lc w) (j : Bool) (hxn : xL.length = xn) (hpn : Ps.length = pn) (hln : Ls.length = ln) (hcn : cL.length = cn) (hc60 : cn ≤ 60) (hc : SlS Sc w ca cL cc) (hm : mayL cL ci = false) :
    Calls Tryd.prog 7 #[.pointer (some ⟨P, 0, none⟩), tV xa xn xc xi pa pn pc la ln lc, .agg #[.int .i64 0, .slice ca cn cc, .int .i64 ci, .bool j], .int .i64 M] w (DoPo S Sr B P M w) := by
  obtain ⟨W, hW⟩ : ∃ W, ((w.alloc (.cells #[.slice xa xn xc, .int .i64 xi, .slice pa pn pc, .slice la ln lc] 33)).alloc (.cells #[.int .i64 0, .slice ca cn cc, .int .i64 ci, .bool j] 35)).alloc (.cells #[.slice none 0 0, .int .i64 0, .slice none 0 0, .slice none 0 0] 33) = W := ⟨_, rfl⟩
  obtain ⟨r0, r1, r2, rb⟩ := three_new w _ _ _ _ _ _ hW
  obtain ⟨X, hX⟩ : ∃ X, w.heap.size = X := ⟨_, rfl⟩
  obtain ⟨Y, hY⟩ : ∃ Y, X + 1 = Y := ⟨_, rfl⟩
  obtain ⟨Z, hZ⟩ : ∃ Z, Y + 1 = Z := ⟨_, rfl⟩
  rw [hX] at r0
  rw [hX, hY] at r1
  rw [hX, show X + 2 = Z by omega] at r2
  have hd := d.grow rb
  have hZl := blk_lt r2
  have hBw := d.u.hB
  have sX : grS S w W X := Or.inr ⟨by omega, by omega⟩
  have sY : grS S w W Y := Or.inr ⟨by omega, by omega⟩
  have sZ : grS S w W Z := Or.inr ⟨by omega, by omega⟩
  have nZ : ∀ k, Sr k → k ≠ Z := fun k hk => by have := d.lr k hk; omega
  have kW : KpU B S w W := KpU.below_of rb hBw (fun k hk => (d.u.lt k hk).2)
  have hlen := d.len
  have sx := d.u.sx
  dsimp only at sx
  have hcW := hc.below rb
  have ST := Lib.hid (uset_us_arg hd.u cL ca cn cc ci j hcn (by omega) hcW.s hm)
  have MY : Hid (∀ w1, Below W.heap.size W w1 → Calls Tryd.prog 16 #[.agg #[.slice ca cn cc, .int .i64 ci]] w1 fun e w' => e = .returned (.bool false) ∧ Below w1.heap.size w1 w') := Lib.hid fun w1 hb => by
    have h1 := r17_may cL ca cn cc ci w1 hcn (by omega) (hcW.below hb).s
    have h2 : (decide (0 ≤ ci) && decide (ci ≤ (cn : Int)) && sgC cL) = false := by
      rw [← hm]; unfold mayL; rw [hcn, Bool.and_assoc]
    rw [h2] at h1
    exact h1
  have HXN := Lib.hid hxn; have HPN := Lib.hid hpn; have HLN := Lib.hid hln
  have R0 := Lib.hid r0; have R1 := Lib.hid r1; have R2 := Lib.hid r2; have RB := Lib.hid rb
  have HX := Lib.hid hX; have HY := Lib.hid hY; have HZ := Lib.hid hZ
  have D := Lib.hid hd; have SX := Lib.hid sX; have SY := Lib.hid sY; have SZ := Lib.hid sZ; have NZ := Lib.hid nZ; have KW := Lib.hid kW
  have HBw := Lib.hid hBw; have HL := Lib.hid hlen; have D0 := Lib.hid d
  have a0 := cell_of_row _ _ 0 _ _ _ R0.out
  have a1 := cell_of_row _ _ 1 _ _ _ R0.out
  have a2 := cell_of_row _ _ 2 _ _ _ R0.out
  have a3 := cell_of_row _ _ 3 _ _ _ R0.out
  have d0 := cell_of_row _ _ 0 _ _ _ R1.out
  have d1 := cell_of_row _ _ 1 _ _ _ R1.out
  have d2 := cell_of_row _ _ 2 _ _ _ R1.out
  have d3 := cell_of_row _ _ 3 _ _ _ R1.out
  have zf := fun i => frozen_of_row _ Z i _ _ R2.out
  have e0 := cell_of_row _ _ 0 _ _ _ R2.out
  have e1 := cell_of_row _ _ 1 _ _ _ R2.out
  have e2 := cell_of_row _ _ 2 _ _ _ R2.out
  have e3 := cell_of_row _ _ 3 _ _ _ R2.out
  dsimp at a0 a1 a2 a3 d0 d1 d2 d3 e0 e1 e2 e3
  clear d hc hd r0 r1 r2 rb sX sY sZ nZ kW hBw hZl hlen sx hxn hpn hln hcn hm hcW
  go_enter Tryd.func7, Tryd.ntmps7
  go_upto_region 1 with fail
  try rw [hW]
  clear hW hX hY hZ
  go_wp2_with (first
    | (go_at_call 13; refine ST.out.mono ?_; rintro e w1 ⟨rfl, hb1⟩; have B1 := Lib.hid hb1; have R01 := Lib.hid (blk_below R0.out hb1); have R11 := Lib.hid (blk_below R1.out hb1); have R21 := Lib.hid (blk_below R2.out hb1); have a01 := cell_of_row _ _ 0 _ _ _ R01.out; have a11 := cell_of_row _ _ 1 _ _ _ R01.out; have a21 := cell_of_row _ _ 2 _ _ _ R01.out; have a31 := cell_of_row _ _ 3 _ _ _ R01.out; have d01 := cell_of_row _ _ 0 _ _ _ R11.out; have d11 := cell_of_row _ _ 1 _ _ _ R11.out; have d21 := cell_of_row _ _ 2 _ _ _ R11.out; have d31 := cell_of_row _ _ 3 _ _ _ R11.out; have zf1 := fun i => frozen_of_row _ Z i _ _ R21.out; have e01 := cell_of_row _ _ 0 _ _ _ R21.out; have e11 := cell_of_row _ _ 1 _ _ _ R21.out; have e21 := cell_of_row _ _ 2 _ _ _ R21.out; have e31 := cell_of_row _ _ 3 _ _ _ R21.out; dsimp at a01 a11 a21 a31 d01 d11 d21 d31 e01 e11 e21 e31; clear hb1)
    | (go_at_call 16; refine (MY.out _ B1.out).mono ?_; rintro e w2 ⟨rfl, hb2⟩; have B2 := Lib.hid (seqB B1.out hb2); have R02 := Lib.hid (blk_below R01.out hb2); have R12 := Lib.hid (blk_below R11.out hb2); have R22 := Lib.hid (blk_below R21.out hb2); have a02 := cell_of_row _ _ 0 _ _ _ R02.out; have a12 := cell_of_row _ _ 1 _ _ _ R02.out; have a22 := cell_of_row _ _ 2 _ _ _ R02.out; have a32 := cell_of_row _ _ 3 _ _ _ R02.out; have d02 := cell_of_row _ _ 0 _ _ _ R12.out; have d12 := cell_of_row _ _ 1 _ _ _ R12.out; have d22 := cell_of_row _ _ 2 _ _ _ R12.out; have d32 := cell_of_row _ _ 3 _ _ _ R12.out; have zf2 := fun i => frozen_of_row _ Z i _ _ R22.out; have e02 := cell_of_row _ _ 0 _ _ _ R22.out; have e12 := cell_of_row _ _ 1 _ _ _ R22.out; have e22 := cell_of_row _ _ 2 _ _ _ R22.out; have e32 := cell_of_row _ _ 3 _ _ _ R22.out; dsimp at a02 a12 a22 a32 d02 d12 d22 d32 e02 e12 e22 e32; clear hb2))
  clear a0 a1 a2 a3 d0 d1 d2 d3 zf e0 e1 e2 e3 a01 a11 a21 a31 d01 d11 d21 d31 zf1 e01 e11 e21 e31 a02 a12 a22 a32 d02 d12 d22 d32 zf2 e02 e12 e22 e32
  have d3 := D.out.below B2.out
  generalize hWF : World.setCell _ _ _ = WF
  obtain ⟨d4, hb4, hF, hs4, hBe⟩ := d3.setT (X := Z) SZ.out (fun h => NZ.out Z h rfl) R22.out hWF
  have g0 := cell_of_row _ _ 0 _ _ _ hb4
  have g1 := cell_of_row _ _ 1 _ _ _ hb4
  have g2 := cell_of_row _ _ 2 _ _ _ hb4
  have g3 := cell_of_row _ _ 3 _ _ _ hb4
  dsimp at g0 g1 g2 g3
  refine bodyPost_ret (v := .tuple #[.agg #[.slice xa xn xc, .int .i64 xi, .slice pa pn pc, .slice la ln lc], .bool true]) (by simp [results, Tryd.results7, go_sem, g0, g1, g2, g3]) rfl ?_
  refine ⟨((xL, xi), (xa, xc)), Ps, Ls, pa, pc, la, lc, by rw [HPN.out, HLN.out, ← HXN.out], _, _, d4, fun k hk => Or.inl hk, fun k hk => Or.inr (Or.inl hk), ?_⟩
  refine (KW.out.trans (KpU.below_of B2.out (by have := RB.out.size; have := HBw.out; omega) (fun k hk => by have := (D0.out.u.lt k hk).2; have := RB.out.size; omega))).trans ⟨hBe, fun k hk => hF k (fun e => ?_)⟩
  have := (D0.out.u.lt k hk).2; have := HX.out; have := HY.out; have := HZ.out; omega
set_option maxHeartbeats 8000000 in
theorem does_set (d : Ds S Sr B P M ((xL, xi), (xa, xc)) Ps Ls pa pc la lc w) (j : Bool) (hxn : xL.length = xn) (hpn : Ps.length = pn) (hln : Ls.length = ln) (hcn : cL.length = cn) (hc60 : cn ≤ 60) (hc : SlS Sc w ca cL cc) (hSc : ∀ k, Sc k → k < B) (hm : mayL cL ci = true) :
    Calls Tryd.prog 7 #[.pointer (some ⟨P, 0, none⟩), tV xa xn xc xi pa pn pc la ln lc, .agg #[.int .i64 0, .slice ca cn cc, .int .i64 ci, .bool j], .int .i64 M] w (DoPo S Sr B P M w) := by
  obtain ⟨W, hW⟩ : ∃ W, ((w.alloc (.cells #[.slice xa xn xc, .int .i64 xi, .slice pa pn pc, .slice la ln lc] 33)).alloc (.cells #[.int .i64 0, .slice ca cn cc, .int .i64 ci, .bool j] 35)).alloc (.cells #[.slice none 0 0, .int .i64 0, .slice none 0 0, .slice none 0 0] 33) = W := ⟨_, rfl⟩
  obtain ⟨r0, r1, r2, rb⟩ := three_new w _ _ _ _ _ _ hW
  obtain ⟨X, hX⟩ : ∃ X, w.heap.size = X := ⟨_, rfl⟩
  obtain ⟨Y, hY⟩ : ∃ Y, X + 1 = Y := ⟨_, rfl⟩
  obtain ⟨Z, hZ⟩ : ∃ Z, Y + 1 = Z := ⟨_, rfl⟩
  rw [hX] at r0
  rw [hX, hY] at r1
  rw [hX, show X + 2 = Z by omega] at r2
  have hd := d.grow rb
  have hZl := blk_lt r2
  have hBw := d.u.hB
  have sX : grS S w W X := Or.inr ⟨by omega, by omega⟩
  have sY : grS S w W Y := Or.inr ⟨by omega, by omega⟩
  have sZ : grS S w W Z := Or.inr ⟨by omega, by omega⟩
  have nZ : ∀ k, Sr k → k ≠ Z := fun k hk => by have := d.lr k hk; omega
  have kW : KpU B S w W := KpU.below_of rb hBw (fun k hk => (d.u.lt k hk).2)
  have hlen := d.len
  have sx := d.u.sx
  dsimp only at sx
  have hcW := hc.below rb
  have ST := Lib.hid (uset_us hd.u cL ca cn cc ci j hcn hc60 Sc hcW (fun k hk => Or.inl (hSc k hk)) hm)
  have MY : Hid (∀ w1, Below B W w1 → Calls Tryd.prog 16 #[.agg #[.slice ca cn cc, .int .i64 ci]] w1 fun e w' => e = .returned (.bool true) ∧ Below w1.heap.size w1 w') := Lib.hid fun w1 hb => by
    have h1 := r17_may cL ca cn cc ci w1 hcn (by omega) (hcW.keep hb.size (fun k hk => hb.block k (hSc k hk))).s
    have h2 : (decide (0 ≤ ci) && decide (ci ≤ (cn : Int)) && sgC cL) = true := by
      rw [← hm]; unfold mayL; rw [hcn, Bool.and_assoc]
    rw [h2] at h1
    exact h1
  have RS : Hid (∀ w2, RfT Sr w2 ((xL, xi), (xa, xc)) Ps Ls pa pc la lc → Below B W w2 → Calls Tryd.prog 17 #[.agg #[.slice xa xn xc, .int .i64 xi, .slice pa pn pc, .slice la ln lc], .agg #[.slice ca cn cc, .int .i64 ci], .bool j, .int .i64 M] w2 fun e w' => ∃ Ps' Ls' : List LnR, Ps'.map (·.1) = stP M (xL, xi) (cL, ci) (Ps.map (·.1)) j ∧ Ls'.map (·.1) = stT (xL, xi) (cL, ci) (Ls.map (·.1)) ∧ RsPost (fun k => k < B ∨ Sr k) ca cn cc ci Ps' Ls' w2 e w') := Lib.hid fun w2 hr hb => by
    have hB2 : ∀ k, (k < B ∨ Sr k) → k < w2.heap.size := fun k hk => by
      have := hb.size; have := rb.size
      rcases hk with hk | hk
      · omega
      · have := d.lr k hk; omega
    exact rset_any j (hr.x.mono fun k hk => Or.inr hk) (hr.p.mono fun k hk => Or.inr hk) (hr.l.mono fun k hk => Or.inr hk) ((hcW.keep hb.size (fun k hk => hb.block k (hSc k hk))).mono fun k hk => Or.inl (hSc k hk)) hB2 hxn hpn hln hcn (by omega) (by omega) (by omega) (by omega) (by omega)
  have CW : Hid (∀ w3, Below B W w3 → SlS (fun k => k < B) w3 ca cL cc) := Lib.hid fun w3 hb => (hcW.keep hb.size (fun k hk => hb.block k (hSc k hk))).mono hSc
  have HCN := Lib.hid hcn
  have R0 := Lib.hid r0; have R1 := Lib.hid r1; have R2 := Lib.hid r2; have RB := Lib.hid rb
  have HX := Lib.hid hX; have HY := Lib.hid hY; have HZ := Lib.hid hZ
  have D := Lib.hid hd; have SX := Lib.hid sX; have SY := Lib.hid sY; have SZ := Lib.hid sZ; have NZ := Lib.hid nZ; have KW := Lib.hid kW
  have HBw := Lib.hid hBw; have HL := Lib.hid hlen; have D0 := Lib.hid d
  have a0 := cell_of_row _ _ 0 _ _ _ R0.out
  have a1 := cell_of_row _ _ 1 _ _ _ R0.out
  have a2 := cell_of_row _ _ 2 _ _ _ R0.out
  have a3 := cell_of_row _ _ 3 _ _ _ R0.out
  have d0 := cell_of_row _ _ 0 _ _ _ R1.out
  have d1 := cell_of_row _ _ 1 _ _ _ R1.out
  have d2 := cell_of_row _ _ 2 _ _ _ R1.out
  have d3 := cell_of_row _ _ 3 _ _ _ R1.out
  have zf := fun i => frozen_of_row _ Z i _ _ R2.out
  have e0 := cell_of_row _ _ 0 _ _ _ R2.out
  have e1 := cell_of_row _ _ 1 _ _ _ R2.out
  have e2 := cell_of_row _ _ 2 _ _ _ R2.out
  have e3 := cell_of_row _ _ 3 _ _ _ R2.out
  dsimp at a0 a1 a2 a3 d0 d1 d2 d3 e0 e1 e2 e3
  clear d hc hd r0 r1 r2 rb sX sY sZ nZ kW hBw hZl hlen sx hxn hpn hln hcn hm hcW hSc
  go_enter Tryd.func7, Tryd.ntmps7
  go_upto_region 1 with fail
  try rw [hW]
  clear hW hX hY hZ
  go_wp2_with (first
    | (go_at_call 13; refine ST.out.mono ?_; rintro e w1 ⟨rfl, u1, hk1⟩; have U1 := Lib.hid u1; have K1 := Lib.hid hk1; have R01 := Lib.hid ((hk1.s X SX.out).trans R0.out); have R11 := Lib.hid ((hk1.s Y SY.out).trans R1.out); have R21 := Lib.hid ((hk1.s Z SZ.out).trans R2.out); have a01 := cell_of_row _ _ 0 _ _ _ R01.out; have a11 := cell_of_row _ _ 1 _ _ _ R01.out; have a21 := cell_of_row _ _ 2 _ _ _ R01.out; have a31 := cell_of_row _ _ 3 _ _ _ R01.out; have d01 := cell_of_row _ _ 0 _ _ _ R11.out; have d11 := cell_of_row _ _ 1 _ _ _ R11.out; have d21 := cell_of_row _ _ 2 _ _ _ R11.out; have d31 := cell_of_row _ _ 3 _ _ _ R11.out; have zf1 := fun i => frozen_of_row _ Z i _ _ R21.out; have e01 := cell_of_row _ _ 0 _ _ _ R21.out; have e11 := cell_of_row _ _ 1 _ _ _ R21.out; have e21 := cell_of_row _ _ 2 _ _ _ R21.out; have e31 := cell_of_row _ _ 3 _ _ _ R21.out; dsimp at a01 a11 a21 a31 d01 d11 d21 d31 e01 e11 e21 e31; clear u1 hk1)
    | (go_at_call 16; refine (MY.out _ K1.out.b).mono ?_; rintro e w2 ⟨rfl, hb2⟩; have B2 := Lib.hid hb2; have R02 := Lib.hid (blk_below R01.out hb2); have R12 := Lib.hid (blk_below R11.out hb2); have R22 := Lib.hid (blk_below R21.out hb2); have a02 := cell_of_row _ _ 0 _ _ _ R02.out; have a12 := cell_of_row _ _ 1 _ _ _ R02.out; have a22 := cell_of_row _ _ 2 _ _ _ R02.out; have a32 := cell_of_row _ _ 3 _ _ _ R02.out; have d02 := cell_of_row _ _ 0 _ _ _ R12.out; have d12 := cell_of_row _ _ 1 _ _ _ R12.out; have d22 := cell_of_row _ _ 2 _ _ _ R12.out; have d32 := cell_of_row _ _ 3 _ _ _ R12.out; have zf2 := fun i => frozen_of_row _ Z i _ _ R22.out; have e02 := cell_of_row _ _ 0 _ _ _ R22.out; have e12 := cell_of_row _ _ 1 _ _ _ R22.out; have e22 := cell_of_row _ _ 2 _ _ _ R22.out; have e32 := cell_of_row _ _ 3 _ _ _ R22.out; dsimp at a02 a12 a22 a32 d02 d12 d22 d32 e02 e12 e22 e32; have RF2 := Lib.hid (((D.out.r.kept K1.out (fun k hk => (D.out.sr k hk).2))).keep hb2.size (fun k hk => hb2.block k (by have := D0.out.lr k hk; have := RB.out.size; have := K1.out.b.size; omega))); have BB2 := Lib.hid (K1.out.b.trans (hb2.mono (by have := RB.out.size; have := K1.out.b.size; have := HBw.out; omega))); clear hb2)
    | (go_at_call 17; refine (RS.out _ RF2.out BB2.out).mono ?_; rintro e w3 ⟨Ps', Ls', hm1, hm2, pa', pc', la', lc', rfl, hp', hl', hb3⟩; have B3 := Lib.hid hb3; have R03 := Lib.hid (blk_below R02.out hb3); have R13 := Lib.hid (blk_below R12.out hb3); have R23 := Lib.hid (blk_below R22.out hb3); have a03 := cell_of_row _ _ 0 _ _ _ R03.out; have a13 := cell_of_row _ _ 1 _ _ _ R03.out; have a23 := cell_of_row _ _ 2 _ _ _ R03.out; have a33 := cell_of_row _ _ 3 _ _ _ R03.out; have d03 := cell_of_row _ _ 0 _ _ _ R13.out; have d13 := cell_of_row _ _ 1 _ _ _ R13.out; have d23 := cell_of_row _ _ 2 _ _ _ R13.out; have d33 := cell_of_row _ _ 3 _ _ _ R13.out; have zf3 := fun i => frozen_of_row _ Z i _ _ R23.out; have e03 := cell_of_row _ _ 0 _ _ _ R23.out; have e13 := cell_of_row _ _ 1 _ _ _ R23.out; have e23 := cell_of_row _ _ 2 _ _ _ R23.out; have e33 := cell_of_row _ _ 3 _ _ _ R23.out; dsimp at a03 a13 a23 a33 d03 d13 d23 d33 e03 e13 e23 e33; have HM1 := Lib.hid hm1; have HM2 := Lib.hid hm2; have HP3 := Lib.hid hp'; have HL3 := Lib.hid hl'; clear hm1 hm2 hp' hl' hb3))
  clear a0 a1 a2 a3 d0 d1 d2 d3 zf e0 e1 e2 e3 a01 a11 a21 a31 d01 d11 d21 d31 zf1 e01 e11 e21 e31 a02 a12 a22 a32 d02 d12 d22 d32 zf2 e02 e12 e22 e32 a03 a13 a23 a33 d03 d13 d23 d33 zf3 e03 e13 e23 e33
  have hBs : B ≤ w2.heap.size := by have := BB2.out.size; have := RB.out.size; have := HBw.out; omega
  have BB3 := BB2.out.trans (B3.out.mono hBs)
  have hu : US (grS (grS S w W) w2 w3) B P M (cL, ci) (Ps'.map (·.1)) (Ls'.map (·.1)) w3 := by
    rw [HM1.out, HM2.out]
    exact (U1.out.below B2.out).grow B3.out (fun k hk => hk)
  have hW2 : W.heap.size ≤ w2.heap.size := BB2.out.size
  have hZ2 := blk_lt R2.out
  have d3 : Ds (grS (grS S w W) w2 w3) (fun k => (k < B ∨ Sr k) ∨ (w2.heap.size ≤ k ∧ k < w3.heap.size)) B P M ((cL, ci), (ca, cc)) Ps' Ls' pa' pc' la' lc' w3 :=
    ⟨hu, ⟨(CW.out _ BB3).mono fun k hk => Or.inl (Or.inl hk), HP3.out, HL3.out⟩, fun k hk => by
      have := B3.out.size
      rcases hk with (hk | hk) | hk
      · exact ⟨by omega, Or.inl hk⟩
      · have h1 := D.out.sr k hk
        exact ⟨by omega, h1.2.imp id Or.inl⟩
      · exact ⟨hk.2, Or.inr (Or.inr hk)⟩⟩
  generalize hWF : World.setCell _ _ _ = WF
  obtain ⟨d4, hb4, hF, hs4, hBe⟩ := d3.setT (X := Z) (Or.inl SZ.out) (fun h => by
    rcases h with (h | h) | h
    · have := HBw.out; have := HX.out; have := HY.out; have := HZ.out; omega
    · exact NZ.out Z h rfl
    · omega) R23.out hWF
  have g0 := cell_of_row _ _ 0 _ _ _ hb4
  have g1 := cell_of_row _ _ 1 _ _ _ hb4
  have g2 := cell_of_row _ _ 2 _ _ _ hb4
  have g3 := cell_of_row _ _ 3 _ _ _ hb4
  dsimp at g0 g1 g2 g3
  refine bodyPost_ret (v := .tuple #[.agg #[.slice ca cn cc, .int .i64 ci, .slice pa' Ps'.length pc', .slice la' Ls'.length lc'], .bool true]) (by simp [results, Tryd.results7, go_sem, g0, g1, g2, g3]) rfl ?_
  refine ⟨((cL, ci), (ca, cc)), Ps', Ls', pa', pc', la', lc', by rw [← HCN.out], _, _, d4, fun k hk => Or.inl (Or.inl hk), fun k hk => ?_, ?_⟩
  · rcases hk with (hk | hk) | hk
    · exact Or.inl hk
    · exact Or.inr (Or.inl hk)
    · have := RB.out.size; exact Or.inr (Or.inr (by omega))
  · refine ((KW.out.trans (K1.out.less fun k hk => Or.inl hk)).trans ((KpU.below_of B2.out (by have := K1.out.b.size; have := RB.out.size; have := HBw.out; omega) (fun k hk => by have := (D0.out.u.lt k hk).2; have := K1.out.b.size; have := RB.out.size; omega)).trans (KpU.below_of B3.out hBs (fun k hk => by have := (D0.out.u.lt k hk).2; have := RB.out.size; omega)))).trans ⟨hBe, fun k hk => hF k (fun e => ?_)⟩
    have := (D0.out.u.lt k hk).2; have := HX.out; have := HY.out; have := HZ.out; omega
end
end Go.Proofs.YtjgffedcbdnddaaDoor
