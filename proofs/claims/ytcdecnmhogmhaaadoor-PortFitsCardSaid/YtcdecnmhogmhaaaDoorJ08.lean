/-
  Joined: R16 R17 R18 R19 R20.
-/
import Derived.Test.YtcdecnmhogmhaaaDoorJ06
import Derived.Test.YtcdecnmhogmhaaaDoorJ07
import Derived.Deep.RegionHeld3
import Derived.Deep.RegionLaw
import Derived.Deep.CutRange
set_option linter.unusedVariables false
set_option linter.unusedSimpArgs false
set_option maxRecDepth 100000
set_option linter.unusedVariables false
set_option linter.unusedSimpArgs false
namespace Go.Proofs.YtcdecnmhogmhaaaDoor
open Go.RowKit
theorem putter_any (a : Option Addr) (n : Int) (w : World) :
    Calls Tryd.prog 112 #[.pointer a, .int .i64 n] w fun e w' => e = .returned (.func (.func 152) #[] #[.pointer (some ⟨w.heap.size, 0, none⟩), .pointer (some ⟨w.heap.size + 1, 0, none⟩)]) ∧ w' = (w.alloc (.cells #[.pointer a] 141)).alloc (.cells #[.int .i64 n] 3) := by
  go_enter Tryd.func112, Tryd.ntmps112
  go_wp2
  go_ret
  exact ⟨rfl, rfl⟩
theorem infoCS : (Tryd.prog.info? 36).map (fun i => (i.zero, i.size, i.bytes)) = some (some (.slice none 0 0), 1, 24) := by kernel_rfl
theorem CellsIn.block {w w' : World} {ad : Addr} {L : List Cl} (h : CellsIn w (some ad) L) (hb : w'.heap[ad.block]? = w.heap[ad.block]?) (hs : w.heap.size ≤ w'.heap.size) : CellsIn w' (some ad) L := fun i hi => by
  obtain ⟨b, off, e, hlt, h1, h2, h3, h4, h5⟩ := h i hi
  injection e with e
  subst e
  have c := fun o => World.cell?_of_block (w := w) (w' := w') (a := ⟨b, o, none⟩) hb
  exact ⟨b, off, rfl, Nat.lt_of_lt_of_le hlt hs, (c _).trans h1, (c _).trans h2, (c _).trans h3, (c _).trans h4, (c _).trans h5⟩
theorem own_blk_cells {w : World} {B n size g cap : Nat} {e : TypeId} {xs : List Value} (h : w.ownsRow B e size (.slice (some ⟨g, 0, none⟩) n cap) n xs) : ∃ cg, w.heap[g]? = some (.cells cg e (0, 0)) := by
  rcases h.2 with ⟨h0, _⟩ | ⟨g', cap', cur, e', _, hg, _⟩
  · cases h0
  · obtain rfl : g = g' := by simpa using (Value.slice.inj e').1
    exact ⟨_, hg⟩
set_option maxHeartbeats 8000000 in
theorem put_any (p : List Cl) (pa : Addr) (pc : Nat) (n : Int) (b1 b2 B q : Nat) (v vy : Value) (vs : List Value) (X : List (List Cl)) (y : List Cl) (w : World) (hp : 0 < p.length) (hp2 : p.length ≤ 1000) (hX : X.length ≤ 1000000) (hy : y.length ≤ 1000000)
    (ha : CellsIn w (some pa) p) (hpv : v.ownBlock ≠ some pa.block) (hpq : pa.block ≠ q) (hL : LayM w B q v vy vs X y) (hB : B ≤ q)
    (h1 : w.heap[b1]? = some (.cells #[.pointer (some ⟨q, 0, none⟩)] 141 (0, 0))) (h2 : w.heap[b2]? = some (.cells #[.int .i64 n] 3 (0, 0))) :
    Calls Tryd.prog 152 #[.slice (some pa) p.length pc, .pointer (some ⟨b1, 0, none⟩), .pointer (some ⟨b2, 0, none⟩)] w fun e w' => e = .returned (.agg #[.int .i64 ((lyX n X y p.length).length : Int), .int .i64 ((lyY n y p.length).length : Int)]) ∧
      (∃ v' vy' vs', LayM w' B q v' vy' vs' (lyX n X y p.length) (lyY n y p.length ++ p)) ∧ PutK B w w' := by
  obtain ⟨i0, hi, hz0, hz1, hz2⟩ := info_parts infoCell
  obtain ⟨i1, hj, hy0, hy1, hy2⟩ := info_parts infoCS
  have hX2 : lyX n X y p.length = if n < (y.length : Int) + p.length then X ++ [y] else X := rfl
  have hY2 : lyY n y p.length = if n < (y.length : Int) + p.length then [] else y := rfl
  obtain ⟨g, cap, rfl, hBg, hgs, hcl, hfr⟩ := hL.form
  obtain ⟨hqc, hqf⟩ := hL.cells
  obtain ⟨ya, yc, rfl, _⟩ := cells_of_own hL.last
  have hqlt := blk_lt hL.var
  have h1lt := blk_lt h1
  have h2lt := blk_lt h2
  have c1 : w.cell? ⟨b1, 0, none⟩ = some (.pointer (some ⟨q, 0, none⟩)) := by rw [cell_of_row _ _ _ _ _ _ h1]; rfl
  have c2 : w.cell? ⟨b2, 0, none⟩ = some (.int .i64 n) := by rw [cell_of_row _ _ _ _ _ _ h2]; rfl
  have hm : ((X.length + 1 : Nat) : Int) - 1 = (X.length : Int) := by omega
  have hm0 : (0 : Int) ≤ X.length := by omega
  have hm1 : (X.length : Int) < ((X.length + 1 : Nat) : Int) := by omega
  have HL := Lib.hid hL
  have HA := Lib.hid ha
  have HX := Lib.hid hX2; have HY := Lib.hid hY2
  clear hL ha hX2 hY2
  generalize hxl : X.length = m at *
  generalize hyl : y.length = ly at *
  generalize hpl : p.length = lp at *
  have hBw : B ≤ w.heap.size := by omega
  have hres := heap_alloc_new w (.cells #[.int .i64 0, .int .i64 0] 99)
  have HK := Lib.hid ((PutK.refl (B := B) w).alloc (by omega) (.cells #[.int .i64 0, .int .i64 0] 99))
  replace HL := Lib.hid (HL.out.alloc (.cells #[.int .i64 0, .int .i64 0] 99))
  replace HA := Lib.hid (HA.out.block (w' := w.alloc (.cells #[.int .i64 0, .int .i64 0] 99)) (Below.heap_alloc _ _ _ (by
    obtain ⟨b, off, e, hlt, _⟩ := HA.out 0 (by omega)
    injection e with e
    rw [e]; exact hlt)) (by simp))
  have d1 := fun o => (World.cell?_alloc_lt w o (⟨b1, 0, none⟩ : Addr) h1lt).trans c1
  have d2 := fun o => (World.cell?_alloc_lt w o (⟨b2, 0, none⟩ : Addr) h2lt).trans c2
  have d3 := fun o => (World.cell?_alloc_lt w o (⟨q, 0, none⟩ : Addr) hqlt).trans hqc
  have d4 := fun o => (World.cell?_alloc_lt w o (⟨g, m, none⟩ : Addr) hgs).trans hcl
  have k1 := (HK.out.cell h1 (by decide) (by decide) (by decide))
  have k2 := (HK.out.cell h2 (by decide) (by decide) (by decide))
  go_enter Tryd.func152, Tryd.ntmps152
  go_wp2
  go_quiet (fail)
  go_upto_if 23 with (fail)
  replace HK := Lib.hid (show PutK B w ((w.alloc (.cells #[.int .i64 0, .int .i64 0] 99)).drewN nq) from ⟨drewN_below HK.out.below nq, HK.out.kind⟩)
  replace HL := Lib.hid (show LayM ((w.alloc (.cells #[.int .i64 0, .int .i64 0] 99)).drewN nq) B q _ _ vs X y from ⟨HL.out.var, HL.out.len, HL.out.out, HL.out.last, HL.out.old⟩)
  replace HA := Lib.hid (show CellsIn ((w.alloc (.cells #[.int .i64 0, .int .i64 0] 99)).drewN nq) (some pa) p from HA.out)
  replace hres := (show ((w.alloc (.cells #[.int .i64 0, .int .i64 0] 99)).drewN nq).heap[w.heap.size]? = _ from hres)
  replace k1 := (show ((w.alloc (.cells #[.int .i64 0, .int .i64 0] 99)).drewN nq).heap[b1]? = _ from k1)
  replace k2 := (show ((w.alloc (.cells #[.int .i64 0, .int .i64 0] 99)).drewN nq).heap[b2]? = _ from k2)
  have hpl0 : pa.block < ((w.alloc (.cells #[.int .i64 0, .int .i64 0] 99)).drewN nq).heap.size := by
    obtain ⟨b, off, e, hlt, _⟩ := HA.out 0 (by omega)
    injection e with e
    rw [e]; exact hlt
  clear d1 d2 d3 d4 c1 c2 hcl hfr hqc hqf hgs hqlt h1lt h2lt h1 h2
  generalize hr : w.heap.size = r at *
  generalize (w.alloc _).drewN nq = W0 at *
  have HK1 := Lib.hid (PutK.refl (B := B) W0)
  go_cut [5] from 23 to 32 (fun s5 wx => ∃ v' vy' vs', s5 = .int .i64 ((lyX n X y lp).length : Int) ∧ Hid (LayM wx B q v' vy' vs' (lyX n X y lp) (lyY n y lp)) ∧ Hid (PutK B W0 wx) ∧ Hid (CellsIn wx (some pa) p))
  case first =>
    by_cases hnew : n < (ly : Int) + lp
    · obtain ⟨hqc, hqf⟩ := HL.out.cells
      have hqlt := blk_lt HL.out.var
      have h1lt := blk_lt k1
      have c1 : W0.cell? ⟨b1, 0, none⟩ = some (.pointer (some ⟨q, 0, none⟩)) := by rw [cell_of_row _ _ _ _ _ _ k1]; rfl
      have hown := HL.out.out
      rw [hxl] at hown
      have Hown := Lib.hid hown
      have n1 := own_ne_kind hown k1 (by decide)
      have nq := own_ne_kind hown HL.out.var (by decide)
      clear hown
      have d1 := fun o => (World.cell?_alloc_lt W0 o (⟨b1, 0, none⟩ : Addr) h1lt).trans c1
      have d3 := fun o => (World.cell?_alloc_lt W0 o (⟨q, 0, none⟩ : Addr) hqlt).trans hqc
      have d3f := fun o => (World.frozen?_of_block (w := W0) (w' := W0.alloc o) (a := ⟨q, 0, none⟩) (Below.heap_alloc _ _ _ hqlt)).trans hqf
      go_wp2
      go_region_law (first | (refine step_append_lies _ (by rfl) _ _ _ (by rfl) B 36 i1 _ 1 24 Tryd.underlying26 hj hy0 hy1 hy2 rfl (by decide) _ (m + 1) (vs ++ [Value.slice ya ly yc]) (by rfl) ((show (W0.alloc _).drew.ownsRow _ _ _ _ _ _ from Hown.out.alloc _)) ⟨W0.heap.size, 0, none⟩ 1 1 [.slice none 0 0] (by rfl) (by rfl) (fun j x hj => app_cells rfl hj) (by simp [Value.oneCell']) (by omega) (by unfold maxLen; omega) (by omega) (by simp; omega) (W0.heap.size + 1) (by simp) ?_; intro gg cap2 w1 hown1 hgrow hat hlt1; have e1 := (hgrow.cell_far ⟨b1, 0, none⟩ (by simp; omega) (Ne.symm n1)).trans (d1 _); have e3 := (hgrow.cell_far ⟨q, 0, none⟩ (by simp; omega) (Ne.symm nq)).trans (d3 _); have e4 := (hgrow.frozen_far ⟨q, 0, none⟩ (by simp; omega) (Ne.symm nq)).trans (d3f _)))
      all_goals
        have HN := Lib.hid (LayM.fresh (HL.out.alloc (.cells #[.slice none 0 0] 36)).drew (by rw [hxl]; exact hown1) hgrow)
        have hzz := HK.out.below.size
        have P1 := (((HK1.out.alloc (by omega) (.cells #[.slice none 0 0] 36)).drew).grown (by simp; omega) (Hown.out.alloc _).drew hgrow (Or.inl rfl))
        have hqw := (hgrow.block q (by simp; omega) (Ne.symm nq)).trans (blk_alloc HL.out.var _)
        have HP := Lib.hid (P1.set (a := ⟨q, 0, none⟩) hB hqw (Or.inl rfl) (.slice (some ⟨gg, 0, none⟩) (m + 1 + 1) cap2))
        have HC := Lib.hid (HA.out.block (w' := w1.setCell ⟨q, 0, none⟩ (.slice (some ⟨gg, 0, none⟩) (m + 1 + 1) cap2)) ((Below.heap_setCell _ _ _ _ hpq).trans ((hgrow.block pa.block (by simp; omega) (Ne.symm hpv)).trans (Below.heap_alloc _ _ _ hpl0))) (by have := hgrow.size; simp [World.setCell] at this ⊢; omega))
        clear P1 hqw hown1 hgrow hat
        go_wp2_with fail
        go_meet
        exact ⟨_, _, _, by rw [HX.out, if_pos hnew]; simp [hxl], Lib.hid (by rw [HX.out, HY.out, if_pos hnew, if_pos hnew]; exact HN.out), HP, HC⟩
    · go_wp2_with fail
      go_meet
      exact ⟨_, _, _, by rw [HX.out, if_neg (Int.not_lt.2 hnew), hxl], Lib.hid (by rw [HX.out, HY.out, if_neg (Int.not_lt.2 hnew), if_neg (Int.not_lt.2 hnew)]; exact HL.out), HK1, HA⟩
  case rest =>
    obtain ⟨v2, vy2, vs2, rfl, HL2, HK2, HA2⟩ := hcut
    have k1' := HK2.out.cell k1 (by decide) (by decide) (by decide)
    have hres' := HK2.out.cell hres (by decide) (by decide) (by decide)
    have hx2 : (lyX n X y lp).length ≤ 1000001 := by
      rw [HX.out]; split
      · rw [List.length_append, List.length_singleton]; omega
      · omega
    have hy3 : (lyY n y lp).length ≤ 1000000 := by
      rw [HY.out]; split
      · show 0 ≤ _; omega
      · omega
    clear HX HY HL HA k1 k2 hres
    generalize hXe : lyX n X y lp = X2 at *
    generalize hYe : lyY n y lp = y2 at *
    obtain ⟨g2, cap2, rfl, hBg2, hgs, hcl, hfr⟩ := HL2.out.form
    obtain ⟨ya2, yc2, rfl, _⟩ := cells_of_own HL2.out.last
    obtain ⟨hqc, hqf⟩ := HL2.out.cells
    have hpc : pa.block < wc.heap.size := by
      obtain ⟨b, off, e, hlt, _⟩ := HA2.out 0 (by omega)
      injection e with e
      rw [e]; exact hlt
    have hsz2 := HK2.out.below.size
    have hsz1 := HK.out.below.size
    have hqlt := blk_lt HL2.out.var
    have h1lt := blk_lt k1'
    have hrlt := blk_lt hres'
    have c1 : wc.cell? ⟨b1, 0, none⟩ = some (.pointer (some ⟨q, 0, none⟩)) := by rw [cell_of_row _ _ _ _ _ _ k1']; rfl
    generalize hxl2 : X2.length = m2 at *
    generalize hyl2 : y2.length = ly2 at *
    generalize ho : Obj.cells #[.int .i64 (m2 : Int), .int .i64 (ly2 : Int)] 99 = o at *
    have d1 := (World.cell?_alloc_lt wc o (⟨b1, 0, none⟩ : Addr) h1lt).trans c1
    have d3 := (World.cell?_alloc_lt wc o (⟨q, 0, none⟩ : Addr) hqlt).trans hqc
    have d3f := (World.frozen?_of_block (w := wc) (w' := wc.alloc o) (a := ⟨q, 0, none⟩) (Below.heap_alloc _ _ _ hqlt)).trans hqf
    have d4 := (World.cell?_alloc_lt wc o (⟨g2, m2, none⟩ : Addr) hgs).trans hcl
    have d4f := (World.frozen?_of_block (w := wc) (w' := wc.alloc o) (a := ⟨g2, m2, none⟩) (Below.heap_alloc _ _ _ hgs)).trans hfr
    have hm : ((m2 + 1 : Nat) : Int) - 1 = (m2 : Int) := by omega
    have hm0 : (0 : Int) ≤ m2 := by omega
    have hm1 : (m2 : Int) < ((m2 + 1 : Nat) : Int) := by omega
    have hm2 : (m2 : Int) < (m2 : Int) + 1 := by omega
    have hm3 : m2 < m2 + 1 := by omega
    have hat0 := heap_alloc_new wc o
    rw [← ho] at hat0
    have hres2 := blk_alloc hres' o
    have k1'' := blk_alloc k1' o
    replace HL2 := Lib.hid (HL2.out.alloc o)
    replace HK2 := Lib.hid (HK2.out.alloc (by omega) o)
    replace HA2 := Lib.hid (HA2.out.block (w' := wc.alloc o) (Below.heap_alloc _ _ _ hpc) (by simp))
    have hwsz : (wc.alloc o).heap.size = wc.heap.size + 1 := by simp
    subst ho
    go_wp2
    have hatr : wc.heap.size ≠ r := by omega
    have hpq2 := hpq
    generalize wc.alloc (.cells #[.int .i64 (m2 : Int), .int .i64 (ly2 : Int)] 99) = W1 at *
    generalize wc.heap.size = at_ at *
    have hown := HL2.out.last
    unfold ownC at hown
    rw [hyl2] at hown
    have n1 := own_ne_kind hown k1'' (by decide)
    have nq := own_ne_kind hown HL2.out.var (by decide)
    have ng : (Value.slice ya2 ly2 yc2).ownBlock ≠ some g2 := by
      rcases own_ne_own hown HL2.out.out (by decide) with e | e
      · rw [e]; simp
      · exact e
    have Hown := Lib.hid hown
    have HG := Lib.hid (own_blk_cells (hxl2 ▸ HL2.out.out))
    clear hown
    have hnews := Lib.hid (cells_news HA2.out)
    have HK3 := Lib.hid (PutK.refl (B := B) W1)
    have hcl5 := cCells_len p
    rw [hpl] at hcl5
    go_cut [] from 42 to 54 (fun wx => ∃ v' vy' vs', Hid (LayM wx B q v' vy' vs' X2 (y2 ++ p)) ∧ Hid (PutK B W1 wx))
    case first =>
      go_region_law (first | (refine step_append_lies _ (by rfl) _ _ _ (by rfl) B 51 i0 _ 5 40 Tryd.underlying36 hi hz0 hz1 hz2 rfl (by decide) _ ly2 (cCells y2) (by rfl) ((show W1.drew.ownsRow _ _ _ _ _ _ from Hown.out)) pa lp pc (cCells p) (by rfl) hcl5 (fun j u hj => hnews.out j u hj) (cCells_one p) (by omega) (by unfold maxLen; omega) (by omega) (by show B ≤ W1.heap.size; omega) (at_ + 1) hwsz ?_; intro gg cap3 w1 hown1 hgrow hat hlt1; have e1 := (hgrow.cell_far ⟨b1, 0, none⟩ (by show b1 < W1.heap.size; omega) (Ne.symm n1)).trans d1; have e3 := (hgrow.cell_far ⟨q, 0, none⟩ (by show q < W1.heap.size; omega) (Ne.symm nq)).trans d3; have e4 := (hgrow.frozen_far ⟨g2, m2, none⟩ (by show g2 < W1.heap.size; omega) (Ne.symm ng)).trans d4f; have e5 := (hgrow.cell_far ⟨g2, m2, none⟩ (by show g2 < W1.heap.size; omega) (Ne.symm ng)).trans d4))
      all_goals
        have hown2 : ownC w1 B (.slice (some ⟨gg, 0, none⟩) (y2 ++ p).length cap3) (y2 ++ p) := by
          unfold ownC
          rw [List.length_append, hyl2, hpl, cCells_append]; exact hown1
        have HN := Lib.hid (LayM.more (w := W1.drew) (g := g2) (cap := cap2) (by rw [hxl2]; exact HL2.out.drew) hown2 hgrow (by rcases hat with e | e; exact .inl e; exact .inr (by rw [e, ← hwsz]; rfl)))
        have P1 := (HK3.out.drew.grown (by show B ≤ W1.heap.size; omega) Hown.out.drew hgrow (Or.inr rfl))
        obtain ⟨cg, hcg⟩ : ∃ cg, w1.heap[g2]? = some (.cells cg 36 (0, 0)) := by
          obtain ⟨cg, hcg⟩ := HG.out
          exact ⟨cg, (hgrow.block g2 (by show g2 < W1.heap.size; omega) (Ne.symm ng)).trans hcg⟩
        have HP := Lib.hid (P1.set (a := ⟨g2, m2, none⟩) hBg2 hcg (Or.inr (Or.inl rfl)) (.slice (some ⟨gg, 0, none⟩) (ly2 + lp) cap3))
        clear P1 hcg hown1 hgrow hat
        go_wp2_with fail
        go_meet
        exact ⟨_, _, _, Lib.hid (by
          have := HN.out
          rw [List.length_append, hyl2, hpl, hxl2] at this
          exact this), HP⟩
    case rest =>
      obtain ⟨v3, vy3, vs3, HL3, HK4⟩ := hcut
      have a1 := HK4.out.cell hat0 (by decide) (by decide) (by decide)
      have a2 := HK4.out.cell hres2 (by decide) (by decide) (by decide)
      have a3 : wc.cell? ⟨at_, 0, none⟩ = some (.int .i64 m2) := by rw [cell_of_row _ _ _ _ _ _ a1]; rfl
      have a4 : wc.cell? ⟨at_, 1, none⟩ = some (.int .i64 ly2) := by rw [cell_of_row _ _ _ _ _ _ a1]; rfl
      have b3 : wc.cell? ⟨r, 0, none⟩ = some (.int .i64 0) := by rw [cell_of_row _ _ _ _ _ _ a2]; rfl
      have b4 : wc.cell? ⟨r, 1, none⟩ = some (.int .i64 0) := by rw [cell_of_row _ _ _ _ _ _ a2]; rfl
      have a5 := fun i => frozen_of_row _ r i _ _ a2
      have hi93 : (Tryd.prog.info? 99).map (·.size) = some (#[Value.int .i64 (m2 : Int), .int .i64 (ly2 : Int)] : Array Value).size := by kernel_rfl
      have hfin : ((wc.setCell ⟨r, 0, none⟩ (.int .i64 (m2 : Int))).setCell ⟨r, 1, none⟩ (.int .i64 (ly2 : Int))).heap[r]? = some (.cells #[.int .i64 (m2 : Int), .int .i64 (ly2 : Int)] 99 (0, 0)) := by
        have := blk_set (blk_set a2 0 (.int .i64 (m2 : Int))) 1 (.int .i64 (ly2 : Int))
        simpa using this
      have hset := blk_set a2 0 (.int .i64 (m2 : Int))
      have HL4 := Lib.hid ((HL3.out.set (a := ⟨r, 0, none⟩) a2 (by decide) (by decide) (by decide) (.int .i64 (m2 : Int))).set (a := ⟨r, 1, none⟩) hset (by decide) (by decide) (by decide) (.int .i64 (ly2 : Int)))
      have HK5 := Lib.hid ((((HK.out.trans HK2.out).trans HK4.out).fresh (a := ⟨r, 0, none⟩) (by omega) (by show w.heap.size ≤ r; omega) (.int .i64 (m2 : Int))).fresh (a := ⟨r, 1, none⟩) (by omega) (by show w.heap.size ≤ r; omega) (.int .i64 (ly2 : Int)))
      clear hset
      go_wp2
      refine bodyPost_ret (results_cell_row rfl _ _ r 99 _ (0, 0) _ rfl hfin Tryd.underlying99 rfl hi93) rfl ⟨by rw [hXe, hYe, hxl2, hyl2], ?_, ?_⟩
      · rw [hXe, hYe]
        exact ⟨v3, vy3, vs3, HL4.out⟩
      · exact HK5.out
end Go.Proofs.YtcdecnmhogmhaaaDoor
set_option linter.unusedVariables false
set_option linter.unusedSimpArgs false
namespace Go.Proofs.YtcdecnmhogmhaaaDoor
open Go.RowKit
theorem LayM.start (w : World) (B : Nat) (hB : B ≤ w.heap.size) : LayM ((w.alloc (.cells #[.slice none 0 0] 36)).alloc (.cells #[.slice (some ⟨w.heap.size, 0, none⟩) 1 1] 26)) B (w.heap.size + 1) (.slice (some ⟨w.heap.size, 0, none⟩) 1 1) (.slice none 0 0) [] [] [] := by
  have e : (w.alloc (.cells #[.slice none 0 0] 36)).heap.size = w.heap.size + 1 := by simp
  have h1 := heap_alloc_new (w.alloc (.cells #[.slice none 0 0] 36)) (.cells #[.slice (some ⟨w.heap.size, 0, none⟩) 1 1] 26)
  rw [e] at h1
  have h2 := heap_alloc_new w (.cells #[.slice none 0 0] 36)
  refine ⟨h1, rfl, ?_, World.ownsRow_nil _ _ _ _, fun i hi => absurd hi (by simp)⟩
  exact ⟨rfl, .inr ⟨w.heap.size, 1, _, rfl, hB, blk_alloc h2 _, Nat.le_refl _, by decide, rfl, rfl⟩⟩
theorem LayM.grown {w w' : World} {B q : Nat} {v vy : Value} {vs : List Value} {X : List (List Cl)} {y : List Cl} (h : LayM w B q v vy vs X y) {B' n size : Nat} {e : TypeId} {u : Value} {xs : List Value} (ho : w.ownsRow B' e size u n xs) (hg : w.grownBy w' u.ownBlock) (h1 : e ≠ 26) (h2 : e ≠ 36) (h3 : e ≠ 51) : LayM w' B q v vy vs X y :=
  ⟨(hg.block q (blk_lt h.var) (fun e' => own_ne_kind ho h.var (fun e => h1 e.symm) e'.symm)).trans h.var, h.len, h.out.kept hg (own_ne_own h.out ho (fun e => h2 e.symm)), World.ownsRow.kept h.last hg (own_ne_own h.last ho (fun e => h3 e.symm)), fun i hi => by
    obtain ⟨x, g1, g2, g3⟩ := h.old i hi
    exact ⟨x, g1, World.ownsRow.kept g2 hg (own_ne_own g2 ho (fun e => h3 e.symm)), g3⟩⟩
theorem LayM.kept {w w' : World} {B q : Nat} {v vy : Value} {vs : List Value} {X : List (List Cl)} {y : List Cl} (h : LayM w B q v vy vs X y) (hg : w.grownBy w' none) : LayM w' B q v vy vs X y :=
  ⟨(hg.block q (blk_lt h.var) (by simp)).trans h.var, h.len, h.out.kept hg (by cases hv : v.ownBlock <;> simp), World.ownsRow.kept h.last hg (by cases hv : vy.ownBlock <;> simp), fun i hi => by
    obtain ⟨x, g1, g2, g3⟩ := h.old i hi
    exact ⟨x, g1, World.ownsRow.kept g2 hg (by cases hv : x.ownBlock <;> simp), g3⟩⟩
theorem PutK.lay {B : Nat} {w w' : World} (h : PutK B w w') {k : Nat} {cs : Array Value} {T : TypeId} {fr : Nat × Nat} (hk : w.heap[k]? = some (.cells cs T fr)) (h1 : T ≠ 26) (h2 : T ≠ 36) (h3 : T ≠ 51) : w'.heap[k]? = some (.cells cs T fr) := h.cell hk h1 h2 h3
/-- Rows of cells that can be read, nil ones without room. -/
def RowsC (w : World) (a : Option Addr) (l : List (List Cl)) : Prop :=
  ∀ i, i < l.length → ∃ b off ra rc, a = some ⟨b, off, none⟩ ∧ b < w.heap.size ∧ w.cell? ⟨b, off + i, none⟩ = some (.slice ra (l.getD i []).length rc) ∧ CellsIn w ra (l.getD i []) ∧ (ra = none → rc = 0)
theorem RowsC.below {w w' : World} {a : Option Addr} {l : List (List Cl)} (h : RowsC w a l) (hb : Below w.heap.size w w') : RowsC w' a l := fun i hi => by
  obtain ⟨b, off, ra, rc, e, hlt, h1, h2, h3⟩ := h i hi
  exact ⟨b, off, ra, rc, e, Nat.lt_of_lt_of_le hlt hb.size, (hb.cell (p := ⟨b, off + i, none⟩) hlt).trans h1, h2.below hb, h3⟩
theorem RowsC.rows {w : World} {a : Option Addr} {l : List (List Cl)} (h : RowsC w a l) : RowsIn w a l := fun i hi => by
  obtain ⟨b, off, ra, rc, e, hlt, h1, h2, h3⟩ := h i hi
  exact ⟨b, off, ra, rc, e, hlt, h1, h2⟩
theorem cells_of_ownN {w : World} {B : Nat} {v : Value} {L : List Cl} (h : ownC w B v L) : ∃ a c, v = .slice a L.length c ∧ CellsIn w a L ∧ (a = none → c = 0) := by
  obtain ⟨a, c, rfl, h1⟩ := cells_of_own h
  refine ⟨a, c, rfl, h1, fun e => ?_⟩
  rcases h.2 with ⟨h0, _⟩ | ⟨g, cap, cur, h0, _⟩
  · simpa using (Value.slice.inj h0).2.2
  · rw [e] at h0; simp at h0
theorem LayM.rows {w : World} {B q : Nat} {v vy : Value} {vs : List Value} {X : List (List Cl)} {y : List Cl} (h : LayM w B q v vy vs X y) : ∃ ra rc, v = .slice ra (X ++ [y]).length rc ∧ RowsC w ra (X ++ [y]) := by
  obtain ⟨g, cap, rfl, hB, hlt, hc, _⟩ := h.form
  refine ⟨some ⟨g, 0, none⟩, cap, by simp, fun i hi => ?_⟩
  have hn : i < X.length + 1 := by simpa using hi
  rcases Nat.lt_or_ge i X.length with hi' | hi'
  · obtain ⟨u, h1, h2, _⟩ := h.old i hi'
    obtain ⟨a, c, rfl, h3, h4⟩ := cells_of_ownN h2
    refine ⟨g, 0, a, c, rfl, hlt, ?_, ?_, h4⟩
    · rw [Nat.zero_add, h.out.cellAt i (by omega), List.getElem?_append_left (by rw [h.len]; exact hi'), h1, getD_app _ _ _ _ hi']
    · rw [getD_app _ _ _ _ hi']; exact h3
  · obtain rfl : i = X.length := by omega
    obtain ⟨a, c, rfl, h3, h4⟩ := cells_of_ownN h.last
    refine ⟨g, 0, a, c, rfl, hlt, ?_, ?_, h4⟩
    · rw [Nat.zero_add, hc, getD_end]
    · rw [getD_end]; exact h3
/-- A row of places of the call's own. -/
def ownA (w : World) (B : Nat) (v : Value) (S : List (Int × Int)) : Prop := w.ownsRow B 99 2 v S.length (sRow S).toList
theorem infoA2 : (Tryd.prog.info? 99).map (fun i => (i.zero, i.size, i.bytes)) = some (some (.agg #[.int .i64 0, .int .i64 0]), 2, 16) := by kernel_rfl
theorem places_of_own {w : World} {B : Nat} {v : Value} {L : List (Int × Int)} (h : ownA w B v L) : ∃ a c, v = .slice a L.length c ∧ Signs w a L := by
  unfold ownA at h
  rcases h.2 with ⟨rfl, h0⟩ | ⟨g, cap, cur, rfl, _, hg, _⟩
  · exact ⟨none, 0, by rw [h0], fun j hj => by omega⟩
  · refine ⟨_, cap, rfl, fun j hj => ⟨g, 0, rfl, blk_lt hg, ?_, ?_⟩⟩
    · have := sRow_at L j hj
      rw [Nat.zero_add, h.cellAt (j * 2) (by omega)]; exact this.1
    · have := sRow_at L j hj
      rw [Nat.zero_add, h.cellAt (j * 2 + 1) (by omega)]; exact this.2
/-- Room for places, none there yet. -/
theorem ownA_made (w : World) (B n : Nat) (hB : B ≤ w.heap.size) (hn : n ≤ 1000000) : ownA (w.alloc (.cells (madeCells (Value.agg #[.int .i64 0, .int .i64 0]).cells (n * 2)) 99)) B (.slice (some ⟨w.heap.size, 0, none⟩) 0 n) [] :=
  World.ownsRow_made w _ n hB (by unfold maxLen; omega) (by simp [madeCells])
theorem CellsIn.one {w : World} {b off : Nat} {L : List Cl} (h : CellsIn w (some ⟨b, off, none⟩) L) {k : Nat} (hk : k < L.length) : CellsIn w (some ⟨b, off + k * 5, none⟩) [L.getD k cl0] := fun i hi => by
  obtain rfl : i = 0 := by simpa using hi
  obtain ⟨b', off', e, hlt, h1, h2, h3, h4, h5⟩ := h k hk
  obtain ⟨rfl, rfl⟩ : b = b' ∧ off = off' := by simpa using e
  exact ⟨b, off + k * 5, rfl, hlt, by simpa using h1, by simpa using h2, by simpa using h3, by simpa using h4, by simpa using h5⟩
theorem CellsIn.two {w : World} {b off : Nat} {L : List Cl} (h : CellsIn w (some ⟨b, off, none⟩) L) {k : Nat} (hk : k + 1 < L.length) : CellsIn w (some ⟨b, off + k * 5, none⟩) [L.getD k cl0, L.getD (k + 1) cl0] := fun i hi => by
  rcases (by simp at hi; omega : i = 0 ∨ i = 1) with rfl | rfl
  · exact h.one (by omega) 0 (by simp)
  · obtain ⟨b', off', e, hlt, h1, h2, h3, h4, h5⟩ := h (k + 1) hk
    obtain ⟨rfl, rfl⟩ : b = b' ∧ off = off' := by simpa using e
    have q : off + k * 5 + 1 * 5 = off + (k + 1) * 5 := by omega
    refine ⟨b, off + k * 5, rfl, hlt, ?_, ?_, ?_, ?_, ?_⟩ <;> rw [q]
    · exact h1
    · exact h2
    · exact h3
    · exact h4
    · exact h5
theorem LyI.small {L : List Cl} {w : Int} {k : Nat} {X : List (List Cl)} {y : List Cl} {S : List (Int × Int)} (h : LyI L w k X y S) : X.length ≤ k ∧ S.length = k := by
  have := (spS_rng L w k).2.1
  rw [h.row] at this
  exact ⟨by omega, by rw [h.pl, spS_len]⟩
theorem sRow_snoc2 (S : List (Int × Int)) (a b c d : Int) : (sRow (S ++ [(a, b), (c, d)])).toList = (sRow S).toList ++ [.int .i64 a, .int .i64 b, .int .i64 c, .int .i64 d] := by simp [sRow]
/-- The places of the first j cells of a piece. -/
def plN (r c : Int) (j : Nat) : List (Int × Int) := (List.range j).map fun (i : Nat) => (r, c + (i : Int))
theorem plN_len (r c : Int) (j : Nat) : (plN r c j).length = j := by simp [plN]
theorem plN_succ (S : List (Int × Int)) (r c : Int) (j : Nat) : S ++ plN r c (j + 1) = S ++ plN r c j ++ [(r, c + (j : Int))] := by simp [plN, List.range_succ]
theorem plN_one (r c : Int) : plN r c 1 = [(r, c)] := by simp [plN, List.range_succ]
theorem plN_two (r c : Int) : plN r c 2 = [(r, c), (r, c + 1)] := by simp [plN, List.range_succ]
end Go.Proofs.YtcdecnmhogmhaaaDoor
set_option linter.unusedVariables false
set_option linter.unusedSimpArgs false
namespace Go.Proofs.YtcdecnmhogmhaaaDoor
open Go.RowKit
set_option maxHeartbeats 8000000 in
theorem lay_any (L : List Cl) (wd : Int) (a : Option Addr) (c : Nat) (w : World) (hl : L.length ≤ 100000) (hw : 1 ≤ wd) (hw2 : wd ≤ 1000) (hlay : layB L = true) (ha : CellsIn w a L) (hc : L.length ≤ c) :
    Calls Tryd.prog 66 #[.slice a L.length c, .int .i64 wd] w fun e w' => ∃ v pv, e = .returned (.tuple #[v, pv, .int .i64 0]) ∧ (∃ ra rc, v = .slice ra (lyRows L wd).length rc ∧ (lyRows L wd).length ≤ rc ∧ RowsC w' ra (lyRows L wd)) ∧ ownA w' w.heap.size pv (spAll L wd) ∧ Below w.heap.size w w' := by
  obtain ⟨i0, hi, hz0, hz1, hz2⟩ := info_parts infoA2
  have HA := Lib.hid ha; have HLA := Lib.hid hlay
  have hLY := Lib.hid fun w' (ha : CellsIn w' a L) => layable_any L a c w' (by omega) ha
  have hPC := Lib.hid fun k w' (hk : k ≤ 1000000) (ha : CellsIn w' a L) => piece_any L k a c w' (by omega) hk ha
  clear ha hlay
  have hLB : layB L = true := HLA.out
  go_enter Tryd.func66, Tryd.ntmps66
  go_wp2_with (first
    | (go_at_call 111; refine (hLY.out _ HA.out).mono ?_; rintro e w1 ⟨rfl, hb1⟩; rw [hLB])
    | (at_make; refine wpList_make_own _ rfl _ _ 96 rfl w.heap.size 99 i0 (.agg #[.int .i64 0, .int .i64 0]) 2 Tryd.underlying96 hi hz0 hz1 _ _ _ (L.length + 1) rfl rfl ?b1 ?b2 ?b3 ?b4 ?_))
  case b1 => omega
  case b2 => rw [hz2]; omega
  case b3 => unfold maxLen; omega
  case b4 => have := hb1.size; simp; omega
  intro w2 hown2 hgrow2
  have hb1s := hb1.size
  have S2 := (LayM.start w1 w.heap.size hb1.size).kept hgrow2
  have N2 := ((hb1.alloc hb1.size (.cells #[.slice none 0 0] 36)).alloc (by simp; omega) (.cells #[.slice (some ⟨w1.heap.size, 0, none⟩) 1 1] 26)).grown hgrow2 (by simp; omega) (fun j hj => by cases hj)
  have K1 := blk_alloc (heap_alloc_new w2 (.cells #[.pointer (some ⟨w1.heap.size + 1, 0, none⟩)] 141)) (.cells #[.int .i64 wd] 3)
  have K2 := heap_alloc_new (w2.alloc (.cells #[.pointer (some ⟨w1.heap.size + 1, 0, none⟩)] 141)) (.cells #[.int .i64 wd] 3)
  have e2 : (w2.alloc (.cells #[.pointer (some ⟨w1.heap.size + 1, 0, none⟩)] 141)).heap.size = w2.heap.size + 1 := by simp
  rw [e2] at K2
  have S3 := Lib.hid ((S2.alloc (.cells #[.pointer (some ⟨w1.heap.size + 1, 0, none⟩)] 141)).alloc (.cells #[.int .i64 wd] 3))
  have O3 := Lib.hid (show ownA _ _ _ [] from (World.ownsRow.alloc (World.ownsRow.alloc hown2 (.cells #[.pointer (some ⟨w1.heap.size + 1, 0, none⟩)] 141)) (.cells #[.int .i64 wd] 3)))
  have N3 := (N2.alloc N2.size (.cells #[.pointer (some ⟨w1.heap.size + 1, 0, none⟩)] 141)).alloc (by have := N2.size; simp; omega) (.cells #[.int .i64 wd] 3)
  have hB1 : w.heap.size ≤ w1.heap.size + 1 := by omega
  replace K1 := Lib.hid K1; replace K2 := Lib.hid K2
  clear hown2 hgrow2 N2 S2 hb1 hb1s e2
  go_wp2_with (go_at_call 112; refine (putter_any _ _ _).mono ?_; rintro e w3 ⟨rfl, rfl⟩)
  generalize (w2.alloc _).alloc _ = W0 at *
  generalize w2.heap.size = b1 at *
  generalize w1.heap.size + 1 = q at *
  have hBq := hB1
  go_loopw [8, 10] (fun pv iv wr => ∃ (k : Nat) (X : List (List Cl)) (y : List Cl) (S : List (Int × Int)) (v vy : Value) (vs : List Value), k ≤ L.length ∧ iv = .int .i64 (k : Int) ∧ Hid (k < L.length → (L.getD k cl0).1 ≠ -1) ∧ Hid (LyI L wd k X y S) ∧ Hid (LayM wr w.heap.size q v vy vs X y) ∧ Hid (ownA wr w.heap.size pv S) ∧
    Hid (wr.heap[b1]? = some (.cells #[.pointer (some ⟨q, 0, none⟩)] 141 (0, 0))) ∧ Hid (wr.heap[b1 + 1]? = some (.cells #[.int .i64 wd] 3 (0, 0))) ∧ Below w.heap.size w wr) (fun _ iv _ => L.length - (intOf iv).toNat)
  case atStart => exact ⟨0, [], [], [], _, _, _, Nat.zero_le _, rfl, Lib.hid (fun h e => (layB_at hLB h e).1 rfl), Lib.hid (LyI.start L wd hw), S3, O3, K1, K2, N3⟩
  case round =>
    obtain ⟨k, X, y, S, v, vy, vs, hk, rfl, hne, hI, hM, hO, hK1, hK2, hbl⟩ := hrel
    by_cases hlt : k < L.length
    · obtain ⟨bb, off, rfl, hbb, _⟩ := HA.out k hlt
      have hv := hne.out hlt
      have hk1 : (k : Int) < L.length := by omega
      have hk0 : (0 : Int) ≤ k := by omega
      have hsz := hbl.size
      have HAr := Lib.hid (HA.out.below hbl)
      have hpm : (pieceM L k = 2 ∧ k + 1 < L.length ∧ (L.getD (k + 1) cl0).1 = -1) ∨ (pieceM L k = 1 ∧ (k + 1 < L.length → (L.getD (k + 1) cl0).1 ≠ -1)) := by
        unfold pieceM
        by_cases h : k + 1 < L.length ∧ (L.getD (k + 1) cl0).1 = -1
        · exact Or.inl ⟨if_pos h, h⟩
        · exact Or.inr ⟨if_neg h, fun h1 h2 => h ⟨h1, h2⟩⟩
      have hsm := hI.out.small
      have hpv : v.ownBlock ≠ some bb := fun e => by have := (hM.out.out.lt _ e).1; omega
      have hpq : bb ≠ q := by omega
      rcases hpm with ⟨hn, hr, hr1⟩ | ⟨hn, hr⟩
      · by_cases hw1 : 1 < wd
        · have hnw : ¬ wd < 2 := by omega
          have hr' : (k + 1 : Nat) < L.length := hr
          have hkc : (k : Int) + 2 ≤ c := by omega
          have hkc2 : k + 2 ≤ c := by omega
          have PU := put_any [L.getD k cl0, L.getD (k + 1) cl0] ⟨bb, off + k * 5, none⟩ (c - k) wd b1 (b1 + 1) w.heap.size q v vy vs X y wr (by simp) (by simp) (by omega) (by have := hI.out.fit; omega) (HAr.out.two hr) hpv hpq hM.out hBq hK1.out hK2.out
          have hlen : ([L.getD k cl0, L.getD (k + 1) cl0] : List Cl).length = 2 := rfl
          rw [hlen] at PU
          have I3 : Hid (LyI L wd (k + 2) (lyX wd X y ((2 : Nat) : Int)) (lyY wd y ((2 : Nat) : Int) ++ [L.getD k cl0, L.getD (k + 1) cl0]) (S ++ plN ((lyX wd X y ((2 : Nat) : Int)).length : Int) ((lyY wd y ((2 : Nat) : Int)).length : Int) 2)) := Lib.hid (by rw [plN_two]; exact hI.out.two hw1 hr hv hr1)
          have sX : (lyX wd X y ((2 : Nat) : Int)).length ≤ k + 1 := by
            unfold lyX; split
            · rw [List.length_append, List.length_singleton]; omega
            · omega
          have sY : (lyY wd y ((2 : Nat) : Int)).length ≤ 1000 := by
            have := hI.out.fit
            unfold lyY; split
            · show 0 ≤ 1000; omega
            · omega
          generalize lyX wd X y ((2 : Nat) : Int) = X2 at *
          generalize lyY wd y ((2 : Nat) : Int) ++ [L.getD k cl0, L.getD (k + 1) cl0] = y2 at *
          generalize (lyY wd y ((2 : Nat) : Int)).length = my at *
          generalize hmx : X2.length = mx at *
          replace PU := Lib.hid PU
          clear hI hlen
          go_wp2_with (first
            | (go_at_call 113; refine (hPC.out k _ (by omega) HAr.out).mono ?_; rintro e w5 ⟨rfl, rfl⟩; rw [hn])
            | (go_at_call 152; refine PU.out.mono ?_; rintro e w6 ⟨rfl, ⟨v', vy', vs', hM6⟩, hP6⟩))
          clear PU
          have O6 := Lib.hid (show ownA w6 _ _ _ from hP6.own hO.out (by decide) (by decide) (by decide))
          have k16 := hP6.cell hK1.out (by decide) (by decide) (by decide)
          have k26 := hP6.cell hK2.out (by decide) (by decide) (by decide)
          replace hM6 := Lib.hid hM6
          have N6 := hbl.trans hP6.below
          clear hP6 hM hK1 hK2
          have hpl := heap_alloc_new w6 (.cells #[.int .i64 (mx : Int), .int .i64 (my : Int)] 99)
          have hpz : (w6.alloc (.cells #[.int .i64 (mx : Int), .int .i64 (my : Int)] 99)).heap.size = w6.heap.size + 1 := by simp
          have k17 := Lib.hid (blk_alloc k16 (.cells #[.int .i64 (mx : Int), .int .i64 (my : Int)] 99))
          have k27 := Lib.hid (blk_alloc k26 (.cells #[.int .i64 (mx : Int), .int .i64 (my : Int)] 99))
          have M7 := Lib.hid (hM6.out.alloc (.cells #[.int .i64 (mx : Int), .int .i64 (my : Int)] 99))
          have O7 := Lib.hid (show ownA _ _ _ S from World.ownsRow.alloc O6.out (.cells #[.int .i64 (mx : Int), .int .i64 (my : Int)] 99))
          have N7 := N6.alloc N6.size (.cells #[.int .i64 (mx : Int), .int .i64 (my : Int)] 99)
          have npl := fun e => Nat.lt_irrefl _ (O6.out.lt w6.heap.size e).2
          replace hpl := Lib.hid hpl
          clear hM6 O6 N6 k16 k26 hO
          generalize w6.alloc (.cells #[.int .i64 (mx : Int), .int .i64 (my : Int)] 99) = W7 at *
          generalize w6.heap.size = pl at *
          go_loopw [8, 66] (fun pv jv wj => ∃ j : Nat, j ≤ 2 ∧ jv = .int .i64 (j : Int) ∧ Hid (LayM wj w.heap.size q v' vy' vs' X2 y2) ∧ Hid (ownA wj w.heap.size pv (S ++ plN mx my j)) ∧ pv.ownBlock ≠ some pl ∧ Hid (wj.heap[pl]? = some (.cells #[.int .i64 (mx : Int), .int .i64 (my : Int)] 99 (0, 0))) ∧
            Hid (wj.heap[b1]? = some (.cells #[.pointer (some ⟨q, 0, none⟩)] 141 (0, 0))) ∧ Hid (wj.heap[b1 + 1]? = some (.cells #[.int .i64 wd] 3 (0, 0))) ∧ Below w.heap.size w wj) (fun _ jv _ => 2 - (intOf jv).toNat)
          case atStart => exact ⟨0, Nat.zero_le _, rfl, M7, Lib.hid (by unfold plN; rw [List.range_zero, List.map_nil, List.append_nil]; exact O7.out), npl, hpl, k17, k27, N7⟩
          case round =>
            obtain ⟨j, hj, rfl, hMj, hOj, hnp, hpj, k1j, k2j, hbj⟩ := hrel
            by_cases hlj : j < 2
            · have hj1 : (j : Int) < 2 := by omega
              have q0 : wr.cell? ⟨pl, 0, none⟩ = some (.int .i64 (mx : Int)) := by rw [cell_of_row _ _ _ _ _ _ hpj.out]; rfl
              have q1 : wr.cell? ⟨pl, 1, none⟩ = some (.int .i64 (my : Int)) := by rw [cell_of_row _ _ _ _ _ _ hpj.out]; rfl
              have hown := hOj.out
              unfold ownA at hown
              rw [List.length_append, plN_len, hsm.2] at hown
              have hst := plN_succ S (mx : Int) (my : Int) j
              have hpw := blk_lt hpj.out
              have hsj := hbj.size
              have Hst := Lib.hid hst
              clear hst
              go_wp2_with (at_builtin; refine wpList_append_lies _ rfl _ _ 96 rfl w.heap.size 99 i0 _ 2 16 Tryd.underlying96 hi hz0 hz1 hz2 rfl (by decide) _ _ _ rfl (hown.alloc _) ⟨wr.heap.size, 0, none⟩ 1 1 [.int .i64 (mx : Int), .int .i64 ((my : Int) + (j : Int))] rfl rfl (fun j x hj => app_cells rfl hj) ?g2 (by omega) ?g3 ?g4 ?g5 (wr.heap.size + 1) (by simp) ?_)
              case g2 => simp [Value.oneCell']
              case g3 => unfold maxLen; omega
              case g4 => omega
              case g5 => first | omega | (simp; omega)
              intro gj cj w8 hown8 hgrow8 hat8 hlt8
              have N8 := (hbj.alloc hbj.size (.cells #[.int .i64 (mx : Int), .int .i64 ((my : Int) + (j : Int))] 99)).grown hgrow8 (by simp; omega) (fun i hi => (hown.lt i hi).1)
              have M8 := Lib.hid ((hMj.out.alloc (.cells #[.int .i64 (mx : Int), .int .i64 ((my : Int) + (j : Int))] 99)).grown (hown.alloc _) hgrow8 (by decide) (by decide) (by decide))
              have P8 := Lib.hid ((hgrow8.block pl (by simp; omega) (Ne.symm hnp)).trans (blk_alloc hpj.out _))
              have k18 := Lib.hid ((hgrow8.block b1 (by have := blk_lt k1j.out; simp; omega) (fun e => own_ne_kind hown k1j.out (by decide) e.symm)).trans (blk_alloc k1j.out _))
              have k28 := Lib.hid ((hgrow8.block (b1 + 1) (by have := blk_lt k2j.out; simp; omega) (fun e => own_ne_kind hown k2j.out (by decide) e.symm)).trans (blk_alloc k2j.out _))
              have np8 : gj ≠ pl := fun e => by
                rcases hat8 with h | h
                · exact hnp (by rw [h, e])
                · omega
              have HO := Lib.hid hown8
              clear hown8 hgrow8 hown hat8 q0 q1
              go_wp2
              go_roundw
              case rel => exact ⟨j + 1, by omega, by go_num, M8, Lib.hid (by rw [Hst.out]; unfold ownA; rw [List.length_append, List.length_append, plN_len, hsm.2, sRow_snoc]; exact HO.out), (fun e => np8 (by simpa [Value.ownBlock] using e)), P8, k18, k28, N8⟩
              case measure => first | (simp [intOf]; omega) | (simp; omega)
            · have hj1 : ¬ (j : Int) < 2 := by omega
              obtain rfl : j = 2 := by omega
              go_wp2
              go_roundw
              case rel => exact ⟨k + 2, X2, y2, _, _, _, _, by omega, by go_num, Lib.hid (fun h e => (layB_at hLB h e).2 (by rw [show k + 2 - 1 = k + 1 by omega]; exact hr1)), I3, hMj, hOj, k1j, k2j, hbj⟩
              case measure => first | (simp [intOf]; omega) | (simp; omega)

        · have hwd : Hid (wd = 1) := Lib.hid (by omega)
          have hw3 : wd < 2 := by omega
          obtain ⟨x1, x2, x3, x4, x5, hq⟩ : ∃ x1 x2 x3 x4 x5, L.getD k cl0 = (x1, x2, x3, x4, x5) := ⟨_, _, _, _, _, rfl⟩
          obtain ⟨_, _, e0, _, c1, c2, c3, c4, c5⟩ := HAr.out k hlt
          obtain ⟨rfl, rfl⟩ : bb = _ ∧ off = _ := by simpa using e0
          rw [hq] at c1 c2 c3 c4 c5
          simp only at c1 c2 c3 c4 c5
          have e1 : ((wr.alloc (.cells #[.int .i64 35, .int .i64 x2, .int .i64 x3, .int .i64 x4, .int .i64 x5] 51)).alloc (.cells #[.int .i64 35, .int .i64 x2, .int .i64 x3, .int .i64 x4, .int .i64 x5] 51)).heap.size = wr.heap.size + 1 + 1 := by simp
          have e2 : (wr.alloc (.cells #[.int .i64 35, .int .i64 x2, .int .i64 x3, .int .i64 x4, .int .i64 x5] 51)).heap.size = wr.heap.size + 1 := by simp
          have hblk := heap_alloc_new (wr.alloc (.cells #[.int .i64 35, .int .i64 x2, .int .i64 x3, .int .i64 x4, .int .i64 x5] 51)) (.cells #[.int .i64 35, .int .i64 x2, .int .i64 x3, .int .i64 x4, .int .i64 x5] 51)
          rw [e2] at hblk
          have hpv2 : v.ownBlock ≠ some (wr.heap.size + 1) := fun e => by have := (hM.out.out.lt _ e).2; omega
          have hqlt := blk_lt hM.out.var
          have PU := put_any [(35, x2, x3, x4, x5)] ⟨wr.heap.size + 1, 0, none⟩ 1 wd b1 (b1 + 1) w.heap.size q v vy vs X y _ (by simp) (by simp) (by omega) (by have := hI.out.fit; omega) (cells_of_blk (L := [(35, x2, x3, x4, x5)]) hblk) hpv2 (by show wr.heap.size + 1 ≠ q; omega) ((hM.out.alloc _).alloc _) hBq (blk_alloc (blk_alloc hK1.out _) _) (blk_alloc (blk_alloc hK2.out _) _)
          have hlen : ([(35, x2, x3, x4, x5)] : List Cl).length = 1 := rfl
          rw [hlen] at PU
          have I3 : Hid (LyI L wd (k + 2) (lyX wd X y ((1 : Nat) : Int)) (lyY wd y ((1 : Nat) : Int) ++ [(35, x2, x3, x4, x5)]) (S ++ [(((lyX wd X y ((1 : Nat) : Int)).length : Int), ((lyY wd y ((1 : Nat) : Int)).length : Int)), (((lyX wd X y ((1 : Nat) : Int)).length : Int), ((lyY wd y ((1 : Nat) : Int)).length : Int))])) := Lib.hid (by
            have := hI.out.narrow hwd.out hr hv hr1
            rw [hq] at this
            exact this)
          have sX : (lyX wd X y ((1 : Nat) : Int)).length ≤ k + 1 := by
            unfold lyX; split
            · rw [List.length_append, List.length_singleton]; omega
            · omega
          have sY : (lyY wd y ((1 : Nat) : Int)).length ≤ 1000 := by
            have := hI.out.fit
            unfold lyY; split
            · show 0 ≤ 1000; omega
            · omega
          generalize lyX wd X y ((1 : Nat) : Int) = X2 at *
          generalize lyY wd y ((1 : Nat) : Int) ++ [(35, x2, x3, x4, x5)] = y2 at *
          generalize (lyY wd y ((1 : Nat) : Int)).length = my at *
          generalize hmx : X2.length = mx at *
          have N5 := (hbl.alloc hbl.size (.cells #[.int .i64 35, .int .i64 x2, .int .i64 x3, .int .i64 x4, .int .i64 x5] 51)).alloc (by rw [e2]; omega) (.cells #[.int .i64 35, .int .i64 x2, .int .i64 x3, .int .i64 x4, .int .i64 x5] 51)
          have O5 := Lib.hid (World.ownsRow.alloc (World.ownsRow.alloc hO.out (.cells #[.int .i64 35, .int .i64 x2, .int .i64 x3, .int .i64 x4, .int .i64 x5] 51)) (.cells #[.int .i64 35, .int .i64 x2, .int .i64 x3, .int .i64 x4, .int .i64 x5] 51))
          have k15 := Lib.hid (blk_alloc (blk_alloc hK1.out (.cells #[.int .i64 35, .int .i64 x2, .int .i64 x3, .int .i64 x4, .int .i64 x5] 51)) (.cells #[.int .i64 35, .int .i64 x2, .int .i64 x3, .int .i64 x4, .int .i64 x5] 51))
          have k25 := Lib.hid (blk_alloc (blk_alloc hK2.out (.cells #[.int .i64 35, .int .i64 x2, .int .i64 x3, .int .i64 x4, .int .i64 x5] 51)) (.cells #[.int .i64 35, .int .i64 x2, .int .i64 x3, .int .i64 x4, .int .i64 x5] 51))
          replace PU := Lib.hid PU
          clear hI hlen hblk hq hM hO
          go_wp2_with (first
            | (go_at_call 113; refine (hPC.out k _ (by omega) HAr.out).mono ?_; rintro e w5 ⟨rfl, rfl⟩; rw [hn])
            | (go_at_call 152; refine PU.out.mono ?_; rintro e w6 ⟨rfl, ⟨v', vy', vs', hM6⟩, hP6⟩; have O6 := (show ownA w6 w.heap.size _ S from hP6.own O5.out (by decide) (by decide) (by decide)); unfold ownA at O6; rw [hsm.2] at O6; have N6 := N5.trans hP6.below)
            | (at_builtin; refine wpList_append_own _ rfl _ _ 96 rfl w.heap.size 99 i0 _ 2 16 Tryd.underlying96 hi hz0 hz1 hz2 rfl (by decide) _ _ _ rfl ((O6.alloc _).alloc _) ⟨w6.heap.size + 1, 0, none⟩ 2 2 [.int .i64 (mx : Int), .int .i64 (my : Int), .int .i64 (mx : Int), .int .i64 (my : Int)] rfl rfl (fun j x hj => app_cells (by simp) hj) ?g2 ?g3 ?g4 ?g5 ?_))
          case g2 => simp [Value.oneCell']
          case g3 => unfold maxLen; omega
          case g4 => omega
          case g5 => first | (have := N6.size; simp; omega)
          intro v8 w8 hown8 hgrow8 _
          have hs6 := N6.size
          have k16 := blk_alloc (blk_alloc (hP6.cell k15.out (by decide) (by decide) (by decide)) (.cells #[.int .i64 (mx : Int), .int .i64 (my : Int)] 99)) (.cells #[.int .i64 (mx : Int), .int .i64 (my : Int), .int .i64 (mx : Int), .int .i64 (my : Int)] 99)
          have k26 := blk_alloc (blk_alloc (hP6.cell k25.out (by decide) (by decide) (by decide)) (.cells #[.int .i64 (mx : Int), .int .i64 (my : Int)] 99)) (.cells #[.int .i64 (mx : Int), .int .i64 (my : Int), .int .i64 (mx : Int), .int .i64 (my : Int)] 99)
          have N8 := ((N6.alloc N6.size (.cells #[.int .i64 (mx : Int), .int .i64 (my : Int)] 99)).alloc (by simp; omega) (.cells #[.int .i64 (mx : Int), .int .i64 (my : Int), .int .i64 (mx : Int), .int .i64 (my : Int)] 99)).grown hgrow8 (by simp; omega) (fun i hi => (O6.lt i hi).1)
          have M8 := Lib.hid (((hM6.alloc (.cells #[.int .i64 (mx : Int), .int .i64 (my : Int)] 99)).alloc (.cells #[.int .i64 (mx : Int), .int .i64 (my : Int), .int .i64 (mx : Int), .int .i64 (my : Int)] 99)).grown ((O6.alloc _).alloc _) hgrow8 (by decide) (by decide) (by decide))
          have k18 := Lib.hid ((hgrow8.block b1 (blk_lt k16) (fun e => own_ne_kind ((O6.alloc _).alloc _) k16 (by decide) e.symm)).trans k16)
          have k28 := Lib.hid ((hgrow8.block (b1 + 1) (blk_lt k26) (fun e => own_ne_kind ((O6.alloc _).alloc _) k26 (by decide) e.symm)).trans k26)
          have HO := Lib.hid hown8
          clear hown8 hgrow8 O6 hP6 hM6 k16 k26 PU
          go_wp2
          go_roundw
          case rel => exact ⟨k + 2, X2, y2, _, _, _, _, by omega, by go_num, Lib.hid (fun h e => (layB_at hLB h e).2 (by rw [show k + 2 - 1 = k + 1 by omega]; exact hr1)), I3, M8, Lib.hid (by unfold ownA; rw [List.length_append, hsm.2, sRow_snoc2]; exact HO.out), k18, k28, N8⟩
          case measure => first | (simp [intOf]; omega) | (simp; omega)
      · have hnw : ¬ wd < 1 := by omega
        have hkc : (k : Int) + 1 ≤ c := by omega
        have hkc2 : k + 1 ≤ c := by omega
        have PU := put_any [L.getD k cl0] ⟨bb, off + k * 5, none⟩ (c - k) wd b1 (b1 + 1) w.heap.size q v vy vs X y wr (by simp) (by simp) (by omega) (by have := hI.out.fit; omega) (HAr.out.one hlt) hpv hpq hM.out hBq hK1.out hK2.out
        have hlen : ([L.getD k cl0] : List Cl).length = 1 := rfl
        rw [hlen] at PU
        have I3 : Hid (LyI L wd (k + 1) (lyX wd X y ((1 : Nat) : Int)) (lyY wd y ((1 : Nat) : Int) ++ [L.getD k cl0]) (S ++ plN ((lyX wd X y ((1 : Nat) : Int)).length : Int) ((lyY wd y ((1 : Nat) : Int)).length : Int) 1)) := Lib.hid (by rw [plN_one]; exact hI.out.one hw hlt hv hr)
        have sX : (lyX wd X y ((1 : Nat) : Int)).length ≤ k + 1 := by
          unfold lyX; split
          · rw [List.length_append, List.length_singleton]; omega
          · omega
        have sY : (lyY wd y ((1 : Nat) : Int)).length ≤ 1000 := by
          have := hI.out.fit
          unfold lyY; split
          · show 0 ≤ 1000; omega
          · omega
        generalize lyX wd X y ((1 : Nat) : Int) = X2 at *
        generalize lyY wd y ((1 : Nat) : Int) ++ [L.getD k cl0] = y2 at *
        generalize (lyY wd y ((1 : Nat) : Int)).length = my at *
        generalize hmx : X2.length = mx at *
        replace PU := Lib.hid PU
        clear hI hlen
        go_wp2_with (first
          | (go_at_call 113; refine (hPC.out k _ (by omega) HAr.out).mono ?_; rintro e w5 ⟨rfl, rfl⟩; rw [hn])
          | (go_at_call 152; refine PU.out.mono ?_; rintro e w6 ⟨rfl, ⟨v', vy', vs', hM6⟩, hP6⟩))
        clear PU
        have O6 := Lib.hid (show ownA w6 _ _ _ from hP6.own hO.out (by decide) (by decide) (by decide))
        have k16 := hP6.cell hK1.out (by decide) (by decide) (by decide)
        have k26 := hP6.cell hK2.out (by decide) (by decide) (by decide)
        replace hM6 := Lib.hid hM6
        have N6 := hbl.trans hP6.below
        clear hP6 hM hK1 hK2
        have hpl := heap_alloc_new w6 (.cells #[.int .i64 (mx : Int), .int .i64 (my : Int)] 99)
        have hpz : (w6.alloc (.cells #[.int .i64 (mx : Int), .int .i64 (my : Int)] 99)).heap.size = w6.heap.size + 1 := by simp
        have k17 := Lib.hid (blk_alloc k16 (.cells #[.int .i64 (mx : Int), .int .i64 (my : Int)] 99))
        have k27 := Lib.hid (blk_alloc k26 (.cells #[.int .i64 (mx : Int), .int .i64 (my : Int)] 99))
        have M7 := Lib.hid (hM6.out.alloc (.cells #[.int .i64 (mx : Int), .int .i64 (my : Int)] 99))
        have O7 := Lib.hid (show ownA _ _ _ S from World.ownsRow.alloc O6.out (.cells #[.int .i64 (mx : Int), .int .i64 (my : Int)] 99))
        have N7 := N6.alloc N6.size (.cells #[.int .i64 (mx : Int), .int .i64 (my : Int)] 99)
        have npl := fun e => Nat.lt_irrefl _ (O6.out.lt w6.heap.size e).2
        replace hpl := Lib.hid hpl
        clear hM6 O6 N6 k16 k26 hO
        generalize w6.alloc (.cells #[.int .i64 (mx : Int), .int .i64 (my : Int)] 99) = W7 at *
        generalize w6.heap.size = pl at *
        go_loopw [8, 66] (fun pv jv wj => ∃ j : Nat, j ≤ 1 ∧ jv = .int .i64 (j : Int) ∧ Hid (LayM wj w.heap.size q v' vy' vs' X2 y2) ∧ Hid (ownA wj w.heap.size pv (S ++ plN mx my j)) ∧ pv.ownBlock ≠ some pl ∧ Hid (wj.heap[pl]? = some (.cells #[.int .i64 (mx : Int), .int .i64 (my : Int)] 99 (0, 0))) ∧
          Hid (wj.heap[b1]? = some (.cells #[.pointer (some ⟨q, 0, none⟩)] 141 (0, 0))) ∧ Hid (wj.heap[b1 + 1]? = some (.cells #[.int .i64 wd] 3 (0, 0))) ∧ Below w.heap.size w wj) (fun _ jv _ => 1 - (intOf jv).toNat)
        case atStart => exact ⟨0, Nat.zero_le _, rfl, M7, Lib.hid (by unfold plN; rw [List.range_zero, List.map_nil, List.append_nil]; exact O7.out), npl, hpl, k17, k27, N7⟩
        case round =>
          obtain ⟨j, hj, rfl, hMj, hOj, hnp, hpj, k1j, k2j, hbj⟩ := hrel
          by_cases hlj : j < 1
          · have hj1 : (j : Int) < 1 := by omega
            have q0 : wr.cell? ⟨pl, 0, none⟩ = some (.int .i64 (mx : Int)) := by rw [cell_of_row _ _ _ _ _ _ hpj.out]; rfl
            have q1 : wr.cell? ⟨pl, 1, none⟩ = some (.int .i64 (my : Int)) := by rw [cell_of_row _ _ _ _ _ _ hpj.out]; rfl
            have hown := hOj.out
            unfold ownA at hown
            rw [List.length_append, plN_len, hsm.2] at hown
            have hst := plN_succ S (mx : Int) (my : Int) j
            have hpw := blk_lt hpj.out
            have hsj := hbj.size
            have Hst := Lib.hid hst
            clear hst
            go_wp2_with (at_builtin; refine wpList_append_lies _ rfl _ _ 96 rfl w.heap.size 99 i0 _ 2 16 Tryd.underlying96 hi hz0 hz1 hz2 rfl (by decide) _ _ _ rfl (hown.alloc _) ⟨wr.heap.size, 0, none⟩ 1 1 [.int .i64 (mx : Int), .int .i64 ((my : Int) + (j : Int))] rfl rfl (fun j x hj => app_cells rfl hj) ?g2 (by omega) ?g3 ?g4 ?g5 (wr.heap.size + 1) (by simp) ?_)
            case g2 => simp [Value.oneCell']
            case g3 => unfold maxLen; omega
            case g4 => omega
            case g5 => first | omega | (simp; omega)
            intro gj cj w8 hown8 hgrow8 hat8 hlt8
            have N8 := (hbj.alloc hbj.size (.cells #[.int .i64 (mx : Int), .int .i64 ((my : Int) + (j : Int))] 99)).grown hgrow8 (by simp; omega) (fun i hi => (hown.lt i hi).1)
            have M8 := Lib.hid ((hMj.out.alloc (.cells #[.int .i64 (mx : Int), .int .i64 ((my : Int) + (j : Int))] 99)).grown (hown.alloc _) hgrow8 (by decide) (by decide) (by decide))
            have P8 := Lib.hid ((hgrow8.block pl (by simp; omega) (Ne.symm hnp)).trans (blk_alloc hpj.out _))
            have k18 := Lib.hid ((hgrow8.block b1 (by have := blk_lt k1j.out; simp; omega) (fun e => own_ne_kind hown k1j.out (by decide) e.symm)).trans (blk_alloc k1j.out _))
            have k28 := Lib.hid ((hgrow8.block (b1 + 1) (by have := blk_lt k2j.out; simp; omega) (fun e => own_ne_kind hown k2j.out (by decide) e.symm)).trans (blk_alloc k2j.out _))
            have np8 : gj ≠ pl := fun e => by
              rcases hat8 with h | h
              · exact hnp (by rw [h, e])
              · omega
            have HO := Lib.hid hown8
            clear hown8 hgrow8 hown hat8 q0 q1
            go_wp2
            go_roundw
            case rel => exact ⟨j + 1, by omega, by go_num, M8, Lib.hid (by rw [Hst.out]; unfold ownA; rw [List.length_append, List.length_append, plN_len, hsm.2, sRow_snoc]; exact HO.out), (fun e => np8 (by simpa [Value.ownBlock] using e)), P8, k18, k28, N8⟩
            case measure => first | (simp [intOf]; omega) | (simp; omega)
          · have hj1 : ¬ (j : Int) < 1 := by omega
            obtain rfl : j = 1 := by omega
            go_wp2
            go_roundw
            case rel => exact ⟨k + 1, X2, y2, _, _, _, _, by omega, by go_num, Lib.hid (fun h e => hr h e), I3, hMj, hOj, k1j, k2j, hbj⟩
            case measure => first | (simp [intOf]; omega) | (simp; omega)
    · obtain rfl : k = L.length := by omega
      obtain ⟨g, cap, rfl, hBg, hgl, hcl, hfr⟩ := hM.out.form
      obtain ⟨ya, yc, rfl, _⟩ := cells_of_own hM.out.last
      obtain ⟨hqc, hqf⟩ := hM.out.cells
      have hqlt := blk_lt hM.out.var
      have hsm := hI.out.small
      have hfit := hI.out.fit
      have hm1 : (X.length : Int) < ((X.length + 1 : Nat) : Int) := by omega
      have hm2 : (X.length : Int) < (X.length : Int) + 1 := by omega
      have hm0 : (0 : Int) ≤ X.length := by omega
      have hsz := hbl.size
      have hk1 : ¬ (L.length : Int) < L.length := by omega
      have HFU := Lib.hid (fun h => hI.out.full h)
      have HRE := Lib.hid (fun h => hI.out.rest h)
      clear hI hne
      generalize hxl : X.length = m at *
      generalize hyl : y.length = ly at *
      go_upto_if 92 with (fail)
      go_cut [16] from 92 to 97 (fun s16 wx => ∃ (XF : List (List Cl)) (yF : List Cl) (vF vyF : Value) (vsF : List Value), s16 = .int .i64 (XF.length : Int) ∧ XF.length ≤ 100001 ∧ Hid (LayM wx w.heap.size q vF vyF vsF XF yF) ∧ Hid (ownA wx w.heap.size u8 S) ∧ Hid (XF ++ [yF] = lyRows L wd ∧ S ++ [((XF.length : Int), (yF.length : Int))] = spAll L wd) ∧ Below w.heap.size w wx)
      case first =>
        by_cases hf : (ly : Int) = wd
        · have hfb : ((ly : Int) == wd) = true := by rw [beq_iff_eq]; exact hf
          have HF2 := Lib.hid (HFU.out hf)
          clear hf
          have hown := hM.out.out
          rw [hxl] at hown
          have n1 := own_ne_kind hown hM.out.var (by decide)
          have d3 := fun o => (World.cell?_alloc_lt wr o (⟨q, 0, none⟩ : Addr) hqlt).trans hqc
          have d3f := fun o => (World.frozen?_of_block (w := wr) (w' := wr.alloc o) (a := ⟨q, 0, none⟩) (Below.heap_alloc _ _ _ hqlt)).trans hqf
          obtain ⟨i1, hj, hy0, hy1, hy2⟩ := info_parts infoCS
          go_wp2_with (at_builtin; refine wpList_append_lies _ rfl _ _ 26 rfl w.heap.size 36 i1 _ 1 24 Tryd.underlying26 hj hy0 hy1 hy2 rfl (by decide) _ (m + 1) _ rfl (hown.alloc _) ⟨wr.heap.size, 0, none⟩ 1 1 [.slice none 0 0] rfl rfl (fun j x hj => app_cells rfl hj) ?g2 (by omega) ?g3 ?g4 ?g5 (wr.heap.size + 1) (by simp) ?_)
          case g2 => simp [Value.oneCell']
          case g3 => unfold maxLen; omega
          case g4 => omega
          case g5 => first | omega | (simp; omega)
          intro g8 c8 w8 hown8 hgrow8 hat8 hlt8
          have e3 := (hgrow8.cell_far ⟨q, 0, none⟩ (by simp; omega) (Ne.symm n1)).trans (d3 _)
          have e3f := (hgrow8.frozen_far ⟨q, 0, none⟩ (by simp; omega) (Ne.symm n1)).trans (d3f _)
          have HN := Lib.hid (LayM.fresh (hM.out.alloc (.cells #[.slice none 0 0] 36)) (by rw [hxl]; simpa using hown8) hgrow8)
          have O8 := World.ownsRow.kept (World.ownsRow.alloc hO.out (.cells #[.slice none 0 0] 36)) hgrow8 (own_ne_own (World.ownsRow.alloc hO.out (.cells #[.slice none 0 0] 36)) (hown.alloc _) (by decide))
          have hq8 := (hgrow8.block q (by simp; omega) (Ne.symm n1)).trans (blk_alloc hM.out.var (.cells #[.slice none 0 0] 36))
          have O9 := Lib.hid (show ownA _ _ _ _ from own_set O8 (a := ⟨q, 0, none⟩) (own_ne_kind O8 hq8 (by decide)) (.slice (some ⟨g8, 0, none⟩) (m + 1 + 1) c8))
          have N9 := ((hbl.alloc hbl.size (.cells #[.slice none 0 0] 36)).grown hgrow8 (by simp; omega) (fun i hi => (hown.lt i hi).1)).setCell (p := ⟨q, 0, none⟩) (by show w.heap.size ≤ q; omega) (.slice (some ⟨g8, 0, none⟩) (m + 1 + 1) c8)
          clear hown8 hgrow8 hat8 O8 hown
          go_wp2_with fail
          go_meet
          exact ⟨X ++ [y], [], _, _, _, by simp [hxl], by simp [hxl]; omega, HN, O9, Lib.hid ⟨HF2.out.1, by rw [List.length_append, hxl]; exact HF2.out.2⟩, N9⟩
        · have hfb : ((ly : Int) == wd) = false := by rw [beq_eq_false_iff_ne]; exact hf
          have HF2 := Lib.hid (HRE.out hf)
          clear hf
          go_wp2_with fail
          go_meet
          exact ⟨X, y, _, _, _, by rw [hxl], by omega, hM, hO, Lib.hid ⟨HF2.out.1, by rw [hxl, hyl]; exact HF2.out.2⟩, hbl⟩
      case rest =>
        obtain ⟨XF, yF, vF, vyF, vsF, rfl, hxb, hMF, hOF, hEQ, hbF⟩ := hcut
        clear hM hO hcl hfr hqc hqf hqlt hm1 hm2 hm0 hsz
        obtain ⟨gf, capf, rfl, hBf, hgf, hcf, _⟩ := hMF.out.form
        obtain ⟨yaf, ycf, rfl, _⟩ := cells_of_own hMF.out.last
        obtain ⟨hqf, _⟩ := hMF.out.cells
        have hqlf := blk_lt hMF.out.var
        have hcap : XF.length + 1 ≤ capf := by
          rcases hMF.out.out.2 with ⟨e, _⟩ | ⟨g', cap', cur, e, _, _, hle, _⟩
          · cases e
          · rw [(Value.slice.inj e).2.2]; exact hle
        have ng := own_ne_kind hOF.out hMF.out.var (by decide)
        have ng2 : u8.ownBlock ≠ some gf := by
          rcases own_ne_own hOF.out hMF.out.out (by decide) with e | e
          · rw [e]; simp
          · exact e
        have hof := hOF.out
        unfold ownA at hof
        rw [hsm.2] at hof
        have HOF := Lib.hid hof
        clear hof
        have hsF := hbF.size
        generalize hxlF : XF.length = mf at *
        generalize hylF : yF.length = lf at *
        have hm1 : (mf : Int) < ((mf + 1 : Nat) : Int) := by omega
        have hm2 : (mf : Int) < (mf : Int) + 1 := by omega
        have hm0 : (0 : Int) ≤ mf := by omega
        have d1 := fun o => (World.cell?_alloc_lt wc o (⟨q, 0, none⟩ : Addr) hqlf).trans hqf
        have d2 := fun o => (World.cell?_alloc_lt wc o (⟨gf, mf, none⟩ : Addr) hgf).trans hcf
        go_wp2
        go_region_held3 (fun w' => w'.cell? ⟨q, 0, none⟩ = some (.slice (some ⟨gf, 0, none⟩) (mf + 1) capf) ∧ w'.cell? ⟨gf, mf, none⟩ = some (.slice yaf lf ycf))
          (first | go_keep | exact ⟨d1 _, d2 _⟩ | exact ⟨(hgrow.cell_far _ (by simp; omega) (Ne.symm ng)).trans (d1 _), (hgrow.cell_far _ (by simp; omega) (Ne.symm ng2)).trans (d2 _)⟩)
          ((refine step_append_lies _ (by rfl) _ _ _ (by rfl) w.heap.size 99 i0 _ 2 16 Tryd.underlying96 hi hz0 hz1 hz2 rfl (by decide) _ L.length (sRow S).toList (by rfl) ((show (wc.alloc _).drew.ownsRow _ _ _ _ _ _ from HOF.out.alloc _)) ⟨wc.heap.size, 0, none⟩ 1 1 [.int .i64 (mf : Int), .int .i64 (lf : Int)] (by rfl) (by rfl) (fun j x hj => app_cells rfl hj) (by simp [Value.oneCell']) (by omega) (by unfold maxLen; omega) (by omega) (by simp; omega) (wc.heap.size + 1) (by simp) ?_; intro gg cap w1 hown1 hgrow hat hlt1))
        have hMl := (hMF.out.alloc (.cells #[.int .i64 (mf : Int), .int .i64 (lf : Int)] 99)).drew.grown (HOF.out.alloc _).drew hgrow (by decide) (by decide) (by decide)
        have hNl := (((hbF.alloc hbF.size (.cells #[.int .i64 (mf : Int), .int .i64 (lf : Int)] 99)).drew).grown hgrow (by simp; omega) (fun j hj => (HOF.out.lt j hj).1))
        obtain ⟨ra, rc, er, hRl⟩ := hMl.rows
        have hlr : (lyRows L wd).length = mf + 1 := by rw [← hEQ.out.1, List.length_append, hxlF]; rfl
        have ea := (Value.slice.inj er).1
        rw [hEQ.out.1] at hRl
        rw [← ea] at hRl
        have HRl := Lib.hid hRl
        have HOl := Lib.hid hown1
        clear hown1 hgrow hat er ea hRl hMl
        go_wp2
        refine bodyPost_ret (results_tmp3 rfl _ _ _) rfl ⟨_, _, rfl, ⟨some ⟨gf, 0, none⟩, capf, by rw [hlr]; rfl, by rw [hlr]; exact hcap, HRl.out⟩, ?_, hNl⟩
        rw [← hEQ.out.2]
        unfold ownA
        rw [List.length_append, hsm.2, sRow_snoc]
        exact HOl.out
end Go.Proofs.YtcdecnmhogmhaaaDoor
set_option linter.unusedVariables false
set_option linter.unusedSimpArgs false
namespace Go.Proofs.YtcdecnmhogmhaaaDoor
open Go.RowKit
/-- Rows filled up with blanks, so many of them. -/
def filR (Ls : List (List Cl)) (wd n : Nat) : List (List Cl) := (List.range n).map fun (i : Nat) => fillN (Ls.getD i []) (wd - (Ls.getD i []).length)
theorem filR_len (Ls : List (List Cl)) (wd n : Nat) : (filR Ls wd n).length = n := by unfold filR; rw [List.length_map, List.length_range]
theorem filR_at (Ls : List (List Cl)) (wd n i : Nat) (h : i < n) : (filR Ls wd n).getD i [] = fillN (Ls.getD i []) (wd - (Ls.getD i []).length) := by
  unfold filR; rw [List.getD, List.getElem?_map, List.getElem?_range h]; rfl
/-- The row's cells when k rows are there. -/
def filV (wd n : Nat) (hs : List Nat) : List Value := hs.map (fun h => Value.slice (some ⟨h, 0, none⟩) wd wd) ++ List.replicate (n - hs.length) (.slice none 0 0)
/-- A screen's rows under way. -/
structure FilM (w : World) (B g wd n k : Nat) (Ls : List (List Cl)) (hs : List Nat) : Prop where
  blk : w.heap[g]? = some (.cells (filV wd n hs).toArray 36 (0, 0))
  len : hs.length = k
  rows : ∀ i, i < k → ∃ h, hs[i]? = some h ∧ B ≤ h ∧ w.heap[h]? = some (.cells (cRow (fillN (Ls.getD i []) (wd - (Ls.getD i []).length))) 51 (0, 0))
theorem FilM.below {w w' : World} {B g wd n k : Nat} {Ls : List (List Cl)} {hs : List Nat} (h : FilM w B g wd n k Ls hs) (hb : Below w.heap.size w w') : FilM w' B g wd n k Ls hs :=
  ⟨blk_below h.blk hb, h.len, fun i hi => by
    obtain ⟨x, h1, h2, h3⟩ := h.rows i hi
    exact ⟨x, h1, h2, blk_below h3 hb⟩⟩
theorem filV_set (wd n h : Nat) (hs : List Nat) (hk : hs.length < n) : (filV wd n hs).toArray.setIfInBounds hs.length (.slice (some ⟨h, 0, none⟩) wd wd) = (filV wd n (hs ++ [h])).toArray := by
  unfold filV
  rw [List.setIfInBounds_toArray]
  congr 1
  obtain ⟨m, hm⟩ : ∃ m, n - hs.length = m + 1 := ⟨n - hs.length - 1, by omega⟩
  have e : (hs.map fun h => Value.slice (some ⟨h, 0, none⟩) wd wd).length = hs.length := List.length_map _
  rw [List.set_append_right _ _ (by rw [e]; exact Nat.le_refl _), e, Nat.sub_self, hm, show n - (hs ++ [h]).length = m by simp; omega, List.replicate_succ]
  simp
theorem FilM.step {w : World} {B g wd n k h : Nat} {Ls : List (List Cl)} {hs : List Nat} (hM : FilM w B g wd n k Ls hs) (hk : k < n) (hB : B ≤ h) (hr : w.heap[h]? = some (.cells (cRow (fillN (Ls.getD k []) (wd - (Ls.getD k []).length))) 51 (0, 0))) :
    FilM (w.setCell ⟨g, k, none⟩ (.slice (some ⟨h, 0, none⟩) wd wd)) B g wd n (k + 1) Ls (hs ++ [h]) := by
  have hne : ∀ {x : Nat} {cs : Array Value}, w.heap[x]? = some (.cells cs 51 (0, 0)) → x ≠ g := fun hx e => by
    rw [e, hM.blk] at hx; simp at hx
  refine ⟨?_, by simp [hM.len], fun i hi => ?_⟩
  · have := blk_set hM.blk k (.slice (some ⟨h, 0, none⟩) wd wd)
    rwa [← hM.len, filV_set wd n h hs (by rw [hM.len]; exact hk), hM.len] at this
  · rcases Nat.lt_or_ge i k with hi' | hi'
    · obtain ⟨x, h1, h2, h3⟩ := hM.rows i hi'
      exact ⟨x, by rw [List.getElem?_append_left (by rw [hM.len]; exact hi')]; exact h1, h2, (Below.heap_setCell _ _ _ _ (hne h3)).trans h3⟩
    · obtain rfl : i = k := by omega
      exact ⟨h, by rw [← hM.len, List.getElem?_append_right (Nat.le_refl _), Nat.sub_self]; rfl, hB, (Below.heap_setCell _ _ _ _ (hne hr)).trans hr⟩
theorem filV_nil (wd n : Nat) : madeCells (Value.slice none 0 0).cells (n * 1) = (filV wd n []).toArray := by
  unfold filV
  apply Array.ext
  · simp [madeCells, Value.cells]
  · intro i h1 h2
    simp [madeCells, Value.cells]
    rw [show i % 1 = 0 by omega]; rfl
theorem FilM.cells {w : World} {B g wd n k : Nat} {Ls : List (List Cl)} {hs : List Nat} (hM : FilM w B g wd n k Ls hs) (hk : k < n) : w.cell? ⟨g, k, none⟩ = some (.slice none 0 0) ∧ w.frozen? ⟨g, k, none⟩ = false := by
  refine ⟨?_, frozen_of_row w g k _ _ hM.blk⟩
  rw [cell_of_row _ _ _ _ _ _ hM.blk, List.getElem?_toArray]
  unfold filV
  rw [List.getElem?_append_right (by rw [List.length_map, hM.len]; exact Nat.le_refl _), List.length_map, hM.len, Nat.sub_self]
  obtain ⟨m, hm⟩ : ∃ m, n - k = m + 1 := ⟨n - k - 1, by omega⟩
  rw [hm]; rfl
/-- A screen's five cells stored. -/
theorem scr_set {w : World} {r : Nat} {u0 u1 u2 u3 u4 : Value} (h : w.heap[r]? = some (.cells #[u0, u1, u2, u3, u4] 28 (0, 0))) (a b : Int) (v : Value) (c d : Int) :
    (((((w.setCell ⟨r, 0, none⟩ (.int .i64 a)).setCell ⟨r, 1, none⟩ (.int .i64 b)).setCell ⟨r, 2, none⟩ v).setCell ⟨r, 3, none⟩ (.int .i64 c)).setCell ⟨r, 4, none⟩ (.int .i64 d)).heap[r]? = some (.cells #[.int .i64 a, .int .i64 b, v, .int .i64 c, .int .i64 d] 28 (0, 0)) := by
  have := blk_set (blk_set (blk_set (blk_set (blk_set h 0 (.int .i64 a)) 1 (.int .i64 b)) 2 v) 3 (.int .i64 c)) 4 (.int .i64 d)
  simpa using this
theorem scr_set_below (w w0 : World) (r : Nat) (v0 v1 v2 v3 v4 : Value) {B : Nat} (hr : B ≤ r) (h : Below B w0 w) : Below B w0 (((((w.setCell ⟨r, 0, none⟩ v0).setCell ⟨r, 1, none⟩ v1).setCell ⟨r, 2, none⟩ v2).setCell ⟨r, 3, none⟩ v3).setCell ⟨r, 4, none⟩ v4) :=
  ((((h.setCell hr v0).setCell hr v1).setCell hr v2).setCell hr v3).setCell hr v4
theorem CellsIn.far {w : World} {a : Option Addr} {l : List Cl} (h : CellsIn w a l) {p : Addr} (hp : ∀ b off, a = some ⟨b, off, none⟩ → b ≠ p.block) (u : Value) : CellsIn (w.setCell p u) a l := fun i hi => by
  obtain ⟨b, off, e, hlt, h1, h2, h3, h4, h5⟩ := h i hi
  have c := fun o => World.cell?_of_block (w := w) (w' := w.setCell p u) (a := ⟨b, o, none⟩) (Below.heap_setCell _ _ _ _ (hp b off e))
  exact ⟨b, off, e, by simpa [World.setCell] using hlt, (c _).trans h1, (c _).trans h2, (c _).trans h3, (c _).trans h4, (c _).trans h5⟩
/-- Rows of a screen, each in a block of its own kind. -/
def RowsB (w : World) (g : Nat) (l : List (List Cl)) : Prop :=
  (∃ cs, w.heap[g]? = some (.cells cs 36 (0, 0))) ∧ ∀ i, i < l.length → ∃ h rc, w.cell? ⟨g, i, none⟩ = some (.slice (some ⟨h, 0, none⟩) (l.getD i []).length rc) ∧ w.heap[h]? = some (.cells (cRow (l.getD i [])) 51 (0, 0))
theorem RowsB.rows {w : World} {g : Nat} {l : List (List Cl)} (h : RowsB w g l) : RowsC w (some ⟨g, 0, none⟩) l := fun i hi => by
  obtain ⟨⟨cs, hc⟩, h'⟩ := h
  obtain ⟨x, rc, h1, h2⟩ := h' i hi
  exact ⟨g, 0, _, rc, rfl, blk_lt hc, by rw [Nat.zero_add]; exact h1, cells_of_blk h2, fun e => by cases e⟩
theorem RowsB.set {w : World} {g : Nat} {l : List (List Cl)} (h : RowsB w g l) {p : Addr} {cs : Array Value} {T : TypeId} {fr : Nat × Nat} (hp : w.heap[p.block]? = some (.cells cs T fr)) (h1 : T ≠ 36) (h2 : T ≠ 51) (u : Value) : RowsB (w.setCell p u) g l := by
  obtain ⟨⟨c0, hc⟩, h'⟩ := h
  have ng : g ≠ p.block := fun e => by rw [← e, hc] at hp; simp at hp; exact h1 hp.2.1.symm
  refine ⟨⟨c0, blk_far hc ng u⟩, fun i hi => ?_⟩
  obtain ⟨x, rc, g1, g2⟩ := h' i hi
  have nx : x ≠ p.block := fun e => by rw [← e, g2] at hp; simp at hp; exact h2 hp.2.1.symm
  exact ⟨x, rc, (World.cell?_of_block (w := w) (w' := w.setCell p u) (a := ⟨g, i, none⟩) (Below.heap_setCell _ _ _ _ ng)).trans g1, blk_far g2 nx u⟩
theorem RowsB.below {w w' : World} {g : Nat} {l : List (List Cl)} (h : RowsB w g l) (hb : Below w.heap.size w w') : RowsB w' g l := by
  obtain ⟨⟨c0, hc⟩, h'⟩ := h
  refine ⟨⟨c0, blk_below hc hb⟩, fun i hi => ?_⟩
  obtain ⟨x, rc, g1, g2⟩ := h' i hi
  exact ⟨x, rc, (hb.cell (p := ⟨g, i, none⟩) (blk_lt hc)).trans g1, blk_below g2 hb⟩
theorem FilM.done {w : World} {B g wd n : Nat} {Ls : List (List Cl)} {hs : List Nat} (hM : FilM w B g wd n n Ls hs) (hL : ∀ i, (Ls.getD i []).length ≤ wd) : RowsB w g (filR Ls wd n) := by
  refine ⟨⟨_, hM.blk⟩, fun i hi => ?_⟩
  rw [filR_len] at hi
  obtain ⟨h, h1, h2, h3⟩ := hM.rows i hi
  rw [filR_at Ls wd n i hi]
  have hl : (fillN (Ls.getD i []) (wd - (Ls.getD i []).length)).length = wd := by rw [fillN_len]; have := hL i; omega
  refine ⟨h, wd, ?_, h3⟩
  rw [hl, cell_of_row _ _ _ _ _ _ hM.blk, List.getElem?_toArray]
  unfold filV
  rw [List.getElem?_append_left (by rw [List.length_map, hM.len]; exact hi), List.getElem?_map, h1]; rfl
set_option maxHeartbeats 8000000 in
theorem pfill_any (Ls : List (List Cl)) (a : Option Addr) (c wd n : Nat) (w : World) (hwd : wd ≤ 1000) (hn : n ≤ 1000) (hl : Ls.length ≤ 100001) (hL : ∀ i, (Ls.getD i []).length ≤ wd) (ha : RowsC w a Ls) :
    Calls Tryd.prog 68 #[.slice a Ls.length c, .int .i64 wd, .int .i64 n] w fun e w' => ∃ g, e = .returned (.agg #[.int .i64 wd, .int .i64 n, .slice (some ⟨g, 0, none⟩) n n, .int .i64 0, .int .i64 0]) ∧ w.heap.size ≤ g ∧ RowsB w' g (filR Ls wd n) ∧ Below w.heap.size w w' := by
  obtain ⟨i1, hj, hy0, hy1, hy2⟩ := info_parts infoCS
  have hmk := make_rowN (P := Tryd.prog) 26 36 i1 _ Tryd.underlying26 hj hy0 n (by rw [hy2]; omega) (by omega)
  rw [hy1, filV_nil wd n] at hmk
  have HA := Lib.hid ha
  clear ha
  go_enter Tryd.func68, Tryd.ntmps68
  go_wp2_with (go_at_call 115; refine (pfiller_any _ _).mono ?_; rintro e w1 ⟨rfl, rfl⟩)
  have q0 := heap_alloc_new w (.cells #[.int .i64 0, .int .i64 0, .slice none 0 0, .int .i64 0, .int .i64 0] 28)
  have z0 : (w.alloc (.cells #[.int .i64 0, .int .i64 0, .slice none 0 0, .int .i64 0, .int .i64 0] 28)).heap.size = w.heap.size + 1 := by simp
  have N0 := below_alloc w (.cells #[.int .i64 0, .int .i64 0, .slice none 0 0, .int .i64 0, .int .i64 0] 28)
  generalize w.alloc (.cells #[.int .i64 0, .int .i64 0, .slice none 0 0, .int .i64 0, .int .i64 0] 28) = W0 at *
  have q1 := heap_alloc_new W0 (.cells #[.int .i64 wd] 3)
  rw [z0] at q1
  replace q0 := blk_alloc q0 (.cells #[.int .i64 wd] 3)
  have z1 : (W0.alloc (.cells #[.int .i64 wd] 3)).heap.size = w.heap.size + 1 + 1 := by simp [z0]
  have N1 := N0.alloc N0.size (.cells #[.int .i64 wd] 3)
  generalize W0.alloc (.cells #[.int .i64 wd] 3) = W1 at *
  have q2 := heap_alloc_new W1 (.cells (filV wd n []).toArray 36)
  rw [z1] at q2
  replace q0 := blk_alloc q0 (.cells (filV wd n []).toArray 36)
  replace q1 := blk_alloc q1 (.cells (filV wd n []).toArray 36)
  have z2 : (W1.alloc (.cells (filV wd n []).toArray 36)).heap.size = w.heap.size + 1 + 1 + 1 := by simp [z1]
  have N2 := N1.alloc N1.size (.cells (filV wd n []).toArray 36)
  generalize W1.alloc (.cells (filV wd n []).toArray 36) = W2 at *
  have q3 := heap_alloc_new W2 (.cells #[.int .i64 wd, .int .i64 n, .slice (some ⟨w.heap.size + 1 + 1, 0, none⟩) n n, .int .i64 0, .int .i64 0] 28)
  rw [z2] at q3
  replace q0 := blk_alloc q0 (.cells #[.int .i64 wd, .int .i64 n, .slice (some ⟨w.heap.size + 1 + 1, 0, none⟩) n n, .int .i64 0, .int .i64 0] 28)
  replace q1 := blk_alloc q1 (.cells #[.int .i64 wd, .int .i64 n, .slice (some ⟨w.heap.size + 1 + 1, 0, none⟩) n n, .int .i64 0, .int .i64 0] 28)
  replace q2 := blk_alloc q2 (.cells #[.int .i64 wd, .int .i64 n, .slice (some ⟨w.heap.size + 1 + 1, 0, none⟩) n n, .int .i64 0, .int .i64 0] 28)
  have z3 : (W2.alloc (.cells #[.int .i64 wd, .int .i64 n, .slice (some ⟨w.heap.size + 1 + 1, 0, none⟩) n n, .int .i64 0, .int .i64 0] 28)).heap.size = w.heap.size + 1 + 1 + 1 + 1 := by simp [z2]
  have N3 := N2.alloc N2.size (.cells #[.int .i64 wd, .int .i64 n, .slice (some ⟨w.heap.size + 1 + 1, 0, none⟩) n n, .int .i64 0, .int .i64 0] 28)
  generalize W2.alloc (.cells #[.int .i64 wd, .int .i64 n, .slice (some ⟨w.heap.size + 1 + 1, 0, none⟩) n n, .int .i64 0, .int .i64 0] 28) = W3 at *
  have hwr : w.heap.size < w.heap.size + 1 := by omega
  replace q0 := Lib.hid q0; replace q1 := Lib.hid q1; replace q3 := Lib.hid q3
  have F0 := Lib.hid (show FilM W3 w.heap.size (w.heap.size + 1 + 1) wd n 0 Ls [] from ⟨q2, rfl, fun i hi => absurd hi (by omega)⟩)
  clear q2 N0 N1 N2 z0 z1 z2 z3 hmk
  go_loopw [20] (fun iv wr => ∃ (k : Nat) (hs : List Nat), k ≤ n ∧ iv = .int .i64 (k : Int) ∧ Hid (FilM wr w.heap.size (w.heap.size + 1 + 1) wd n k Ls hs) ∧ Hid (wr.heap[w.heap.size]? = some (.cells #[.int .i64 0, .int .i64 0, .slice none 0 0, .int .i64 0, .int .i64 0] 28 (0, 0))) ∧
    Hid (wr.heap[w.heap.size + 1]? = some (.cells #[.int .i64 wd] 3 (0, 0))) ∧ Hid (wr.heap[w.heap.size + 1 + 1 + 1]? = some (.cells #[.int .i64 wd, .int .i64 n, .slice (some ⟨w.heap.size + 1 + 1, 0, none⟩) n n, .int .i64 0, .int .i64 0] 28 (0, 0))) ∧ Below w.heap.size w wr) (fun iv _ => n - (intOf iv).toNat)
  case atStart => exact ⟨0, [], Nat.zero_le _, rfl, F0, q0, q1, q3, N3⟩
  case round =>
    obtain ⟨k, hs, hk, rfl, hF, h0, h1, h3, hbl⟩ := hrel
    have hsz := blk_lt h3.out
    by_cases hlt : k < n
    · have hk1 : (k : Int) < n := by omega
      have hk0 : (0 : Int) ≤ k := by omega
      have c1 : wr.cell? ⟨w.heap.size + 1, 0, none⟩ = some (.int .i64 wd) := by rw [cell_of_row _ _ _ _ _ _ h1.out]; rfl
      have c3 : wr.cell? ⟨w.heap.size + 1 + 1 + 1, 2, none⟩ = some (.slice (some ⟨w.heap.size + 1 + 1, 0, none⟩) n n) := by rw [cell_of_row _ _ _ _ _ _ h3.out]; rfl
      obtain ⟨f1, f2⟩ := hF.out.cells hlt
      have hn1 : w.heap.size + 1 + 1 ≠ w.heap.size + 1 + 1 + 1 := by omega
      have hn2 : w.heap.size + 1 + 1 < wr.heap.size := by omega
      have hn0 : w.heap.size ≠ w.heap.size + 1 + 1 := by omega
      have hn3 : w.heap.size + 1 ≠ w.heap.size + 1 + 1 := by omega
      have hBg : w.heap.size ≤ w.heap.size + 1 + 1 := by omega
      have hn4 : w.heap.size + 1 + 1 + 1 ≠ w.heap.size + 1 + 1 := by omega
      generalize hS : w.heap.size + 1 + 1 + 1 = sb at *
      generalize hG : w.heap.size + 1 + 1 = g at *
      generalize hP : w.heap.size + 1 = pb at *
      by_cases hi : k < Ls.length
      · obtain ⟨bb, off, ra, rc, rfl, hbb, hr, hci, hcn⟩ := (HA.out.below hbl) k hi
        have hi1 : (k : Int) < Ls.length := by omega
        have hgb : g ≠ bb := by have := HA.out k hi; obtain ⟨b', o', _, _, e', hb', _⟩ := this; injection e' with e'; injection e' with e'; omega
        have hLk := hL k
        have hRk : Hid (Ls.getD k [] = Ls.getD k []) := Lib.hid rfl
        generalize hR0 : Ls.getD k [] = R at hr hci hLk
        have HR0 := Lib.hid hR0
        clear hR0 hRk
        have PF := Lib.hid (pfiller1_any R wd pb ra rc wr.drew hwd hLk (show CellsIn wr.drew ra _ from hci) hcn (by show pb < wr.heap.size; omega) (show wr.drew.cell? _ = _ from c1))
        go_wp2
        go_region_held3 (fun w' => w'.cell? ⟨sb, 2, none⟩ = some (.slice (some ⟨g, 0, none⟩) n n) ∧ w'.cell? ⟨bb, off + k, none⟩ = some (.slice ra R.length rc)) (first | exact ⟨c3, hr⟩ | exact ⟨e1, e2⟩ | exact ⟨(World.cell?_setCell_far _ _ _ _ hn1).trans e1, (World.cell?_setCell_far _ _ _ _ hgb).trans e2⟩ | go_keep)
          (first | (go_at_call 154; refine PF.out.mono ?_; rintro e w5 ⟨rfl, hb5, N5⟩; have e1 := (N5.cell (p := ⟨sb, 2, none⟩) (by show sb < wr.heap.size; exact hsz)).trans c3; have e2 := (N5.cell (p := ⟨bb, off + k, none⟩) (by show bb < wr.heap.size; exact hbb)).trans hr; have e3 := (N5.cell (p := ⟨g, k, none⟩) (by show g < wr.heap.size; exact hn2)).trans f1; have e4 := (World.frozen?_of_block (w := wr.drew) (w' := w5) (a := ⟨g, k, none⟩) (N5.block g hn2)).trans f2))
        have N6 : Below wr.heap.size wr w5 := ⟨N5.os, N5.tape, N5.output, N5.size, N5.block⟩
        have F6 := Lib.hid ((hF.out.below N6).step (h := wr.heap.size) hlt hbl.size (by rw [HR0.out]; exact hb5))
        have h06 := Lib.hid (blk_far (p := ⟨g, k, none⟩) (blk_below h0.out N6) hn0 (.slice (some ⟨wr.heap.size, 0, none⟩) wd wd))
        have h16 := Lib.hid (blk_far (p := ⟨g, k, none⟩) (blk_below h1.out N6) hn3 (.slice (some ⟨wr.heap.size, 0, none⟩) wd wd))
        have h36 := Lib.hid (blk_far (p := ⟨g, k, none⟩) (blk_below h3.out N6) hn4 (.slice (some ⟨wr.heap.size, 0, none⟩) wd wd))
        have N7 := (hbl.trans (N6.mono hbl.size)).setCell (p := ⟨g, k, none⟩) hBg (.slice (some ⟨wr.heap.size, 0, none⟩) wd wd)
        clear N5 hb5 e1 e3 e4
        go_wp2
        go_roundw
        case rel => exact ⟨k + 1, _, by omega, by go_num, F6, h06, h16, h36, N7⟩
        case measure => first | (simp [intOf]; omega) | (simp; omega)
      · have hi1 : ¬ (k : Int) < Ls.length := by omega
        have hz : Ls.getD k [] = [] := by rw [List.getD, List.getElem?_eq_none (by omega)]; rfl
        have hz0 : (Ls.getD k []).length = 0 := by rw [hz]; rfl
        have PF := pfiller1_any (Ls.getD k []) wd pb none 0 wr.drew hwd (hL k) (fun i hi => absurd hi (by rw [hz0]; omega)) (fun _ => rfl) (by show pb < wr.heap.size; omega) (show wr.drew.cell? _ = _ from c1)
        rw [hz0] at PF
        replace PF := Lib.hid PF
        have HZ := Lib.hid hz0
        clear hz hz0
        go_wp2
        go_region_held3 (fun w' => w'.cell? ⟨sb, 2, none⟩ = some (.slice (some ⟨g, 0, none⟩) n n)) (first | exact c3 | exact e1 | exact (World.cell?_setCell_far _ _ _ _ hn1).trans e1 | go_keep)
          (first | (go_at_call 154; refine PF.out.mono ?_; rintro e w5 ⟨rfl, hb5, N5⟩; have e1 := (N5.cell (p := ⟨sb, 2, none⟩) (by show sb < wr.heap.size; exact hsz)).trans c3; have e3 := (N5.cell (p := ⟨g, k, none⟩) (by show g < wr.heap.size; exact hn2)).trans f1; have e4 := (World.frozen?_of_block (w := wr.drew) (w' := w5) (a := ⟨g, k, none⟩) (N5.block g hn2)).trans f2))
        have N6 : Below wr.heap.size wr w5 := ⟨N5.os, N5.tape, N5.output, N5.size, N5.block⟩
        have F6 := Lib.hid ((hF.out.below N6).step (h := wr.heap.size) hlt hbl.size (by rw [HZ.out]; exact hb5))
        have h06 := Lib.hid (blk_far (p := ⟨g, k, none⟩) (blk_below h0.out N6) hn0 (.slice (some ⟨wr.heap.size, 0, none⟩) wd wd))
        have h16 := Lib.hid (blk_far (p := ⟨g, k, none⟩) (blk_below h1.out N6) hn3 (.slice (some ⟨wr.heap.size, 0, none⟩) wd wd))
        have h36 := Lib.hid (blk_far (p := ⟨g, k, none⟩) (blk_below h3.out N6) hn4 (.slice (some ⟨wr.heap.size, 0, none⟩) wd wd))
        have N7 := (hbl.trans (N6.mono hbl.size)).setCell (p := ⟨g, k, none⟩) hBg (.slice (some ⟨wr.heap.size, 0, none⟩) wd wd)
        clear N5 hb5 e1 e3 e4
        go_wp2
        go_roundw
        case rel => exact ⟨k + 1, _, by omega, by go_num, F6, h06, h16, h36, N7⟩
        case measure => first | (simp [intOf]; omega) | (simp; omega)
    · obtain rfl : k = n := by omega
      have hk1 : ¬ (k : Int) < k := by omega
      have b3 := fun i => cell_of_row _ _ i _ _ _ h3.out
      have s0 : wr.cell? ⟨w.heap.size + 1 + 1 + 1, 0, none⟩ = some (.int .i64 wd) := by rw [b3]; rfl
      have s1 : wr.cell? ⟨w.heap.size + 1 + 1 + 1, 1, none⟩ = some (.int .i64 k) := by rw [b3]; rfl
      have s2 : wr.cell? ⟨w.heap.size + 1 + 1 + 1, 2, none⟩ = some (.slice (some ⟨w.heap.size + 1 + 1, 0, none⟩) k k) := by rw [b3]; rfl
      have s3 : wr.cell? ⟨w.heap.size + 1 + 1 + 1, 3, none⟩ = some (.int .i64 0) := by rw [b3]; rfl
      have s4 : wr.cell? ⟨w.heap.size + 1 + 1 + 1, 4, none⟩ = some (.int .i64 0) := by rw [b3]; rfl
      have b0 := fun i => cell_of_row _ _ i _ _ _ h0.out
      have r0 : wr.cell? ⟨w.heap.size, 0, none⟩ = some (.int .i64 0) := by rw [b0]; rfl
      have r1 : wr.cell? ⟨w.heap.size, 1, none⟩ = some (.int .i64 0) := by rw [b0]; rfl
      have r2 : wr.cell? ⟨w.heap.size, 2, none⟩ = some (.slice none 0 0) := by rw [b0]; rfl
      have r3 : wr.cell? ⟨w.heap.size, 3, none⟩ = some (.int .i64 0) := by rw [b0]; rfl
      have r4 : wr.cell? ⟨w.heap.size, 4, none⟩ = some (.int .i64 0) := by rw [b0]; rfl
      have rf := fun i => frozen_of_row _ w.heap.size i _ _ h0.out
      clear b0 b3
      have HF := Lib.hid (hF.out.done hL)
      have hrn : w.heap.size ≠ w.heap.size + 1 + 1 := by omega
      have hfin := scr_set h0.out wd k (.slice (some ⟨w.heap.size + 1 + 1, 0, none⟩) k k) 0 0
      have NF := scr_set_below wr w w.heap.size (.int .i64 wd) (.int .i64 k) (.slice (some ⟨w.heap.size + 1 + 1, 0, none⟩) k k) (.int .i64 0) (.int .i64 0) (Nat.le_refl _) hbl
      have HRF := Lib.hid (RowsB.set (RowsB.set (RowsB.set (RowsB.set (RowsB.set HF.out (p := ⟨w.heap.size, 0, none⟩) h0.out (by decide) (by decide) (.int .i64 wd)) (p := ⟨w.heap.size, 1, none⟩) (blk_set h0.out _ _) (by decide) (by decide) (.int .i64 k)) (p := ⟨w.heap.size, 2, none⟩) (blk_set (blk_set h0.out _ _) _ _) (by decide) (by decide) (.slice (some ⟨w.heap.size + 1 + 1, 0, none⟩) k k)) (p := ⟨w.heap.size, 3, none⟩) (blk_set (blk_set (blk_set h0.out _ _) _ _) _ _) (by decide) (by decide) (.int .i64 0)) (p := ⟨w.heap.size, 4, none⟩) (blk_set (blk_set (blk_set (blk_set h0.out _ _) _ _) _ _) _ _) (by decide) (by decide) (.int .i64 0))
      go_wp2
      generalize (((((wr.setCell _ _).setCell _ _).setCell _ _).setCell _ _).setCell _ _) = WF at *
      exact bodyPost_ret (v := .agg #[.int .i64 wd, .int .i64 k, .slice (some ⟨w.heap.size + 1 + 1, 0, none⟩) k k, .int .i64 0, .int .i64 0]) (by
        have y := fun i => cell_of_row _ _ i _ _ _ hfin
        have y0 : WF.cell? ⟨w.heap.size, 0, none⟩ = some (.int .i64 wd) := by rw [y]; rfl
        have y1 : WF.cell? ⟨w.heap.size, 1, none⟩ = some (.int .i64 k) := by rw [y]; rfl
        have y2 : WF.cell? ⟨w.heap.size, 2, none⟩ = some (.slice (some ⟨w.heap.size + 1 + 1, 0, none⟩) k k) := by rw [y]; rfl
        have y3 : WF.cell? ⟨w.heap.size, 3, none⟩ = some (.int .i64 0) := by rw [y]; rfl
        have y4 : WF.cell? ⟨w.heap.size, 4, none⟩ = some (.int .i64 0) := by rw [y]; rfl
        simp [results, Tryd.results68, go_sem, y0, y1, y2, y3, y4]) rfl ⟨_, rfl, by omega, HRF.out, NF⟩
end Go.Proofs.YtcdecnmhogmhaaaDoor
set_option linter.unusedVariables false
set_option linter.unusedSimpArgs false
namespace Go.Proofs.YtcdecnmhogmhaaaDoor
open Go.RowKit
theorem sp_nonneg (L : List Cl) (w : Int) : ∀ k j, j < k → 0 ≤ ((spS L w k).1.getD j (0, 0)).1 ∧ 0 ≤ ((spS L w k).1.getD j (0, 0)).2
  | 0, j, h => absurd h (by omega)
  | k + 1, j, h => by
    have hl := spS_len L w k
    have hr := spS_rng L w k
    by_cases hj : j < k
    · rw [sp_keep L w k j hj]; exact sp_nonneg L w k j hj
    · obtain rfl : j = k := by omega
      rw [sp_step]
      have e : ∀ x, ((spS L w j).1 ++ [x]).getD j (0, 0) = x := fun x => by
        have := getD_end (spS L w j).1 x (0, 0); rwa [hl] at this
      split
      · rw [e]
        rcases Nat.eq_zero_or_pos j with h0 | h0
        · subst h0; simp [spS]
        · exact sp_nonneg L w j (j - 1) (by omega)
      · split
        · rw [e]; exact ⟨by show 0 ≤ (spS L w j).2.1 + 1; omega, Int.le_refl _⟩
        · rw [e]; exact ⟨hr.1, hr.2.2.1⟩
/-- A place is a row that is there, and a column. -/
theorem spAll_rng (L : List Cl) (w : Int) (j : Nat) (hj : j ≤ L.length) : ∃ r c : Nat, (spAll L w).getD j (0, 0) = ((r : Int), (c : Int)) ∧ r < (lyRows L w).length := by
  have hr := spS_rng L w L.length
  have he := spAll_end L w
  have hlr := lyRows_len L w
  by_cases h : j < L.length
  · obtain ⟨h1, h2⟩ := sp_nonneg L w L.length j h
    have h3 := sp_low L w L.length j h
    rw [spAll_at L w L.length j h (Nat.le_refl _)]
    generalize (spS L w L.length).1.getD j (0, 0) = p at *
    obtain ⟨p1, p2⟩ := p
    simp only at h1 h2 h3
    refine ⟨p1.toNat, p2.toNat, by rw [Int.toNat_of_nonneg h1, Int.toNat_of_nonneg h2], ?_⟩
    rw [hlr, he]
    split
    · show p1.toNat < ((spS L w L.length).2.1 + 1).toNat + 1; omega
    · omega
  · obtain rfl : j = L.length := by omega
    rw [hlr, he]
    split
    · refine ⟨((spS L w L.length).2.1 + 1).toNat, 0, ?_, by simp⟩
      rw [Int.toNat_of_nonneg (by omega)]; rfl
    · refine ⟨(spS L w L.length).2.1.toNat, (spS L w L.length).2.2.toNat, ?_, by simp⟩
      rw [Int.toNat_of_nonneg hr.1, Int.toNat_of_nonneg hr.2.2.1]
theorem lyRows_le (L : List Cl) (w : Int) : (lyRows L w).length ≤ L.length + 2 := by
  have hr := spS_rng L w L.length
  rw [lyRows_len, spAll_end]
  split
  · show ((spS L w L.length).2.1 + 1).toNat + 1 ≤ _; omega
  · omega
theorem RowsC.cut {w : World} {b off : Nat} {l : List (List Cl)} (h : RowsC w (some ⟨b, off, none⟩) l) (t m : Nat) : RowsC w (some ⟨b, off + t, none⟩) ((l.drop t).take m) := fun i hi => by
  have hi2 : i < m ∧ t + i < l.length := by simp at hi; omega
  obtain ⟨b', off', ra, rc, e, hlt, h1, h2, h3⟩ := h (t + i) hi2.2
  obtain ⟨rfl, rfl⟩ : b = b' ∧ off = off' := by simpa using e
  have hg : ((l.drop t).take m).getD i [] = l.getD (t + i) [] := by
    simp only [List.getD, List.getElem?_take, if_pos hi2.1, List.getElem?_drop]
  refine ⟨b, off + t, ra, rc, rfl, hlt, ?_, ?_, h3⟩
  · rw [hg, ← h1]; congr 2; omega
  · rw [hg]; exact h2
/-- The rows that are shown, filled up. -/
theorem filR_cut (L : List Cl) (w t h : Nat) : filR (((lyRows L w).drop t).take (min (t + h) (lyRows L w).length - t)) w h = scR L w t h := by
  unfold filR scR
  apply List.map_congr_left
  intro i hi
  have hi : i < h := List.mem_range.1 hi
  have e : (((lyRows L w).drop t).take (min (t + h) (lyRows L w).length - t)).getD i [] = rwS L w ((t + i : Nat) : Int) L.length := by
    by_cases hlt : t + i < (lyRows L w).length
    · simp only [List.getD, List.getElem?_take, List.getElem?_drop]
      rw [if_pos (by omega), ← lyRows_at L w (t + i) hlt]; rfl
    · rw [lyRows_more (t + i) (by omega)]
      simp only [List.getD, List.getElem?_take, List.getElem?_drop]
      rw [if_neg (by omega)]; rfl
  rw [e]
theorem cut_len (L : List Cl) (w t h : Nat) (i : Nat) (hw : 1 ≤ w) (hL : layB L = true) : ((((lyRows L w).drop t).take (min (t + h) (lyRows L w).length - t)).getD i []).length ≤ w := by
  rcases hg : (((lyRows L w).drop t).take (min (t + h) (lyRows L w).length - t))[i]? with _ | r
  · rw [List.getD, hg]; exact Nat.zero_le _
  · rw [List.getD, hg]
    have hm := List.mem_of_getElem? hg
    have := (lyRows_ok (L := L) (w := w) (by omega) hL).1 r (List.mem_of_mem_drop (List.mem_of_mem_take hm))
    show r.length ≤ w
    omega
theorem first_ref (L : List Cl) (i : Int) (a : Option Addr) (c : Nat) (w : World) (hl : L.length ≤ 1000000) (ha : CellsIn w a L) :
    Calls Tryd.prog 70 #[.slice a L.length c, .int .i64 i] w fun e w' => e = .returned (.int .i64 (fstM L i)) ∧ Below w.heap.size w w' := by
  have HA := Lib.hid ha
  clear ha
  go_enter Tryd.func70, Tryd.ntmps70
  go_wp2
  go_loopw [5] (fun iv wr => ∃ k : Nat, k ≤ L.length ∧ iv = .int .i64 (k : Int) ∧ Hid (∀ j, j < k → (L.getD j cl0).2.2.1 < i) ∧ Below w.heap.size w wr) (fun iv _ => L.length - (intOf iv).toNat)
  case atStart => exact ⟨0, Nat.zero_le _, rfl, Lib.hid (fun j hj => absurd hj (by omega)), Below.refl _ _⟩
  case round =>
    obtain ⟨k, hk, rfl, hall, hbl⟩ := hrel
    by_cases hlt : k < L.length
    · obtain ⟨b1, o1, rfl, hb1, c1, c2, c3, c4, c5⟩ := (HA.out.below hbl) k hlt
      have hk1 : (k : Int) < L.length := by omega
      have hk0 : (0 : Int) ≤ k := by omega
      have hat := fun h1 => fstM_at (L := L) (i := i) hlt h1 hall.out
      have hyes := fun (h : (L.getD k cl0).2.2.1 < i) => (fun j (hj : j < k + 1) => (by
        rcases Nat.lt_succ_iff_lt_or_eq.1 hj with h' | rfl
        · exact hall.out j h'
        · exact h : (L.getD j cl0).2.2.1 < i))
      by_cases h : (L.getD k cl0).2.2.1 < i
      · have HY := Lib.hid (hyes h)
        clear hyes hat
        generalize (L.getD k cl0).2.2.1 = o at *
        go_wp2
        go_roundw
        case rel => exact ⟨k + 1, by omega, by go_num, HY, hbl⟩
        case measure => first | (simp [intOf]; omega) | (simp; omega)
      · have HY := Lib.hid (hat (by omega))
        clear hyes hat
        have hge : i ≤ (L.getD k cl0).2.2.1 := by omega
        generalize (L.getD k cl0).2.2.1 = o at *
        go_wp2
        go_ret
        exact ⟨by rw [HY.out]; rfl, hbl⟩
    · obtain rfl : k = L.length := by omega
      have hk1 : ¬ (L.length : Int) < L.length := by omega
      have HY := Lib.hid (fstM_none hall.out)
      go_wp2
      go_ret
      exact ⟨by rw [HY.out]; rfl, hbl⟩
end Go.Proofs.YtcdecnmhogmhaaaDoor
