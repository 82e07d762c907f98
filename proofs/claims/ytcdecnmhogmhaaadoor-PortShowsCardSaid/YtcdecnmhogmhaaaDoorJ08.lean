/-
  Joined: R16 R17.
-/
import Derived.Test.YtcdecnmhogmhaaaDoorJ07
import Derived.Deep.RegionHeld3
import Derived.Deep.RegionLaw
import Derived.Deep.CutRange
set_option linter.unusedVariables false
set_option linter.unusedSimpArgs false
namespace Go.Proofs.YtcdecnmhogmhaaaDoor
set_option maxRecDepth 100000
open Go.RowKit
theorem putter_any (a : Option Addr) (n : Int) (w : World) :
    Calls Tryd.prog 112 #[.pointer a, .int .i64 n] w fun e w' => e = .returned (.func (.func 152) #[] #[.pointer (some ⟨w.heap.size, 0, none⟩), .pointer (some ⟨w.heap.size + 1, 0, none⟩)]) ∧ w' = (w.alloc (.cells #[.pointer a] 141)).alloc (.cells #[.int .i64 n] 3) := by
  go_enter Tryd.func112, Tryd.ntmps112
  go_wp2
  go_ret
  exact ⟨rfl, rfl⟩
theorem infoCS : (Tryd.prog.info? 36).map (fun i => (i.zero, i.size, i.bytes)) = some (some (.slice none 0 0), 1, 24) := by kernel_rfl
theorem CellsIn.block {w w' : World} {ad : Addr} {L : List Cl} (h : CellsIn w (some ad) L) (hb : w'.heap[ad.block]? = w.heap[ad.block]?) (hs : w.heap.size ≤ w'.heap.size) : CellsIn w' (some ad) L := fun i hi => by
  obtain ⟨b, off, e, hlt, h1, h2, h3, h4, h5⟩ := h i hi
  injection e with e
  subst e
  have c := fun o => World.cell?_of_block (w := w) (w' := w') (a := ⟨b, o, none⟩) hb
  exact ⟨b, off, rfl, Nat.lt_of_lt_of_le hlt hs, (c _).trans h1, (c _).trans h2, (c _).trans h3, (c _).trans h4, (c _).trans h5⟩
theorem own_blk_cells {w : World} {B n size g cap : Nat} {e : TypeId} {xs : List Value} (h : w.ownsRow B e size (.slice (some ⟨g, 0, none⟩) n cap) n xs) : ∃ cg, w.heap[g]? = some (.cells cg e (0, 0)) := by
  rcases h.2 with ⟨h0, _⟩ | ⟨g', cap', cur, e', _, hg, _⟩
  · cases h0
  · obtain rfl : g = g' := by simpa using (Value.slice.inj e').1
    exact ⟨_, hg⟩
set_option maxHeartbeats 8000000 in
theorem put_any (p : List Cl) (pa : Addr) (pc : Nat) (n : Int) (b1 b2 B q : Nat) (v vy : Value) (vs : List Value) (X : List (List Cl)) (y : List Cl) (w : World) (hp : 0 < p.length) (hp2 : p.length ≤ 1000) (hX : X.length ≤ 1000000) (hy : y.length ≤ 1000000)
    (ha : CellsIn w (some pa) p) (hpv : v.ownBlock ≠ some pa.block) (hpq : pa.block ≠ q) (hL : LayM w B q v vy vs X y) (hB : B ≤ q)
    (h1 : w.heap[b1]? = some (.cells #[.pointer (some ⟨q, 0, none⟩)] 141 (0, 0))) (h2 : w.heap[b2]? = some (.cells #[.int .i64 n] 3 (0, 0))) :
    Calls Tryd.prog 152 #[.slice (some pa) p.length pc, .pointer (some ⟨b1, 0, none⟩), .pointer (some ⟨b2, 0, none⟩)] w fun e w' => e = .returned (.agg #[.int .i64 ((lyX n X y p.length).length : Int), .int .i64 ((lyY n y p.length).length : Int)]) ∧
      (∃ v' vy' vs', LayM w' B q v' vy' vs' (lyX n X y p.length) (lyY n y p.length ++ p)) ∧ PutK B w w' := by
  obtain ⟨i0, hi, hz0, hz1, hz2⟩ := info_parts infoCell
  obtain ⟨i1, hj, hy0, hy1, hy2⟩ := info_parts infoCS
  have hX2 : lyX n X y p.length = if n < (y.length : Int) + p.length then X ++ [y] else X := rfl
  have hY2 : lyY n y p.length = if n < (y.length : Int) + p.length then [] else y := rfl
  obtain ⟨g, cap, rfl, hBg, hgs, hcl, hfr⟩ := hL.form
  obtain ⟨hqc, hqf⟩ := hL.cells
  obtain ⟨ya, yc, rfl, _⟩ := cells_of_own hL.last
  have hqlt := blk_lt hL.var
  have h1lt := blk_lt h1
  have h2lt := blk_lt h2
  have c1 : w.cell? ⟨b1, 0, none⟩ = some (.pointer (some ⟨q, 0, none⟩)) := by rw [cell_of_row _ _ _ _ _ _ h1]; rfl
  have c2 : w.cell? ⟨b2, 0, none⟩ = some (.int .i64 n) := by rw [cell_of_row _ _ _ _ _ _ h2]; rfl
  have hm : ((X.length + 1 : Nat) : Int) - 1 = (X.length : Int) := by omega
  have hm0 : (0 : Int) ≤ X.length := by omega
  have hm1 : (X.length : Int) < ((X.length + 1 : Nat) : Int) := by omega
  have HL := Lib.hid hL
  have HA := Lib.hid ha
  have HX := Lib.hid hX2; have HY := Lib.hid hY2
  clear hL ha hX2 hY2
  generalize hxl : X.length = m at *
  generalize hyl : y.length = ly at *
  generalize hpl : p.length = lp at *
  have hBw : B ≤ w.heap.size := by omega
  have hres := heap_alloc_new w (.cells #[.int .i64 0, .int .i64 0] 99)
  have HK := Lib.hid ((PutK.refl (B := B) w).alloc (by omega) (.cells #[.int .i64 0, .int .i64 0] 99))
  replace HL := Lib.hid (HL.out.alloc (.cells #[.int .i64 0, .int .i64 0] 99))
  replace HA := Lib.hid (HA.out.block (w' := w.alloc (.cells #[.int .i64 0, .int .i64 0] 99)) (Below.heap_alloc _ _ _ (by
    obtain ⟨b, off, e, hlt, _⟩ := HA.out 0 (by omega)
    injection e with e
    rw [e]; exact hlt)) (by simp))
  have d1 := fun o => (World.cell?_alloc_lt w o (⟨b1, 0, none⟩ : Addr) h1lt).trans c1
  have d2 := fun o => (World.cell?_alloc_lt w o (⟨b2, 0, none⟩ : Addr) h2lt).trans c2
  have d3 := fun o => (World.cell?_alloc_lt w o (⟨q, 0, none⟩ : Addr) hqlt).trans hqc
  have d4 := fun o => (World.cell?_alloc_lt w o (⟨g, m, none⟩ : Addr) hgs).trans hcl
  have k1 := (HK.out.cell h1 (by decide) (by decide) (by decide))
  have k2 := (HK.out.cell h2 (by decide) (by decide) (by decide))
  go_enter Tryd.func152, Tryd.ntmps152
  go_wp2
  go_quiet (fail)
  go_upto_if 23 with (fail)
  replace HK := Lib.hid (show PutK B w ((w.alloc (.cells #[.int .i64 0, .int .i64 0] 99)).drewN nq) from ⟨drewN_below HK.out.below nq, HK.out.kind⟩)
  replace HL := Lib.hid (show LayM ((w.alloc (.cells #[.int .i64 0, .int .i64 0] 99)).drewN nq) B q _ _ vs X y from ⟨HL.out.var, HL.out.len, HL.out.out, HL.out.last, HL.out.old⟩)
  replace HA := Lib.hid (show CellsIn ((w.alloc (.cells #[.int .i64 0, .int .i64 0] 99)).drewN nq) (some pa) p from HA.out)
  replace hres := (show ((w.alloc (.cells #[.int .i64 0, .int .i64 0] 99)).drewN nq).heap[w.heap.size]? = _ from hres)
  replace k1 := (show ((w.alloc (.cells #[.int .i64 0, .int .i64 0] 99)).drewN nq).heap[b1]? = _ from k1)
  replace k2 := (show ((w.alloc (.cells #[.int .i64 0, .int .i64 0] 99)).drewN nq).heap[b2]? = _ from k2)
  have hpl0 : pa.block < ((w.alloc (.cells #[.int .i64 0, .int .i64 0] 99)).drewN nq).heap.size := by
    obtain ⟨b, off, e, hlt, _⟩ := HA.out 0 (by omega)
    injection e with e
    rw [e]; exact hlt
  clear d1 d2 d3 d4 c1 c2 hcl hfr hqc hqf hgs hqlt h1lt h2lt h1 h2
  generalize hr : w.heap.size = r at *
  generalize (w.alloc _).drewN nq = W0 at *
  have HK1 := Lib.hid (PutK.refl (B := B) W0)
  go_cut [5] from 23 to 32 (fun s5 wx => ∃ v' vy' vs', s5 = .int .i64 ((lyX n X y lp).length : Int) ∧ Hid (LayM wx B q v' vy' vs' (lyX n X y lp) (lyY n y lp)) ∧ Hid (PutK B W0 wx) ∧ Hid (CellsIn wx (some pa) p))
  case first =>
    by_cases hnew : n < (ly : Int) + lp
    · obtain ⟨hqc, hqf⟩ := HL.out.cells
      have hqlt := blk_lt HL.out.var
      have h1lt := blk_lt k1
      have c1 : W0.cell? ⟨b1, 0, none⟩ = some (.pointer (some ⟨q, 0, none⟩)) := by rw [cell_of_row _ _ _ _ _ _ k1]; rfl
      have hown := HL.out.out
      rw [hxl] at hown
      have Hown := Lib.hid hown
      have n1 := own_ne_kind hown k1 (by decide)
      have nq := own_ne_kind hown HL.out.var (by decide)
      clear hown
      have d1 := fun o => (World.cell?_alloc_lt W0 o (⟨b1, 0, none⟩ : Addr) h1lt).trans c1
      have d3 := fun o => (World.cell?_alloc_lt W0 o (⟨q, 0, none⟩ : Addr) hqlt).trans hqc
      have d3f := fun o => (World.frozen?_of_block (w := W0) (w' := W0.alloc o) (a := ⟨q, 0, none⟩) (Below.heap_alloc _ _ _ hqlt)).trans hqf
      go_wp2
      go_region_law (first | (refine step_append_lies _ (by rfl) _ _ _ (by rfl) B 36 i1 _ 1 24 Tryd.underlying26 hj hy0 hy1 hy2 rfl (by decide) _ (m + 1) (vs ++ [Value.slice ya ly yc]) (by rfl) ((show (W0.alloc _).drew.ownsRow _ _ _ _ _ _ from Hown.out.alloc _)) ⟨W0.heap.size, 0, none⟩ 1 1 [.slice none 0 0] (by rfl) (by rfl) (fun j x hj => app_cells rfl hj) (by simp [Value.oneCell']) (by omega) (by unfold maxLen; omega) (by omega) (by simp; omega) (W0.heap.size + 1) (by simp) ?_; intro gg cap2 w1 hown1 hgrow hat hlt1; have e1 := (hgrow.cell_far ⟨b1, 0, none⟩ (by simp; omega) (Ne.symm n1)).trans (d1 _); have e3 := (hgrow.cell_far ⟨q, 0, none⟩ (by simp; omega) (Ne.symm nq)).trans (d3 _); have e4 := (hgrow.frozen_far ⟨q, 0, none⟩ (by simp; omega) (Ne.symm nq)).trans (d3f _)))
      all_goals
        have HN := Lib.hid (LayM.fresh (HL.out.alloc (.cells #[.slice none 0 0] 36)).drew (by rw [hxl]; exact hown1) hgrow)
        have hzz := HK.out.below.size
        have P1 := (((HK1.out.alloc (by omega) (.cells #[.slice none 0 0] 36)).drew).grown (by simp; omega) (Hown.out.alloc _).drew hgrow (Or.inl rfl))
        have hqw := (hgrow.block q (by simp; omega) (Ne.symm nq)).trans (blk_alloc HL.out.var _)
        have HP := Lib.hid (P1.set (a := ⟨q, 0, none⟩) hB hqw (Or.inl rfl) (.slice (some ⟨gg, 0, none⟩) (m + 1 + 1) cap2))
        have HC := Lib.hid (HA.out.block (w' := w1.setCell ⟨q, 0, none⟩ (.slice (some ⟨gg, 0, none⟩) (m + 1 + 1) cap2)) ((Below.heap_setCell _ _ _ _ hpq).trans ((hgrow.block pa.block (by simp; omega) (Ne.symm hpv)).trans (Below.heap_alloc _ _ _ hpl0))) (by have := hgrow.size; simp [World.setCell] at this ⊢; omega))
        clear P1 hqw hown1 hgrow hat
        go_wp2_with fail
        go_meet
        exact ⟨_, _, _, by rw [HX.out, if_pos hnew]; simp [hxl], Lib.hid (by rw [HX.out, HY.out, if_pos hnew, if_pos hnew]; exact HN.out), HP, HC⟩
    · go_wp2_with fail
      go_meet
      exact ⟨_, _, _, by rw [HX.out, if_neg (Int.not_lt.2 hnew), hxl], Lib.hid (by rw [HX.out, HY.out, if_neg (Int.not_lt.2 hnew), if_neg (Int.not_lt.2 hnew)]; exact HL.out), HK1, HA⟩
  case rest =>
    obtain ⟨v2, vy2, vs2, rfl, HL2, HK2, HA2⟩ := hcut
    have k1' := HK2.out.cell k1 (by decide) (by decide) (by decide)
    have hres' := HK2.out.cell hres (by decide) (by decide) (by decide)
    have hx2 : (lyX n X y lp).length ≤ 1000001 := by
      rw [HX.out]; split
      · rw [List.length_append, List.length_singleton]; omega
      · omega
    have hy3 : (lyY n y lp).length ≤ 1000000 := by
      rw [HY.out]; split
      · show 0 ≤ _; omega
      · omega
    clear HX HY HL HA k1 k2 hres
    generalize hXe : lyX n X y lp = X2 at *
    generalize hYe : lyY n y lp = y2 at *
    obtain ⟨g2, cap2, rfl, hBg2, hgs, hcl, hfr⟩ := HL2.out.form
    obtain ⟨ya2, yc2, rfl, _⟩ := cells_of_own HL2.out.last
    obtain ⟨hqc, hqf⟩ := HL2.out.cells
    have hpc : pa.block < wc.heap.size := by
      obtain ⟨b, off, e, hlt, _⟩ := HA2.out 0 (by omega)
      injection e with e
      rw [e]; exact hlt
    have hsz2 := HK2.out.below.size
    have hsz1 := HK.out.below.size
    have hqlt := blk_lt HL2.out.var
    have h1lt := blk_lt k1'
    have hrlt := blk_lt hres'
    have c1 : wc.cell? ⟨b1, 0, none⟩ = some (.pointer (some ⟨q, 0, none⟩)) := by rw [cell_of_row _ _ _ _ _ _ k1']; rfl
    generalize hxl2 : X2.length = m2 at *
    generalize hyl2 : y2.length = ly2 at *
    generalize ho : Obj.cells #[.int .i64 (m2 : Int), .int .i64 (ly2 : Int)] 99 = o at *
    have d1 := (World.cell?_alloc_lt wc o (⟨b1, 0, none⟩ : Addr) h1lt).trans c1
    have d3 := (World.cell?_alloc_lt wc o (⟨q, 0, none⟩ : Addr) hqlt).trans hqc
    have d3f := (World.frozen?_of_block (w := wc) (w' := wc.alloc o) (a := ⟨q, 0, none⟩) (Below.heap_alloc _ _ _ hqlt)).trans hqf
    have d4 := (World.cell?_alloc_lt wc o (⟨g2, m2, none⟩ : Addr) hgs).trans hcl
    have d4f := (World.frozen?_of_block (w := wc) (w' := wc.alloc o) (a := ⟨g2, m2, none⟩) (Below.heap_alloc _ _ _ hgs)).trans hfr
    have hm : ((m2 + 1 : Nat) : Int) - 1 = (m2 : Int) := by omega
    have hm0 : (0 : Int) ≤ m2 := by omega
    have hm1 : (m2 : Int) < ((m2 + 1 : Nat) : Int) := by omega
    have hm2 : (m2 : Int) < (m2 : Int) + 1 := by omega
    have hm3 : m2 < m2 + 1 := by omega
    have hat0 := heap_alloc_new wc o
    rw [← ho] at hat0
    have hres2 := blk_alloc hres' o
    have k1'' := blk_alloc k1' o
    replace HL2 := Lib.hid (HL2.out.alloc o)
    replace HK2 := Lib.hid (HK2.out.alloc (by omega) o)
    replace HA2 := Lib.hid (HA2.out.block (w' := wc.alloc o) (Below.heap_alloc _ _ _ hpc) (by simp))
    have hwsz : (wc.alloc o).heap.size = wc.heap.size + 1 := by simp
    subst ho
    go_wp2
    have hatr : wc.heap.size ≠ r := by omega
    have hpq2 := hpq
    generalize wc.alloc (.cells #[.int .i64 (m2 : Int), .int .i64 (ly2 : Int)] 99) = W1 at *
    generalize wc.heap.size = at_ at *
    have hown := HL2.out.last
    unfold ownC at hown
    rw [hyl2] at hown
    have n1 := own_ne_kind hown k1'' (by decide)
    have nq := own_ne_kind hown HL2.out.var (by decide)
    have ng : (Value.slice ya2 ly2 yc2).ownBlock ≠ some g2 := by
      rcases own_ne_own hown HL2.out.out (by decide) with e | e
      · rw [e]; simp
      · exact e
    have Hown := Lib.hid hown
    have HG := Lib.hid (own_blk_cells (hxl2 ▸ HL2.out.out))
    clear hown
    have hnews := Lib.hid (cells_news HA2.out)
    have HK3 := Lib.hid (PutK.refl (B := B) W1)
    have hcl5 := cCells_len p
    rw [hpl] at hcl5
    go_cut [] from 42 to 54 (fun wx => ∃ v' vy' vs', Hid (LayM wx B q v' vy' vs' X2 (y2 ++ p)) ∧ Hid (PutK B W1 wx))
    case first =>
      go_region_law (first | (refine step_append_lies _ (by rfl) _ _ _ (by rfl) B 51 i0 _ 5 40 Tryd.underlying36 hi hz0 hz1 hz2 rfl (by decide) _ ly2 (cCells y2) (by rfl) ((show W1.drew.ownsRow _ _ _ _ _ _ from Hown.out)) pa lp pc (cCells p) (by rfl) hcl5 (fun j u hj => hnews.out j u hj) (cCells_one p) (by omega) (by unfold maxLen; omega) (by omega) (by show B ≤ W1.heap.size; omega) (at_ + 1) hwsz ?_; intro gg cap3 w1 hown1 hgrow hat hlt1; have e1 := (hgrow.cell_far ⟨b1, 0, none⟩ (by show b1 < W1.heap.size; omega) (Ne.symm n1)).trans d1; have e3 := (hgrow.cell_far ⟨q, 0, none⟩ (by show q < W1.heap.size; omega) (Ne.symm nq)).trans d3; have e4 := (hgrow.frozen_far ⟨g2, m2, none⟩ (by show g2 < W1.heap.size; omega) (Ne.symm ng)).trans d4f; have e5 := (hgrow.cell_far ⟨g2, m2, none⟩ (by show g2 < W1.heap.size; omega) (Ne.symm ng)).trans d4))
      all_goals
        have hown2 : ownC w1 B (.slice (some ⟨gg, 0, none⟩) (y2 ++ p).length cap3) (y2 ++ p) := by
          unfold ownC
          rw [List.length_append, hyl2, hpl, cCells_append]; exact hown1
        have HN := Lib.hid (LayM.more (w := W1.drew) (g := g2) (cap := cap2) (by rw [hxl2]; exact HL2.out.drew) hown2 hgrow (by rcases hat with e | e; exact .inl e; exact .inr (by rw [e, ← hwsz]; rfl)))
        have P1 := (HK3.out.drew.grown (by show B ≤ W1.heap.size; omega) Hown.out.drew hgrow (Or.inr rfl))
        obtain ⟨cg, hcg⟩ : ∃ cg, w1.heap[g2]? = some (.cells cg 36 (0, 0)) := by
          obtain ⟨cg, hcg⟩ := HG.out
          exact ⟨cg, (hgrow.block g2 (by show g2 < W1.heap.size; omega) (Ne.symm ng)).trans hcg⟩
        have HP := Lib.hid (P1.set (a := ⟨g2, m2, none⟩) hBg2 hcg (Or.inr (Or.inl rfl)) (.slice (some ⟨gg, 0, none⟩) (ly2 + lp) cap3))
        clear P1 hcg hown1 hgrow hat
        go_wp2_with fail
        go_meet
        exact ⟨_, _, _, Lib.hid (by
          have := HN.out
          rw [List.length_append, hyl2, hpl, hxl2] at this
          exact this), HP⟩
    case rest =>
      obtain ⟨v3, vy3, vs3, HL3, HK4⟩ := hcut
      have a1 := HK4.out.cell hat0 (by decide) (by decide) (by decide)
      have a2 := HK4.out.cell hres2 (by decide) (by decide) (by decide)
      have a3 : wc.cell? ⟨at_, 0, none⟩ = some (.int .i64 m2) := by rw [cell_of_row _ _ _ _ _ _ a1]; rfl
      have a4 : wc.cell? ⟨at_, 1, none⟩ = some (.int .i64 ly2) := by rw [cell_of_row _ _ _ _ _ _ a1]; rfl
      have b3 : wc.cell? ⟨r, 0, none⟩ = some (.int .i64 0) := by rw [cell_of_row _ _ _ _ _ _ a2]; rfl
      have b4 : wc.cell? ⟨r, 1, none⟩ = some (.int .i64 0) := by rw [cell_of_row _ _ _ _ _ _ a2]; rfl
      have a5 := fun i => frozen_of_row _ r i _ _ a2
      have hi93 : (Tryd.prog.info? 99).map (·.size) = some (#[Value.int .i64 (m2 : Int), .int .i64 (ly2 : Int)] : Array Value).size := by kernel_rfl
      have hfin : ((wc.setCell ⟨r, 0, none⟩ (.int .i64 (m2 : Int))).setCell ⟨r, 1, none⟩ (.int .i64 (ly2 : Int))).heap[r]? = some (.cells #[.int .i64 (m2 : Int), .int .i64 (ly2 : Int)] 99 (0, 0)) := by
        have := blk_set (blk_set a2 0 (.int .i64 (m2 : Int))) 1 (.int .i64 (ly2 : Int))
        simpa using this
      have hset := blk_set a2 0 (.int .i64 (m2 : Int))
      have HL4 := Lib.hid ((HL3.out.set (a := ⟨r, 0, none⟩) a2 (by decide) (by decide) (by decide) (.int .i64 (m2 : Int))).set (a := ⟨r, 1, none⟩) hset (by decide) (by decide) (by decide) (.int .i64 (ly2 : Int)))
      have HK5 := Lib.hid ((((HK.out.trans HK2.out).trans HK4.out).fresh (a := ⟨r, 0, none⟩) (by omega) (by show w.heap.size ≤ r; omega) (.int .i64 (m2 : Int))).fresh (a := ⟨r, 1, none⟩) (by omega) (by show w.heap.size ≤ r; omega) (.int .i64 (ly2 : Int)))
      clear hset
      go_wp2
      refine bodyPost_ret (results_cell_row rfl _ _ r 99 _ (0, 0) _ rfl hfin Tryd.underlying99 rfl hi93) rfl ⟨by rw [hXe, hYe, hxl2, hyl2], ?_, ?_⟩
      · rw [hXe, hYe]
        exact ⟨v3, vy3, vs3, HL4.out⟩
      · exact HK5.out
end Go.Proofs.YtcdecnmhogmhaaaDoor
set_option linter.unusedVariables false
set_option linter.unusedSimpArgs false
namespace Go.Proofs.YtcdecnmhogmhaaaDoor
open Go.RowKit
theorem LayM.start (w : World) (B : Nat) (hB : B ≤ w.heap.size) : LayM ((w.alloc (.cells #[.slice none 0 0] 36)).alloc (.cells #[.slice (some ⟨w.heap.size, 0, none⟩) 1 1] 26)) B (w.heap.size + 1) (.slice (some ⟨w.heap.size, 0, none⟩) 1 1) (.slice none 0 0) [] [] [] := by
  have e : (w.alloc (.cells #[.slice none 0 0] 36)).heap.size = w.heap.size + 1 := by simp
  have h1 := heap_alloc_new (w.alloc (.cells #[.slice none 0 0] 36)) (.cells #[.slice (some ⟨w.heap.size, 0, none⟩) 1 1] 26)
  rw [e] at h1
  have h2 := heap_alloc_new w (.cells #[.slice none 0 0] 36)
  refine ⟨h1, rfl, ?_, World.ownsRow_nil _ _ _ _, fun i hi => absurd hi (by simp)⟩
  exact ⟨rfl, .inr ⟨w.heap.size, 1, _, rfl, hB, blk_alloc h2 _, Nat.le_refl _, by decide, rfl, rfl⟩⟩
theorem LayM.grown {w w' : World} {B q : Nat} {v vy : Value} {vs : List Value} {X : List (List Cl)} {y : List Cl} (h : LayM w B q v vy vs X y) {B' n size : Nat} {e : TypeId} {u : Value} {xs : List Value} (ho : w.ownsRow B' e size u n xs) (hg : w.grownBy w' u.ownBlock) (h1 : e ≠ 26) (h2 : e ≠ 36) (h3 : e ≠ 51) : LayM w' B q v vy vs X y :=
  ⟨(hg.block q (blk_lt h.var) (fun e' => own_ne_kind ho h.var (fun e => h1 e.symm) e'.symm)).trans h.var, h.len, h.out.kept hg (own_ne_own h.out ho (fun e => h2 e.symm)), World.ownsRow.kept h.last hg (own_ne_own h.last ho (fun e => h3 e.symm)), fun i hi => by
    obtain ⟨x, g1, g2, g3⟩ := h.old i hi
    exact ⟨x, g1, World.ownsRow.kept g2 hg (own_ne_own g2 ho (fun e => h3 e.symm)), g3⟩⟩
theorem LayM.kept {w w' : World} {B q : Nat} {v vy : Value} {vs : List Value} {X : List (List Cl)} {y : List Cl} (h : LayM w B q v vy vs X y) (hg : w.grownBy w' none) : LayM w' B q v vy vs X y :=
  ⟨(hg.block q (blk_lt h.var) (by simp)).trans h.var, h.len, h.out.kept hg (by cases hv : v.ownBlock <;> simp), World.ownsRow.kept h.last hg (by cases hv : vy.ownBlock <;> simp), fun i hi => by
    obtain ⟨x, g1, g2, g3⟩ := h.old i hi
    exact ⟨x, g1, World.ownsRow.kept g2 hg (by cases hv : x.ownBlock <;> simp), g3⟩⟩
theorem PutK.lay {B : Nat} {w w' : World} (h : PutK B w w') {k : Nat} {cs : Array Value} {T : TypeId} {fr : Nat × Nat} (hk : w.heap[k]? = some (.cells cs T fr)) (h1 : T ≠ 26) (h2 : T ≠ 36) (h3 : T ≠ 51) : w'.heap[k]? = some (.cells cs T fr) := h.cell hk h1 h2 h3
/-- Rows of cells that can be read, nil ones without room. -/
def RowsC (w : World) (a : Option Addr) (l : List (List Cl)) : Prop :=
  ∀ i, i < l.length → ∃ b off ra rc, a = some ⟨b, off, none⟩ ∧ b < w.heap.size ∧ w.cell? ⟨b, off + i, none⟩ = some (.slice ra (l.getD i []).length rc) ∧ CellsIn w ra (l.getD i []) ∧ (ra = none → rc = 0)
theorem RowsC.below {w w' : World} {a : Option Addr} {l : List (List Cl)} (h : RowsC w a l) (hb : Below w.heap.size w w') : RowsC w' a l := fun i hi => by
  obtain ⟨b, off, ra, rc, e, hlt, h1, h2, h3⟩ := h i hi
  exact ⟨b, off, ra, rc, e, Nat.lt_of_lt_of_le hlt hb.size, (hb.cell (p := ⟨b, off + i, none⟩) hlt).trans h1, h2.below hb, h3⟩
theorem RowsC.rows {w : World} {a : Option Addr} {l : List (List Cl)} (h : RowsC w a l) : RowsIn w a l := fun i hi => by
  obtain ⟨b, off, ra, rc, e, hlt, h1, h2, h3⟩ := h i hi
  exact ⟨b, off, ra, rc, e, hlt, h1, h2⟩
theorem cells_of_ownN {w : World} {B : Nat} {v : Value} {L : List Cl} (h : ownC w B v L) : ∃ a c, v = .slice a L.length c ∧ CellsIn w a L ∧ (a = none → c = 0) := by
  obtain ⟨a, c, rfl, h1⟩ := cells_of_own h
  refine ⟨a, c, rfl, h1, fun e => ?_⟩
  rcases h.2 with ⟨h0, _⟩ | ⟨g, cap, cur, h0, _⟩
  · simpa using (Value.slice.inj h0).2.2
  · rw [e] at h0; simp at h0
theorem LayM.rows {w : World} {B q : Nat} {v vy : Value} {vs : List Value} {X : List (List Cl)} {y : List Cl} (h : LayM w B q v vy vs X y) : ∃ ra rc, v = .slice ra (X ++ [y]).length rc ∧ RowsC w ra (X ++ [y]) := by
  obtain ⟨g, cap, rfl, hB, hlt, hc, _⟩ := h.form
  refine ⟨some ⟨g, 0, none⟩, cap, by simp, fun i hi => ?_⟩
  have hn : i < X.length + 1 := by simpa using hi
  rcases Nat.lt_or_ge i X.length with hi' | hi'
  · obtain ⟨u, h1, h2, _⟩ := h.old i hi'
    obtain ⟨a, c, rfl, h3, h4⟩ := cells_of_ownN h2
    refine ⟨g, 0, a, c, rfl, hlt, ?_, ?_, h4⟩
    · rw [Nat.zero_add, h.out.cellAt i (by omega), List.getElem?_append_left (by rw [h.len]; exact hi'), h1, getD_app _ _ _ _ hi']
    · rw [getD_app _ _ _ _ hi']; exact h3
  · obtain rfl : i = X.length := by omega
    obtain ⟨a, c, rfl, h3, h4⟩ := cells_of_ownN h.last
    refine ⟨g, 0, a, c, rfl, hlt, ?_, ?_, h4⟩
    · rw [Nat.zero_add, hc, getD_end]
    · rw [getD_end]; exact h3
/-- A row of places of the call's own. -/
def ownA (w : World) (B : Nat) (v : Value) (S : List (Int × Int)) : Prop := w.ownsRow B 99 2 v S.length (sRow S).toList
theorem infoA2 : (Tryd.prog.info? 99).map (fun i => (i.zero, i.size, i.bytes)) = some (some (.agg #[.int .i64 0, .int .i64 0]), 2, 16) := by kernel_rfl
theorem places_of_own {w : World} {B : Nat} {v : Value} {L : List (Int × Int)} (h : ownA w B v L) : ∃ a c, v = .slice a L.length c ∧ Signs w a L := by
  unfold ownA at h
  rcases h.2 with ⟨rfl, h0⟩ | ⟨g, cap, cur, rfl, _, hg, _⟩
  · exact ⟨none, 0, by rw [h0], fun j hj => by omega⟩
  · refine ⟨_, cap, rfl, fun j hj => ⟨g, 0, rfl, blk_lt hg, ?_, ?_⟩⟩
    · have := sRow_at L j hj
      rw [Nat.zero_add, h.cellAt (j * 2) (by omega)]; exact this.1
    · have := sRow_at L j hj
      rw [Nat.zero_add, h.cellAt (j * 2 + 1) (by omega)]; exact this.2
/-- Room for places, none there yet. -/
theorem ownA_made (w : World) (B n : Nat) (hB : B ≤ w.heap.size) (hn : n ≤ 1000000) : ownA (w.alloc (.cells (madeCells (Value.agg #[.int .i64 0, .int .i64 0]).cells (n * 2)) 99)) B (.slice (some ⟨w.heap.size, 0, none⟩) 0 n) [] :=
  World.ownsRow_made w _ n hB (by unfold maxLen; omega) (by simp [madeCells])
theorem CellsIn.one {w : World} {b off : Nat} {L : List Cl} (h : CellsIn w (some ⟨b, off, none⟩) L) {k : Nat} (hk : k < L.length) : CellsIn w (some ⟨b, off + k * 5, none⟩) [L.getD k cl0] := fun i hi => by
  obtain rfl : i = 0 := by simpa using hi
  obtain ⟨b', off', e, hlt, h1, h2, h3, h4, h5⟩ := h k hk
  obtain ⟨rfl, rfl⟩ : b = b' ∧ off = off' := by simpa using e
  exact ⟨b, off + k * 5, rfl, hlt, by simpa using h1, by simpa using h2, by simpa using h3, by simpa using h4, by simpa using h5⟩
theorem CellsIn.two {w : World} {b off : Nat} {L : List Cl} (h : CellsIn w (some ⟨b, off, none⟩) L) {k : Nat} (hk : k + 1 < L.length) : CellsIn w (some ⟨b, off + k * 5, none⟩) [L.getD k cl0, L.getD (k + 1) cl0] := fun i hi => by
  rcases (by simp at hi; omega : i = 0 ∨ i = 1) with rfl | rfl
  · exact h.one (by omega) 0 (by simp)
  · obtain ⟨b', off', e, hlt, h1, h2, h3, h4, h5⟩ := h (k + 1) hk
    obtain ⟨rfl, rfl⟩ : b = b' ∧ off = off' := by simpa using e
    have q : off + k * 5 + 1 * 5 = off + (k + 1) * 5 := by omega
    refine ⟨b, off + k * 5, rfl, hlt, ?_, ?_, ?_, ?_, ?_⟩ <;> rw [q]
    · exact h1
    · exact h2
    · exact h3
    · exact h4
    · exact h5
theorem LyI.small {L : List Cl} {w : Int} {k : Nat} {X : List (List Cl)} {y : List Cl} {S : List (Int × Int)} (h : LyI L w k X y S) : X.length ≤ k ∧ S.length = k := by
  have := (spS_rng L w k).2.1
  rw [h.row] at this
  exact ⟨by omega, by rw [h.pl, spS_len]⟩
theorem sRow_snoc2 (S : List (Int × Int)) (a b c d : Int) : (sRow (S ++ [(a, b), (c, d)])).toList = (sRow S).toList ++ [.int .i64 a, .int .i64 b, .int .i64 c, .int .i64 d] := by simp [sRow]
/-- The places of the first j cells of a piece. -/
def plN (r c : Int) (j : Nat) : List (Int × Int) := (List.range j).map fun (i : Nat) => (r, c + (i : Int))
theorem plN_len (r c : Int) (j : Nat) : (plN r c j).length = j := by simp [plN]
theorem plN_succ (S : List (Int × Int)) (r c : Int) (j : Nat) : S ++ plN r c (j + 1) = S ++ plN r c j ++ [(r, c + (j : Int))] := by simp [plN, List.range_succ]
theorem plN_one (r c : Int) : plN r c 1 = [(r, c)] := by simp [plN, List.range_succ]
theorem plN_two (r c : Int) : plN r c 2 = [(r, c), (r, c + 1)] := by simp [plN, List.range_succ]
end Go.Proofs.YtcdecnmhogmhaaaDoor
