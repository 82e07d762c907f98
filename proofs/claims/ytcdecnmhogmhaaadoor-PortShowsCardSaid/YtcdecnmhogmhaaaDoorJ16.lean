/-
  Joined: R23 R33 R34 R35 R10.
-/
import Derived.Test.YtcdecnmhogmhaaaDoorJ07
import Derived.Test.YtcdecnmhogmhaaaDoorJ10
import Derived.Test.YtcdecnmhogmhaaaDoorJ13
import Derived.Test.YtcdecnmhogmhaaaDoorJ15
import Derived.Deep.RegionHeld3
set_option linter.unusedVariables false
set_option linter.unusedSimpArgs false
namespace Go.Proofs.YtcdecnmhogmhaaaDoor
set_option maxRecDepth 100000
open Go.RowKit
/-- Rows of the call's own, under way. -/
structure OutM (w : World) (B : Nat) (v : Value) (vs : List Value) (Ls : List (List Cl)) : Prop where
  len : vs.length = Ls.length
  out : w.ownsRow B 36 1 v Ls.length vs
  rows : ∀ i, i < Ls.length → ∃ u, vs[i]? = some u ∧ ownC w B u (Ls.getD i [])
theorem OutM.nil (w : World) (B : Nat) : OutM w B (.slice none 0 0) [] [] := ⟨rfl, World.ownsRow_nil _ _ _ _, fun i hi => absurd hi (by simp)⟩
theorem OutM.below {w w' : World} {B : Nat} {v : Value} {vs : List Value} {Ls : List (List Cl)} (h : OutM w B v vs Ls) (hb : Below w.heap.size w w') : OutM w' B v vs Ls :=
  ⟨h.len, ownB h.out hb, fun i hi => by
    obtain ⟨u, h1, h2⟩ := h.rows i hi
    exact ⟨u, h1, ownB h2 hb⟩⟩
theorem OutM.set {w : World} {B : Nat} {v : Value} {vs : List Value} {Ls : List (List Cl)} (h : OutM w B v vs Ls) {p : Addr} {cs : Array Value} {T : TypeId} {fr : Nat × Nat} (hp : w.heap[p.block]? = some (.cells cs T fr)) (h1 : T ≠ 36) (h2 : T ≠ 51) (u : Value) : OutM (w.setCell p u) B v vs Ls :=
  ⟨h.len, own_set h.out (own_ne_kind h.out hp h1) u, fun i hi => by
    obtain ⟨x, g1, g2⟩ := h.rows i hi
    exact ⟨x, g1, own_set g2 (own_ne_kind g2 hp h2) u⟩⟩
theorem OutM.push {w w' : World} {B : Nat} {v v' u : Value} {vs : List Value} {Ls : List (List Cl)} {R : List Cl} (h : OutM w B v vs Ls) (hu : ownC w B u R) (hg : w.grownBy w' v.ownBlock) (ho : w'.ownsRow B 36 1 v' (Ls.length + 1) (vs ++ [u])) : OutM w' B v' (vs ++ [u]) (Ls ++ [R]) :=
  ⟨by simp [h.len], by rw [List.length_append]; exact ho, fun i hi => by
    rcases Nat.lt_or_ge i Ls.length with hi' | hi'
    · obtain ⟨x, h1, h2⟩ := h.rows i hi'
      exact ⟨x, by rw [List.getElem?_append_left (by rw [h.len]; exact hi')]; exact h1, by rw [getD_app _ _ _ _ hi']; exact World.ownsRow.kept h2 hg (own_ne_own h2 h.out (by decide))⟩
    · obtain rfl : i = Ls.length := by simp at hi; omega
      exact ⟨u, by rw [← h.len, List.getElem?_append_right (Nat.le_refl _), Nat.sub_self]; rfl, by rw [getD_end]; exact World.ownsRow.kept hu hg (own_ne_own hu h.out (by decide))⟩⟩
theorem OutM.done {w : World} {B : Nat} {v : Value} {vs : List Value} {Ls : List (List Cl)} (h : OutM w B v vs Ls) : ∃ ra rc, v = .slice ra Ls.length rc ∧ RowsC w ra Ls := by
  rcases Nat.eq_zero_or_pos Ls.length with h0 | h0
  · rcases h.out.2 with ⟨rfl, _⟩ | ⟨g, cap, cur, rfl, _⟩
    · exact ⟨none, 0, by rw [h0], fun i hi => absurd hi (by omega)⟩
    · exact ⟨_, _, rfl, fun i hi => absurd hi (by omega)⟩
  · obtain ⟨g, cap, rfl, hB, hlt⟩ := h.out.form h0
    refine ⟨_, cap, rfl, fun i hi => ?_⟩
    obtain ⟨u, h1, h2⟩ := h.rows i hi
    obtain ⟨a, c, rfl, h3, h4⟩ := cells_of_ownN h2
    exact ⟨g, 0, a, c, rfl, hlt, by rw [Nat.zero_add, h.out.cellAt i (by omega), h1], h3, h4⟩
theorem add_small (a : Nat) (h : a ≤ 1000000) : (((a : Int) + 1) + 9223372036854775808) % 18446744073709551616 - 9223372036854775808 = (a : Int) + 1 := by omega
theorem add2_small (a b : Nat) (h : a ≤ 1000000) (h2 : b ≤ 1000000) : (((a : Int) + (b : Int)) + 9223372036854775808) % 18446744073709551616 - 9223372036854775808 = (a : Int) + (b : Int) := by omega
theorem scR_succ (L : List Cl) (w t k : Nat) : scR L w t (k + 1) = scR L w t k ++ [fillN (rwS L w ((t + k : Nat) : Int) L.length) (w - (rwS L w ((t + k : Nat) : Int) L.length).length)] := by simp [scR, List.range_succ]
set_option maxHeartbeats 8000000 in
theorem scr_ref (p l : List (Int × Int)) (a b : Option Addr) (c d at_ wd h : Nat) (w : World) (hp : p.length ≤ 1000) (hl : l.length ≤ 1000) (ha : Signs w a p) (hb : Signs w b l) (hat : at_ ≤ l.length) (hw1 : 1 ≤ wd) (hw2 : wd ≤ 1000) (hh1 : 1 ≤ h) (hh2 : h ≤ 1000) (hP : sgC p = true) (hL : sgC l = true) :
    Calls Tryd.prog 17 #[.slice a p.length c, .slice b l.length d, .int .i64 at_, .int .i64 wd, .int .i64 h] w fun e w' => ∃ ra rc, e = .returned (.agg #[.int .i64 wd, .int .i64 h, .slice ra h rc, .int .i64 ((curP (vwOf p l) wd at_).1 - topP (vwOf p l) wd at_ h), .int .i64 (curP (vwOf p l) wd at_).2]) ∧
      RowsC w' ra (scR (vwOf p l) wd (topP (vwOf p l) wd at_ h) h) ∧ Below w.heap.size w w' := by
  have N0 := below_alloc w (.cells #[.int .i64 0, .int .i64 0, .slice none 0 0, .int .i64 0, .int .i64 0] 28)
  have HA := ha.below N0; have HB := hb.below N0
  have q0 := heap_alloc_new w (.cells #[.int .i64 0, .int .i64 0, .slice none 0 0, .int .i64 0, .int .i64 0] 28)
  have V := Lib.hid (vof_ref p l a b c d _ hp hl HA HB hP hL)
  have hle := vw_le p l
  obtain ⟨r, cc, hcur, hrt⟩ := curP_rng (vwOf p l) wd at_
  obtain ⟨R, C, hend, _⟩ := spAll_rng (vwOf p l) wd (vwOf p l).length (Nat.le_refl _)
  have hlyl := lyRows_len (vwOf p l) wd
  rw [hend] at hlyl
  have htot : (lyRows (vwOf p l) wd).length = R + 1 := by rw [hlyl]; show ((R : Int)).toNat + 1 = R + 1; omega
  have htop : topP (vwOf p l) wd at_ h = topN (R + 1) r h := by unfold topP; rw [hcur, htot]; rfl
  rw [htop, hcur]
  have hcur2 : (spAll (vwOf p l) wd).getD (fstM (vwOf p l) at_) (0, 0) = ((r : Int), (cc : Int)) := hcur
  have hfl := fstM_le (vwOf p l) at_
  have hlay := rowOk_lay (rowOk_vw p l)
  have hly := lyRows_le (vwOf p l) wd
  rw [htot] at hly hrt
  have hspl := spAll_len (vwOf p l) wd
  clear ha hb HA HB htop hcur hlyl htot
  generalize vwOf p l = L at *
  obtain ⟨ht1, ht2, _⟩ := topN_le (R + 1) r h hrt
  have TP := Lib.hid (fun w => by
    have := top_ref (R + 1) r h w (by omega) (by omega) (by omega)
    rw [show ((R + 1 : Nat) : Int) = (R : Int) + 1 by omega] at this
    exact this)
  have SP := Lib.hid (fun a c w (h : CellsIn w a L) => spots_ref L wd a c w (by omega) (by omega) (by omega) hlay h)
  have RW := Lib.hid (fun (k : Int) a c w (h : CellsIn w a L) => row_ref L wd k a c w (by omega) (by omega) (by omega) hlay h)
  have FI := fun a c w (h : CellsIn w a L) => first_ref L at_ a c w (by omega) h
  have hrw := fun k => rwS_le L wd k L.length
  generalize fstM L at_ = fi at *
  replace FI := Lib.hid FI
  have hf0 : (0 : Int) ≤ fi := by omega
  have hf1 : (fi : Int) < (L.length : Int) + 1 := by omega
  have hf2 : (fi : Int) < ((L.length + 1 : Nat) : Int) := by omega
  have hl0 : (0 : Int) ≤ (L.length : Int) := by omega
  have hl1 : (L.length : Int) < (L.length : Int) + 1 := by omega
  have hLl : L.length ≤ 60000 := by omega
  have hRb : (R : Int) ≤ 100000 := by omega
  have htpb : r ≤ 100000 := by omega
  clear hle hly hlay
  generalize topN (R + 1) r h = tp at *
  go_enter Tryd.func17, Tryd.ntmps17
  go_upto_region 4 with (first
    | (go_at_call 22; refine V.out.mono ?_; rintro e w2 ⟨x, rfl, hown, hb2⟩; obtain ⟨xa, xc, rfl, hci, hxc⟩ := own_cells_cap hown; have HCI := Lib.hid hci; clear hci hown)
    | (go_at_call 23; refine (SP.out xa xc w2 HCI.out).mono ?_; rintro e w3 ⟨sv, rfl, hpl, hb3⟩; obtain ⟨pa, pc, rfl, hsg⟩ := spots_of_own hpl; rw [hspl]; have HS := Lib.hid hsg; clear hsg hpl)
    | (go_at_call 70; refine (FI.out xa xc w3 (HCI.out.below hb3)).mono ?_; rintro e w4 ⟨rfl, hb4⟩; obtain ⟨b2, o2, rfl, hbk, p1, p2⟩ := (HS.out.below hb4) fi (by omega); rw [hcur2] at p1 p2; simp only at p1 p2))
  have N4 : Below w.heap.size w w4 := ((N0.trans (hb2.mono (by simp))).trans (hb3.mono (Nat.le_trans (by simp) hb2.size))).trans (hb4.mono (Nat.le_trans (Nat.le_trans (by simp) hb2.size) hb3.size))
  have q4 := blk_below (blk_below (blk_below q0 hb2) hb3) hb4
  obtain ⟨b3, o3, e3, hbk3, p3, _⟩ := (HS.out.below hb4) L.length (by omega)
  obtain ⟨rfl, rfl⟩ : b2 = b3 ∧ o2 = o3 := by simpa using e3
  rw [hend] at p3
  simp only at p3
  have HC4 := Lib.hid ((HCI.out.below hb3).below hb4)
  have t5 := heap_alloc_new w4 (.cells #[.int .i64 (r : Int), .int .i64 (cc : Int)] 45)
  have u0 := (World.cell?_alloc_lt w4 (.cells #[.int .i64 (r : Int), .int .i64 (cc : Int)] 45) (⟨b2, o2 + L.length * 2, none⟩ : Addr) hbk3).trans p3
  have u1 : (w4.alloc (.cells #[.int .i64 (r : Int), .int .i64 (cc : Int)] 45)).cell? ⟨w4.heap.size, 0, none⟩ = some (.int .i64 r) := by rw [cell_of_row _ _ _ _ _ _ t5]; rfl
  clear hb2 hb3 hb4 HS HCI FI SP V p1 p2 p3 q0 N0 hcur2 hend e3
  have hwR : IntKind.i64.wrap ((R : Int) + 1) = (R : Int) + 1 := by rw [IntKind.wrap_i64]; exact add_small R (by omega)
  go_region_held3 (fun w' => w'.cell? ⟨b2, o2 + L.length * 2, none⟩ = some (.int .i64 R) ∧ w'.cell? ⟨w4.heap.size, 0, none⟩ = some (.int .i64 r)) (first | exact ⟨u0, u1⟩ | go_keep)
    (first | (go_at_call 71; refine (TP.out _).mono ?_; rintro e w5 ⟨rfl, rfl⟩))
  have hwr : True → IntKind.i64.wrap ((r : Int) - (tp : Int)) = (r : Int) - (tp : Int) := fun _ => by rw [IntKind.wrap_i64]; exact sub_small r tp (by omega) (by omega)
  have t6 := blk_alloc t5 (.cells #[.int .i64 wd, .int .i64 h, .slice none 0 0, .int .i64 ((r : Int) - tp), .int .i64 cc] 28)
  go_wp2
  have z5 : (w4.alloc (.cells #[.int .i64 (r : Int), .int .i64 (cc : Int)] 45)).heap.size = w4.heap.size + 1 := by simp
  have F2 := heap_alloc_new (w4.alloc (.cells #[.int .i64 (r : Int), .int .i64 (cc : Int)] 45)) (.cells #[.int .i64 wd, .int .i64 h, .slice none 0 0, .int .i64 ((r : Int) - tp), .int .i64 cc] 28)
  rw [z5] at F2
  have N6 := (((Below.refl w4.heap.size w4).alloc (Nat.le_refl _) (.cells #[.int .i64 (r : Int), .int .i64 (cc : Int)] 45)).alloc (by rw [z5]; omega) (.cells #[.int .i64 wd, .int .i64 h, .slice none 0 0, .int .i64 ((r : Int) - tp), .int .i64 cc] 28)).drew
  replace F2 := Lib.hid F2
  have hr4 := blk_lt q4
  have HQ4 := Lib.hid q4; have HN4 := Lib.hid N4
  clear t5 t6 u0 u1 q4 N4 hwr hwR z5 TP
  go_loopw [16] (fun iv wr => ∃ (k : Nat) (v : Value) (vs : List Value), k ≤ h ∧ iv = .int .i64 (k : Int) ∧ Hid (OutM wr w4.heap.size v vs (scR L wd tp k)) ∧ Hid (wr.heap[w4.heap.size + 1]? = some (.cells #[.int .i64 wd, .int .i64 h, v, .int .i64 ((r : Int) - tp), .int .i64 cc] 28 (0, 0))) ∧ Below w4.heap.size w4 wr) (fun iv _ => h - (intOf iv).toNat)
  case atStart => exact ⟨0, _, _, Nat.zero_le _, rfl, Lib.hid (OutM.nil _ _), F2, N6⟩
  case round =>
    obtain ⟨k, v, vs, hk, rfl, hM, hS, hbl⟩ := hrel
    have hslt := blk_lt hS.out
    have hC := Lib.hid (HC4.out.below hbl)
    have hsz := hbl.size
    have hsb4 : w4.heap.size ≤ w4.heap.size + 1 := by omega
    generalize hsbe : w4.heap.size + 1 = sb at *
    by_cases hlt : k < h
    · have hk1 : (k : Int) < h := by omega
      have hk0 : (0 : Int) ≤ k := by omega
      obtain ⟨i1, hj, hy0, hy1, hy2⟩ := info_parts infoCS
      have c2 : wr.cell? ⟨sb, 2, none⟩ = some v := by rw [cell_of_row _ _ _ _ _ _ hS.out]; rfl
      have hown := hM.out.out
      rw [scR_len] at hown
      have Hown := Lib.hid hown
      have nsb := own_ne_kind hown hS.out (by decide)
      clear hown
      have hst := scR_succ L wd tp k
      rw [show ((tp + k : Nat) : Int) = (tp : Int) + (k : Int) by omega] at hst
      have RK := RW.out ((tp : Int) + (k : Int)) xa xc wr.drew (show CellsIn wr.drew xa L from hC.out)
      have hrk := hrw ((tp : Int) + (k : Int))
      have FK := fun a c w h1 h2 => fill_ref (rwS L wd ((tp : Int) + (k : Int)) L.length) wd a c w (by omega) hw2 h1 h2
      have hwk : IntKind.i64.wrap ((tp : Int) + (k : Int)) = (tp : Int) + (k : Int) := by rw [IntKind.wrap_i64]; exact add2_small tp k (by omega) (by omega)
      generalize rwS L wd ((tp : Int) + (k : Int)) L.length = Rk at *
      have Hst := Lib.hid hst; replace RK := Lib.hid RK; replace FK := Lib.hid FK
      clear hst
      go_wp2
      go_region_law (first
        | (go_simp; go_at_call 73; refine RK.out.mono ?_; rintro e w5 ⟨x5, rfl, own5, hb5⟩; have N5 : Below wr.heap.size wr w5 := ⟨hb5.os, hb5.tape, hb5.output, hb5.size, hb5.block⟩; obtain ⟨ra5, rc5, rfl, hc5, hn5⟩ := cells_of_ownN own5; have e5 := (N5.cell (p := ⟨sb, 2, none⟩) hslt).trans c2; have s5 := N5.size)
        | (go_simp; go_at_call 72; refine (FK.out ra5 rc5 w5 hc5 hn5).mono ?_; rintro e w6 ⟨x6, rfl, own6, hb6⟩; obtain ⟨xa6, xc6, rfl, _⟩ := cells_of_own own6; have hs6 : sb < w6.heap.size := Nat.lt_of_lt_of_le (Nat.lt_of_lt_of_le hslt N5.size) hb6.size; have e6 := (hb6.cell (p := ⟨sb, 2, none⟩) (Nat.lt_of_lt_of_le hslt N5.size)).trans e5; have e6a := fun o => (World.cell?_alloc_lt w6 o (⟨sb, 2, none⟩ : Addr) hs6).trans e6; have S6 := blk_below (blk_below hS.out N5) hb6; have e6f := fun o => frozen_of_row (w6.alloc o) sb 2 _ _ (blk_alloc S6 o); have O6 := ownB (ownB Hown.out N5) hb6; have sz6 := hb6.size)
        | (refine step_append_lies _ (by rfl) _ _ _ (by rfl) w4.heap.size 36 i1 _ 1 24 Tryd.underlying26 hj hy0 hy1 hy2 rfl (by decide) _ k vs (by rfl) (World.ownsRow.alloc O6 _) ⟨w6.heap.size, 0, none⟩ 1 1 [.slice xa6 (fillN Rk (wd - Rk.length)).length xc6] (by rfl) (by rfl) (fun j x hj => app_cells rfl hj) (by simp [Value.oneCell']) (by omega) (by unfold maxLen; omega) (by omega) (by simp; omega) (w6.heap.size + 1) (by simp) ?_; intro gg cap7 w7 hown7 hgrow7 hat7 hlt7; have e7 := (hgrow7.cell_far ⟨sb, 2, none⟩ (by simp; omega) (Ne.symm nsb)).trans (e6a _); have e7f := (hgrow7.frozen_far ⟨sb, 2, none⟩ (by simp; omega) (Ne.symm nsb)).trans (e6f _)))
      all_goals
        have B6 := below_alloc w6 (.cells #[.slice xa6 (fillN Rk (wd - Rk.length)).length xc6] 36)
        have hs4 : w4.heap.size ≤ w5.heap.size := by omega
        have M7 := OutM.push (((hM.out.below N5).below hb6).below B6) (World.ownsRow.alloc (ownC_mono own6 hs4) _) hgrow7 (by rw [scR_len]; exact hown7)
        have S7 := (hgrow7.block sb (by simp; omega) (Ne.symm nsb)).trans (blk_alloc S6 (.cells #[.slice xa6 (fillN Rk (wd - Rk.length)).length xc6] 36))
        have M8 := Lib.hid (OutM.set M7 (p := ⟨sb, 2, none⟩) S7 (by decide) (by decide) (.slice (some ⟨gg, 0, none⟩) (k + 1) cap7))
        have S8 := Lib.hid (blk_set S7 2 (.slice (some ⟨gg, 0, none⟩) (k + 1) cap7))
        have N8 := ((((hbl.trans (N5.mono hbl.size)).trans (hb6.mono hs4)).alloc (by omega) (.cells #[.slice xa6 (fillN Rk (wd - Rk.length)).length xc6] 36)).grown hgrow7 (by simp; omega) (fun i hi => (O6.lt i hi).1)).setCell (p := ⟨sb, 2, none⟩) hsb4 (.slice (some ⟨gg, 0, none⟩) (k + 1) cap7)
        clear M7 S7 B6 hgrow7 hown7 hat7 own5 own6 hb5 hb6 hc5
        go_wp2
        go_roundw
        case rel => exact ⟨k + 1, _, _, by omega, by go_num, Lib.hid (by rw [Hst.out]; exact M8.out), Lib.hid (by simpa using S8.out), N8⟩
        case measure => first | (simp [intOf]; omega) | (simp; omega)
    · obtain rfl : k = h := by omega
      have hk1 : ¬ (k : Int) < k := by omega
      obtain ⟨ra, rc, rfl, _⟩ := hM.out.done
      rw [scR_len] at hS
      have b3 := fun i => cell_of_row _ _ i _ _ _ hS.out
      have s0 : wr.cell? ⟨sb, 0, none⟩ = some (.int .i64 wd) := by rw [b3]; rfl
      have s1 : wr.cell? ⟨sb, 1, none⟩ = some (.int .i64 k) := by rw [b3]; rfl
      have s2 : wr.cell? ⟨sb, 2, none⟩ = some (.slice ra k rc) := by rw [b3]; rfl
      have s3 : wr.cell? ⟨sb, 3, none⟩ = some (.int .i64 ((r : Int) - tp)) := by rw [b3]; rfl
      have s4 : wr.cell? ⟨sb, 4, none⟩ = some (.int .i64 cc) := by rw [b3]; rfl
      have h0 : wr.heap[w.heap.size]? = _ := (hbl.block w.heap.size hr4).trans HQ4.out
      have b0 := fun i => cell_of_row _ _ i _ _ _ h0
      have r0 : wr.cell? ⟨w.heap.size, 0, none⟩ = some (.int .i64 0) := by rw [b0]; rfl
      have r1 : wr.cell? ⟨w.heap.size, 1, none⟩ = some (.int .i64 0) := by rw [b0]; rfl
      have r2 : wr.cell? ⟨w.heap.size, 2, none⟩ = some (.slice none 0 0) := by rw [b0]; rfl
      have r3 : wr.cell? ⟨w.heap.size, 3, none⟩ = some (.int .i64 0) := by rw [b0]; rfl
      have r4 : wr.cell? ⟨w.heap.size, 4, none⟩ = some (.int .i64 0) := by rw [b0]; rfl
      have rf := fun i => frozen_of_row _ w.heap.size i _ _ h0
      have hsn : w.heap.size ≠ sb := by omega
      have hsn2 : sb ≠ w.heap.size := by omega
      have hfin := Lib.hid (scr_set h0 wd k (.slice ra k rc) ((r : Int) - tp) cc)
      have NF := Lib.hid (scr_set_below wr w w.heap.size (.int .i64 wd) (.int .i64 k) (.slice ra k rc) (.int .i64 ((r : Int) - tp)) (.int .i64 cc) (Nat.le_refl _) (HN4.out.trans (hbl.mono (Nat.le_of_lt hr4))))
      have HRF := Lib.hid (OutM.set (OutM.set (OutM.set (OutM.set (OutM.set hM.out (p := ⟨w.heap.size, 0, none⟩) h0 (by decide) (by decide) (.int .i64 wd)) (p := ⟨w.heap.size, 1, none⟩) (blk_set h0 _ _) (by decide) (by decide) (.int .i64 k)) (p := ⟨w.heap.size, 2, none⟩) (blk_set (blk_set h0 _ _) _ _) (by decide) (by decide) (.slice ra k rc)) (p := ⟨w.heap.size, 3, none⟩) (blk_set (blk_set (blk_set h0 _ _) _ _) _ _) (by decide) (by decide) (.int .i64 ((r : Int) - tp))) (p := ⟨w.heap.size, 4, none⟩) (blk_set (blk_set (blk_set (blk_set h0 _ _) _ _) _ _) _ _) (by decide) (by decide) (.int .i64 cc))
      rw [scR_len] at HRF
      clear b0 b3 h0 hsz hC
      go_wp2
      generalize hWF : World.setCell _ _ _ = WF
      have hq : WF.heap[w.heap.size]? = some (.cells #[.int .i64 wd, .int .i64 k, .slice ra k rc, .int .i64 ((r : Int) - tp), .int .i64 cc] 28 (0, 0)) := by rw [← hWF]; exact hfin.out
      have hN : Below w.heap.size w WF := by rw [← hWF]; exact NF.out
      have hO : OutM WF w4.heap.size (.slice ra k rc) vs (scR L wd tp k) := by rw [← hWF]; exact HRF.out
      obtain ⟨ra', rc', e', hR⟩ := hO.done
      obtain rfl : ra = ra' := (Value.slice.inj e').1
      have y := fun i => cell_of_row _ _ i _ _ _ hq
      have y0 : WF.cell? ⟨w.heap.size, 0, none⟩ = some (.int .i64 wd) := by rw [y]; rfl
      have y1 : WF.cell? ⟨w.heap.size, 1, none⟩ = some (.int .i64 k) := by rw [y]; rfl
      have y2 : WF.cell? ⟨w.heap.size, 2, none⟩ = some (.slice ra k rc) := by rw [y]; rfl
      have y3 : WF.cell? ⟨w.heap.size, 3, none⟩ = some (.int .i64 ((r : Int) - tp)) := by rw [y]; rfl
      have y4 : WF.cell? ⟨w.heap.size, 4, none⟩ = some (.int .i64 cc) := by rw [y]; rfl
      exact bodyPost_ret (v := .agg #[.int .i64 wd, .int .i64 k, .slice ra k rc, .int .i64 ((r : Int) - tp), .int .i64 cc]) (by
        simp [results, Tryd.results17, go_sem, y0, y1, y2, y3, y4]) rfl (by first | exact ⟨ra, rc, rfl, hR, hN⟩ | exact ⟨ra, ⟨rc, rfl⟩, hR, hN⟩)
end Go.Proofs.YtcdecnmhogmhaaaDoor
set_option linter.unusedVariables false
set_option linter.unusedSimpArgs false
namespace Go.Proofs.YtcdecnmhogmhaaaDoor
open Go.RowKit
set_option maxHeartbeats 8000000 in
theorem shows_big (p l : List (Int × Int)) (a b : Option Addr) (c d : Nat) (at_ wd h : Int) (w : World) (hT : Tabs w) (hmp : p.length ≤ 9223372036854775807) (hml : l.length ≤ 9223372036854775807)
    (hbig : 30 < p.length ∨ 60 < l.length ∨ (80 < wd ∧ wd ≤ 1000) ∨ (40 < h ∧ h ≤ 1000)) :
    Calls Tryd.prog 3 #[.agg #[.slice a p.length c, .slice b l.length d, .int .i64 at_, .int .i64 wd, .int .i64 h]] w fun e w' => e = .returned (.bool true) ∧ Below w.heap.size w w' := by
  have B0 := below_alloc w (.cells #[.slice a p.length c, .slice b l.length d, .int .i64 at_, .int .i64 wd, .int .i64 h] 24)
  have HT := Lib.hid (hT.below B0)
  have AW := Lib.hid fun w (h : Tabs w) => pawake_any w h
  clear hT
  by_cases a1 : 30 < p.length
  · have a1' : (30 : Int) < p.length := by omega
    clear hbig
    go_enter Tryd.func3, Tryd.ntmps3
    go_wp2_with (go_at_call 13; refine (AW.out _ HT.out).mono ?_; rintro e w2 ⟨rfl, hb2⟩)
    go_ret
    exact ⟨rfl, seqB B0 hb2⟩
  · have a1' : ¬ (30 : Int) < p.length := by omega
    by_cases a2 : 60 < l.length
    · have a2' : (60 : Int) < l.length := by omega
      clear hbig
      go_enter Tryd.func3, Tryd.ntmps3
      go_wp2_with (go_at_call 13; refine (AW.out _ HT.out).mono ?_; rintro e w2 ⟨rfl, hb2⟩)
      go_ret
      exact ⟨rfl, seqB B0 hb2⟩
    · have a2' : ¬ (60 : Int) < l.length := by omega
      by_cases a3 : 80 < wd ∧ wd ≤ 1000
      · obtain ⟨a3, a3'⟩ := a3
        clear hbig
        go_enter Tryd.func3, Tryd.ntmps3
        go_wp2_with (go_at_call 13; refine (AW.out _ HT.out).mono ?_; rintro e w2 ⟨rfl, hb2⟩)
        go_ret
        exact ⟨rfl, seqB B0 hb2⟩
      · obtain ⟨a4, a4'⟩ : 40 < h ∧ h ≤ 1000 := by
          rcases hbig with x | x | x | x
          · exact absurd x a1
          · exact absurd x a2
          · exact absurd x a3
          · exact x
        clear hbig
        by_cases a5 : 80 < wd
        · have a6 : ¬ wd ≤ 1000 := fun x => a3 ⟨a5, x⟩
          clear a3
          go_enter Tryd.func3, Tryd.ntmps3
          go_wp2_with (go_at_call 13; refine (AW.out _ HT.out).mono ?_; rintro e w2 ⟨rfl, hb2⟩)
          go_ret
          exact ⟨rfl, seqB B0 hb2⟩
        · clear a3
          go_enter Tryd.func3, Tryd.ntmps3
          go_wp2_with (go_at_call 13; refine (AW.out _ HT.out).mono ?_; rintro e w2 ⟨rfl, hb2⟩)
          go_ret
          exact ⟨rfl, seqB B0 hb2⟩
end Go.Proofs.YtcdecnmhogmhaaaDoor
set_option linter.unusedVariables false
set_option linter.unusedSimpArgs false
namespace Go.Proofs.YtcdecnmhogmhaaaDoor
open Go.RowKit
set_option maxHeartbeats 8000000 in
theorem shows_neg (p l : List (Int × Int)) (a b : Option Addr) (c d : Nat) (at_ wd h : Int) (w : World) (hT : Tabs w) (h1 : p.length ≤ 30) (h2 : l.length ≤ 60) (hw : ¬ (80 < wd ∧ wd ≤ 1000)) (hh : ¬ (40 < h ∧ h ≤ 1000)) (ha : Signs w a p) (hb : Signs w b l) (hbad : at_ < 0) :
    Calls Tryd.prog 3 #[.agg #[.slice a p.length c, .slice b l.length d, .int .i64 at_, .int .i64 wd, .int .i64 h]] w fun e w' => e = .returned (.bool true) ∧ Below w.heap.size w w' := by
  have B0 := below_alloc w (.cells #[.slice a p.length c, .slice b l.length d, .int .i64 at_, .int .i64 wd, .int .i64 h] 24)
  have HA := Lib.hid (ha.below B0); have HB := Lib.hid (hb.below B0); have HT := Lib.hid (hT.below B0)
  have AW := Lib.hid fun w (h : Tabs w) => pawake_any w h
  have q0 := Lib.hid (heap_alloc_new w (.cells #[.slice a p.length c, .slice b l.length d, .int .i64 at_, .int .i64 wd, .int .i64 h] 24))
  have a1' : ¬ (30 : Int) < p.length := by omega
  have a2' : ¬ (60 : Int) < l.length := by omega
  have SR := Lib.hid (scr_range p l a b c d at_ wd h (w.alloc (.cells #[.slice a p.length c, .slice b l.length d, .int .i64 at_, .int .i64 wd, .int .i64 h] 24)) (by omega) (Or.inl hbad))
  clear ha hb hT
  go_enter Tryd.func3, Tryd.ntmps3
  go_upto_region 1 with fail
  go_cut [37] from 8 to 36 (fun s37 wx => s37 = .bool false ∧ wx = w.alloc (.cells #[.slice a p.length c, .slice b l.length d, .int .i64 at_, .int .i64 wd, .int .i64 h] 24))
  case first =>
    by_cases x1 : 80 < wd
    · have x1' : ¬ wd ≤ 1000 := fun x => hw ⟨x1, x⟩
      by_cases x2 : 40 < h
      · have x2' : ¬ h ≤ 1000 := fun x => hh ⟨x2, x⟩
        clear hw hh
        go_wp2_with fail
        go_meet
        exact ⟨rfl, rfl⟩
      · clear hw hh
        go_wp2_with fail
        go_meet
        exact ⟨rfl, rfl⟩
    · by_cases x2 : 40 < h
      · have x2' : ¬ h ≤ 1000 := fun x => hh ⟨x2, x⟩
        clear hw hh
        go_wp2_with fail
        go_meet
        exact ⟨rfl, rfl⟩
      · clear hw hh
        go_wp2_with fail
        go_meet
        exact ⟨rfl, rfl⟩
  case rest =>
  obtain ⟨rfl, rfl⟩ := hcut
  clear a1' a2' hw hh
  cases hp : sgC p
  · go_wp2_with (first
      | (go_at_call 14; refine SR.out.mono ?_; rintro e w1 ⟨rfl, hb1⟩; have B2 := below_alloc w1 (.cells #[.int .i64 0, .int .i64 0, .slice none 0 0, .int .i64 0, .int .i64 0] 28); have k2 := heap_alloc_new w1 (.cells #[.int .i64 0, .int .i64 0, .slice none 0 0, .int .i64 0, .int .i64 0] 28); have A2 := Lib.hid ((HA.out.below hb1).below B2); have L2 := Lib.hid ((HB.out.below hb1).below B2); have T2 := Lib.hid ((HT.out.below hb1).below B2); have F2 := blk_below (blk_below q0.out hb1) B2; have y := fun i => cell_of_row _ _ i _ _ _ F2; have y0 := y 0; have y1 := y 1; have y2 := y 2; have y3 := y 3; have y4 := y 4; clear y; dsimp at y0 y1 y2 y3 y4)
      | (go_at_call 15; (with_reducible refine (sgall_ref p a c _ (by omega) A2.out).mono ?_); rintro e w3 ⟨rfl, hb3⟩; rw [hp]; have F3 := blk_below F2 hb3; have y := fun i => cell_of_row _ _ i _ _ _ F3; have s0 := y 0; have s1 := y 1; have s2 := y 2; have s3 := y 3; have s4 := y 4; clear y; dsimp at s0 s1 s2 s3 s4; have T3 := Lib.hid (T2.out.below hb3); have k3 := blk_below k2 hb3)
      | (go_at_call 13; refine (AW.out _ T3.out).mono ?_; rintro e w5 ⟨rfl, hb5⟩; have k5 := blk_below k3 hb5; have z := fun i => cell_of_row _ _ i _ _ _ k5; have z0 := z 0; have z2 := z 2; clear z; dsimp at z0 z2))
    go_ret
    exact ⟨rfl, seqB (seqB (seqB (seqB B0 hb1) B2) hb3) hb5⟩
  · cases hl : sgC l
    · go_wp2_with (first
        | (go_at_call 14; refine SR.out.mono ?_; rintro e w1 ⟨rfl, hb1⟩; have B2 := below_alloc w1 (.cells #[.int .i64 0, .int .i64 0, .slice none 0 0, .int .i64 0, .int .i64 0] 28); have k2 := heap_alloc_new w1 (.cells #[.int .i64 0, .int .i64 0, .slice none 0 0, .int .i64 0, .int .i64 0] 28); have A2 := Lib.hid ((HA.out.below hb1).below B2); have L2 := Lib.hid ((HB.out.below hb1).below B2); have T2 := Lib.hid ((HT.out.below hb1).below B2); have F2 := blk_below (blk_below q0.out hb1) B2; have y := fun i => cell_of_row _ _ i _ _ _ F2; have y0 := y 0; have y1 := y 1; have y2 := y 2; have y3 := y 3; have y4 := y 4; clear y; dsimp at y0 y1 y2 y3 y4)
        | (go_at_call 15; (with_reducible refine (sgall_ref p a c _ (by omega) A2.out).mono ?_); rintro e w3 ⟨rfl, hb3⟩; rw [hp]; have F3 := blk_below F2 hb3; have y := fun i => cell_of_row _ _ i _ _ _ F3; have s0 := y 0; have s1 := y 1; have s2 := y 2; have s3 := y 3; have s4 := y 4; clear y; dsimp at s0 s1 s2 s3 s4; have T3 := Lib.hid (T2.out.below hb3); have k3 := blk_below k2 hb3)
        | (go_at_call 15; (with_reducible refine (sgall_ref l b d _ (by omega) (L2.out.below hb3)).mono ?_); rintro e w4 ⟨rfl, hb4⟩; rw [hl]; have F4 := blk_below F3 hb4; have y := fun i => cell_of_row _ _ i _ _ _ F4; have t0 := y 0; have t1 := y 1; have t2 := y 2; have t3 := y 3; have t4 := y 4; clear y; dsimp at t0 t1 t2 t3 t4; have T4 := Lib.hid (T3.out.below hb4); have k4 := blk_below k3 hb4)
        | (go_at_call 13; refine (AW.out _ T4.out).mono ?_; rintro e w5 ⟨rfl, hb5⟩; have k5 := blk_below k4 hb5; have z := fun i => cell_of_row _ _ i _ _ _ k5; have z0 := z 0; have z2 := z 2; clear z; dsimp at z0 z2))
      go_ret
      exact ⟨rfl, seqB (seqB (seqB (seqB (seqB B0 hb1) B2) hb3) hb4) hb5⟩
    · go_wp2_with (first
        | (go_at_call 14; refine SR.out.mono ?_; rintro e w1 ⟨rfl, hb1⟩; have B2 := below_alloc w1 (.cells #[.int .i64 0, .int .i64 0, .slice none 0 0, .int .i64 0, .int .i64 0] 28); have k2 := heap_alloc_new w1 (.cells #[.int .i64 0, .int .i64 0, .slice none 0 0, .int .i64 0, .int .i64 0] 28); have A2 := Lib.hid ((HA.out.below hb1).below B2); have L2 := Lib.hid ((HB.out.below hb1).below B2); have T2 := Lib.hid ((HT.out.below hb1).below B2); have F2 := blk_below (blk_below q0.out hb1) B2; have y := fun i => cell_of_row _ _ i _ _ _ F2; have y0 := y 0; have y1 := y 1; have y2 := y 2; have y3 := y 3; have y4 := y 4; clear y; dsimp at y0 y1 y2 y3 y4)
        | (go_at_call 15; (with_reducible refine (sgall_ref p a c _ (by omega) A2.out).mono ?_); rintro e w3 ⟨rfl, hb3⟩; rw [hp]; have F3 := blk_below F2 hb3; have y := fun i => cell_of_row _ _ i _ _ _ F3; have s0 := y 0; have s1 := y 1; have s2 := y 2; have s3 := y 3; have s4 := y 4; clear y; dsimp at s0 s1 s2 s3 s4; have T3 := Lib.hid (T2.out.below hb3); have k3 := blk_below k2 hb3)
        | (go_at_call 15; (with_reducible refine (sgall_ref l b d _ (by omega) (L2.out.below hb3)).mono ?_); rintro e w4 ⟨rfl, hb4⟩; rw [hl]; have F4 := blk_below F3 hb4; have y := fun i => cell_of_row _ _ i _ _ _ F4; have t0 := y 0; have t1 := y 1; have t2 := y 2; have t3 := y 3; have t4 := y 4; clear y; dsimp at t0 t1 t2 t3 t4; have T4 := Lib.hid (T3.out.below hb4); have k4 := blk_below k3 hb4)
        | (go_at_call 13; refine (AW.out _ T4.out).mono ?_; rintro e w5 ⟨rfl, hb5⟩; have k5 := blk_below k4 hb5; have z := fun i => cell_of_row _ _ i _ _ _ k5; have z0 := z 0; have z2 := z 2; clear z; dsimp at z0 z2))
      go_ret
      exact ⟨rfl, seqB (seqB (seqB (seqB (seqB B0 hb1) B2) hb3) hb4) hb5⟩
set_option maxHeartbeats 8000000 in
theorem shows_far (p l : List (Int × Int)) (a b : Option Addr) (c d : Nat) (at_ wd h : Int) (w : World) (hT : Tabs w) (h1 : p.length ≤ 30) (h2 : l.length ≤ 60) (hw : ¬ (80 < wd ∧ wd ≤ 1000)) (hh : ¬ (40 < h ∧ h ≤ 1000)) (ha : Signs w a p) (hb : Signs w b l) (hbad : (l.length : Int) < at_) (h0 : ¬ at_ < 0) :
    Calls Tryd.prog 3 #[.agg #[.slice a p.length c, .slice b l.length d, .int .i64 at_, .int .i64 wd, .int .i64 h]] w fun e w' => e = .returned (.bool true) ∧ Below w.heap.size w w' := by
  have B0 := below_alloc w (.cells #[.slice a p.length c, .slice b l.length d, .int .i64 at_, .int .i64 wd, .int .i64 h] 24)
  have HA := Lib.hid (ha.below B0); have HB := Lib.hid (hb.below B0); have HT := Lib.hid (hT.below B0)
  have AW := Lib.hid fun w (h : Tabs w) => pawake_any w h
  have q0 := Lib.hid (heap_alloc_new w (.cells #[.slice a p.length c, .slice b l.length d, .int .i64 at_, .int .i64 wd, .int .i64 h] 24))
  have a1' : ¬ (30 : Int) < p.length := by omega
  have a2' : ¬ (60 : Int) < l.length := by omega
  have SR := Lib.hid (scr_range p l a b c d at_ wd h (w.alloc (.cells #[.slice a p.length c, .slice b l.length d, .int .i64 at_, .int .i64 wd, .int .i64 h] 24)) (by omega) (Or.inr (Or.inl hbad)))
  clear ha hb hT
  go_enter Tryd.func3, Tryd.ntmps3
  go_upto_region 1 with fail
  go_cut [37] from 8 to 36 (fun s37 wx => s37 = .bool false ∧ wx = w.alloc (.cells #[.slice a p.length c, .slice b l.length d, .int .i64 at_, .int .i64 wd, .int .i64 h] 24))
  case first =>
    by_cases x1 : 80 < wd
    · have x1' : ¬ wd ≤ 1000 := fun x => hw ⟨x1, x⟩
      by_cases x2 : 40 < h
      · have x2' : ¬ h ≤ 1000 := fun x => hh ⟨x2, x⟩
        clear hw hh
        go_wp2_with fail
        go_meet
        exact ⟨rfl, rfl⟩
      · clear hw hh
        go_wp2_with fail
        go_meet
        exact ⟨rfl, rfl⟩
    · by_cases x2 : 40 < h
      · have x2' : ¬ h ≤ 1000 := fun x => hh ⟨x2, x⟩
        clear hw hh
        go_wp2_with fail
        go_meet
        exact ⟨rfl, rfl⟩
      · clear hw hh
        go_wp2_with fail
        go_meet
        exact ⟨rfl, rfl⟩
  case rest =>
  obtain ⟨rfl, rfl⟩ := hcut
  clear a1' a2' hw hh
  cases hp : sgC p
  · go_wp2_with (first
      | (go_at_call 14; refine SR.out.mono ?_; rintro e w1 ⟨rfl, hb1⟩; have B2 := below_alloc w1 (.cells #[.int .i64 0, .int .i64 0, .slice none 0 0, .int .i64 0, .int .i64 0] 28); have k2 := heap_alloc_new w1 (.cells #[.int .i64 0, .int .i64 0, .slice none 0 0, .int .i64 0, .int .i64 0] 28); have A2 := Lib.hid ((HA.out.below hb1).below B2); have L2 := Lib.hid ((HB.out.below hb1).below B2); have T2 := Lib.hid ((HT.out.below hb1).below B2); have F2 := blk_below (blk_below q0.out hb1) B2; have y := fun i => cell_of_row _ _ i _ _ _ F2; have y0 := y 0; have y1 := y 1; have y2 := y 2; have y3 := y 3; have y4 := y 4; clear y; dsimp at y0 y1 y2 y3 y4)
      | (go_at_call 15; (with_reducible refine (sgall_ref p a c _ (by omega) A2.out).mono ?_); rintro e w3 ⟨rfl, hb3⟩; rw [hp]; have F3 := blk_below F2 hb3; have y := fun i => cell_of_row _ _ i _ _ _ F3; have s0 := y 0; have s1 := y 1; have s2 := y 2; have s3 := y 3; have s4 := y 4; clear y; dsimp at s0 s1 s2 s3 s4; have T3 := Lib.hid (T2.out.below hb3); have k3 := blk_below k2 hb3)
      | (go_at_call 13; refine (AW.out _ T3.out).mono ?_; rintro e w5 ⟨rfl, hb5⟩; have k5 := blk_below k3 hb5; have z := fun i => cell_of_row _ _ i _ _ _ k5; have z0 := z 0; have z2 := z 2; clear z; dsimp at z0 z2))
    go_ret
    exact ⟨rfl, seqB (seqB (seqB (seqB B0 hb1) B2) hb3) hb5⟩
  · cases hl : sgC l
    · go_wp2_with (first
        | (go_at_call 14; refine SR.out.mono ?_; rintro e w1 ⟨rfl, hb1⟩; have B2 := below_alloc w1 (.cells #[.int .i64 0, .int .i64 0, .slice none 0 0, .int .i64 0, .int .i64 0] 28); have k2 := heap_alloc_new w1 (.cells #[.int .i64 0, .int .i64 0, .slice none 0 0, .int .i64 0, .int .i64 0] 28); have A2 := Lib.hid ((HA.out.below hb1).below B2); have L2 := Lib.hid ((HB.out.below hb1).below B2); have T2 := Lib.hid ((HT.out.below hb1).below B2); have F2 := blk_below (blk_below q0.out hb1) B2; have y := fun i => cell_of_row _ _ i _ _ _ F2; have y0 := y 0; have y1 := y 1; have y2 := y 2; have y3 := y 3; have y4 := y 4; clear y; dsimp at y0 y1 y2 y3 y4)
        | (go_at_call 15; (with_reducible refine (sgall_ref p a c _ (by omega) A2.out).mono ?_); rintro e w3 ⟨rfl, hb3⟩; rw [hp]; have F3 := blk_below F2 hb3; have y := fun i => cell_of_row _ _ i _ _ _ F3; have s0 := y 0; have s1 := y 1; have s2 := y 2; have s3 := y 3; have s4 := y 4; clear y; dsimp at s0 s1 s2 s3 s4; have T3 := Lib.hid (T2.out.below hb3); have k3 := blk_below k2 hb3)
        | (go_at_call 15; (with_reducible refine (sgall_ref l b d _ (by omega) (L2.out.below hb3)).mono ?_); rintro e w4 ⟨rfl, hb4⟩; rw [hl]; have F4 := blk_below F3 hb4; have y := fun i => cell_of_row _ _ i _ _ _ F4; have t0 := y 0; have t1 := y 1; have t2 := y 2; have t3 := y 3; have t4 := y 4; clear y; dsimp at t0 t1 t2 t3 t4; have T4 := Lib.hid (T3.out.below hb4); have k4 := blk_below k3 hb4)
        | (go_at_call 13; refine (AW.out _ T4.out).mono ?_; rintro e w5 ⟨rfl, hb5⟩; have k5 := blk_below k4 hb5; have z := fun i => cell_of_row _ _ i _ _ _ k5; have z0 := z 0; have z2 := z 2; clear z; dsimp at z0 z2))
      go_ret
      exact ⟨rfl, seqB (seqB (seqB (seqB (seqB B0 hb1) B2) hb3) hb4) hb5⟩
    · go_wp2_with (first
        | (go_at_call 14; refine SR.out.mono ?_; rintro e w1 ⟨rfl, hb1⟩; have B2 := below_alloc w1 (.cells #[.int .i64 0, .int .i64 0, .slice none 0 0, .int .i64 0, .int .i64 0] 28); have k2 := heap_alloc_new w1 (.cells #[.int .i64 0, .int .i64 0, .slice none 0 0, .int .i64 0, .int .i64 0] 28); have A2 := Lib.hid ((HA.out.below hb1).below B2); have L2 := Lib.hid ((HB.out.below hb1).below B2); have T2 := Lib.hid ((HT.out.below hb1).below B2); have F2 := blk_below (blk_below q0.out hb1) B2; have y := fun i => cell_of_row _ _ i _ _ _ F2; have y0 := y 0; have y1 := y 1; have y2 := y 2; have y3 := y 3; have y4 := y 4; clear y; dsimp at y0 y1 y2 y3 y4)
        | (go_at_call 15; (with_reducible refine (sgall_ref p a c _ (by omega) A2.out).mono ?_); rintro e w3 ⟨rfl, hb3⟩; rw [hp]; have F3 := blk_below F2 hb3; have y := fun i => cell_of_row _ _ i _ _ _ F3; have s0 := y 0; have s1 := y 1; have s2 := y 2; have s3 := y 3; have s4 := y 4; clear y; dsimp at s0 s1 s2 s3 s4; have T3 := Lib.hid (T2.out.below hb3); have k3 := blk_below k2 hb3)
        | (go_at_call 15; (with_reducible refine (sgall_ref l b d _ (by omega) (L2.out.below hb3)).mono ?_); rintro e w4 ⟨rfl, hb4⟩; rw [hl]; have F4 := blk_below F3 hb4; have y := fun i => cell_of_row _ _ i _ _ _ F4; have t0 := y 0; have t1 := y 1; have t2 := y 2; have t3 := y 3; have t4 := y 4; clear y; dsimp at t0 t1 t2 t3 t4; have T4 := Lib.hid (T3.out.below hb4); have k4 := blk_below k3 hb4)
        | (go_at_call 13; refine (AW.out _ T4.out).mono ?_; rintro e w5 ⟨rfl, hb5⟩; have k5 := blk_below k4 hb5; have z := fun i => cell_of_row _ _ i _ _ _ k5; have z0 := z 0; have z2 := z 2; clear z; dsimp at z0 z2))
      go_ret
      exact ⟨rfl, seqB (seqB (seqB (seqB (seqB B0 hb1) B2) hb3) hb4) hb5⟩
set_option maxHeartbeats 8000000 in
theorem shows_side (p l : List (Int × Int)) (a b : Option Addr) (c d : Nat) (at_ wd h : Int) (w : World) (hT : Tabs w) (h1 : p.length ≤ 30) (h2 : l.length ≤ 60) (hw : ¬ (80 < wd ∧ wd ≤ 1000)) (hh : ¬ (40 < h ∧ h ≤ 1000)) (ha : Signs w a p) (hb : Signs w b l) (hbad : (sideB wd && sideB h) = false) (h0 : ¬ at_ < 0) (h3 : ¬ (l.length : Int) < at_) :
    Calls Tryd.prog 3 #[.agg #[.slice a p.length c, .slice b l.length d, .int .i64 at_, .int .i64 wd, .int .i64 h]] w fun e w' => e = .returned (.bool true) ∧ Below w.heap.size w w' := by
  have B0 := below_alloc w (.cells #[.slice a p.length c, .slice b l.length d, .int .i64 at_, .int .i64 wd, .int .i64 h] 24)
  have HA := Lib.hid (ha.below B0); have HB := Lib.hid (hb.below B0); have HT := Lib.hid (hT.below B0)
  have AW := Lib.hid fun w (h : Tabs w) => pawake_any w h
  have q0 := Lib.hid (heap_alloc_new w (.cells #[.slice a p.length c, .slice b l.length d, .int .i64 at_, .int .i64 wd, .int .i64 h] 24))
  have a1' : ¬ (30 : Int) < p.length := by omega
  have a2' : ¬ (60 : Int) < l.length := by omega
  have SR := Lib.hid (scr_range p l a b c d at_ wd h (w.alloc (.cells #[.slice a p.length c, .slice b l.length d, .int .i64 at_, .int .i64 wd, .int .i64 h] 24)) (by omega) (Or.inr (Or.inr (by cases x : sideB wd <;> cases y : sideB h <;> simp [x, y] at hbad ⊢))))
  have hsd := hbad
  clear ha hb hT
  go_enter Tryd.func3, Tryd.ntmps3
  go_upto_region 1 with fail
  go_cut [37] from 8 to 36 (fun s37 wx => s37 = .bool false ∧ wx = w.alloc (.cells #[.slice a p.length c, .slice b l.length d, .int .i64 at_, .int .i64 wd, .int .i64 h] 24))
  case first =>
    by_cases x1 : 80 < wd
    · have x1' : ¬ wd ≤ 1000 := fun x => hw ⟨x1, x⟩
      by_cases x2 : 40 < h
      · have x2' : ¬ h ≤ 1000 := fun x => hh ⟨x2, x⟩
        clear hw hh
        go_wp2_with fail
        go_meet
        exact ⟨rfl, rfl⟩
      · clear hw hh
        go_wp2_with fail
        go_meet
        exact ⟨rfl, rfl⟩
    · by_cases x2 : 40 < h
      · have x2' : ¬ h ≤ 1000 := fun x => hh ⟨x2, x⟩
        clear hw hh
        go_wp2_with fail
        go_meet
        exact ⟨rfl, rfl⟩
      · clear hw hh
        go_wp2_with fail
        go_meet
        exact ⟨rfl, rfl⟩
  case rest =>
  obtain ⟨rfl, rfl⟩ := hcut
  clear a1' a2' hw hh
  cases hp : sgC p
  · go_wp2_with (first
      | (go_at_call 14; refine SR.out.mono ?_; rintro e w1 ⟨rfl, hb1⟩; have B2 := below_alloc w1 (.cells #[.int .i64 0, .int .i64 0, .slice none 0 0, .int .i64 0, .int .i64 0] 28); have k2 := heap_alloc_new w1 (.cells #[.int .i64 0, .int .i64 0, .slice none 0 0, .int .i64 0, .int .i64 0] 28); have A2 := Lib.hid ((HA.out.below hb1).below B2); have L2 := Lib.hid ((HB.out.below hb1).below B2); have T2 := Lib.hid ((HT.out.below hb1).below B2); have F2 := blk_below (blk_below q0.out hb1) B2; have y := fun i => cell_of_row _ _ i _ _ _ F2; have y0 := y 0; have y1 := y 1; have y2 := y 2; have y3 := y 3; have y4 := y 4; clear y; dsimp at y0 y1 y2 y3 y4)
      | (go_at_call 15; (with_reducible refine (sgall_ref p a c _ (by omega) A2.out).mono ?_); rintro e w3 ⟨rfl, hb3⟩; rw [hp]; have F3 := blk_below F2 hb3; have y := fun i => cell_of_row _ _ i _ _ _ F3; have s0 := y 0; have s1 := y 1; have s2 := y 2; have s3 := y 3; have s4 := y 4; clear y; dsimp at s0 s1 s2 s3 s4; have T3 := Lib.hid (T2.out.below hb3); have k3 := blk_below k2 hb3)
      | (go_at_call 16; refine (sides_ref _ _ _).mono ?_; rintro e w6 ⟨rfl, rfl⟩; rw [hsd])
      | (go_at_call 13; refine (AW.out _ T3.out).mono ?_; rintro e w5 ⟨rfl, hb5⟩; have k5 := blk_below k3 hb5; have z := fun i => cell_of_row _ _ i _ _ _ k5; have z0 := z 0; have z2 := z 2; clear z; dsimp at z0 z2))
    go_ret
    exact ⟨rfl, seqB (seqB (seqB (seqB B0 hb1) B2) hb3) hb5⟩
  · cases hl : sgC l
    · go_wp2_with (first
        | (go_at_call 14; refine SR.out.mono ?_; rintro e w1 ⟨rfl, hb1⟩; have B2 := below_alloc w1 (.cells #[.int .i64 0, .int .i64 0, .slice none 0 0, .int .i64 0, .int .i64 0] 28); have k2 := heap_alloc_new w1 (.cells #[.int .i64 0, .int .i64 0, .slice none 0 0, .int .i64 0, .int .i64 0] 28); have A2 := Lib.hid ((HA.out.below hb1).below B2); have L2 := Lib.hid ((HB.out.below hb1).below B2); have T2 := Lib.hid ((HT.out.below hb1).below B2); have F2 := blk_below (blk_below q0.out hb1) B2; have y := fun i => cell_of_row _ _ i _ _ _ F2; have y0 := y 0; have y1 := y 1; have y2 := y 2; have y3 := y 3; have y4 := y 4; clear y; dsimp at y0 y1 y2 y3 y4)
        | (go_at_call 15; (with_reducible refine (sgall_ref p a c _ (by omega) A2.out).mono ?_); rintro e w3 ⟨rfl, hb3⟩; rw [hp]; have F3 := blk_below F2 hb3; have y := fun i => cell_of_row _ _ i _ _ _ F3; have s0 := y 0; have s1 := y 1; have s2 := y 2; have s3 := y 3; have s4 := y 4; clear y; dsimp at s0 s1 s2 s3 s4; have T3 := Lib.hid (T2.out.below hb3); have k3 := blk_below k2 hb3)
        | (go_at_call 15; (with_reducible refine (sgall_ref l b d _ (by omega) (L2.out.below hb3)).mono ?_); rintro e w4 ⟨rfl, hb4⟩; rw [hl]; have F4 := blk_below F3 hb4; have y := fun i => cell_of_row _ _ i _ _ _ F4; have t0 := y 0; have t1 := y 1; have t2 := y 2; have t3 := y 3; have t4 := y 4; clear y; dsimp at t0 t1 t2 t3 t4; have T4 := Lib.hid (T3.out.below hb4); have k4 := blk_below k3 hb4)
        | (go_at_call 16; refine (sides_ref _ _ _).mono ?_; rintro e w6 ⟨rfl, rfl⟩; rw [hsd])
        | (go_at_call 13; refine (AW.out _ T4.out).mono ?_; rintro e w5 ⟨rfl, hb5⟩; have k5 := blk_below k4 hb5; have z := fun i => cell_of_row _ _ i _ _ _ k5; have z0 := z 0; have z2 := z 2; clear z; dsimp at z0 z2))
      go_ret
      exact ⟨rfl, seqB (seqB (seqB (seqB (seqB B0 hb1) B2) hb3) hb4) hb5⟩
    · go_wp2_with (first
        | (go_at_call 14; refine SR.out.mono ?_; rintro e w1 ⟨rfl, hb1⟩; have B2 := below_alloc w1 (.cells #[.int .i64 0, .int .i64 0, .slice none 0 0, .int .i64 0, .int .i64 0] 28); have k2 := heap_alloc_new w1 (.cells #[.int .i64 0, .int .i64 0, .slice none 0 0, .int .i64 0, .int .i64 0] 28); have A2 := Lib.hid ((HA.out.below hb1).below B2); have L2 := Lib.hid ((HB.out.below hb1).below B2); have T2 := Lib.hid ((HT.out.below hb1).below B2); have F2 := blk_below (blk_below q0.out hb1) B2; have y := fun i => cell_of_row _ _ i _ _ _ F2; have y0 := y 0; have y1 := y 1; have y2 := y 2; have y3 := y 3; have y4 := y 4; clear y; dsimp at y0 y1 y2 y3 y4)
        | (go_at_call 15; (with_reducible refine (sgall_ref p a c _ (by omega) A2.out).mono ?_); rintro e w3 ⟨rfl, hb3⟩; rw [hp]; have F3 := blk_below F2 hb3; have y := fun i => cell_of_row _ _ i _ _ _ F3; have s0 := y 0; have s1 := y 1; have s2 := y 2; have s3 := y 3; have s4 := y 4; clear y; dsimp at s0 s1 s2 s3 s4; have T3 := Lib.hid (T2.out.below hb3); have k3 := blk_below k2 hb3)
        | (go_at_call 15; (with_reducible refine (sgall_ref l b d _ (by omega) (L2.out.below hb3)).mono ?_); rintro e w4 ⟨rfl, hb4⟩; rw [hl]; have F4 := blk_below F3 hb4; have y := fun i => cell_of_row _ _ i _ _ _ F4; have t0 := y 0; have t1 := y 1; have t2 := y 2; have t3 := y 3; have t4 := y 4; clear y; dsimp at t0 t1 t2 t3 t4; have T4 := Lib.hid (T3.out.below hb4); have k4 := blk_below k3 hb4)
        | (go_at_call 16; refine (sides_ref _ _ _).mono ?_; rintro e w6 ⟨rfl, rfl⟩; rw [hsd])
        | (go_at_call 13; refine (AW.out _ T4.out).mono ?_; rintro e w5 ⟨rfl, hb5⟩; have k5 := blk_below k4 hb5; have z := fun i => cell_of_row _ _ i _ _ _ k5; have z0 := z 0; have z2 := z 2; clear z; dsimp at z0 z2))
      go_ret
      exact ⟨rfl, seqB (seqB (seqB (seqB (seqB B0 hb1) B2) hb3) hb4) hb5⟩
end Go.Proofs.YtcdecnmhogmhaaaDoor
set_option linter.unusedVariables false
set_option linter.unusedSimpArgs false
namespace Go.Proofs.YtcdecnmhogmhaaaDoor
open Go.RowKit
set_option maxHeartbeats 8000000 in
theorem shows_arg (p l : List (Int × Int)) (a b : Option Addr) (c d at' wd' h' : Nat) (w : World) (hT : Tabs w) (h1 : p.length ≤ 30) (h2 : l.length ≤ 60) (hw1 : 1 ≤ wd') (hw : wd' ≤ 80) (hh1 : 1 ≤ h') (hh : h' ≤ 40) (hat : at' ≤ l.length) (ha : Signs w a p) (hb : Signs w b l) (hS : (sgC p && sgC l) = false) :
    Calls Tryd.prog 3 #[.agg #[.slice a p.length c, .slice b l.length d, .int .i64 at', .int .i64 wd', .int .i64 h']] w fun e w' => e = .returned (.bool true) ∧ Below w.heap.size w w' := by
  have B0 := below_alloc w (.cells #[.slice a p.length c, .slice b l.length d, .int .i64 at', .int .i64 wd', .int .i64 h'] 24)
  have HA := Lib.hid (ha.below B0); have HB := Lib.hid (hb.below B0); have HT := Lib.hid (hT.below B0)
  have AW := Lib.hid fun w (h : Tabs w) => pawake_any w h
  have q0 := Lib.hid (heap_alloc_new w (.cells #[.slice a p.length c, .slice b l.length d, .int .i64 at', .int .i64 wd', .int .i64 h'] 24))
  have a1' : ¬ (30 : Int) < p.length := by omega
  have a2' : ¬ (60 : Int) < l.length := by omega
  have SR := Lib.hid (scr_arg p l a b c d at' wd' h' (w.alloc (.cells #[.slice a p.length c, .slice b l.length d, .int .i64 at', .int .i64 wd', .int .i64 h'] 24)) (by omega) (by omega) HA.out HB.out hat hw1 (by omega) hh1 (by omega) hS)
  have hsd : (sideB (wd' : Int) && sideB (h' : Int)) = true := by rw [sideB_yes wd' hw1 (by omega), sideB_yes h' hh1 (by omega)]; rfl
  have n1 : ¬ (at' : Int) < 0 := by omega
  have n2 : ¬ (l.length : Int) < at' := by omega
  have n3 : ¬ (80 : Int) < wd' := by omega
  have n4 : ¬ (40 : Int) < h' := by omega
  clear ha hb hT
  cases hp : sgC p
  · clear hS
    go_enter Tryd.func3, Tryd.ntmps3
    go_wp2_with (first
      | (go_at_call 14; refine SR.out.mono ?_; rintro e w1 ⟨rfl, hb1⟩; have B2 := below_alloc w1 (.cells #[.int .i64 0, .int .i64 0, .slice none 0 0, .int .i64 0, .int .i64 0] 28); have k2 := heap_alloc_new w1 (.cells #[.int .i64 0, .int .i64 0, .slice none 0 0, .int .i64 0, .int .i64 0] 28); have A2 := Lib.hid ((HA.out.below hb1).below B2); have L2 := Lib.hid ((HB.out.below hb1).below B2); have T2 := Lib.hid ((HT.out.below hb1).below B2); have F2 := blk_below (blk_below q0.out hb1) B2; have y := fun i => cell_of_row _ _ i _ _ _ F2; have y0 := y 0; have y1 := y 1; have y2 := y 2; have y3 := y 3; have y4 := y 4; clear y; dsimp at y0 y1 y2 y3 y4)
      | (go_at_call 15; (with_reducible refine (sgall_ref p a c _ (by omega) A2.out).mono ?_); rintro e w3 ⟨rfl, hb3⟩; rw [hp]; have F3 := blk_below F2 hb3; have y := fun i => cell_of_row _ _ i _ _ _ F3; have s0 := y 0; have s1 := y 1; have s2 := y 2; have s3 := y 3; have s4 := y 4; clear y; dsimp at s0 s1 s2 s3 s4; have T3 := Lib.hid (T2.out.below hb3); have k3 := blk_below k2 hb3)
      | (go_at_call 16; refine (sides_ref _ _ _).mono ?_; rintro e w6 ⟨rfl, rfl⟩; rw [hsd])
      | (go_at_call 13; refine (AW.out _ T3.out).mono ?_; rintro e w5 ⟨rfl, hb5⟩; have k5 := blk_below k3 hb5; have z := fun i => cell_of_row _ _ i _ _ _ k5; have z0 := z 0; have z2 := z 2; clear z; dsimp at z0 z2))
    go_ret
    exact ⟨rfl, seqB (seqB (seqB (seqB B0 hb1) B2) hb3) hb5⟩
  · have hl : sgC l = false := by rw [hp] at hS; exact hS
    clear hS
    go_enter Tryd.func3, Tryd.ntmps3
    go_wp2_with (first
      | (go_at_call 14; refine SR.out.mono ?_; rintro e w1 ⟨rfl, hb1⟩; have B2 := below_alloc w1 (.cells #[.int .i64 0, .int .i64 0, .slice none 0 0, .int .i64 0, .int .i64 0] 28); have k2 := heap_alloc_new w1 (.cells #[.int .i64 0, .int .i64 0, .slice none 0 0, .int .i64 0, .int .i64 0] 28); have A2 := Lib.hid ((HA.out.below hb1).below B2); have L2 := Lib.hid ((HB.out.below hb1).below B2); have T2 := Lib.hid ((HT.out.below hb1).below B2); have F2 := blk_below (blk_below q0.out hb1) B2; have y := fun i => cell_of_row _ _ i _ _ _ F2; have y0 := y 0; have y1 := y 1; have y2 := y 2; have y3 := y 3; have y4 := y 4; clear y; dsimp at y0 y1 y2 y3 y4)
      | (go_at_call 15; (with_reducible refine (sgall_ref p a c _ (by omega) A2.out).mono ?_); rintro e w3 ⟨rfl, hb3⟩; rw [hp]; have F3 := blk_below F2 hb3; have y := fun i => cell_of_row _ _ i _ _ _ F3; have s0 := y 0; have s1 := y 1; have s2 := y 2; have s3 := y 3; have s4 := y 4; clear y; dsimp at s0 s1 s2 s3 s4; have T3 := Lib.hid (T2.out.below hb3); have k3 := blk_below k2 hb3)
      | (go_at_call 15; (with_reducible refine (sgall_ref l b d _ (by omega) (L2.out.below hb3)).mono ?_); rintro e w4 ⟨rfl, hb4⟩; rw [hl]; have F4 := blk_below F3 hb4; have y := fun i => cell_of_row _ _ i _ _ _ F4; have t0 := y 0; have t1 := y 1; have t2 := y 2; have t3 := y 3; have t4 := y 4; clear y; dsimp at t0 t1 t2 t3 t4; have T4 := Lib.hid (T3.out.below hb4); have k4 := blk_below k3 hb4)
      | (go_at_call 16; refine (sides_ref _ _ _).mono ?_; rintro e w6 ⟨rfl, rfl⟩; rw [hsd])
      | (go_at_call 13; refine (AW.out _ T4.out).mono ?_; rintro e w5 ⟨rfl, hb5⟩; have k5 := blk_below k4 hb5; have z := fun i => cell_of_row _ _ i _ _ _ k5; have z0 := z 0; have z2 := z 2; clear z; dsimp at z0 z2))
    go_ret
    exact ⟨rfl, seqB (seqB (seqB (seqB (seqB B0 hb1) B2) hb3) hb4) hb5⟩
end Go.Proofs.YtcdecnmhogmhaaaDoor
set_option linter.unusedVariables false
set_option linter.unusedSimpArgs false
namespace Go.Proofs.YtcdecnmhogmhaaaDoor
open Go.RowKit
set_option maxHeartbeats 8000000 in
theorem psame_ref (W H R C W' H' R' C' : Int) (x y : List (List Cl)) (a b : Option Addr) (c d : Nat) (w : World) (hx : x.length ≤ 100000) (hy : y.length ≤ 100000) (hxr : ∀ i, i < x.length → (x.getD i []).length ≤ 100000) (hyr : ∀ i, i < y.length → (y.getD i []).length ≤ 100000) (ha : RowsIn w a x) (hb : RowsIn w b y) :
    Calls Tryd.prog 19 #[.agg #[.int .i64 W, .int .i64 H, .slice a x.length c, .int .i64 R, .int .i64 C], .agg #[.int .i64 W', .int .i64 H', .slice b y.length d, .int .i64 R', .int .i64 C']] w fun e w' => e = .returned (.bool (scrS W H R C W' H' R' C' x y)) ∧ Below w.heap.size w w' := by
  have hb0 := seqB (below_alloc w (.cells #[.int .i64 W, .int .i64 H, .slice a x.length c, .int .i64 R, .int .i64 C] 28)) (below_alloc _ (.cells #[.int .i64 W', .int .i64 H', .slice b y.length d, .int .i64 R', .int .i64 C'] 28))
  have HA := Lib.hid (ha.below hb0); have HB := Lib.hid (hb.below hb0)
  clear ha hb
  rcases scrS_cases W H R C W' H' R' C' x y with ⟨hs, rfl, rfl, rfl, rfl, hlen⟩ | ⟨hs, h⟩
  · have HS := Lib.hid hs
    have HL := Lib.hid hlen
    have hXR := Lib.hid hxr; have hYR := Lib.hid hyr
    clear hs hlen hxr hyr
    have g2 : ((w.alloc (.cells #[.int .i64 W, .int .i64 H, .slice a x.length c, .int .i64 R, .int .i64 C] 28)).alloc (.cells #[.int .i64 W, .int .i64 H, .slice b y.length d, .int .i64 R, .int .i64 C] 28)).cell? ⟨w.heap.size + 1, 2, none⟩ = some (.slice b y.length d) := by simp
    have g1 : ((w.alloc (.cells #[.int .i64 W, .int .i64 H, .slice a x.length c, .int .i64 R, .int .i64 C] 28)).alloc (.cells #[.int .i64 W, .int .i64 H, .slice b y.length d, .int .i64 R, .int .i64 C] 28)).cell? ⟨w.heap.size, 2, none⟩ = some (.slice a x.length c) := by simp
    have hz : ((w.alloc (.cells #[.int .i64 W, .int .i64 H, .slice a x.length c, .int .i64 R, .int .i64 C] 28)).alloc (.cells #[.int .i64 W, .int .i64 H, .slice b y.length d, .int .i64 R, .int .i64 C] 28)).heap.size = w.heap.size + 1 + 1 := by simp
    have hlb : ((x.length : Int) != (y.length : Int)) = false := by rw [bne_eq_false_iff_eq, HL.out]
    go_enter Tryd.func19, Tryd.ntmps19
    go_wp2
    generalize (w.alloc _).alloc _ = W0 at *
    have hlt1 : w.heap.size + 1 < W0.heap.size := by omega
    have hlt0 : w.heap.size < W0.heap.size := by omega
    have Hz := Lib.hid hz
    clear hz
    go_loopw [5] (fun iv wr => ∃ k : Nat, k ≤ x.length ∧ iv = .int .i64 (k : Int) ∧ Hid (∀ j, j < k → shS (x.getD j []) (y.getD j []) = true) ∧ Below W0.heap.size W0 wr) (fun iv _ => x.length - (intOf iv).toNat)
    case atStart => exact ⟨0, Nat.zero_le _, rfl, Lib.hid (fun j hj => absurd hj (by omega)), Below.refl _ _⟩
    case round =>
      obtain ⟨k, hk, rfl, hall, hbl⟩ := hrel
      have hN := hb0.trans (hbl.mono hb0.size)
      have g1r := (hbl.cell (p := ⟨w.heap.size, 2, none⟩) hlt0).trans g1
      have g2r := (hbl.cell (p := ⟨w.heap.size + 1, 2, none⟩) hlt1).trans g2
      have hs0 := Nat.lt_of_lt_of_le hlt0 hbl.size
      have hs1 := Nat.lt_of_lt_of_le hlt1 hbl.size
      by_cases hlt : k < x.length
      · obtain ⟨b1, o1, r1, n1, rfl, hb1, c1, d1⟩ := (HA.out.below hbl) k hlt
        obtain ⟨b2, o2, r2, n2, rfl, hb2, c2, d2⟩ := (HB.out.below hbl) k (by have := HL.out; omega)
        have hk1 : (k : Int) < x.length := by omega
        have hk2 : (k : Int) < y.length := by have := HL.out; omega
        have hk0 : (0 : Int) ≤ k := by omega
        have S := fun W hb => shsame_ref (x.getD k []) (y.getD k []) r1 r2 n1 n2 W (by have := hXR.out k hlt; omega) (by have := hYR.out k (by have := HL.out; omega); omega) (d1.below hb) (d2.below hb)
        have hno := fun h => rowsS_no (x := x) (y := y) hlt h
        have hyes := fun (h : shS (x.getD k []) (y.getD k []) = true) => (fun j (hj : j < k + 1) => (by
          rcases Nat.lt_succ_iff_lt_or_eq.1 hj with h' | rfl
          · exact hall.out j h'
          · exact h : shS (x.getD j []) (y.getD j []) = true))
        clear d1 d2
        generalize (x.getD k []).length = lx at *
        generalize (y.getD k []).length = ly at *
        cases hr : shS (x.getD k []) (y.getD k [])
        · rw [hr] at S
          have HF := Lib.hid (HS.out.trans (hno hr))
          replace S := Lib.hid S
          clear hno hyes hr
          go_wp2
          go_region_held3 (fun w' => w'.cell? ⟨w.heap.size, 2, none⟩ = some (.slice (some ⟨b1, o1, none⟩) x.length c) ∧ w'.cell? ⟨w.heap.size + 1, 2, none⟩ = some (.slice (some ⟨b2, o2, none⟩) y.length d) ∧ w'.cell? ⟨b1, o1 + k, none⟩ = some (.slice r1 lx n1) ∧ w'.cell? ⟨b2, o2 + k, none⟩ = some (.slice r2 ly n2)) (first | go_keep)
            (first | (go_at_call 74; refine (S.out _ ((Below.refl _ _).drew)).mono ?_; rintro e w5 ⟨rfl, hb5⟩; have e1 := (hb5.cell (p := ⟨w.heap.size, 2, none⟩) hs0).trans g1r; have e2 := (hb5.cell (p := ⟨w.heap.size + 1, 2, none⟩) hs1).trans g2r; have e3 := (hb5.cell (p := ⟨b1, o1 + k, none⟩) hb1).trans c1; have e4 := (hb5.cell (p := ⟨b2, o2 + k, none⟩) hb2).trans c2))
          go_wp2
          go_ret
          rw [HF.out]
          exact ⟨rfl, hN.trans (((Below.refl _ _).drew.trans hb5).mono hN.size)⟩
        · rw [hr] at S
          have HF := Lib.hid (hyes hr)
          replace S := Lib.hid S
          clear hno hyes hr
          go_wp2
          go_region_held3 (fun w' => w'.cell? ⟨w.heap.size, 2, none⟩ = some (.slice (some ⟨b1, o1, none⟩) x.length c) ∧ w'.cell? ⟨w.heap.size + 1, 2, none⟩ = some (.slice (some ⟨b2, o2, none⟩) y.length d) ∧ w'.cell? ⟨b1, o1 + k, none⟩ = some (.slice r1 lx n1) ∧ w'.cell? ⟨b2, o2 + k, none⟩ = some (.slice r2 ly n2)) (first | go_keep)
            (first | (go_at_call 74; refine (S.out _ ((Below.refl _ _).drew)).mono ?_; rintro e w5 ⟨rfl, hb5⟩; have e1 := (hb5.cell (p := ⟨w.heap.size, 2, none⟩) hs0).trans g1r; have e2 := (hb5.cell (p := ⟨w.heap.size + 1, 2, none⟩) hs1).trans g2r; have e3 := (hb5.cell (p := ⟨b1, o1 + k, none⟩) hb1).trans c1; have e4 := (hb5.cell (p := ⟨b2, o2 + k, none⟩) hb2).trans c2))
          go_wp2
          go_roundw
          case rel => exact ⟨k + 1, by omega, by go_num, HF, hbl.trans (((Below.refl _ _).drew.trans hb5).mono hbl.size)⟩
          case measure => (simp [intOf]; try omega)
      · obtain rfl : k = x.length := by omega
        have HF := Lib.hid (HS.out.trans (rowsS_yes hall.out))
        go_wp2
        go_ret
        rw [HF.out]
        exact ⟨rfl, hN⟩
  · have HS := Lib.hid hs
    clear hs hxr hyr HA HB
    rcases h with h | ⟨h, h2⟩ | ⟨h, h2, h3⟩ | ⟨h, h2, h3, h4⟩ | ⟨h, h2, h3, h4, h5⟩
    all_goals
      go_enter Tryd.func19, Tryd.ntmps19
      go_wp2
      go_ret
      rw [HS.out]
      exact ⟨rfl, hb0⟩
end Go.Proofs.YtcdecnmhogmhaaaDoor
