/-
  Joined: R23 R39 R31.
-/
import Derived.Test.YtcdecnmhogmhaaaDoorJ06
import Derived.Test.YtcdecnmhogmhaaaDoorJ07
import Derived.Test.YtcdecnmhogmhaaaDoorJ09
set_option linter.unusedVariables false
set_option linter.unusedSimpArgs false
set_option maxRecDepth 100000
set_option linter.unusedVariables false
set_option linter.unusedSimpArgs false
namespace Go.Proofs.YtcdecnmhogmhaaaDoor
open Go.RowKit
/-- Rows of the call's own, under way. -/
structure OutM (w : World) (B : Nat) (v : Value) (vs : List Value) (Ls : List (List Cl)) : Prop where
  len : vs.length = Ls.length
  out : w.ownsRow B 36 1 v Ls.length vs
  rows : ∀ i, i < Ls.length → ∃ u, vs[i]? = some u ∧ ownC w B u (Ls.getD i [])
theorem OutM.nil (w : World) (B : Nat) : OutM w B (.slice none 0 0) [] [] := ⟨rfl, World.ownsRow_nil _ _ _ _, fun i hi => absurd hi (by simp)⟩
theorem OutM.below {w w' : World} {B : Nat} {v : Value} {vs : List Value} {Ls : List (List Cl)} (h : OutM w B v vs Ls) (hb : Below w.heap.size w w') : OutM w' B v vs Ls :=
  ⟨h.len, ownB h.out hb, fun i hi => by
    obtain ⟨u, h1, h2⟩ := h.rows i hi
    exact ⟨u, h1, ownB h2 hb⟩⟩
theorem OutM.set {w : World} {B : Nat} {v : Value} {vs : List Value} {Ls : List (List Cl)} (h : OutM w B v vs Ls) {p : Addr} {cs : Array Value} {T : TypeId} {fr : Nat × Nat} (hp : w.heap[p.block]? = some (.cells cs T fr)) (h1 : T ≠ 36) (h2 : T ≠ 51) (u : Value) : OutM (w.setCell p u) B v vs Ls :=
  ⟨h.len, own_set h.out (own_ne_kind h.out hp h1) u, fun i hi => by
    obtain ⟨x, g1, g2⟩ := h.rows i hi
    exact ⟨x, g1, own_set g2 (own_ne_kind g2 hp h2) u⟩⟩
theorem OutM.push {w w' : World} {B : Nat} {v v' u : Value} {vs : List Value} {Ls : List (List Cl)} {R : List Cl} (h : OutM w B v vs Ls) (hu : ownC w B u R) (hg : w.grownBy w' v.ownBlock) (ho : w'.ownsRow B 36 1 v' (Ls.length + 1) (vs ++ [u])) : OutM w' B v' (vs ++ [u]) (Ls ++ [R]) :=
  ⟨by simp [h.len], by rw [List.length_append]; exact ho, fun i hi => by
    rcases Nat.lt_or_ge i Ls.length with hi' | hi'
    · obtain ⟨x, h1, h2⟩ := h.rows i hi'
      exact ⟨x, by rw [List.getElem?_append_left (by rw [h.len]; exact hi')]; exact h1, by rw [getD_app _ _ _ _ hi']; exact World.ownsRow.kept h2 hg (own_ne_own h2 h.out (by decide))⟩
    · obtain rfl : i = Ls.length := by simp at hi; omega
      exact ⟨u, by rw [← h.len, List.getElem?_append_right (Nat.le_refl _), Nat.sub_self]; rfl, by rw [getD_end]; exact World.ownsRow.kept hu hg (own_ne_own hu h.out (by decide))⟩⟩
theorem OutM.done {w : World} {B : Nat} {v : Value} {vs : List Value} {Ls : List (List Cl)} (h : OutM w B v vs Ls) : ∃ ra rc, v = .slice ra Ls.length rc ∧ RowsC w ra Ls := by
  rcases Nat.eq_zero_or_pos Ls.length with h0 | h0
  · rcases h.out.2 with ⟨rfl, _⟩ | ⟨g, cap, cur, rfl, _⟩
    · exact ⟨none, 0, by rw [h0], fun i hi => absurd hi (by omega)⟩
    · exact ⟨_, _, rfl, fun i hi => absurd hi (by omega)⟩
  · obtain ⟨g, cap, rfl, hB, hlt⟩ := h.out.form h0
    refine ⟨_, cap, rfl, fun i hi => ?_⟩
    obtain ⟨u, h1, h2⟩ := h.rows i hi
    obtain ⟨a, c, rfl, h3, h4⟩ := cells_of_ownN h2
    exact ⟨g, 0, a, c, rfl, hlt, by rw [Nat.zero_add, h.out.cellAt i (by omega), h1], h3, h4⟩
theorem add_small (a : Nat) (h : a ≤ 1000000) : (((a : Int) + 1) + 9223372036854775808) % 18446744073709551616 - 9223372036854775808 = (a : Int) + 1 := by omega
theorem add2_small (a b : Nat) (h : a ≤ 1000000) (h2 : b ≤ 1000000) : (((a : Int) + (b : Int)) + 9223372036854775808) % 18446744073709551616 - 9223372036854775808 = (a : Int) + (b : Int) := by omega
theorem scR_succ (L : List Cl) (w t k : Nat) : scR L w t (k + 1) = scR L w t k ++ [fillN (rwS L w ((t + k : Nat) : Int) L.length) (w - (rwS L w ((t + k : Nat) : Int) L.length).length)] := by simp [scR, List.range_succ]
set_option maxHeartbeats 8000000 in
theorem scr_ref (p l : List (Int × Int)) (a b : Option Addr) (c d at_ wd h : Nat) (w : World) (hp : p.length ≤ 1000) (hl : l.length ≤ 1000) (ha : Signs w a p) (hb : Signs w b l) (hat : at_ ≤ l.length) (hw1 : 1 ≤ wd) (hw2 : wd ≤ 1000) (hh1 : 1 ≤ h) (hh2 : h ≤ 1000) (hP : sgC p = true) (hL : sgC l = true) :
    Calls Tryd.prog 17 #[.slice a p.length c, .slice b l.length d, .int .i64 at_, .int .i64 wd, .int .i64 h] w fun e w' => ∃ ra rc, e = .returned (.agg #[.int .i64 wd, .int .i64 h, .slice ra h rc, .int .i64 ((curP (vwOf p l) wd at_).1 - topP (vwOf p l) wd at_ h), .int .i64 (curP (vwOf p l) wd at_).2]) ∧
      RowsC w' ra (scR (vwOf p l) wd (topP (vwOf p l) wd at_ h) h) ∧ Below w.heap.size w w' := by
  have N0 := below_alloc w (.cells #[.int .i64 0, .int .i64 0, .slice none 0 0, .int .i64 0, .int .i64 0] 28)
  have HA := ha.below N0; have HB := hb.below N0
  have q0 := heap_alloc_new w (.cells #[.int .i64 0, .int .i64 0, .slice none 0 0, .int .i64 0, .int .i64 0] 28)
  have V := Lib.hid (vof_ref p l a b c d _ hp hl HA HB hP hL)
  have hle := vw_le p l
  obtain ⟨r, cc, hcur, hrt⟩ := curP_rng (vwOf p l) wd at_
  obtain ⟨R, C, hend, _⟩ := spAll_rng (vwOf p l) wd (vwOf p l).length (Nat.le_refl _)
  have hlyl := lyRows_len (vwOf p l) wd
  rw [hend] at hlyl
  have htot : (lyRows (vwOf p l) wd).length = R + 1 := by rw [hlyl]; show ((R : Int)).toNat + 1 = R + 1; omega
  have htop : topP (vwOf p l) wd at_ h = topN (R + 1) r h := by unfold topP; rw [hcur, htot]; rfl
  rw [htop, hcur]
  have hcur2 : (spAll (vwOf p l) wd).getD (fstM (vwOf p l) at_) (0, 0) = ((r : Int), (cc : Int)) := hcur
  have hfl := fstM_le (vwOf p l) at_
  have hlay := rowOk_lay (rowOk_vw p l)
  have hly := lyRows_le (vwOf p l) wd
  rw [htot] at hly hrt
  have hspl := spAll_len (vwOf p l) wd
  clear ha hb HA HB htop hcur hlyl htot
  generalize vwOf p l = L at *
  obtain ⟨ht1, ht2, _⟩ := topN_le (R + 1) r h hrt
  have TP := Lib.hid (fun w => by
    have := top_ref (R + 1) r h w (by omega) (by omega) (by omega)
    rw [show ((R + 1 : Nat) : Int) = (R : Int) + 1 by omega] at this
    exact this)
  have SP := Lib.hid (fun a c w (h : CellsIn w a L) => spots_ref L wd a c w (by omega) (by omega) (by omega) hlay h)
  have RW := Lib.hid (fun (k : Int) a c w (h : CellsIn w a L) => row_ref L wd k a c w (by omega) (by omega) (by omega) hlay h)
  have FI := fun a c w (h : CellsIn w a L) => first_ref L at_ a c w (by omega) h
  have hrw := fun k => rwS_le L wd k L.length
  generalize fstM L at_ = fi at *
  replace FI := Lib.hid FI
  have hf0 : (0 : Int) ≤ fi := by omega
  have hf1 : (fi : Int) < (L.length : Int) + 1 := by omega
  have hf2 : (fi : Int) < ((L.length + 1 : Nat) : Int) := by omega
  have hl0 : (0 : Int) ≤ (L.length : Int) := by omega
  have hl1 : (L.length : Int) < (L.length : Int) + 1 := by omega
  have hLl : L.length ≤ 60000 := by omega
  have hRb : (R : Int) ≤ 100000 := by omega
  have htpb : r ≤ 100000 := by omega
  clear hle hly hlay
  generalize topN (R + 1) r h = tp at *
  go_enter Tryd.func17, Tryd.ntmps17
  go_upto_region 4 with (first
    | (go_at_call 22; refine V.out.mono ?_; rintro e w2 ⟨x, rfl, hown, hb2⟩; obtain ⟨xa, xc, rfl, hci, hxc⟩ := own_cells_cap hown; have HCI := Lib.hid hci; clear hci hown)
    | (go_at_call 23; refine (SP.out xa xc w2 HCI.out).mono ?_; rintro e w3 ⟨sv, rfl, hpl, hb3⟩; obtain ⟨pa, pc, rfl, hsg⟩ := spots_of_own hpl; rw [hspl]; have HS := Lib.hid hsg; clear hsg hpl)
    | (go_at_call 70; refine (FI.out xa xc w3 (HCI.out.below hb3)).mono ?_; rintro e w4 ⟨rfl, hb4⟩; obtain ⟨b2, o2, rfl, hbk, p1, p2⟩ := (HS.out.below hb4) fi (by omega); rw [hcur2] at p1 p2; simp only at p1 p2))
  have N4 : Below w.heap.size w w4 := ((N0.trans (hb2.mono (by simp))).trans (hb3.mono (Nat.le_trans (by simp) hb2.size))).trans (hb4.mono (Nat.le_trans (Nat.le_trans (by simp) hb2.size) hb3.size))
  have q4 := blk_below (blk_below (blk_below q0 hb2) hb3) hb4
  obtain ⟨b3, o3, e3, hbk3, p3, _⟩ := (HS.out.below hb4) L.length (by omega)
  obtain ⟨rfl, rfl⟩ : b2 = b3 ∧ o2 = o3 := by simpa using e3
  rw [hend] at p3
  simp only at p3
  have HC4 := Lib.hid ((HCI.out.below hb3).below hb4)
  have t5 := heap_alloc_new w4 (.cells #[.int .i64 (r : Int), .int .i64 (cc : Int)] 45)
  have u0 := (World.cell?_alloc_lt w4 (.cells #[.int .i64 (r : Int), .int .i64 (cc : Int)] 45) (⟨b2, o2 + L.length * 2, none⟩ : Addr) hbk3).trans p3
  have u1 : (w4.alloc (.cells #[.int .i64 (r : Int), .int .i64 (cc : Int)] 45)).cell? ⟨w4.heap.size, 0, none⟩ = some (.int .i64 r) := by rw [cell_of_row _ _ _ _ _ _ t5]; rfl
  clear hb2 hb3 hb4 HS HCI FI SP V p1 p2 p3 q0 N0 hcur2 hend e3
  have hwR : IntKind.i64.wrap ((R : Int) + 1) = (R : Int) + 1 := by rw [IntKind.wrap_i64]; exact add_small R (by omega)
  go_region_held3 (fun w' => w'.cell? ⟨b2, o2 + L.length * 2, none⟩ = some (.int .i64 R) ∧ w'.cell? ⟨w4.heap.size, 0, none⟩ = some (.int .i64 r)) (first | exact ⟨u0, u1⟩ | go_keep)
    (first | (go_at_call 71; refine (TP.out _).mono ?_; rintro e w5 ⟨rfl, rfl⟩))
  have hwr : True → IntKind.i64.wrap ((r : Int) - (tp : Int)) = (r : Int) - (tp : Int) := fun _ => by rw [IntKind.wrap_i64]; exact sub_small r tp (by omega) (by omega)
  have t6 := blk_alloc t5 (.cells #[.int .i64 wd, .int .i64 h, .slice none 0 0, .int .i64 ((r : Int) - tp), .int .i64 cc] 28)
  go_wp2
  have z5 : (w4.alloc (.cells #[.int .i64 (r : Int), .int .i64 (cc : Int)] 45)).heap.size = w4.heap.size + 1 := by simp
  have F2 := heap_alloc_new (w4.alloc (.cells #[.int .i64 (r : Int), .int .i64 (cc : Int)] 45)) (.cells #[.int .i64 wd, .int .i64 h, .slice none 0 0, .int .i64 ((r : Int) - tp), .int .i64 cc] 28)
  rw [z5] at F2
  have N6 := (((Below.refl w4.heap.size w4).alloc (Nat.le_refl _) (.cells #[.int .i64 (r : Int), .int .i64 (cc : Int)] 45)).alloc (by rw [z5]; omega) (.cells #[.int .i64 wd, .int .i64 h, .slice none 0 0, .int .i64 ((r : Int) - tp), .int .i64 cc] 28)).drew
  replace F2 := Lib.hid F2
  have hr4 := blk_lt q4
  have HQ4 := Lib.hid q4; have HN4 := Lib.hid N4
  clear t5 t6 u0 u1 q4 N4 hwr hwR z5 TP
  go_loopw [16] (fun iv wr => ∃ (k : Nat) (v : Value) (vs : List Value), k ≤ h ∧ iv = .int .i64 (k : Int) ∧ Hid (OutM wr w4.heap.size v vs (scR L wd tp k)) ∧ Hid (wr.heap[w4.heap.size + 1]? = some (.cells #[.int .i64 wd, .int .i64 h, v, .int .i64 ((r : Int) - tp), .int .i64 cc] 28 (0, 0))) ∧ Below w4.heap.size w4 wr) (fun iv _ => h - (intOf iv).toNat)
  case atStart => exact ⟨0, _, _, Nat.zero_le _, rfl, Lib.hid (OutM.nil _ _), F2, N6⟩
  case round =>
    obtain ⟨k, v, vs, hk, rfl, hM, hS, hbl⟩ := hrel
    have hslt := blk_lt hS.out
    have hC := Lib.hid (HC4.out.below hbl)
    have hsz := hbl.size
    have hsb4 : w4.heap.size ≤ w4.heap.size + 1 := by omega
    generalize hsbe : w4.heap.size + 1 = sb at *
    by_cases hlt : k < h
    · have hk1 : (k : Int) < h := by omega
      have hk0 : (0 : Int) ≤ k := by omega
      obtain ⟨i1, hj, hy0, hy1, hy2⟩ := info_parts infoCS
      have c2 : wr.cell? ⟨sb, 2, none⟩ = some v := by rw [cell_of_row _ _ _ _ _ _ hS.out]; rfl
      have hown := hM.out.out
      rw [scR_len] at hown
      have Hown := Lib.hid hown
      have nsb := own_ne_kind hown hS.out (by decide)
      clear hown
      have hst := scR_succ L wd tp k
      rw [show ((tp + k : Nat) : Int) = (tp : Int) + (k : Int) by omega] at hst
      have RK := RW.out ((tp : Int) + (k : Int)) xa xc wr.drew (show CellsIn wr.drew xa L from hC.out)
      have hrk := hrw ((tp : Int) + (k : Int))
      have FK := fun a c w h1 h2 => fill_ref (rwS L wd ((tp : Int) + (k : Int)) L.length) wd a c w (by omega) hw2 h1 h2
      have hwk : IntKind.i64.wrap ((tp : Int) + (k : Int)) = (tp : Int) + (k : Int) := by rw [IntKind.wrap_i64]; exact add2_small tp k (by omega) (by omega)
      generalize rwS L wd ((tp : Int) + (k : Int)) L.length = Rk at *
      have Hst := Lib.hid hst; replace RK := Lib.hid RK; replace FK := Lib.hid FK
      clear hst
      go_wp2
      go_region_law (first
        | (go_simp; go_at_call 73; refine RK.out.mono ?_; rintro e w5 ⟨x5, rfl, own5, hb5⟩; have N5 : Below wr.heap.size wr w5 := ⟨hb5.os, hb5.tape, hb5.output, hb5.size, hb5.block⟩; obtain ⟨ra5, rc5, rfl, hc5, hn5⟩ := cells_of_ownN own5; have e5 := (N5.cell (p := ⟨sb, 2, none⟩) hslt).trans c2; have s5 := N5.size)
        | (go_simp; go_at_call 72; refine (FK.out ra5 rc5 w5 hc5 hn5).mono ?_; rintro e w6 ⟨x6, rfl, own6, hb6⟩; obtain ⟨xa6, xc6, rfl, _⟩ := cells_of_own own6; have hs6 : sb < w6.heap.size := Nat.lt_of_lt_of_le (Nat.lt_of_lt_of_le hslt N5.size) hb6.size; have e6 := (hb6.cell (p := ⟨sb, 2, none⟩) (Nat.lt_of_lt_of_le hslt N5.size)).trans e5; have e6a := fun o => (World.cell?_alloc_lt w6 o (⟨sb, 2, none⟩ : Addr) hs6).trans e6; have S6 := blk_below (blk_below hS.out N5) hb6; have e6f := fun o => frozen_of_row (w6.alloc o) sb 2 _ _ (blk_alloc S6 o); have O6 := ownB (ownB Hown.out N5) hb6; have sz6 := hb6.size)
        | (refine step_append_lies _ (by rfl) _ _ _ (by rfl) w4.heap.size 36 i1 _ 1 24 Tryd.underlying26 hj hy0 hy1 hy2 rfl (by decide) _ k vs (by rfl) (World.ownsRow.alloc O6 _) ⟨w6.heap.size, 0, none⟩ 1 1 [.slice xa6 (fillN Rk (wd - Rk.length)).length xc6] (by rfl) (by rfl) (fun j x hj => app_cells rfl hj) (by simp [Value.oneCell']) (by omega) (by unfold maxLen; omega) (by omega) (by simp; omega) (w6.heap.size + 1) (by simp) ?_; intro gg cap7 w7 hown7 hgrow7 hat7 hlt7; have e7 := (hgrow7.cell_far ⟨sb, 2, none⟩ (by simp; omega) (Ne.symm nsb)).trans (e6a _); have e7f := (hgrow7.frozen_far ⟨sb, 2, none⟩ (by simp; omega) (Ne.symm nsb)).trans (e6f _)))
      all_goals
        have B6 := below_alloc w6 (.cells #[.slice xa6 (fillN Rk (wd - Rk.length)).length xc6] 36)
        have hs4 : w4.heap.size ≤ w5.heap.size := by omega
        have M7 := OutM.push (((hM.out.below N5).below hb6).below B6) (World.ownsRow.alloc (ownC_mono own6 hs4) _) hgrow7 (by rw [scR_len]; exact hown7)
        have S7 := (hgrow7.block sb (by simp; omega) (Ne.symm nsb)).trans (blk_alloc S6 (.cells #[.slice xa6 (fillN Rk (wd - Rk.length)).length xc6] 36))
        have M8 := Lib.hid (OutM.set M7 (p := ⟨sb, 2, none⟩) S7 (by decide) (by decide) (.slice (some ⟨gg, 0, none⟩) (k + 1) cap7))
        have S8 := Lib.hid (blk_set S7 2 (.slice (some ⟨gg, 0, none⟩) (k + 1) cap7))
        have N8 := ((((hbl.trans (N5.mono hbl.size)).trans (hb6.mono hs4)).alloc (by omega) (.cells #[.slice xa6 (fillN Rk (wd - Rk.length)).length xc6] 36)).grown hgrow7 (by simp; omega) (fun i hi => (O6.lt i hi).1)).setCell (p := ⟨sb, 2, none⟩) hsb4 (.slice (some ⟨gg, 0, none⟩) (k + 1) cap7)
        clear M7 S7 B6 hgrow7 hown7 hat7 own5 own6 hb5 hb6 hc5
        go_wp2
        go_roundw
        case rel => exact ⟨k + 1, _, _, by omega, by go_num, Lib.hid (by rw [Hst.out]; exact M8.out), Lib.hid (by simpa using S8.out), N8⟩
        case measure => first | (simp [intOf]; omega) | (simp; omega)
    · obtain rfl : k = h := by omega
      have hk1 : ¬ (k : Int) < k := by omega
      obtain ⟨ra, rc, rfl, _⟩ := hM.out.done
      rw [scR_len] at hS
      have b3 := fun i => cell_of_row _ _ i _ _ _ hS.out
      have s0 : wr.cell? ⟨sb, 0, none⟩ = some (.int .i64 wd) := by rw [b3]; rfl
      have s1 : wr.cell? ⟨sb, 1, none⟩ = some (.int .i64 k) := by rw [b3]; rfl
      have s2 : wr.cell? ⟨sb, 2, none⟩ = some (.slice ra k rc) := by rw [b3]; rfl
      have s3 : wr.cell? ⟨sb, 3, none⟩ = some (.int .i64 ((r : Int) - tp)) := by rw [b3]; rfl
      have s4 : wr.cell? ⟨sb, 4, none⟩ = some (.int .i64 cc) := by rw [b3]; rfl
      have h0 : wr.heap[w.heap.size]? = _ := (hbl.block w.heap.size hr4).trans HQ4.out
      have b0 := fun i => cell_of_row _ _ i _ _ _ h0
      have r0 : wr.cell? ⟨w.heap.size, 0, none⟩ = some (.int .i64 0) := by rw [b0]; rfl
      have r1 : wr.cell? ⟨w.heap.size, 1, none⟩ = some (.int .i64 0) := by rw [b0]; rfl
      have r2 : wr.cell? ⟨w.heap.size, 2, none⟩ = some (.slice none 0 0) := by rw [b0]; rfl
      have r3 : wr.cell? ⟨w.heap.size, 3, none⟩ = some (.int .i64 0) := by rw [b0]; rfl
      have r4 : wr.cell? ⟨w.heap.size, 4, none⟩ = some (.int .i64 0) := by rw [b0]; rfl
      have rf := fun i => frozen_of_row _ w.heap.size i _ _ h0
      have hsn : w.heap.size ≠ sb := by omega
      have hsn2 : sb ≠ w.heap.size := by omega
      have hfin := Lib.hid (scr_set h0 wd k (.slice ra k rc) ((r : Int) - tp) cc)
      have NF := Lib.hid (scr_set_below wr w w.heap.size (.int .i64 wd) (.int .i64 k) (.slice ra k rc) (.int .i64 ((r : Int) - tp)) (.int .i64 cc) (Nat.le_refl _) (HN4.out.trans (hbl.mono (Nat.le_of_lt hr4))))
      have HRF := Lib.hid (OutM.set (OutM.set (OutM.set (OutM.set (OutM.set hM.out (p := ⟨w.heap.size, 0, none⟩) h0 (by decide) (by decide) (.int .i64 wd)) (p := ⟨w.heap.size, 1, none⟩) (blk_set h0 _ _) (by decide) (by decide) (.int .i64 k)) (p := ⟨w.heap.size, 2, none⟩) (blk_set (blk_set h0 _ _) _ _) (by decide) (by decide) (.slice ra k rc)) (p := ⟨w.heap.size, 3, none⟩) (blk_set (blk_set (blk_set h0 _ _) _ _) _ _) (by decide) (by decide) (.int .i64 ((r : Int) - tp))) (p := ⟨w.heap.size, 4, none⟩) (blk_set (blk_set (blk_set (blk_set h0 _ _) _ _) _ _) _ _) (by decide) (by decide) (.int .i64 cc))
      rw [scR_len] at HRF
      clear b0 b3 h0 hsz hC
      go_wp2
      generalize hWF : World.setCell _ _ _ = WF
      have hq : WF.heap[w.heap.size]? = some (.cells #[.int .i64 wd, .int .i64 k, .slice ra k rc, .int .i64 ((r : Int) - tp), .int .i64 cc] 28 (0, 0)) := by rw [← hWF]; exact hfin.out
      have hN : Below w.heap.size w WF := by rw [← hWF]; exact NF.out
      have hO : OutM WF w4.heap.size (.slice ra k rc) vs (scR L wd tp k) := by rw [← hWF]; exact HRF.out
      obtain ⟨ra', rc', e', hR⟩ := hO.done
      obtain rfl : ra = ra' := (Value.slice.inj e').1
      have y := fun i => cell_of_row _ _ i _ _ _ hq
      have y0 : WF.cell? ⟨w.heap.size, 0, none⟩ = some (.int .i64 wd) := by rw [y]; rfl
      have y1 : WF.cell? ⟨w.heap.size, 1, none⟩ = some (.int .i64 k) := by rw [y]; rfl
      have y2 : WF.cell? ⟨w.heap.size, 2, none⟩ = some (.slice ra k rc) := by rw [y]; rfl
      have y3 : WF.cell? ⟨w.heap.size, 3, none⟩ = some (.int .i64 ((r : Int) - tp)) := by rw [y]; rfl
      have y4 : WF.cell? ⟨w.heap.size, 4, none⟩ = some (.int .i64 cc) := by rw [y]; rfl
      exact bodyPost_ret (v := .agg #[.int .i64 wd, .int .i64 k, .slice ra k rc, .int .i64 ((r : Int) - tp), .int .i64 cc]) (by
        simp [results, Tryd.results17, go_sem, y0, y1, y2, y3, y4]) rfl (by first | exact ⟨ra, rc, rfl, hR, hN⟩ | exact ⟨ra, ⟨rc, rfl⟩, hR, hN⟩)
end Go.Proofs.YtcdecnmhogmhaaaDoor
set_option linter.unusedVariables false
set_option linter.unusedSimpArgs false
namespace Go.Proofs.YtcdecnmhogmhaaaDoor
open Go.RowKit
theorem fits_top {L : List Cl} {w h at_ : Nat} (hf : ((spAll L w).getD L.length (0, 0)).1 < (h : Int)) : (lyRows L w).length ≤ h ∧ topP L w at_ h = 0 := by
  have hl := lyRows_len L w
  obtain ⟨r, c, e, _⟩ := spAll_rng L w L.length (Nat.le_refl _)
  rw [e] at hf hl
  simp only at hf hl
  have h1 : (lyRows L w).length ≤ h := by omega
  exact ⟨h1, by unfold topP topN; rw [if_pos h1]⟩
theorem fits_all {p x y : List (Int × Int)} {w h a b : Nat} (hw : 1 < w) (hx : sgC x = true) (hy : sgC y = true) (ha : a ≤ x.length) (hb : b ≤ y.length) (h1 : ((spAll (vwOf p x) w).getD (vwOf p x).length (0, 0)).1 < (h : Int)) (h2 : ((spAll (vwOf p y) w).getD (vwOf p y).length (0, 0)).1 < (h : Int))
    (hs : scrS w h ((curP (vwOf p x) w a).1 - topP (vwOf p x) w a h) (curP (vwOf p x) w a).2 w h ((curP (vwOf p y) w b).1 - topP (vwOf p y) w b h) (curP (vwOf p y) w b).2 (scR (vwOf p x) w (topP (vwOf p x) w a h) h) (scR (vwOf p y) w (topP (vwOf p y) w b h) h) = true) : x.map (·.1) = y.map (·.1) ∧ a = b := by
  obtain ⟨f1, t1⟩ := fits_top (at_ := a) h1
  obtain ⟨f2, t2⟩ := fits_top (at_ := b) h2
  rw [t1, t2] at hs
  rcases scrS_cases w h ((curP (vwOf p x) w a).1 - (0 : Nat)) (curP (vwOf p x) w a).2 w h ((curP (vwOf p y) w b).1 - (0 : Nat)) (curP (vwOf p y) w b).2 (scR (vwOf p x) w 0 h) (scR (vwOf p y) w 0 h) with ⟨e, _, _, e3, e4, _⟩ | ⟨e, _⟩
  · rw [e] at hs
    refine fits_apart hw hx hy f1 f2 ha hb hs ?_
    have e3' : (curP (vwOf p x) w a).1 = (curP (vwOf p y) w b).1 := by omega
    exact Prod.ext e3' e4
  · rw [e] at hs; cases hs
end Go.Proofs.YtcdecnmhogmhaaaDoor
set_option linter.unusedVariables false
set_option linter.unusedSimpArgs false
namespace Go.Proofs.YtcdecnmhogmhaaaDoor
open Go.RowKit
theorem row_le {L : List Cl} {w : Nat} (hw : 1 ≤ w) (hL : layB L = true) (i : Nat) : (rwS L w (i : Int) L.length).length ≤ w := by
  by_cases hi : i < (lyRows L w).length
  · have := (lyRows_ok (L := L) (w := w) (by omega) hL).1 _ (List.getElem_mem hi)
    rw [← getD_lt (d := []) hi, lyRows_at L w i hi] at this
    omega
  · rw [lyRows_more i (by omega)]; exact Nat.zero_le _
/-- The cell at the cursor. -/
def curC (L : List Cl) (w at_ h : Nat) : Cl := ((scR L w (topP L w at_ h) h).getD ((curP L w at_).1.toNat - topP L w at_ h) []).getD (curP L w at_).2.toNat cl0
theorem cur_what {L : List Cl} {w at_ h : Nat} (hw : 2 ≤ w) (hh : 1 ≤ h) (hL : layB L = true) : ∃ r c : Nat, curP L w at_ = ((r : Int), (c : Int)) ∧ topP L w at_ h ≤ r ∧ r - topP L w at_ h < h ∧ c < w ∧
    curC L w at_ h = if fstM L at_ < L.length then L.getD (fstM L at_) cl0 else clB := by
  obtain ⟨r, c, hc, hr⟩ := curP_rng L w at_
  have ht : topP L w at_ h = topN (lyRows L w).length r h := by unfold topP; rw [hc]; rfl
  obtain ⟨h1, _, h3⟩ := topN_le (lyRows L w).length r h hr
  rw [← ht] at h1 h3
  have hrow := row_le (by omega) hL r (L := L) (w := w)
  have hfl := fstM_le L at_
  have hcc : c < w ∧ (fillN (rwS L w (r : Int) L.length) (w - (rwS L w (r : Int) L.length).length)).getD c cl0 = if fstM L at_ < L.length then L.getD (fstM L at_) cl0 else clB := by
    unfold curP at hc
    by_cases hf : fstM L at_ < L.length
    · obtain ⟨k, e1, e2, e3⟩ := rw_place L w (by omega) (fstM L at_) hf
      rw [hc] at e1 e2 e3
      simp only at e1 e2 e3
      obtain rfl : c = k := by omega
      refine ⟨by omega, ?_⟩
      rw [if_pos hf, ← e3]
      unfold fillN
      exact getD_app _ _ _ _ e2
    · have hfe : fstM L at_ = L.length := by omega
      rw [hfe] at hc
      have e := rw_end L w
      rw [hc] at e
      simp only at e
      have hne : c < w := by
        have hs := spAll_end L w
        rw [hc] at hs
        split at hs
        · have : (c : Int) = 0 := (Prod.mk.inj hs).2
          omega
        · rename_i h'
          have : (c : Int) = (spS L w L.length).2.2 := congrArg Prod.snd hs
          omega
      refine ⟨hne, ?_⟩
      rw [if_neg hf]
      have el : (rwS L w (r : Int) L.length).length = c := by omega
      unfold fillN
      rw [getD_rt _ _ _ _ (by omega), el, Nat.sub_self]
      obtain ⟨m, hm⟩ : ∃ m, w - c = m + 1 := ⟨w - c - 1, by omega⟩
      rw [hm]; rfl
  refine ⟨r, c, hc, h1, h3 hh, hcc.1, ?_⟩
  unfold curC
  rw [hc]
  show ((scR L w (topP L w at_ h) h).getD ((r : Int).toNat - topP L w at_ h) []).getD (c : Int).toNat cl0 = _
  rw [Int.toNat_natCast, Int.toNat_natCast, scR_at _ _ _ _ _ (h3 hh), show topP L w at_ h + (r - topP L w at_ h) = r by omega]
  exact hcc.2
/-- In the line: the first cell of the sign; at its end: none. -/
theorem cur_line {p l : List (Int × Int)} {w at_ h : Nat} (hw : 2 ≤ w) (hh : 1 ≤ h) (hl : sgC l = true) (hat : at_ ≤ l.length) :
    (at_ < l.length → ∃ v a, curC (vwOf p l) w at_ h = (v, a, (at_ : Int), (l.getD at_ (0, 0)).1, 0)) ∧ (at_ = l.length → curC (vwOf p l) w at_ h = clB) := by
  obtain ⟨r, c, _, _, _, _, e⟩ := cur_what (L := vwOf p l) (w := w) (at_ := at_) (h := h) hw hh (rowOk_lay (rowOk_vw p l))
  have hf := fst_line p l hl at_ hat
  have hlen := vw_len p l
  rw [e, hf]
  refine ⟨fun h' => ?_, fun h' => ?_⟩
  · have := lnM_lt hl h'
    have h2 := lnM_mono l (at_ + 1) l.length (by omega)
    rw [if_pos (by omega)]
    exact vw_first p l hl at_ h'
  · subst h'
    rw [if_neg (by omega)]
/-- All rows of a screen may be. -/
theorem scr_full (p l : List (Int × Int)) {w : Nat} (hw : 2 ≤ w) (t h : Nat) : ∀ i, i < h → ((scR (vwOf p l) w t h).getD i []).length = w ∧ FullOk ((scR (vwOf p l) w t h).getD i []) := fun i hi => by
  have hok := rowOk_vw p l
  have hle := row_le (by omega) (rowOk_lay hok) (t + i) (L := vwOf p l) (w := w)
  rw [scR_at _ _ _ _ i hi]
  refine ⟨by rw [fillN_len]; omega, full_ok ?_ _⟩
  by_cases hlt : t + i < (lyRows (vwOf p l) w).length
  · rw [← lyRows_at _ _ _ hlt, getD_lt hlt]
    exact (lyRows_ok (L := vwOf p l) (w := w) (by omega) (rowOk_lay hok)).2 (by omega) hok _ (List.getElem_mem _)
  · rw [lyRows_more _ (by omega)]; exact rowOk_nil
end Go.Proofs.YtcdecnmhogmhaaaDoor
