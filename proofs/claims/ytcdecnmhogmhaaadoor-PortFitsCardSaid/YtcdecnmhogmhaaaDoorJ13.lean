/-
  Joined: R22.
-/
import Derived.Test.YtcdecnmhogmhaaaDoorJ12
import Derived.Deep.CutRange
set_option linter.unusedVariables false
set_option linter.unusedSimpArgs false
namespace Go.Proofs.YtcdecnmhogmhaaaDoor
set_option maxRecDepth 100000
open Go.RowKit
/-- The cursor's place among the rows; the first row that is shown. -/
def curP (L : List Cl) (w at_ : Nat) : Int × Int := (spAll L w).getD (fstM L at_) (0, 0)
def topP (L : List Cl) (w at_ h : Nat) : Nat := topN (lyRows L w).length (curP L w at_).1.toNat h
theorem fstM_le (L : List Cl) (i : Int) : fstM L i ≤ L.length := List.findIdx_le_length
theorem curP_rng (L : List Cl) (w at_ : Nat) : ∃ r c : Nat, curP L w at_ = ((r : Int), (c : Int)) ∧ r < (lyRows L w).length := spAll_rng L w _ (fstM_le L at_)
theorem wrap_small (n : Int) (h0 : 0 ≤ n) (h1 : n ≤ 9223372036854775807) : wrap64 n = n := by unfold wrap64; omega
theorem min_cast (a b c : Nat) : min ((a : Int) + (b : Int)) (c : Int) = ((min (a + b) c : Nat) : Int) := by omega
theorem sub_small (a b : Nat) (h : a ≤ 1000000) (h2 : b ≤ a) : (((a : Int) - (b : Int)) + 9223372036854775808) % 18446744073709551616 - 9223372036854775808 = (a : Int) - (b : Int) := by omega
theorem min_ne (a b c : Nat) (h : a < c) (h2 : 1 ≤ b) : ¬ min (a + b) c = a := by omega
theorem min_ge (a b c : Nat) (h : a ≤ c) : a ≤ min (a + b) c := by omega
set_option maxHeartbeats 8000000 in
theorem scr_any (p l : List (Int × Int)) (a b : Option Addr) (c d at_ wd h : Nat) (w : World) (hp : p.length ≤ 1000) (hl : l.length ≤ 1000) (ha : Signs w a p) (hb : Signs w b l) (hT : Tabs w) (hat : at_ ≤ l.length) (hw1 : 1 ≤ wd) (hw2 : wd ≤ 1000) (hh1 : 1 ≤ h) (hh2 : h ≤ 1000) (hP : sgC p = true) (hL : sgC l = true) :
    Calls Tryd.prog 14 #[.slice a p.length c, .slice b l.length d, .int .i64 at_, .int .i64 wd, .int .i64 h] w fun e w' => ∃ g : Nat, e = .returned (.tuple #[.agg #[.int .i64 wd, .int .i64 h, .slice (some ⟨g, 0, none⟩) h h, .int .i64 ((curP (vwOf p l) wd at_).1 - topP (vwOf p l) wd at_ h), .int .i64 (curP (vwOf p l) wd at_).2], .int .i64 0]) ∧
      RowsB w' g (scR (vwOf p l) wd (topP (vwOf p l) wd at_ h) h) ∧ Below w.heap.size w w' := by
  have N0 := below_alloc w (.cells #[.int .i64 0, .int .i64 0, .slice none 0 0, .int .i64 0, .int .i64 0] 28)
  have HA := ha.below N0; have HB := hb.below N0
  have q0 := heap_alloc_new w (.cells #[.int .i64 0, .int .i64 0, .slice none 0 0, .int .i64 0, .int .i64 0] 28)
  have hlt : w.heap.size < (w.alloc (.cells #[.int .i64 0, .int .i64 0, .slice none 0 0, .int .i64 0, .int .i64 0] 28)).heap.size := by simp
  have hsw := sideB_yes wd hw1 hw2
  have hsh := sideB_yes h hh1 hh2
  have h1 : ¬ (at_ : Int) < 0 := by omega
  have h2 : ¬ (l.length : Int) < (at_ : Int) := by omega
  have V := Lib.hid (vof_yes p l a b c d _ hp hl HA HB (hT.below N0) hP hL)
  have hle := vw_le p l
  obtain ⟨r, cc, hcur, hrt⟩ := curP_rng (vwOf p l) wd at_
  have htop : topP (vwOf p l) wd at_ h = topN (lyRows (vwOf p l) wd).length r h := by unfold topP; rw [hcur]; rfl
  rw [htop, hcur]
  have hcur2 : (spAll (vwOf p l) wd).getD (fstM (vwOf p l) at_) (0, 0) = ((r : Int), (cc : Int)) := hcur
  have hfl := fstM_le (vwOf p l) at_
  have hlay := rowOk_lay (rowOk_vw p l)
  have hly := lyRows_le (vwOf p l) wd
  have hspl := spAll_len (vwOf p l) wd
  clear ha hb HA HB htop hcur
  generalize vwOf p l = L at *
  obtain ⟨ht1, ht2, _⟩ := topN_le (lyRows L wd).length r h hrt
  have hcl := fun i => cut_len L wd (topN (lyRows L wd).length r h) h i hw1 hlay
  have hfc := filR_cut L wd (topN (lyRows L wd).length r h) h
  have hclen : (((lyRows L wd).drop (topN (lyRows L wd).length r h)).take (min (topN (lyRows L wd).length r h + h) (lyRows L wd).length - topN (lyRows L wd).length r h)).length = min (topN (lyRows L wd).length r h + h) (lyRows L wd).length - topN (lyRows L wd).length r h := by rw [List.length_take, List.length_drop]; omega
  have TP := Lib.hid (fun w => top_any (lyRows L wd).length r h w (by omega) (by omega) (by omega))
  have hcutAny := fun {w : World} {b off : Nat} (hh : RowsC w (some ⟨b, off, none⟩) (lyRows L wd)) => hh.cut (topN (lyRows L wd).length r h) (min (topN (lyRows L wd).length r h + h) (lyRows L wd).length - topN (lyRows L wd).length r h)
  have LY := Lib.hid (fun a c w (h : CellsIn w a L) (hc : L.length ≤ c) => lay_any L wd a c w (by omega) (by omega) (by omega) hlay h hc)
  have FI := fun a c w (h : CellsIn w a L) => first_any L at_ a c w (by omega) h
  generalize fstM L at_ = fi at *
  replace FI := Lib.hid FI
  have hf0 : (0 : Int) ≤ fi := by omega
  have hf1 : (fi : Int) < (L.length : Int) + 1 := by omega
  have hf2 : (fi : Int) < ((L.length + 1 : Nat) : Int) := by omega
  generalize hT0 : topN (lyRows L wd).length r h = tp at *
  generalize hTot : (lyRows L wd).length = tot at *
  have htot : tot ≤ 100000 := by omega
  have HLE := Lib.hid hle
  obtain ⟨en, hen⟩ : ∃ en : Nat, en = min (tp + h) tot := ⟨_, rfl⟩
  have hte : tp ≤ en := by rw [hen]; exact min_ge tp h tot ht2
  have hne : ¬ en = tp := by rw [hen]; exact min_ne tp h tot (by omega) hh1
  have hte2 : (tp : Int) ≤ (en : Int) := by omega
  have het : en ≤ tot := by rw [hen]; exact Nat.min_le_right _ _
  rw [← hen] at hfc hclen hcl hcutAny
  have HEN := Lib.hid hen
  have HT0 := Lib.hid hT0; have HTot := Lib.hid hTot
  clear hen hT0 hTot hly hle hlay
  replace hfc := Lib.hid hfc; replace hclen := Lib.hid hclen; replace hcl := Lib.hid hcl
  have hcutAny := Lib.hid (fun w b off hh => @hcutAny w b off hh)
  have hrne : 0 < tot := by omega
  go_enter Tryd.func14, Tryd.ntmps14
  go_upto_region 11 with (first
    | (go_at_call 64; refine (side_any _ _).mono ?_; rintro e w1 ⟨rfl, rfl⟩)
    | (go_at_call 65; refine V.out.mono ?_; rintro e w2 ⟨x, rfl, hown, hb2⟩; obtain ⟨xa, xc, rfl, hci, hxc⟩ := own_cells_cap hown; have HCI := Lib.hid hci; clear hci hown)
    | (go_at_call 66; refine (LY.out xa xc w2 HCI.out hxc).mono ?_; rintro e w3 ⟨v, pv, rfl, ⟨ra, rc, rfl, hrc, hrows⟩, hpl, hb3⟩; obtain ⟨pa, pc, rfl, hsg⟩ := places_of_own hpl; rw [hspl]; have HR := Lib.hid hrows; have HS := Lib.hid hsg; clear hrows hsg hpl)
    | (go_at_call 67; refine (FI.out xa xc w3 (HCI.out.below hb3)).mono ?_; rintro e w4 ⟨rfl, hb4⟩; obtain ⟨b2, o2, rfl, hbk, p1, p2⟩ := (HS.out.below hb4) fi (by omega); rw [hcur2] at p1 p2; simp only at p1 p2)
    | (go_at_call 63; refine (TP.out _).mono ?_; rintro e w5 ⟨rfl, rfl⟩))
  have N4 : Below w.heap.size w w4 := ((N0.trans (hb2.mono (by simp))).trans (hb3.mono (Nat.le_trans (by simp) hb2.size))).trans (hb4.mono (Nat.le_trans (Nat.le_trans (by simp) hb2.size) hb3.size))
  have q4 := blk_below (blk_below (blk_below q0 hb2) hb3) hb4
  have N5 := N4.alloc N4.size (.cells #[.int .i64 (r : Int), .int .i64 (cc : Int)] 99)
  have q5 := blk_alloc q4 (.cells #[.int .i64 (r : Int), .int .i64 (cc : Int)] 99)
  have t5 := heap_alloc_new w4 (.cells #[.int .i64 (r : Int), .int .i64 (cc : Int)] 99)
  have B5 := below_alloc w4 (.cells #[.int .i64 (r : Int), .int .i64 (cc : Int)] 99)
  have HR5 := (HR.out.below hb4).below B5
  have h5s : (w4.alloc (.cells #[.int .i64 (r : Int), .int .i64 (cc : Int)] 99)).heap.size = w4.heap.size + 1 := by simp
  clear N0 N4 q0 q4 hb2 hb3 hb4 B5 HS HCI FI LY V TP HR
  obtain ⟨gb, go, _, _, rfl, _, _, _, _⟩ := HR5 0 (by rw [HTot.out]; exact hrne)
  have PF := pfill_any (((lyRows L wd).drop tp).take (en - tp)) (some ⟨gb, go + tp, none⟩) (en - tp) wd h _ hw2 hh2 (by rw [hclen.out]; omega) hcl.out (hcutAny.out _ gb go HR5)
  rw [hclen.out, hfc.out] at PF
  replace PF := Lib.hid PF
  clear HR5 hcutAny hcl hclen hfc
  have z4 := N5.size
  have hrc2 : (en : Int) ≤ rc := by omega
  have hen0 : (0 : Int) ≤ tp := by omega
  have hwrap : True → wrap64 ((tp : Int) + (h : Int)) = (tp : Int) + (h : Int) := fun _ => wrap_small _ (by omega) (by omega)
  have hmin : True → min ((tp : Int) + (h : Int)) (tot : Int) = (en : Int) := fun _ => by rw [HEN.out]; exact min_cast tp h tot
  go_upto_region 12 with fail
  clear hwrap hmin
  go_wp2_with (go_at_call 68; refine PF.out.mono ?_; rintro e w6 ⟨g, rfl, hg6, hR6, hb6⟩)
  have hb6s := hb6.size
  have q6 := blk_below q5 hb6
  have t6 := blk_below t5 hb6
  have hl4 : w4.heap.size < w6.heap.size := by omega
  have hl0 : w.heap.size < w6.heap.size := blk_lt q6
  have hl0' : w.heap.size ≠ w6.heap.size := Nat.ne_of_lt hl0
  have c0 := fun o => (World.cell?_alloc_lt w6 o (⟨w4.heap.size, 0, none⟩ : Addr) hl4).trans (show w6.cell? ⟨w4.heap.size, 0, none⟩ = some (.int .i64 r) by rw [cell_of_row _ _ _ _ _ _ t6]; rfl)
  have c1 := fun o => (World.cell?_alloc_lt w6 o (⟨w4.heap.size, 1, none⟩ : Addr) hl4).trans (show w6.cell? ⟨w4.heap.size, 1, none⟩ = some (.int .i64 cc) by rw [cell_of_row _ _ _ _ _ _ t6]; rfl)
  have z := fun i => cell_of_row _ _ i _ _ _ q6
  have z0 : w6.cell? ⟨w.heap.size, 0, none⟩ = some (.int .i64 0) := by rw [z]; rfl
  have z1 : w6.cell? ⟨w.heap.size, 1, none⟩ = some (.int .i64 0) := by rw [z]; rfl
  have z2 : w6.cell? ⟨w.heap.size, 2, none⟩ = some (.slice none 0 0) := by rw [z]; rfl
  have z3 : w6.cell? ⟨w.heap.size, 3, none⟩ = some (.int .i64 0) := by rw [z]; rfl
  have z4' : w6.cell? ⟨w.heap.size, 4, none⟩ = some (.int .i64 0) := by rw [z]; rfl
  have zf := fun i => frozen_of_row _ w.heap.size i _ _ q6
  have hwr : True → IntKind.i64.wrap ((r : Int) - (tp : Int)) = (r : Int) - (tp : Int) := fun _ => by rw [IntKind.wrap_i64]; exact sub_small r tp (by omega) (by omega)
  have N6 := (N5.trans (hb6.mono N5.size))
  have hR6h := Lib.hid hR6
  clear z hcur2 hR6 PF
  go_region_held3 (fun w' => w'.cell? ⟨w4.heap.size, 0, none⟩ = some (.int .i64 r) ∧ w'.cell? ⟨w4.heap.size, 1, none⟩ = some (.int .i64 cc)) (first | exact ⟨c0 _, c1 _⟩ | go_keep) (fail)
  have q7 := scr_set q6 wd h (.slice (some ⟨g, 0, none⟩) h h) ((r : Int) - tp) cc
  have N7 := scr_set_below w6 w w.heap.size (.int .i64 wd) (.int .i64 h) (.slice (some ⟨g, 0, none⟩) h h) (.int .i64 ((r : Int) - tp)) (.int .i64 cc) (Nat.le_refl _) N6
  have R7 := RowsB.set (RowsB.set (RowsB.set (RowsB.set (RowsB.set hR6h.out (p := ⟨w.heap.size, 0, none⟩) q6 (by decide) (by decide) (.int .i64 wd)) (p := ⟨w.heap.size, 1, none⟩) (blk_set q6 _ _) (by decide) (by decide) (.int .i64 h)) (p := ⟨w.heap.size, 2, none⟩) (blk_set (blk_set q6 _ _) _ _) (by decide) (by decide) (.slice (some ⟨g, 0, none⟩) h h)) (p := ⟨w.heap.size, 3, none⟩) (blk_set (blk_set (blk_set q6 _ _) _ _) _ _) (by decide) (by decide) (.int .i64 ((r : Int) - tp))) (p := ⟨w.heap.size, 4, none⟩) (blk_set (blk_set (blk_set (blk_set q6 _ _) _ _) _ _) _ _) (by decide) (by decide) (.int .i64 cc)
  have q8 := blk_alloc q7 (.cells #[.int .i64 wd, .int .i64 h, .slice (some ⟨g, 0, none⟩) h h, .int .i64 ((r : Int) - tp), .int .i64 cc] 28)
  have N8 := (N7.alloc N7.size (.cells #[.int .i64 wd, .int .i64 h, .slice (some ⟨g, 0, none⟩) h h, .int .i64 ((r : Int) - tp), .int .i64 cc] 28)).drew
  have R8 := R7.below (below_alloc _ (.cells #[.int .i64 wd, .int .i64 h, .slice (some ⟨g, 0, none⟩) h h, .int .i64 ((r : Int) - tp), .int .i64 cc] 28))
  have HR8 := Lib.hid R8; have HN8 := Lib.hid N8; have HQ8 := Lib.hid q8
  clear R7 N7 q7 q8 N8 R8 hwr
  clear hsw hsh h1 h2 hf0 hf1 hf2 hfl hspl hte hte2 het hne hrne hxc c0 c1 htot ht1 ht2 hrc2 hen0 HEN HT0 HTot HLE
  go_wp2
  generalize hWF : World.drew _ = WF
  have hq : WF.heap[w.heap.size]? = some (.cells #[.int .i64 wd, .int .i64 h, .slice (some ⟨g, 0, none⟩) h h, .int .i64 ((r : Int) - tp), .int .i64 cc] 28 (0, 0)) := by rw [← hWF]; exact HQ8.out
  have hR : RowsB WF g (scR L wd tp h) := by rw [← hWF]; exact HR8.out
  have hN : Below w.heap.size w WF := by rw [← hWF]; exact HN8.out
  have y := fun i => cell_of_row _ _ i _ _ _ hq
  have y0 : WF.cell? ⟨w.heap.size, 0, none⟩ = some (.int .i64 wd) := by rw [y]; rfl
  have y1 : WF.cell? ⟨w.heap.size, 1, none⟩ = some (.int .i64 h) := by rw [y]; rfl
  have y2 : WF.cell? ⟨w.heap.size, 2, none⟩ = some (.slice (some ⟨g, 0, none⟩) h h) := by rw [y]; rfl
  have y3 : WF.cell? ⟨w.heap.size, 3, none⟩ = some (.int .i64 ((r : Int) - tp)) := by rw [y]; rfl
  have y4 : WF.cell? ⟨w.heap.size, 4, none⟩ = some (.int .i64 cc) := by rw [y]; rfl
  exact bodyPost_ret (v := .tuple #[.agg #[.int .i64 wd, .int .i64 h, .slice (some ⟨g, 0, none⟩) h h, .int .i64 ((r : Int) - tp), .int .i64 cc], .int .i64 0]) (by
    simp [results, Tryd.results14, go_sem, y0, y1, y2, y3, y4]) rfl ⟨g, rfl, hR, hN⟩
end Go.Proofs.YtcdecnmhogmhaaaDoor
