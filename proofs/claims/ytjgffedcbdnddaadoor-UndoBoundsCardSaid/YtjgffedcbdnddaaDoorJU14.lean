/-
  Joined: Ud22 Ud23 Ud31.
-/
import Derived.Test.YtjgffedcbdnddaaDoorJU03
import Derived.Test.YtjgffedcbdnddaaDoorJU04
import Derived.Test.YtjgffedcbdnddaaDoorJU07
import Derived.Test.YtjgffedcbdnddaaDoorJU10
import Derived.Test.YtjgffedcbdnddaaDoorJU11
import Derived.Test.YtjgffedcbdnddaaDoorJU12
import Derived.Test.YtjgffedcbdnddaaDoorJU13
set_option linter.unusedVariables false
set_option linter.unusedSimpArgs false
set_option maxRecDepth 100000
set_option linter.unusedVariables false
set_option linter.unusedSimpArgs false
namespace Go.Proofs.YtjgffedcbdnddaaDoor
open Go.RowKit
theorem udoer_c (P : Nat) (w : World) : Calls Tryd.prog 25 #[.pointer (some ⟨P, 1, none⟩)] w fun e w' => ∃ pt, e = .returned (.func (.func 36) #[] #[.pointer (some ⟨pt, 0, none⟩)]) ∧ w'.cell? ⟨pt, 0, none⟩ = some (.pointer (some ⟨P, 1, none⟩)) ∧ w.heap.size ≤ pt ∧ Below w.heap.size w w' := by
  refine (udoer_any P w).mono ?_
  rintro e w' ⟨rfl, rfl⟩
  exact ⟨_, rfl, cell_of_row _ _ 0 _ _ _ (heap_alloc_new w _), Nat.le_refl _, below_alloc w _⟩
set_option maxHeartbeats 16000000 in
theorem uset_newC {Fo : Nat → Obj → Prop} {B P : Nat} {most : Int} {x y : ULn} {W T : List StR} {qz : StR} {vs rw rt : Value} {w : World} (h : TrS Fo B P most x (W ++ [qz]) T vs rw rt w) (hlz : Ld qz.1 x y) (L : List Sn) (a : Option Addr) (n c : Nat) (xi : Int) (m : Nat) (hm : W.length = m) (hm1 : m ≤ 9000) (hn : L.length = n) (hl : n ≤ 90000) (Sg : Nat → Prop) (hs : SlS Sg w a L c) (hSg : ∀ k, Sg k → k < B ∨ ∃ o, Fo k o) (hr : mayL L xi = true) (he : sgS L x.1 = false) (hx : x.1.length ≤ 90000) (hy : y.1.length ≤ 90000) (hB : B ≤ w.heap.size) (ho : ¬ most < (m : Int) + 1) :
    Calls Tryd.prog 13 #[.pointer (some ⟨P, 0, none⟩), .agg #[.slice a n c, .int .i64 xi], .bool true] w fun e w' => e = .returned (.int .i64 0) ∧ ∃ (q : StR) (vs' rw' : Value), Ld q.1 y (L, xi) ∧ TrS Fo B P most (L, xi) (W ++ [bkR q y]) [] vs' rw' (.slice none 0 0) w' ∧ Below B w w' := by
  obtain ⟨va, vc, rfl, vsl⟩ := h.now.sl
  obtain ⟨vn, hvn⟩ : ∃ vn, x.1.length = vn := ⟨_, rfl⟩
  obtain ⟨p, hp⟩ : ∃ p, m + 1 = p := ⟨_, rfl⟩
  have hLn : (W ++ [qz]).length = p := by rw [List.length_append, hm, ← hp]; rfl
  obtain ⟨wa, wc, rfl⟩ := h.were.form hLn
  obtain ⟨g, rfl, hgl, c0, c1, c2, c3⟩ := h.were.cell hLn m (by omega)
  have hgt : (W ++ [qz]).getD m q0 = qz := by rw [List.getD, List.getElem?_append_right (by omega), hm, Nat.sub_self]; rfl
  rw [hgt] at c0 c1 c2 c3
  have hroom := h.were.room hLn
  have hcut : ∀ w : World, (Instr.slice 47 (.slice (some ⟨g, 0, none⟩) p wc) none (some (.int .i64 (m : Int))) none).run Tryd.prog w = .ok (.slice (some ⟨g, 0, none⟩) m wc) w := fun w => run_cutSH w g p wc m (by omega) hroom (by omega)
  have hb := below_alloc w (.cells #[.slice a n c, .int .i64 xi] 30)
  have hr0 := heap_alloc_new w (.cells #[.slice a n c, .int .i64 xi] 30)
  obtain ⟨R, hR⟩ : ∃ R, w.heap.size = R := ⟨_, rfl⟩
  obtain ⟨W1, hW1⟩ : ∃ W1, w.alloc (.cells #[.slice a n c, .int .i64 xi] 30) = W1 := ⟨_, rfl⟩
  rw [hW1] at hb hr0
  rw [hR] at hr0
  have RT := lw_rt L a n c xi W1 hn hl (hs.s.below hb)
  rw [hr] at RT
  have RTh := Lib.hid RT
  have SM : Hid (∀ w2, Below w.heap.size w w2 → Calls Tryd.prog 24 #[.slice a n c, .slice va vn vc] w2 fun e w3 => e = .returned (.bool false) ∧ Below w2.heap.size w2 w3) := Lib.hid fun w2 hb2 => by
    have := ssame_any L x.1 a va c vc w2 (by omega) (by omega) (hs.s.below hb2) (vsl.s.below hb2)
    rw [hn, hvn, he] at this
    exact this
  rw [hvn] at h
  have H := Lib.hid h
  have HB := Lib.hid hb
  have HR := Lib.hid hR
  have R1 := Lib.hid hr0
  have HM := Lib.hid hm
  have HP := Lib.hid hp
  have HN := Lib.hid hn
  have HL := Lib.hid hl
  have HS := Lib.hid hs
  have HSG := Lib.hid hSg
  have hPR := Lib.hid (show P < R by have := h.lt; omega)
  have hgR := Lib.hid (show g < R by omega)
  have y0 := cell_of_row _ _ 0 _ _ _ hr0
  have y1 := cell_of_row _ _ 1 _ _ _ hr0
  dsimp at y0 y1
  have hle := Lib.hid (show B ≤ P from h.le)
  have hBW := Lib.hid hB
  have hLl := Lib.hid (show L.length ≤ 100000 by omega)
  have hxl := Lib.hid (show x.1.length ≤ 100000 by omega)
  have hyl := Lib.hid (show y.1.length ≤ 100000 by omega)
  obtain ⟨yn, hyn⟩ : ∃ yn, y.1.length = yn := ⟨_, rfl⟩
  have HYN := Lib.hid hyn
  have HLZ := Lib.hid hlz
  have CZ : Hid (∀ w', Below w.heap.size w w' → w'.cell? ⟨g, m * 4, none⟩ = some (.int .i64 (qz.1.1 : Int)) ∧ w'.cell? ⟨g, m * 4 + 1, none⟩ = some (.slice qz.2.1.1 qz.1.2.1.length qz.2.1.2) ∧ w'.cell? ⟨g, m * 4 + 2, none⟩ = some (.slice qz.2.2.1 qz.1.2.2.1.length qz.2.2.2) ∧ w'.cell? ⟨g, m * 4 + 3, none⟩ = some (.int .i64 qz.1.2.2.2)) := Lib.hid fun w' hb' => ⟨(hb'.cell (p := ⟨g, m * 4, none⟩) hgl).trans c0, (hb'.cell (p := ⟨g, m * 4 + 1, none⟩) hgl).trans c1, (hb'.cell (p := ⟨g, m * 4 + 2, none⟩) hgl).trans c2, (hb'.cell (p := ⟨g, m * 4 + 3, none⟩) hgl).trans c3⟩
  -- the newest step is done
  have DZ : Hid (∀ (wd : World) (pt : Nat), Below w.heap.size w wd → wd.cell? ⟨pt, 0, none⟩ = some (.pointer (some ⟨P, 1, none⟩)) → w.heap.size ≤ pt → wd.heap[R]? = some (.cells #[.slice a n c, .int .i64 xi] 30 (0, 0)) → Calls Tryd.prog 36 #[.agg (stA qz), .pointer (some ⟨pt, 0, none⟩)] wd fun e w6 => e = .returned (.agg #[.int .i64 (qz.1.1 : Int), .slice qz.2.2.1 qz.1.2.2.1.length qz.2.2.2, .slice qz.2.1.1 qz.1.2.1.length qz.2.1.2, .int .i64 x.2]) ∧ ∃ vs', TrG Fo B P most y (W ++ [qz]) T vs' (.slice (some ⟨g, 0, none⟩) p wc) rt (.slice (some ⟨g, 0, none⟩) p wc) rt w6 ∧ Below B w w6 ∧ vs'.ownBlock ≠ some R ∧ w6.cell? ⟨pt, 0, none⟩ = some (.pointer (some ⟨P, 1, none⟩)) ∧ w6.heap[R]? = some (.cells #[.slice a n c, .int .i64 xi] 30 (0, 0))) := Lib.hid fun wd pt hbd hpt hge hzR => by
    have h5 := H.out.below hbd
    have h4l := H.out.lt
    have hst := h5.stW qz (List.mem_append_right _ (List.mem_singleton_self qz))
    have hv5 : ∀ k, (Value.slice va vn vc).ownBlock = some k → k < w.heap.size := fun k hk => (h.now.lt k hk).2
    have hpl := block_lt_of_cell hpt
    have hRl := blk_lt hzR
    refine (doer_any pt P most (.slice va vn vc) (.slice (some ⟨g, 0, none⟩) p wc) rt x y qz wd hpt h5.blk (h5.now.mono (Nat.zero_le _)) HLZ.out (hst.mono fun k hk => ⟨hk.2.2.1, hk.2.2.2.1⟩) hxl.out hyl.out).mono ?_
    rintro e w6 ⟨rfl, hd⟩
    obtain ⟨vs', h6, hb6, hv6, ho6⟩ := h5.g.done (Nat.le_trans hBW.out hbd.size) hd
    refine ⟨rfl, vs', h6, (hbd.mono hBW.out).trans hb6, fun e => ?_, ?_, ?_⟩
    · rcases hv6 R e with e | e
      · have := hv5 R e; omega
      · omega
    · exact (cell_hp (ho6 pt hpl (by omega) (fun e => by have := hv5 pt e; omega)) 0).trans hpt
    · exact (ho6 R hRl (by omega) (fun e => by have := hv5 R e; omega)).trans hzR
  obtain ⟨⟨pz, Gz, Cz, az⟩, ⟨gza, gzc⟩, ⟨cza, czc⟩⟩ := qz
  unfold stA at DZ
  dsimp only at *
  obtain ⟨gzl, hgzl⟩ : ∃ l, Gz.length = l := ⟨_, rfl⟩
  obtain ⟨czl, hczl⟩ : ∃ l, Cz.length = l := ⟨_, rfl⟩
  rw [hgzl] at DZ CZ
  rw [hczl] at DZ CZ
  have FZ : Hid (∀ (w6 : World) (vs' : Value), TrG Fo B P most y (W ++ [((pz, Gz, Cz, az), (gza, gzc), (cza, czc))]) T vs' (.slice (some ⟨g, 0, none⟩) p wc) rt (.slice (some ⟨g, 0, none⟩) p wc) rt w6 → Below B w w6 → TrS Fo B P most y W T vs' (.slice (some ⟨g, 0, none⟩) m wc) rt (w6.setCell ⟨P, 3, none⟩ (.slice (some ⟨g, 0, none⟩) m wc)) ∧ Below B w (w6.setCell ⟨P, 3, none⟩ (.slice (some ⟨g, 0, none⟩) m wc))) := Lib.hid fun w6 vs' h6 hb6 => by
    rw [← HP.out] at h6
    exact ⟨(h6.last HM.out |>.put 3 (.slice (some ⟨g, 0, none⟩) m wc) (.slice (some ⟨g, 0, none⟩) m wc) _ rfl).s, Below.setCell (p := ⟨P, 3, none⟩) hb6 hle.out _⟩
  have hsub : IntKind.i64.wrap ((p : Int) - 1) = (m : Int) := by rw [IntKind.wrap_i64]; omega
  have hp0 : (0 : Int) < (p : Int) := by omega
  have hnp : (m : Int) < (p : Int) := by omega
  have hnp' : m < p := by omega
  have h0n : (0 : Int) ≤ (m : Int) := by omega
  have hRP := Lib.hid (show R ≠ P by have := hPR.out; omega)
  clear hb hr0 RT hs hSg hr h he hx hvn vsl hB hn hl hm hp hlz hy hyn hLn hgt hroom c0 c1 c2 c3 hgl hgzl hczl
  go_enter Tryd.func13, Tryd.ntmps13
  go_upto_region 5 with (go_at_call 23; refine RTh.out.mono ?_; rintro e w2 ⟨rfl, hb2⟩; have B2 := Lib.hid (seqB HB.out hb2); have R2 := Lib.hid (blk_below R1.out hb2); have H2 := Lib.hid (H.out.below B2.out); have z0 := cell_of_row _ _ 0 _ _ _ R2.out; have z1 := cell_of_row _ _ 1 _ _ _ R2.out; have p1 := cell_of_row _ _ 1 _ _ _ H2.out.blk; dsimp at z0 z1 p1; clear hb2)
  clear y0 y1
  go_region_held3 (fun w' => w'.cell? ⟨R, 0, none⟩ = some (.slice a n c) ∧ w'.cell? ⟨P, 1, none⟩ = some (.slice va vn vc)) (first | exact ⟨z0, p1⟩ | exact ⟨x0, q1⟩ | go_keep)
    (first | (go_at_call 24; refine (SM.out _ B2.out.drew).mono ?_; rintro e w3 ⟨rfl, hb3⟩; have B3 := Lib.hid (B2.out.drew.trans (hb3.mono B2.out.drew.size)); have R3 := Lib.hid (blk_below (w := w2.drew) R2.out hb3); have H3 := Lib.hid (H.out.below B3.out); have x0 := cell_of_row _ _ 0 _ _ _ R3.out; have q1 := cell_of_row _ _ 1 _ _ _ H3.out.blk; dsimp at x0 q1; clear hb3))
  clear z0 z1 p1 x0 q1
  go_upto_region 13 with (first
    | (go_at_call 25; refine (udoer_c P _).mono ?_; rintro e wd ⟨pt, rfl, hpt, hge, hb4⟩; have Bd := Lib.hid (seqB B3.out hb4); have Rd := Lib.hid (blk_below R3.out hb4); have Hd := Lib.hid (H.out.below Bd.out); have PTd := Lib.hid hpt; have GE := Lib.hid (Nat.le_trans B3.out.size hge); have p3 := cell_of_row _ _ 3 _ _ _ Hd.out.blk; obtain ⟨d0, d1, d2, d3⟩ := CZ.out _ Bd.out; dsimp at p3; clear hb4 hpt hge)
    | (go_at_call 36; refine (DZ.out wd pt Bd.out PTd.out GE.out Rd.out).mono ?_; rintro e w6 ⟨rfl, vs6, h6, hb6, hvR6, hpt6, hR6⟩; have H6 := Lib.hid h6; have B6 := Lib.hid hb6; have VR6 := Lib.hid hvR6; have PT6 := Lib.hid hpt6; have R6 := Lib.hid hR6; have p36 := cell_of_row _ _ 3 _ _ _ h6.blk; have sf6 := fun i => frozen_of_row _ P i _ _ h6.blk; dsimp at p36; clear h6 hb6 hvR6 hpt6 hR6))
  clear d0 d1 d2 d3 p3 p36 sf6
  have hptP : Hid (pt ≠ P) := Lib.hid (by have := GE.out; have := HR.out; have := hPR.out; omega)
  obtain ⟨h4, b4⟩ := FZ.out _ _ H6.out B6.out
  have R4 := Lib.hid ((Below.heap_setCell w6 ⟨P, 3, none⟩ (.slice (some ⟨g, 0, none⟩) m wc) R hRP.out).trans R6.out)
  have PT := Lib.hid ((cell_far (w := w6) (p := ⟨P, 3, none⟩) (q := ⟨pt, 0, none⟩) hptP.out (.slice (some ⟨g, 0, none⟩) m wc)).trans PT6.out)
  generalize w6.setCell ⟨P, 3, none⟩ (.slice (some ⟨g, 0, none⟩) m wc) = w4 at *
  obtain ⟨va6, vc6, rfl, vsl6⟩ := h4.now.sl
  rw [HYN.out] at h4 VR6 vsl6
  have H4 := Lib.hid h4
  have B4 := Lib.hid b4
  have S4 : Hid (SlS Sg w4 a L c) := Lib.hid (HS.out.keep b4.size fun k hk => by
    rcases HSG.out k hk with hk | ⟨o, hk⟩
    · exact b4.block k hk
    · exact (h4.fo k o hk).2.trans (H.out.fo k o hk).2.symm)
  have V4 := Lib.hid vsl6
  clear h4 b4 vsl6 H6 B6 R6 PT6 FZ DZ CZ H H2 H3 Hd Bd Rd PTd B2 R2 B3 R3 SM RTh HB R1 HS HSG
  have z0 := cell_of_row _ _ 0 _ _ _ R4.out
  have z1 := cell_of_row _ _ 1 _ _ _ R4.out
  have p1 := cell_of_row _ _ 1 _ _ _ H4.out.blk
  have p2 := cell_of_row _ _ 2 _ _ _ H4.out.blk
  have p3 := cell_of_row _ _ 3 _ _ _ H4.out.blk
  dsimp at z0 z1 p1 p2 p3
  have hwR := Lib.hid (show ∀ k, (Value.slice (some ⟨g, 0, none⟩) m wc).ownBlock = some k → k ≠ R from fun k hk => by have e : g = k := Option.some.inj hk; have := hgR.out; omega)
  have BTh : Hid (∀ w1, Below w4.heap.size w4 w1 → Calls Tryd.prog 26 #[.agg #[.slice va6 yn vc6, .int .i64 y.2], .agg #[.slice a n c, .int .i64 xi]] w1 fun e w' => ∃ q : StR, e = .returned (.agg (stA q)) ∧ Ld q.1 y (L, xi) ∧ StIn (fun k => w1.heap.size ≤ k ∧ k < w'.heap.size) w' q ∧ Below w1.heap.size w1 w') := Lib.hid fun w1 hb1 => between_any y.1 L y.2 xi va6 a yn n vc6 c w1 HYN.out HN.out (by rw [← HYN.out]; exact hyl.out) (by rw [← HN.out]; exact hLl.out) _ _ (V4.out.below hb1) (S4.out.below hb1)
  have DO : Hid (∀ (w5 : World) (q : StR), Below w4.heap.size w4 w5 → w5.cell? ⟨pt, 0, none⟩ = some (.pointer (some ⟨P, 1, none⟩)) → Ld q.1 y (L, xi) → StIn (fun k => w4.heap.size ≤ k ∧ k < w5.heap.size) w5 q → w5.cell? ⟨R, 0, none⟩ = some (.slice a n c) → w5.cell? ⟨R, 1, none⟩ = some (.int .i64 xi) → Calls Tryd.prog 36 #[.agg (stA q), .pointer (some ⟨pt, 0, none⟩)] w5 fun e w6 => e = .returned (.agg (stA (bkR q y))) ∧ ∃ vs', TrG Fo B P most (L, xi) W T vs' (.slice (some ⟨g, 0, none⟩) m wc) rt (.slice (some ⟨g, 0, none⟩) m wc) rt w6 ∧ Below B w w6 ∧ StIn (FrS B P vs' (.slice (some ⟨g, 0, none⟩) m wc) rt w6) w6 (bkR q y) ∧ w6.cell? ⟨R, 0, none⟩ = some (.slice a n c) ∧ w6.cell? ⟨R, 1, none⟩ = some (.int .i64 xi)) := Lib.hid fun w5 q hb5 hpt hld hst hz0 hz1 => by
    have h5 := H4.out.below hb5
    have h4l := H4.out.lt
    have hv4 : ∀ k, (Value.slice va6 yn vc6).ownBlock = some k → k < w4.heap.size := fun k hk => (H4.out.now.lt k hk).2
    have hBW4 : B ≤ w4.heap.size := Nat.le_trans hBW.out B4.out.size
    refine (doer_any pt P most (.slice va6 yn vc6) (.slice (some ⟨g, 0, none⟩) m wc) rt y (L, xi) q w5 hpt h5.blk (h5.now.mono (Nat.zero_le _)) hld (hst.mono fun k hk => ⟨by omega, fun e => by have := hv4 k e; omega⟩) hyl.out hLl.out).mono ?_
    rintro e w6 ⟨rfl, hd⟩
    obtain ⟨vs', h6, hb6, hv6, ho6⟩ := h5.g.done (Nat.le_trans hBW4 hb5.size) hd
    refine ⟨rfl, vs', h6, B4.out.trans ((hb5.mono hBW4).trans hb6), ?_, ?_, ?_⟩
    · have hk5 : ∀ k, (w4.heap.size ≤ k ∧ k < w5.heap.size) → w6.heap[k]? = w5.heap[k]? := fun k hk => ho6 k hk.2 (by omega) (fun e => by have := hv4 k e; omega)
      refine ((hst.keep hb6.size hk5).mono fun k hk => ⟨?_, Nat.lt_of_lt_of_le hk.2 hb6.size, by omega, fun e => ?_, fun e => ?_, fun e => ?_⟩).back y
      · have := H4.out.le; omega
      · rcases hv6 k e with e | e
        · have := hv4 k e; omega
        · omega
      · have := (H4.out.were.lt k e).2; omega
      · have := (H4.out.taken.lt k e).2; omega
    · exact (cell_hp (ho6 R (block_lt_of_cell hz0) hRP.out VR6.out) 0).trans hz0
    · exact (cell_hp (ho6 R (block_lt_of_cell hz0) hRP.out VR6.out) 1).trans hz1
  have z0d : w4.drew.cell? ⟨R, 0, none⟩ = _ := z0
  have z1d : w4.drew.cell? ⟨R, 1, none⟩ = _ := z1
  refine wp_region_noPanic ?_
  refine wp_region_held_drew (S := fun w' => w'.cell? ⟨R, 0, none⟩ = some (.slice a n c) ∧ w'.cell? ⟨R, 1, none⟩ = some (.int .i64 xi)) (by kernel_rfl) ⟨z0d, z1d⟩ (fun hHeld => ?_)
  refine wpAnyH_take (i := 0) (v := .pointer (some ⟨P, 0, none⟩)) rfl (by kernel_rfl) (by kernel_rfl) (by kernel_rfl) (fun _ _ _ h => h) (Or.inl ⟨by rfl, ?yy1⟩) (by assumption) ?rr1
  case yy1 =>
    as_aux_lemma =>
      intro w hSw
      try dsimp only at hSw
      go_simp
      all_goals with_reducible rfl
  try simp only [Act.put, List.getElem_toArray, List.getElem_cons_zero, List.getElem_cons_succ, List.setIfInBounds_toArray, List.set_cons_zero, List.set_cons_succ]
  refine wpAnyH_take (i := 1) (v := .pointer (some ⟨P, 0, none⟩)) rfl (by kernel_rfl) (by kernel_rfl) (by kernel_rfl) (fun _ _ _ h => h) (Or.inl ⟨by rfl, ?yy2⟩) (by assumption) ?rr2
  case yy2 =>
    as_aux_lemma =>
      intro w hSw
      try dsimp only at hSw
      go_simp
      all_goals with_reducible rfl
  try simp only [Act.put, List.getElem_toArray, List.getElem_cons_zero, List.getElem_cons_succ, List.setIfInBounds_toArray, List.set_cons_zero, List.set_cons_succ]
  refine wpAnyH_take (i := 2) (v := .pointer (some ⟨P, 0, none⟩)) rfl (by kernel_rfl) (by kernel_rfl) (by kernel_rfl) (fun _ _ _ h => h) (Or.inl ⟨by rfl, ?yy3⟩) (by assumption) ?rr3
  case yy3 =>
    as_aux_lemma =>
      intro w hSw
      try dsimp only at hSw
      go_simp
      all_goals with_reducible rfl
  try simp only [Act.put, List.getElem_toArray, List.getElem_cons_zero, List.getElem_cons_succ, List.setIfInBounds_toArray, List.set_cons_zero, List.set_cons_succ]
  refine wpAnyH_take (i := 3) (v := .pointer (some ⟨P, 0, none⟩)) rfl (by kernel_rfl) (by kernel_rfl) (by kernel_rfl) (fun _ _ _ h => h) (Or.inl ⟨by rfl, ?yy4⟩) (by assumption) ?rr4
  case yy4 =>
    as_aux_lemma =>
      intro w hSw
      try dsimp only at hSw
      go_simp
      all_goals with_reducible rfl
  try simp only [Act.put, List.getElem_toArray, List.getElem_cons_zero, List.getElem_cons_succ, List.setIfInBounds_toArray, List.set_cons_zero, List.set_cons_succ]
  refine wpAnyH_take (i := 4) (v := .pointer (some ⟨P, 3, none⟩)) rfl (by kernel_rfl) (by kernel_rfl) (by kernel_rfl) (fun _ _ _ h => h) (Or.inl ⟨by rfl, ?yy5⟩) (by assumption) ?rr5
  case yy5 =>
    as_aux_lemma =>
      intro w hSw
      try dsimp only at hSw
      go_simp
      all_goals with_reducible rfl
  try simp only [Act.put, List.getElem_toArray, List.getElem_cons_zero, List.getElem_cons_succ, List.setIfInBounds_toArray, List.set_cons_zero, List.set_cons_succ]
  refine wpAnyH_take (i := 6) (v := .func (.func 36) #[] #[.pointer (some ⟨pt, 0, none⟩)]) rfl (by kernel_rfl) (by kernel_rfl) (by kernel_rfl) (fun _ _ _ h => h) (Or.inl ⟨by rfl, ?yy6⟩) (by assumption) ?rr6
  case yy6 =>
    as_aux_lemma =>
      intro w hSw
      try dsimp only at hSw
      go_simp
      all_goals with_reducible rfl
  try simp only [Act.put, List.getElem_toArray, List.getElem_cons_zero, List.getElem_cons_succ, List.setIfInBounds_toArray, List.set_cons_zero, List.set_cons_succ]
  refine wpAnyH_take (i := 7) (v := .pointer (some ⟨P, 0, none⟩)) rfl (by kernel_rfl) (by kernel_rfl) (by kernel_rfl) (fun _ _ _ h => h) (Or.inl ⟨by rfl, ?yy7⟩) (by assumption) ?rr7
  case yy7 =>
    as_aux_lemma =>
      intro w hSw
      try dsimp only at hSw
      go_simp
      all_goals with_reducible rfl
  try simp only [Act.put, List.getElem_toArray, List.getElem_cons_zero, List.getElem_cons_succ, List.setIfInBounds_toArray, List.set_cons_zero, List.set_cons_succ]
  refine wpAnyH_take (i := 8) (v := .pointer (some ⟨P, 0, none⟩)) rfl (by kernel_rfl) (by kernel_rfl) (by kernel_rfl) (fun _ _ _ h => h) (Or.inl ⟨by rfl, ?yy8⟩) (by assumption) ?rr8
  case yy8 =>
    as_aux_lemma =>
      intro w hSw
      try dsimp only at hSw
      go_simp
      all_goals with_reducible rfl
  try simp only [Act.put, List.getElem_toArray, List.getElem_cons_zero, List.getElem_cons_succ, List.setIfInBounds_toArray, List.set_cons_zero, List.set_cons_succ]
  refine wpAnyH_take (i := 9) (v := .pointer (some ⟨P, 1, none⟩)) rfl (by kernel_rfl) (by kernel_rfl) (by kernel_rfl) (fun _ _ _ h => h) (Or.inl ⟨by rfl, ?yy9⟩) (by assumption) ?rr9
  case yy9 =>
    as_aux_lemma =>
      intro w hSw
      try dsimp only at hSw
      go_simp
      all_goals with_reducible rfl
  try simp only [Act.put, List.getElem_toArray, List.getElem_cons_zero, List.getElem_cons_succ, List.setIfInBounds_toArray, List.set_cons_zero, List.set_cons_succ]
  refine wpAnyH_take (i := 11) (v := .agg #[.slice a n c, .int .i64 xi]) rfl (by kernel_rfl) (by kernel_rfl) (by kernel_rfl) (fun _ _ _ h => h) (Or.inl ⟨by rfl, ?yy10⟩) (by assumption) ?rr10
  case yy10 =>
    as_aux_lemma =>
      intro w hSw
      try dsimp only at hSw
      go_simp
      all_goals with_reducible rfl
  try simp only [Act.put, List.getElem_toArray, List.getElem_cons_zero, List.getElem_cons_succ, List.setIfInBounds_toArray, List.set_cons_zero, List.set_cons_succ]
  refine wpAnyH_ready (rs := [5, 10]) (by kernel_rfl) (by simp) ?_
  refine AllReadyH.cons rfl (fun K hK => ?_) (AllReadyH.cons rfl (fun K hK => ?_) AllReadyH.nil)
  · skip
    go_simp
    refine hK.out _ _ ⟨z0d, z1d⟩ (fun hHeld11 => ?_)
    clear hK K
    try simp only [Act.put, List.getElem_toArray, List.getElem_cons_zero, List.getElem_cons_succ, List.setIfInBounds_toArray, List.set_cons_zero, List.set_cons_succ]
    refine wpAnyH_ready (rs := [10]) (by kernel_rfl) (by simp) ?_
    refine AllReadyH.cons rfl (fun K hK => ?_) AllReadyH.nil
    go_simp
    refine hK.out _ _ ⟨z0d, z1d⟩ (fun hHeld12 => ?_)
    clear hK K
    try simp only [Act.put, List.getElem_toArray, List.getElem_cons_zero, List.getElem_cons_succ, List.setIfInBounds_toArray, List.set_cons_zero, List.set_cons_succ]
    refine wpAnyH_ready (rs := [12]) (by kernel_rfl) (by simp) ?_
    refine AllReadyH.cons rfl (fun K hK => ?_) AllReadyH.nil
    go_simp
    go_at_call 26
    refine (BTh.out _ (Below.refl _ w4).drew).mono ?_
    rintro e w5 ⟨⟨⟨pl, G, C, at'⟩, ⟨ga, gc⟩, ⟨ca, cc⟩⟩, rfl, hld, hst, hb5⟩
    have B5 := Lib.hid ((Below.refl _ w4).drew.trans hb5)
    have R5 := Lib.hid (blk_below (w := w4.drew) R4.out hb5)
    have H5 := Lib.hid (H4.out.below B5.out)
    have HLD := Lib.hid hld
    have x0 := cell_of_row _ _ 0 _ _ _ R5.out
    have x1 := cell_of_row _ _ 1 _ _ _ R5.out
    have p35 := cell_of_row _ _ 3 _ _ _ H5.out.blk
    dsimp at x0 x1 p35
    have D5 := Lib.hid (DO.out w5 ((pl, G, C, at'), (ga, gc), (ca, cc)) B5.out ((hb5.cell (p := ⟨pt, 0, none⟩) (block_lt_of_cell (w := w4.drew) PT.out)).trans PT.out) hld hst x0 x1)
    clear hld hst hb5
    refine hK.out _ _ ⟨x0, x1⟩ (fun hHeld13 => ?_)
    clear hK K
    try simp only [Act.put, List.getElem_toArray, List.getElem_cons_zero, List.getElem_cons_succ, List.setIfInBounds_toArray, List.set_cons_zero, List.set_cons_succ]
    refine wpAnyH_ready (rs := [13]) (by kernel_rfl) (by simp) ?_
    refine AllReadyH.cons rfl (fun K hK => ?_) AllReadyH.nil
    go_simp
    go_at_call 36
    refine D5.out.mono ?_
    rintro e w6 ⟨he6, vs6, h6, hb6, hst6, v0, v1⟩
    replace he6 : e = .returned (.agg #[.int .i64 (pl : Int), .slice ca C.length cc, .slice ga G.length gc, .int .i64 y.2]) := he6
    subst he6
    have H6 := Lib.hid h6
    have B6 := Lib.hid hb6
    have ST6 := Lib.hid hst6
    have va0 := fun o => (below_alloc w6 o).cell (p := ⟨R, 0, none⟩) (block_lt_of_cell v0) |>.trans v0
    have va1 := fun o => (below_alloc w6 o).cell (p := ⟨R, 1, none⟩) (block_lt_of_cell v1) |>.trans v1
    have p36 := cell_of_row _ _ 3 _ _ _ h6.blk
    dsimp at p36
    have p37 := fun o => (below_alloc w6 o).cell (p := ⟨P, 3, none⟩) (block_lt_of_cell p36) |>.trans p36
    clear h6 hb6 hst6
    refine hK.out _ _ ⟨v0, v1⟩ (fun hHeld14 => ?_)
    clear hK K
    try simp only [Act.put, List.getElem_toArray, List.getElem_cons_zero, List.getElem_cons_succ, List.setIfInBounds_toArray, List.set_cons_zero, List.set_cons_succ]
    refine wpAnyH_ready (rs := [14]) (by kernel_rfl) (by simp) ?_
    refine AllReadyH.cons rfl (fun K hK => ?_) AllReadyH.nil
    go_simp
    refine hK.out _ _ ⟨va0 _, va1 _⟩ (fun hHeld15 => ?_)
    clear hK K
    try simp only [Act.put, List.getElem_toArray, List.getElem_cons_zero, List.getElem_cons_succ, List.setIfInBounds_toArray, List.set_cons_zero, List.set_cons_succ]
    refine wpAnyH_ready (rs := [15]) (by kernel_rfl) (by simp) ?_
    refine AllReadyH.cons rfl (fun K hK => ?_) AllReadyH.nil
    refine step_app_step (by rfl) _ _ (by rfl) B (.slice (some ⟨g, 0, none⟩) m wc) m W (by rfl) HM.out (H6.out.were.below (below_alloc _ _)) w6.heap.size 1 (bkR ((pl, G, C, at'), (ga, gc), (ca, cc)) y) (by rfl) (sta_news (heap_alloc_new w6 _)) (by omega) (Nat.le_trans (Nat.le_trans hBW.out B6.out.size) (below_alloc _ _).size) ?_
    intro ad7 c7 w7 o7 g7 p7
    have H7 := Lib.hid ((H6.out.below (below_alloc w6 (.cells (stA (bkR ((pl, G, C, at'), (ga, gc), (ca, cc)) y)) _))).add (Nat.le_trans (Nat.le_trans hBW.out B6.out.size) (below_alloc _ _).size) ((ST6.out.keep (below_alloc _ _).size (fun k hk => (below_alloc _ _).block k hk.2.1)).mono (FrS.up (below_alloc _ _).size)) o7 g7 p7)
    have t0 := g7.cell (va0 _) (fun e => hwR.out R e.symm rfl)
    have t1 := g7.cell (va1 _) (fun e => hwR.out R e.symm rfl)
    have s3 := cell_of_row _ _ 3 _ _ _ H7.out.1.blk
    have sf := fun i => frozen_of_row _ P i _ _ H7.out.1.blk
    have ba := blk_set H7.out.1.blk 3 (.slice ad7 (m + 1) c7)
    have s4 := cell_of_row _ _ 4 _ _ _ ba
    have sg := fun i => frozen_of_row _ P i _ _ ba
    dsimp at s3 s4
    have t0a := (cell_far (w := w7) (p := ⟨P, 3, none⟩) (q := ⟨R, 0, none⟩) hRP.out (.slice ad7 (m + 1) c7)).trans t0
    have t1a := (cell_far (w := w7) (p := ⟨P, 3, none⟩) (q := ⟨R, 1, none⟩) hRP.out (.slice ad7 (m + 1) c7)).trans t1
    have t0b := (cell_far (w := w7.setCell ⟨P, 3, none⟩ (.slice ad7 (m + 1) c7)) (p := ⟨P, 4, none⟩) (q := ⟨R, 0, none⟩) hRP.out (.slice none 0 0)).trans t0a
    have t1b := (cell_far (w := w7.setCell ⟨P, 3, none⟩ (.slice ad7 (m + 1) c7)) (p := ⟨P, 4, none⟩) (q := ⟨R, 1, none⟩) hRP.out (.slice none 0 0)).trans t1a
    clear o7 g7 p7 ba
    refine hK.out _ _ ⟨t0, t1⟩ (fun hHeld16 => ?_)
    clear hK K
    try simp only [Act.put, List.getElem_toArray, List.getElem_cons_zero, List.getElem_cons_succ, List.setIfInBounds_toArray, List.set_cons_zero, List.set_cons_succ]
    refine wpAnyH_take (i := 16) (v := .pointer (some ⟨P, 0, none⟩)) rfl (by kernel_rfl) (by kernel_rfl) (by kernel_rfl) (fun _ _ _ h => h) (Or.inl ⟨by rfl, ?yy17⟩) (by assumption) ?rr17
    case yy17 =>
      as_aux_lemma =>
        intro w hSw
        try dsimp only at hSw
        go_simp
        all_goals with_reducible rfl
    try simp only [Act.put, List.getElem_toArray, List.getElem_cons_zero, List.getElem_cons_succ, List.setIfInBounds_toArray, List.set_cons_zero, List.set_cons_succ]
    refine wpAnyH_take (i := 17) (v := .pointer (some ⟨P, 3, none⟩)) rfl (by kernel_rfl) (by kernel_rfl) (by kernel_rfl) (fun _ _ _ h => h) (Or.inl ⟨by rfl, ?yy18⟩) (by assumption) ?rr18
    case yy18 =>
      as_aux_lemma =>
        intro w hSw
        try dsimp only at hSw
        go_simp
        all_goals with_reducible rfl
    try simp only [Act.put, List.getElem_toArray, List.getElem_cons_zero, List.getElem_cons_succ, List.setIfInBounds_toArray, List.set_cons_zero, List.set_cons_succ]
    refine wpAnyH_ready (rs := [18]) (by kernel_rfl) (by simp) ?_
    refine AllReadyH.cons rfl (fun K hK => ?_) AllReadyH.nil
    go_simp
    refine hK.out _ _ ⟨t0a, t1a⟩ (fun hHeld19 => ?_)
    clear hK K
    try simp only [Act.put, List.getElem_toArray, List.getElem_cons_zero, List.getElem_cons_succ, List.setIfInBounds_toArray, List.set_cons_zero, List.set_cons_succ]
    refine wpAnyH_take (i := 19) (v := .pointer (some ⟨P, 0, none⟩)) rfl (by kernel_rfl) (by kernel_rfl) (by kernel_rfl) (fun _ _ _ h => h) (Or.inl ⟨by rfl, ?yy20⟩) (by assumption) ?rr20
    case yy20 =>
      as_aux_lemma =>
        intro w hSw
        try dsimp only at hSw
        go_simp
        all_goals with_reducible rfl
    try simp only [Act.put, List.getElem_toArray, List.getElem_cons_zero, List.getElem_cons_succ, List.setIfInBounds_toArray, List.set_cons_zero, List.set_cons_succ]
    refine wpAnyH_take (i := 20) (v := .pointer (some ⟨P, 4, none⟩)) rfl (by kernel_rfl) (by kernel_rfl) (by kernel_rfl) (fun _ _ _ h => h) (Or.inl ⟨by rfl, ?yy21⟩) (by assumption) ?rr21
    case yy21 =>
      as_aux_lemma =>
        intro w hSw
        try dsimp only at hSw
        go_simp
        all_goals with_reducible rfl
    try simp only [Act.put, List.getElem_toArray, List.getElem_cons_zero, List.getElem_cons_succ, List.setIfInBounds_toArray, List.set_cons_zero, List.set_cons_succ]
    refine wpAnyH_ready (rs := [21]) (by kernel_rfl) (by simp) ?_
    refine AllReadyH.cons rfl (fun K hK => ?_) AllReadyH.nil
    go_simp
    refine hK.out _ _ ⟨t0b, t1b⟩ (fun hHeld22 => ?_)
    clear hK K
    try simp only [Act.put, List.getElem_toArray, List.getElem_cons_zero, List.getElem_cons_succ, List.setIfInBounds_toArray, List.set_cons_zero, List.set_cons_succ]
    refine wpAnyH_done (by kernel_rfl) ?_ _
    refine NoPanic.normal ?_
    clear z0 z1 p1 p2 p3 x0 x1 p35 v0 v1 va0 va1 p36 p37 t0 t1 s3 s4 sf sg t0a t1a t0b t1b
    have H8 := Lib.hid (H7.out.1.two (.slice ad7 (m + 1) c7) (.slice none 0 0)).1.forget.s
    have D8 := Lib.hid (Below.setCell (p := ⟨P, 4, none⟩) (Below.setCell (p := ⟨P, 3, none⟩) ((B6.out.trans ((below_alloc w6 _).mono (Nat.le_trans hBW.out B6.out.size))).trans H7.out.2) hle.out (.slice ad7 (m + 1) c7)) hle.out (.slice none 0 0))
    generalize hW8 : (w7.setCell ⟨P, 3, none⟩ (.slice ad7 (m + 1) c7)).setCell ⟨P, 4, none⟩ (.slice none 0 0) = w8 at *
    have y0 := cell_of_row _ _ 0 _ _ _ H8.out.blk
    have y3 := cell_of_row _ _ 3 _ _ _ H8.out.blk
    dsimp at y0 y3
    have hcast : ((m + 1 : Nat) : Int) = (m : Int) + 1 := by omega
    go_upto_region 14 with fail
    go_quiet (fail)
    go_wp2
    go_ret
    first | exact ⟨rfl, _, _, _, HLD.out, H8.out.below ⟨rfl, rfl, rfl, Nat.le_refl _, fun _ _ => rfl⟩, D8.out.trans ⟨rfl, rfl, rfl, Nat.le_refl _, fun _ _ => rfl⟩⟩ | exact ⟨rfl, _, _, _, _, HLD.out, ⟨_, _, _, _, _, _, H8.out.below ⟨rfl, rfl, rfl, Nat.le_refl _, fun _ _ => rfl⟩⟩, D8.out.trans ⟨rfl, rfl, rfl, Nat.le_refl _, fun _ _ => rfl⟩⟩
  · skip
    go_simp
    refine hK.out _ _ ⟨z0d, z1d⟩ (fun hHeld23 => ?_)
    clear hK K
    try simp only [Act.put, List.getElem_toArray, List.getElem_cons_zero, List.getElem_cons_succ, List.setIfInBounds_toArray, List.set_cons_zero, List.set_cons_succ]
    refine wpAnyH_ready (rs := [5, 12]) (by kernel_rfl) (by simp) ?_
    refine AllReadyH.cons rfl (fun K hK => ?_) (AllReadyH.cons rfl (fun K hK => ?_) AllReadyH.nil)
    · skip
      go_simp
      refine hK.out _ _ ⟨z0d, z1d⟩ (fun hHeld24 => ?_)
      clear hK K
      try simp only [Act.put, List.getElem_toArray, List.getElem_cons_zero, List.getElem_cons_succ, List.setIfInBounds_toArray, List.set_cons_zero, List.set_cons_succ]
      refine wpAnyH_ready (rs := [12]) (by kernel_rfl) (by simp) ?_
      refine AllReadyH.cons rfl (fun K hK => ?_) AllReadyH.nil
      go_simp
      go_at_call 26
      refine (BTh.out _ (Below.refl _ w4).drew).mono ?_
      rintro e w5 ⟨⟨⟨pl, G, C, at'⟩, ⟨ga, gc⟩, ⟨ca, cc⟩⟩, rfl, hld, hst, hb5⟩
      have B5 := Lib.hid ((Below.refl _ w4).drew.trans hb5)
      have R5 := Lib.hid (blk_below (w := w4.drew) R4.out hb5)
      have H5 := Lib.hid (H4.out.below B5.out)
      have HLD := Lib.hid hld
      have x0 := cell_of_row _ _ 0 _ _ _ R5.out
      have x1 := cell_of_row _ _ 1 _ _ _ R5.out
      have p35 := cell_of_row _ _ 3 _ _ _ H5.out.blk
      dsimp at x0 x1 p35
      have D5 := Lib.hid (DO.out w5 ((pl, G, C, at'), (ga, gc), (ca, cc)) B5.out ((hb5.cell (p := ⟨pt, 0, none⟩) (block_lt_of_cell (w := w4.drew) PT.out)).trans PT.out) hld hst x0 x1)
      clear hld hst hb5
      refine hK.out _ _ ⟨x0, x1⟩ (fun hHeld25 => ?_)
      clear hK K
      try simp only [Act.put, List.getElem_toArray, List.getElem_cons_zero, List.getElem_cons_succ, List.setIfInBounds_toArray, List.set_cons_zero, List.set_cons_succ]
      refine wpAnyH_ready (rs := [13]) (by kernel_rfl) (by simp) ?_
      refine AllReadyH.cons rfl (fun K hK => ?_) AllReadyH.nil
      go_simp
      go_at_call 36
      refine D5.out.mono ?_
      rintro e w6 ⟨he6, vs6, h6, hb6, hst6, v0, v1⟩
      replace he6 : e = .returned (.agg #[.int .i64 (pl : Int), .slice ca C.length cc, .slice ga G.length gc, .int .i64 y.2]) := he6
      subst he6
      have H6 := Lib.hid h6
      have B6 := Lib.hid hb6
      have ST6 := Lib.hid hst6
      have va0 := fun o => (below_alloc w6 o).cell (p := ⟨R, 0, none⟩) (block_lt_of_cell v0) |>.trans v0
      have va1 := fun o => (below_alloc w6 o).cell (p := ⟨R, 1, none⟩) (block_lt_of_cell v1) |>.trans v1
      have p36 := cell_of_row _ _ 3 _ _ _ h6.blk
      dsimp at p36
      have p37 := fun o => (below_alloc w6 o).cell (p := ⟨P, 3, none⟩) (block_lt_of_cell p36) |>.trans p36
      clear h6 hb6 hst6
      refine hK.out _ _ ⟨v0, v1⟩ (fun hHeld26 => ?_)
      clear hK K
      try simp only [Act.put, List.getElem_toArray, List.getElem_cons_zero, List.getElem_cons_succ, List.setIfInBounds_toArray, List.set_cons_zero, List.set_cons_succ]
      refine wpAnyH_ready (rs := [14]) (by kernel_rfl) (by simp) ?_
      refine AllReadyH.cons rfl (fun K hK => ?_) AllReadyH.nil
      go_simp
      refine hK.out _ _ ⟨va0 _, va1 _⟩ (fun hHeld27 => ?_)
      clear hK K
      try simp only [Act.put, List.getElem_toArray, List.getElem_cons_zero, List.getElem_cons_succ, List.setIfInBounds_toArray, List.set_cons_zero, List.set_cons_succ]
      refine wpAnyH_ready (rs := [15]) (by kernel_rfl) (by simp) ?_
      refine AllReadyH.cons rfl (fun K hK => ?_) AllReadyH.nil
      refine step_app_step (by rfl) _ _ (by rfl) B (.slice (some ⟨g, 0, none⟩) m wc) m W (by rfl) HM.out (H6.out.were.below (below_alloc _ _)) w6.heap.size 1 (bkR ((pl, G, C, at'), (ga, gc), (ca, cc)) y) (by rfl) (sta_news (heap_alloc_new w6 _)) (by omega) (Nat.le_trans (Nat.le_trans hBW.out B6.out.size) (below_alloc _ _).size) ?_
      intro ad7 c7 w7 o7 g7 p7
      have H7 := Lib.hid ((H6.out.below (below_alloc w6 (.cells (stA (bkR ((pl, G, C, at'), (ga, gc), (ca, cc)) y)) _))).add (Nat.le_trans (Nat.le_trans hBW.out B6.out.size) (below_alloc _ _).size) ((ST6.out.keep (below_alloc _ _).size (fun k hk => (below_alloc _ _).block k hk.2.1)).mono (FrS.up (below_alloc _ _).size)) o7 g7 p7)
      have t0 := g7.cell (va0 _) (fun e => hwR.out R e.symm rfl)
      have t1 := g7.cell (va1 _) (fun e => hwR.out R e.symm rfl)
      have s3 := cell_of_row _ _ 3 _ _ _ H7.out.1.blk
      have sf := fun i => frozen_of_row _ P i _ _ H7.out.1.blk
      have ba := blk_set H7.out.1.blk 3 (.slice ad7 (m + 1) c7)
      have s4 := cell_of_row _ _ 4 _ _ _ ba
      have sg := fun i => frozen_of_row _ P i _ _ ba
      dsimp at s3 s4
      have t0a := (cell_far (w := w7) (p := ⟨P, 3, none⟩) (q := ⟨R, 0, none⟩) hRP.out (.slice ad7 (m + 1) c7)).trans t0
      have t1a := (cell_far (w := w7) (p := ⟨P, 3, none⟩) (q := ⟨R, 1, none⟩) hRP.out (.slice ad7 (m + 1) c7)).trans t1
      have t0b := (cell_far (w := w7.setCell ⟨P, 3, none⟩ (.slice ad7 (m + 1) c7)) (p := ⟨P, 4, none⟩) (q := ⟨R, 0, none⟩) hRP.out (.slice none 0 0)).trans t0a
      have t1b := (cell_far (w := w7.setCell ⟨P, 3, none⟩ (.slice ad7 (m + 1) c7)) (p := ⟨P, 4, none⟩) (q := ⟨R, 1, none⟩) hRP.out (.slice none 0 0)).trans t1a
      clear o7 g7 p7 ba
      refine hK.out _ _ ⟨t0, t1⟩ (fun hHeld28 => ?_)
      clear hK K
      try simp only [Act.put, List.getElem_toArray, List.getElem_cons_zero, List.getElem_cons_succ, List.setIfInBounds_toArray, List.set_cons_zero, List.set_cons_succ]
      refine wpAnyH_take (i := 16) (v := .pointer (some ⟨P, 0, none⟩)) rfl (by kernel_rfl) (by kernel_rfl) (by kernel_rfl) (fun _ _ _ h => h) (Or.inl ⟨by rfl, ?yy29⟩) (by assumption) ?rr29
      case yy29 =>
        as_aux_lemma =>
          intro w hSw
          try dsimp only at hSw
          go_simp
          all_goals with_reducible rfl
      try simp only [Act.put, List.getElem_toArray, List.getElem_cons_zero, List.getElem_cons_succ, List.setIfInBounds_toArray, List.set_cons_zero, List.set_cons_succ]
      refine wpAnyH_take (i := 17) (v := .pointer (some ⟨P, 3, none⟩)) rfl (by kernel_rfl) (by kernel_rfl) (by kernel_rfl) (fun _ _ _ h => h) (Or.inl ⟨by rfl, ?yy30⟩) (by assumption) ?rr30
      case yy30 =>
        as_aux_lemma =>
          intro w hSw
          try dsimp only at hSw
          go_simp
          all_goals with_reducible rfl
      try simp only [Act.put, List.getElem_toArray, List.getElem_cons_zero, List.getElem_cons_succ, List.setIfInBounds_toArray, List.set_cons_zero, List.set_cons_succ]
      refine wpAnyH_ready (rs := [18]) (by kernel_rfl) (by simp) ?_
      refine AllReadyH.cons rfl (fun K hK => ?_) AllReadyH.nil
      go_simp
      refine hK.out _ _ ⟨t0a, t1a⟩ (fun hHeld31 => ?_)
      clear hK K
      try simp only [Act.put, List.getElem_toArray, List.getElem_cons_zero, List.getElem_cons_succ, List.setIfInBounds_toArray, List.set_cons_zero, List.set_cons_succ]
      refine wpAnyH_take (i := 19) (v := .pointer (some ⟨P, 0, none⟩)) rfl (by kernel_rfl) (by kernel_rfl) (by kernel_rfl) (fun _ _ _ h => h) (Or.inl ⟨by rfl, ?yy32⟩) (by assumption) ?rr32
      case yy32 =>
        as_aux_lemma =>
          intro w hSw
          try dsimp only at hSw
          go_simp
          all_goals with_reducible rfl
      try simp only [Act.put, List.getElem_toArray, List.getElem_cons_zero, List.getElem_cons_succ, List.setIfInBounds_toArray, List.set_cons_zero, List.set_cons_succ]
      refine wpAnyH_take (i := 20) (v := .pointer (some ⟨P, 4, none⟩)) rfl (by kernel_rfl) (by kernel_rfl) (by kernel_rfl) (fun _ _ _ h => h) (Or.inl ⟨by rfl, ?yy33⟩) (by assumption) ?rr33
      case yy33 =>
        as_aux_lemma =>
          intro w hSw
          try dsimp only at hSw
          go_simp
          all_goals with_reducible rfl
      try simp only [Act.put, List.getElem_toArray, List.getElem_cons_zero, List.getElem_cons_succ, List.setIfInBounds_toArray, List.set_cons_zero, List.set_cons_succ]
      refine wpAnyH_ready (rs := [21]) (by kernel_rfl) (by simp) ?_
      refine AllReadyH.cons rfl (fun K hK => ?_) AllReadyH.nil
      go_simp
      refine hK.out _ _ ⟨t0b, t1b⟩ (fun hHeld34 => ?_)
      clear hK K
      try simp only [Act.put, List.getElem_toArray, List.getElem_cons_zero, List.getElem_cons_succ, List.setIfInBounds_toArray, List.set_cons_zero, List.set_cons_succ]
      refine wpAnyH_done (by kernel_rfl) ?_ _
      refine NoPanic.normal ?_
      clear z0 z1 p1 p2 p3 x0 x1 p35 v0 v1 va0 va1 p36 p37 t0 t1 s3 s4 sf sg t0a t1a t0b t1b
      have H8 := Lib.hid (H7.out.1.two (.slice ad7 (m + 1) c7) (.slice none 0 0)).1.forget.s
      have D8 := Lib.hid (Below.setCell (p := ⟨P, 4, none⟩) (Below.setCell (p := ⟨P, 3, none⟩) ((B6.out.trans ((below_alloc w6 _).mono (Nat.le_trans hBW.out B6.out.size))).trans H7.out.2) hle.out (.slice ad7 (m + 1) c7)) hle.out (.slice none 0 0))
      generalize hW8 : (w7.setCell ⟨P, 3, none⟩ (.slice ad7 (m + 1) c7)).setCell ⟨P, 4, none⟩ (.slice none 0 0) = w8 at *
      have y0 := cell_of_row _ _ 0 _ _ _ H8.out.blk
      have y3 := cell_of_row _ _ 3 _ _ _ H8.out.blk
      dsimp at y0 y3
      have hcast : ((m + 1 : Nat) : Int) = (m : Int) + 1 := by omega
      go_upto_region 14 with fail
      go_quiet (fail)
      go_wp2
      go_ret
      first | exact ⟨rfl, _, _, _, HLD.out, H8.out.below ⟨rfl, rfl, rfl, Nat.le_refl _, fun _ _ => rfl⟩, D8.out.trans ⟨rfl, rfl, rfl, Nat.le_refl _, fun _ _ => rfl⟩⟩ | exact ⟨rfl, _, _, _, _, HLD.out, ⟨_, _, _, _, _, _, H8.out.below ⟨rfl, rfl, rfl, Nat.le_refl _, fun _ _ => rfl⟩⟩, D8.out.trans ⟨rfl, rfl, rfl, Nat.le_refl _, fun _ _ => rfl⟩⟩
    · skip
      go_simp
      go_at_call 26
      refine (BTh.out _ (Below.refl _ w4).drew).mono ?_
      rintro e w5 ⟨⟨⟨pl, G, C, at'⟩, ⟨ga, gc⟩, ⟨ca, cc⟩⟩, rfl, hld, hst, hb5⟩
      have B5 := Lib.hid ((Below.refl _ w4).drew.trans hb5)
      have R5 := Lib.hid (blk_below (w := w4.drew) R4.out hb5)
      have H5 := Lib.hid (H4.out.below B5.out)
      have HLD := Lib.hid hld
      have x0 := cell_of_row _ _ 0 _ _ _ R5.out
      have x1 := cell_of_row _ _ 1 _ _ _ R5.out
      have p35 := cell_of_row _ _ 3 _ _ _ H5.out.blk
      dsimp at x0 x1 p35
      have D5 := Lib.hid (DO.out w5 ((pl, G, C, at'), (ga, gc), (ca, cc)) B5.out ((hb5.cell (p := ⟨pt, 0, none⟩) (block_lt_of_cell (w := w4.drew) PT.out)).trans PT.out) hld hst x0 x1)
      clear hld hst hb5
      refine hK.out _ _ ⟨x0, x1⟩ (fun hHeld35 => ?_)
      clear hK K
      try simp only [Act.put, List.getElem_toArray, List.getElem_cons_zero, List.getElem_cons_succ, List.setIfInBounds_toArray, List.set_cons_zero, List.set_cons_succ]
      refine wpAnyH_ready (rs := [5, 13]) (by kernel_rfl) (by simp) ?_
      refine AllReadyH.cons rfl (fun K hK => ?_) (AllReadyH.cons rfl (fun K hK => ?_) AllReadyH.nil)
      · skip
        go_simp
        refine hK.out _ _ ⟨x0, x1⟩ (fun hHeld36 => ?_)
        clear hK K
        try simp only [Act.put, List.getElem_toArray, List.getElem_cons_zero, List.getElem_cons_succ, List.setIfInBounds_toArray, List.set_cons_zero, List.set_cons_succ]
        refine wpAnyH_ready (rs := [13]) (by kernel_rfl) (by simp) ?_
        refine AllReadyH.cons rfl (fun K hK => ?_) AllReadyH.nil
        go_simp
        go_at_call 36
        refine D5.out.mono ?_
        rintro e w6 ⟨he6, vs6, h6, hb6, hst6, v0, v1⟩
        replace he6 : e = .returned (.agg #[.int .i64 (pl : Int), .slice ca C.length cc, .slice ga G.length gc, .int .i64 y.2]) := he6
        subst he6
        have H6 := Lib.hid h6
        have B6 := Lib.hid hb6
        have ST6 := Lib.hid hst6
        have va0 := fun o => (below_alloc w6 o).cell (p := ⟨R, 0, none⟩) (block_lt_of_cell v0) |>.trans v0
        have va1 := fun o => (below_alloc w6 o).cell (p := ⟨R, 1, none⟩) (block_lt_of_cell v1) |>.trans v1
        have p36 := cell_of_row _ _ 3 _ _ _ h6.blk
        dsimp at p36
        have p37 := fun o => (below_alloc w6 o).cell (p := ⟨P, 3, none⟩) (block_lt_of_cell p36) |>.trans p36
        clear h6 hb6 hst6
        refine hK.out _ _ ⟨v0, v1⟩ (fun hHeld37 => ?_)
        clear hK K
        try simp only [Act.put, List.getElem_toArray, List.getElem_cons_zero, List.getElem_cons_succ, List.setIfInBounds_toArray, List.set_cons_zero, List.set_cons_succ]
        refine wpAnyH_ready (rs := [14]) (by kernel_rfl) (by simp) ?_
        refine AllReadyH.cons rfl (fun K hK => ?_) AllReadyH.nil
        go_simp
        refine hK.out _ _ ⟨va0 _, va1 _⟩ (fun hHeld38 => ?_)
        clear hK K
        try simp only [Act.put, List.getElem_toArray, List.getElem_cons_zero, List.getElem_cons_succ, List.setIfInBounds_toArray, List.set_cons_zero, List.set_cons_succ]
        refine wpAnyH_ready (rs := [15]) (by kernel_rfl) (by simp) ?_
        refine AllReadyH.cons rfl (fun K hK => ?_) AllReadyH.nil
        refine step_app_step (by rfl) _ _ (by rfl) B (.slice (some ⟨g, 0, none⟩) m wc) m W (by rfl) HM.out (H6.out.were.below (below_alloc _ _)) w6.heap.size 1 (bkR ((pl, G, C, at'), (ga, gc), (ca, cc)) y) (by rfl) (sta_news (heap_alloc_new w6 _)) (by omega) (Nat.le_trans (Nat.le_trans hBW.out B6.out.size) (below_alloc _ _).size) ?_
        intro ad7 c7 w7 o7 g7 p7
        have H7 := Lib.hid ((H6.out.below (below_alloc w6 (.cells (stA (bkR ((pl, G, C, at'), (ga, gc), (ca, cc)) y)) _))).add (Nat.le_trans (Nat.le_trans hBW.out B6.out.size) (below_alloc _ _).size) ((ST6.out.keep (below_alloc _ _).size (fun k hk => (below_alloc _ _).block k hk.2.1)).mono (FrS.up (below_alloc _ _).size)) o7 g7 p7)
        have t0 := g7.cell (va0 _) (fun e => hwR.out R e.symm rfl)
        have t1 := g7.cell (va1 _) (fun e => hwR.out R e.symm rfl)
        have s3 := cell_of_row _ _ 3 _ _ _ H7.out.1.blk
        have sf := fun i => frozen_of_row _ P i _ _ H7.out.1.blk
        have ba := blk_set H7.out.1.blk 3 (.slice ad7 (m + 1) c7)
        have s4 := cell_of_row _ _ 4 _ _ _ ba
        have sg := fun i => frozen_of_row _ P i _ _ ba
        dsimp at s3 s4
        have t0a := (cell_far (w := w7) (p := ⟨P, 3, none⟩) (q := ⟨R, 0, none⟩) hRP.out (.slice ad7 (m + 1) c7)).trans t0
        have t1a := (cell_far (w := w7) (p := ⟨P, 3, none⟩) (q := ⟨R, 1, none⟩) hRP.out (.slice ad7 (m + 1) c7)).trans t1
        have t0b := (cell_far (w := w7.setCell ⟨P, 3, none⟩ (.slice ad7 (m + 1) c7)) (p := ⟨P, 4, none⟩) (q := ⟨R, 0, none⟩) hRP.out (.slice none 0 0)).trans t0a
        have t1b := (cell_far (w := w7.setCell ⟨P, 3, none⟩ (.slice ad7 (m + 1) c7)) (p := ⟨P, 4, none⟩) (q := ⟨R, 1, none⟩) hRP.out (.slice none 0 0)).trans t1a
        clear o7 g7 p7 ba
        refine hK.out _ _ ⟨t0, t1⟩ (fun hHeld39 => ?_)
        clear hK K
        try simp only [Act.put, List.getElem_toArray, List.getElem_cons_zero, List.getElem_cons_succ, List.setIfInBounds_toArray, List.set_cons_zero, List.set_cons_succ]
        refine wpAnyH_take (i := 16) (v := .pointer (some ⟨P, 0, none⟩)) rfl (by kernel_rfl) (by kernel_rfl) (by kernel_rfl) (fun _ _ _ h => h) (Or.inl ⟨by rfl, ?yy40⟩) (by assumption) ?rr40
        case yy40 =>
          as_aux_lemma =>
            intro w hSw
            try dsimp only at hSw
            go_simp
            all_goals with_reducible rfl
        try simp only [Act.put, List.getElem_toArray, List.getElem_cons_zero, List.getElem_cons_succ, List.setIfInBounds_toArray, List.set_cons_zero, List.set_cons_succ]
        refine wpAnyH_take (i := 17) (v := .pointer (some ⟨P, 3, none⟩)) rfl (by kernel_rfl) (by kernel_rfl) (by kernel_rfl) (fun _ _ _ h => h) (Or.inl ⟨by rfl, ?yy41⟩) (by assumption) ?rr41
        case yy41 =>
          as_aux_lemma =>
            intro w hSw
            try dsimp only at hSw
            go_simp
            all_goals with_reducible rfl
        try simp only [Act.put, List.getElem_toArray, List.getElem_cons_zero, List.getElem_cons_succ, List.setIfInBounds_toArray, List.set_cons_zero, List.set_cons_succ]
        refine wpAnyH_ready (rs := [18]) (by kernel_rfl) (by simp) ?_
        refine AllReadyH.cons rfl (fun K hK => ?_) AllReadyH.nil
        go_simp
        refine hK.out _ _ ⟨t0a, t1a⟩ (fun hHeld42 => ?_)
        clear hK K
        try simp only [Act.put, List.getElem_toArray, List.getElem_cons_zero, List.getElem_cons_succ, List.setIfInBounds_toArray, List.set_cons_zero, List.set_cons_succ]
        refine wpAnyH_take (i := 19) (v := .pointer (some ⟨P, 0, none⟩)) rfl (by kernel_rfl) (by kernel_rfl) (by kernel_rfl) (fun _ _ _ h => h) (Or.inl ⟨by rfl, ?yy43⟩) (by assumption) ?rr43
        case yy43 =>
          as_aux_lemma =>
            intro w hSw
            try dsimp only at hSw
            go_simp
            all_goals with_reducible rfl
        try simp only [Act.put, List.getElem_toArray, List.getElem_cons_zero, List.getElem_cons_succ, List.setIfInBounds_toArray, List.set_cons_zero, List.set_cons_succ]
        refine wpAnyH_take (i := 20) (v := .pointer (some ⟨P, 4, none⟩)) rfl (by kernel_rfl) (by kernel_rfl) (by kernel_rfl) (fun _ _ _ h => h) (Or.inl ⟨by rfl, ?yy44⟩) (by assumption) ?rr44
        case yy44 =>
          as_aux_lemma =>
            intro w hSw
            try dsimp only at hSw
            go_simp
            all_goals with_reducible rfl
        try simp only [Act.put, List.getElem_toArray, List.getElem_cons_zero, List.getElem_cons_succ, List.setIfInBounds_toArray, List.set_cons_zero, List.set_cons_succ]
        refine wpAnyH_ready (rs := [21]) (by kernel_rfl) (by simp) ?_
        refine AllReadyH.cons rfl (fun K hK => ?_) AllReadyH.nil
        go_simp
        refine hK.out _ _ ⟨t0b, t1b⟩ (fun hHeld45 => ?_)
        clear hK K
        try simp only [Act.put, List.getElem_toArray, List.getElem_cons_zero, List.getElem_cons_succ, List.setIfInBounds_toArray, List.set_cons_zero, List.set_cons_succ]
        refine wpAnyH_done (by kernel_rfl) ?_ _
        refine NoPanic.normal ?_
        clear z0 z1 p1 p2 p3 x0 x1 p35 v0 v1 va0 va1 p36 p37 t0 t1 s3 s4 sf sg t0a t1a t0b t1b
        have H8 := Lib.hid (H7.out.1.two (.slice ad7 (m + 1) c7) (.slice none 0 0)).1.forget.s
        have D8 := Lib.hid (Below.setCell (p := ⟨P, 4, none⟩) (Below.setCell (p := ⟨P, 3, none⟩) ((B6.out.trans ((below_alloc w6 _).mono (Nat.le_trans hBW.out B6.out.size))).trans H7.out.2) hle.out (.slice ad7 (m + 1) c7)) hle.out (.slice none 0 0))
        generalize hW8 : (w7.setCell ⟨P, 3, none⟩ (.slice ad7 (m + 1) c7)).setCell ⟨P, 4, none⟩ (.slice none 0 0) = w8 at *
        have y0 := cell_of_row _ _ 0 _ _ _ H8.out.blk
        have y3 := cell_of_row _ _ 3 _ _ _ H8.out.blk
        dsimp at y0 y3
        have hcast : ((m + 1 : Nat) : Int) = (m : Int) + 1 := by omega
        go_upto_region 14 with fail
        go_quiet (fail)
        go_wp2
        go_ret
        first | exact ⟨rfl, _, _, _, HLD.out, H8.out.below ⟨rfl, rfl, rfl, Nat.le_refl _, fun _ _ => rfl⟩, D8.out.trans ⟨rfl, rfl, rfl, Nat.le_refl _, fun _ _ => rfl⟩⟩ | exact ⟨rfl, _, _, _, _, HLD.out, ⟨_, _, _, _, _, _, H8.out.below ⟨rfl, rfl, rfl, Nat.le_refl _, fun _ _ => rfl⟩⟩, D8.out.trans ⟨rfl, rfl, rfl, Nat.le_refl _, fun _ _ => rfl⟩⟩
      · skip
        go_simp
        go_at_call 36
        refine D5.out.mono ?_
        rintro e w6 ⟨he6, vs6, h6, hb6, hst6, v0, v1⟩
        replace he6 : e = .returned (.agg #[.int .i64 (pl : Int), .slice ca C.length cc, .slice ga G.length gc, .int .i64 y.2]) := he6
        subst he6
        have H6 := Lib.hid h6
        have B6 := Lib.hid hb6
        have ST6 := Lib.hid hst6
        have va0 := fun o => (below_alloc w6 o).cell (p := ⟨R, 0, none⟩) (block_lt_of_cell v0) |>.trans v0
        have va1 := fun o => (below_alloc w6 o).cell (p := ⟨R, 1, none⟩) (block_lt_of_cell v1) |>.trans v1
        have p36 := cell_of_row _ _ 3 _ _ _ h6.blk
        dsimp at p36
        have p37 := fun o => (below_alloc w6 o).cell (p := ⟨P, 3, none⟩) (block_lt_of_cell p36) |>.trans p36
        clear h6 hb6 hst6
        refine hK.out _ _ ⟨v0, v1⟩ (fun hHeld46 => ?_)
        clear hK K
        try simp only [Act.put, List.getElem_toArray, List.getElem_cons_zero, List.getElem_cons_succ, List.setIfInBounds_toArray, List.set_cons_zero, List.set_cons_succ]
        refine wpAnyH_ready (rs := [5, 14]) (by kernel_rfl) (by simp) ?_
        refine AllReadyH.cons rfl (fun K hK => ?_) (AllReadyH.cons rfl (fun K hK => ?_) AllReadyH.nil)
        · skip
          go_simp
          refine hK.out _ _ ⟨v0, v1⟩ (fun hHeld47 => ?_)
          clear hK K
          try simp only [Act.put, List.getElem_toArray, List.getElem_cons_zero, List.getElem_cons_succ, List.setIfInBounds_toArray, List.set_cons_zero, List.set_cons_succ]
          refine wpAnyH_ready (rs := [14]) (by kernel_rfl) (by simp) ?_
          refine AllReadyH.cons rfl (fun K hK => ?_) AllReadyH.nil
          go_simp
          refine hK.out _ _ ⟨va0 _, va1 _⟩ (fun hHeld48 => ?_)
          clear hK K
          try simp only [Act.put, List.getElem_toArray, List.getElem_cons_zero, List.getElem_cons_succ, List.setIfInBounds_toArray, List.set_cons_zero, List.set_cons_succ]
          refine wpAnyH_ready (rs := [15]) (by kernel_rfl) (by simp) ?_
          refine AllReadyH.cons rfl (fun K hK => ?_) AllReadyH.nil
          refine step_app_step (by rfl) _ _ (by rfl) B (.slice (some ⟨g, 0, none⟩) m wc) m W (by rfl) HM.out (H6.out.were.below (below_alloc _ _)) w6.heap.size 1 (bkR ((pl, G, C, at'), (ga, gc), (ca, cc)) y) (by rfl) (sta_news (heap_alloc_new w6 _)) (by omega) (Nat.le_trans (Nat.le_trans hBW.out B6.out.size) (below_alloc _ _).size) ?_
          intro ad7 c7 w7 o7 g7 p7
          have H7 := Lib.hid ((H6.out.below (below_alloc w6 (.cells (stA (bkR ((pl, G, C, at'), (ga, gc), (ca, cc)) y)) _))).add (Nat.le_trans (Nat.le_trans hBW.out B6.out.size) (below_alloc _ _).size) ((ST6.out.keep (below_alloc _ _).size (fun k hk => (below_alloc _ _).block k hk.2.1)).mono (FrS.up (below_alloc _ _).size)) o7 g7 p7)
          have t0 := g7.cell (va0 _) (fun e => hwR.out R e.symm rfl)
          have t1 := g7.cell (va1 _) (fun e => hwR.out R e.symm rfl)
          have s3 := cell_of_row _ _ 3 _ _ _ H7.out.1.blk
          have sf := fun i => frozen_of_row _ P i _ _ H7.out.1.blk
          have ba := blk_set H7.out.1.blk 3 (.slice ad7 (m + 1) c7)
          have s4 := cell_of_row _ _ 4 _ _ _ ba
          have sg := fun i => frozen_of_row _ P i _ _ ba
          dsimp at s3 s4
          have t0a := (cell_far (w := w7) (p := ⟨P, 3, none⟩) (q := ⟨R, 0, none⟩) hRP.out (.slice ad7 (m + 1) c7)).trans t0
          have t1a := (cell_far (w := w7) (p := ⟨P, 3, none⟩) (q := ⟨R, 1, none⟩) hRP.out (.slice ad7 (m + 1) c7)).trans t1
          have t0b := (cell_far (w := w7.setCell ⟨P, 3, none⟩ (.slice ad7 (m + 1) c7)) (p := ⟨P, 4, none⟩) (q := ⟨R, 0, none⟩) hRP.out (.slice none 0 0)).trans t0a
          have t1b := (cell_far (w := w7.setCell ⟨P, 3, none⟩ (.slice ad7 (m + 1) c7)) (p := ⟨P, 4, none⟩) (q := ⟨R, 1, none⟩) hRP.out (.slice none 0 0)).trans t1a
          clear o7 g7 p7 ba
          refine hK.out _ _ ⟨t0, t1⟩ (fun hHeld49 => ?_)
          clear hK K
          try simp only [Act.put, List.getElem_toArray, List.getElem_cons_zero, List.getElem_cons_succ, List.setIfInBounds_toArray, List.set_cons_zero, List.set_cons_succ]
          refine wpAnyH_take (i := 16) (v := .pointer (some ⟨P, 0, none⟩)) rfl (by kernel_rfl) (by kernel_rfl) (by kernel_rfl) (fun _ _ _ h => h) (Or.inl ⟨by rfl, ?yy50⟩) (by assumption) ?rr50
          case yy50 =>
            as_aux_lemma =>
              intro w hSw
              try dsimp only at hSw
              go_simp
              all_goals with_reducible rfl
          try simp only [Act.put, List.getElem_toArray, List.getElem_cons_zero, List.getElem_cons_succ, List.setIfInBounds_toArray, List.set_cons_zero, List.set_cons_succ]
          refine wpAnyH_take (i := 17) (v := .pointer (some ⟨P, 3, none⟩)) rfl (by kernel_rfl) (by kernel_rfl) (by kernel_rfl) (fun _ _ _ h => h) (Or.inl ⟨by rfl, ?yy51⟩) (by assumption) ?rr51
          case yy51 =>
            as_aux_lemma =>
              intro w hSw
              try dsimp only at hSw
              go_simp
              all_goals with_reducible rfl
          try simp only [Act.put, List.getElem_toArray, List.getElem_cons_zero, List.getElem_cons_succ, List.setIfInBounds_toArray, List.set_cons_zero, List.set_cons_succ]
          refine wpAnyH_ready (rs := [18]) (by kernel_rfl) (by simp) ?_
          refine AllReadyH.cons rfl (fun K hK => ?_) AllReadyH.nil
          go_simp
          refine hK.out _ _ ⟨t0a, t1a⟩ (fun hHeld52 => ?_)
          clear hK K
          try simp only [Act.put, List.getElem_toArray, List.getElem_cons_zero, List.getElem_cons_succ, List.setIfInBounds_toArray, List.set_cons_zero, List.set_cons_succ]
          refine wpAnyH_take (i := 19) (v := .pointer (some ⟨P, 0, none⟩)) rfl (by kernel_rfl) (by kernel_rfl) (by kernel_rfl) (fun _ _ _ h => h) (Or.inl ⟨by rfl, ?yy53⟩) (by assumption) ?rr53
          case yy53 =>
            as_aux_lemma =>
              intro w hSw
              try dsimp only at hSw
              go_simp
              all_goals with_reducible rfl
          try simp only [Act.put, List.getElem_toArray, List.getElem_cons_zero, List.getElem_cons_succ, List.setIfInBounds_toArray, List.set_cons_zero, List.set_cons_succ]
          refine wpAnyH_take (i := 20) (v := .pointer (some ⟨P, 4, none⟩)) rfl (by kernel_rfl) (by kernel_rfl) (by kernel_rfl) (fun _ _ _ h => h) (Or.inl ⟨by rfl, ?yy54⟩) (by assumption) ?rr54
          case yy54 =>
            as_aux_lemma =>
              intro w hSw
              try dsimp only at hSw
              go_simp
              all_goals with_reducible rfl
          try simp only [Act.put, List.getElem_toArray, List.getElem_cons_zero, List.getElem_cons_succ, List.setIfInBounds_toArray, List.set_cons_zero, List.set_cons_succ]
          refine wpAnyH_ready (rs := [21]) (by kernel_rfl) (by simp) ?_
          refine AllReadyH.cons rfl (fun K hK => ?_) AllReadyH.nil
          go_simp
          refine hK.out _ _ ⟨t0b, t1b⟩ (fun hHeld55 => ?_)
          clear hK K
          try simp only [Act.put, List.getElem_toArray, List.getElem_cons_zero, List.getElem_cons_succ, List.setIfInBounds_toArray, List.set_cons_zero, List.set_cons_succ]
          refine wpAnyH_done (by kernel_rfl) ?_ _
          refine NoPanic.normal ?_
          clear z0 z1 p1 p2 p3 x0 x1 p35 v0 v1 va0 va1 p36 p37 t0 t1 s3 s4 sf sg t0a t1a t0b t1b
          have H8 := Lib.hid (H7.out.1.two (.slice ad7 (m + 1) c7) (.slice none 0 0)).1.forget.s
          have D8 := Lib.hid (Below.setCell (p := ⟨P, 4, none⟩) (Below.setCell (p := ⟨P, 3, none⟩) ((B6.out.trans ((below_alloc w6 _).mono (Nat.le_trans hBW.out B6.out.size))).trans H7.out.2) hle.out (.slice ad7 (m + 1) c7)) hle.out (.slice none 0 0))
          generalize hW8 : (w7.setCell ⟨P, 3, none⟩ (.slice ad7 (m + 1) c7)).setCell ⟨P, 4, none⟩ (.slice none 0 0) = w8 at *
          have y0 := cell_of_row _ _ 0 _ _ _ H8.out.blk
          have y3 := cell_of_row _ _ 3 _ _ _ H8.out.blk
          dsimp at y0 y3
          have hcast : ((m + 1 : Nat) : Int) = (m : Int) + 1 := by omega
          go_upto_region 14 with fail
          go_quiet (fail)
          go_wp2
          go_ret
          first | exact ⟨rfl, _, _, _, HLD.out, H8.out.below ⟨rfl, rfl, rfl, Nat.le_refl _, fun _ _ => rfl⟩, D8.out.trans ⟨rfl, rfl, rfl, Nat.le_refl _, fun _ _ => rfl⟩⟩ | exact ⟨rfl, _, _, _, _, HLD.out, ⟨_, _, _, _, _, _, H8.out.below ⟨rfl, rfl, rfl, Nat.le_refl _, fun _ _ => rfl⟩⟩, D8.out.trans ⟨rfl, rfl, rfl, Nat.le_refl _, fun _ _ => rfl⟩⟩
        · skip
          go_simp
          refine hK.out _ _ ⟨va0 _, va1 _⟩ (fun hHeld56 => ?_)
          clear hK K
          try simp only [Act.put, List.getElem_toArray, List.getElem_cons_zero, List.getElem_cons_succ, List.setIfInBounds_toArray, List.set_cons_zero, List.set_cons_succ]
          refine wpAnyH_ready (rs := [5]) (by kernel_rfl) (by simp) ?_
          refine AllReadyH.cons rfl (fun K hK => ?_) AllReadyH.nil
          go_simp
          refine hK.out _ _ ⟨va0 _, va1 _⟩ (fun hHeld57 => ?_)
          clear hK K
          try simp only [Act.put, List.getElem_toArray, List.getElem_cons_zero, List.getElem_cons_succ, List.setIfInBounds_toArray, List.set_cons_zero, List.set_cons_succ]
          refine wpAnyH_ready (rs := [15]) (by kernel_rfl) (by simp) ?_
          refine AllReadyH.cons rfl (fun K hK => ?_) AllReadyH.nil
          refine step_app_step (by rfl) _ _ (by rfl) B (.slice (some ⟨g, 0, none⟩) m wc) m W (by rfl) HM.out (H6.out.were.below (below_alloc _ _)) w6.heap.size 1 (bkR ((pl, G, C, at'), (ga, gc), (ca, cc)) y) (by rfl) (sta_news (heap_alloc_new w6 _)) (by omega) (Nat.le_trans (Nat.le_trans hBW.out B6.out.size) (below_alloc _ _).size) ?_
          intro ad7 c7 w7 o7 g7 p7
          have H7 := Lib.hid ((H6.out.below (below_alloc w6 (.cells (stA (bkR ((pl, G, C, at'), (ga, gc), (ca, cc)) y)) _))).add (Nat.le_trans (Nat.le_trans hBW.out B6.out.size) (below_alloc _ _).size) ((ST6.out.keep (below_alloc _ _).size (fun k hk => (below_alloc _ _).block k hk.2.1)).mono (FrS.up (below_alloc _ _).size)) o7 g7 p7)
          have t0 := g7.cell (va0 _) (fun e => hwR.out R e.symm rfl)
          have t1 := g7.cell (va1 _) (fun e => hwR.out R e.symm rfl)
          have s3 := cell_of_row _ _ 3 _ _ _ H7.out.1.blk
          have sf := fun i => frozen_of_row _ P i _ _ H7.out.1.blk
          have ba := blk_set H7.out.1.blk 3 (.slice ad7 (m + 1) c7)
          have s4 := cell_of_row _ _ 4 _ _ _ ba
          have sg := fun i => frozen_of_row _ P i _ _ ba
          dsimp at s3 s4
          have t0a := (cell_far (w := w7) (p := ⟨P, 3, none⟩) (q := ⟨R, 0, none⟩) hRP.out (.slice ad7 (m + 1) c7)).trans t0
          have t1a := (cell_far (w := w7) (p := ⟨P, 3, none⟩) (q := ⟨R, 1, none⟩) hRP.out (.slice ad7 (m + 1) c7)).trans t1
          have t0b := (cell_far (w := w7.setCell ⟨P, 3, none⟩ (.slice ad7 (m + 1) c7)) (p := ⟨P, 4, none⟩) (q := ⟨R, 0, none⟩) hRP.out (.slice none 0 0)).trans t0a
          have t1b := (cell_far (w := w7.setCell ⟨P, 3, none⟩ (.slice ad7 (m + 1) c7)) (p := ⟨P, 4, none⟩) (q := ⟨R, 1, none⟩) hRP.out (.slice none 0 0)).trans t1a
          clear o7 g7 p7 ba
          refine hK.out _ _ ⟨t0, t1⟩ (fun hHeld58 => ?_)
          clear hK K
          try simp only [Act.put, List.getElem_toArray, List.getElem_cons_zero, List.getElem_cons_succ, List.setIfInBounds_toArray, List.set_cons_zero, List.set_cons_succ]
          refine wpAnyH_take (i := 16) (v := .pointer (some ⟨P, 0, none⟩)) rfl (by kernel_rfl) (by kernel_rfl) (by kernel_rfl) (fun _ _ _ h => h) (Or.inl ⟨by rfl, ?yy59⟩) (by assumption) ?rr59
          case yy59 =>
            as_aux_lemma =>
              intro w hSw
              try dsimp only at hSw
              go_simp
              all_goals with_reducible rfl
          try simp only [Act.put, List.getElem_toArray, List.getElem_cons_zero, List.getElem_cons_succ, List.setIfInBounds_toArray, List.set_cons_zero, List.set_cons_succ]
          refine wpAnyH_take (i := 17) (v := .pointer (some ⟨P, 3, none⟩)) rfl (by kernel_rfl) (by kernel_rfl) (by kernel_rfl) (fun _ _ _ h => h) (Or.inl ⟨by rfl, ?yy60⟩) (by assumption) ?rr60
          case yy60 =>
            as_aux_lemma =>
              intro w hSw
              try dsimp only at hSw
              go_simp
              all_goals with_reducible rfl
          try simp only [Act.put, List.getElem_toArray, List.getElem_cons_zero, List.getElem_cons_succ, List.setIfInBounds_toArray, List.set_cons_zero, List.set_cons_succ]
          refine wpAnyH_ready (rs := [18]) (by kernel_rfl) (by simp) ?_
          refine AllReadyH.cons rfl (fun K hK => ?_) AllReadyH.nil
          go_simp
          refine hK.out _ _ ⟨t0a, t1a⟩ (fun hHeld61 => ?_)
          clear hK K
          try simp only [Act.put, List.getElem_toArray, List.getElem_cons_zero, List.getElem_cons_succ, List.setIfInBounds_toArray, List.set_cons_zero, List.set_cons_succ]
          refine wpAnyH_take (i := 19) (v := .pointer (some ⟨P, 0, none⟩)) rfl (by kernel_rfl) (by kernel_rfl) (by kernel_rfl) (fun _ _ _ h => h) (Or.inl ⟨by rfl, ?yy62⟩) (by assumption) ?rr62
          case yy62 =>
            as_aux_lemma =>
              intro w hSw
              try dsimp only at hSw
              go_simp
              all_goals with_reducible rfl
          try simp only [Act.put, List.getElem_toArray, List.getElem_cons_zero, List.getElem_cons_succ, List.setIfInBounds_toArray, List.set_cons_zero, List.set_cons_succ]
          refine wpAnyH_take (i := 20) (v := .pointer (some ⟨P, 4, none⟩)) rfl (by kernel_rfl) (by kernel_rfl) (by kernel_rfl) (fun _ _ _ h => h) (Or.inl ⟨by rfl, ?yy63⟩) (by assumption) ?rr63
          case yy63 =>
            as_aux_lemma =>
              intro w hSw
              try dsimp only at hSw
              go_simp
              all_goals with_reducible rfl
          try simp only [Act.put, List.getElem_toArray, List.getElem_cons_zero, List.getElem_cons_succ, List.setIfInBounds_toArray, List.set_cons_zero, List.set_cons_succ]
          refine wpAnyH_ready (rs := [21]) (by kernel_rfl) (by simp) ?_
          refine AllReadyH.cons rfl (fun K hK => ?_) AllReadyH.nil
          go_simp
          refine hK.out _ _ ⟨t0b, t1b⟩ (fun hHeld64 => ?_)
          clear hK K
          try simp only [Act.put, List.getElem_toArray, List.getElem_cons_zero, List.getElem_cons_succ, List.setIfInBounds_toArray, List.set_cons_zero, List.set_cons_succ]
          refine wpAnyH_done (by kernel_rfl) ?_ _
          refine NoPanic.normal ?_
          clear z0 z1 p1 p2 p3 x0 x1 p35 v0 v1 va0 va1 p36 p37 t0 t1 s3 s4 sf sg t0a t1a t0b t1b
          have H8 := Lib.hid (H7.out.1.two (.slice ad7 (m + 1) c7) (.slice none 0 0)).1.forget.s
          have D8 := Lib.hid (Below.setCell (p := ⟨P, 4, none⟩) (Below.setCell (p := ⟨P, 3, none⟩) ((B6.out.trans ((below_alloc w6 _).mono (Nat.le_trans hBW.out B6.out.size))).trans H7.out.2) hle.out (.slice ad7 (m + 1) c7)) hle.out (.slice none 0 0))
          generalize hW8 : (w7.setCell ⟨P, 3, none⟩ (.slice ad7 (m + 1) c7)).setCell ⟨P, 4, none⟩ (.slice none 0 0) = w8 at *
          have y0 := cell_of_row _ _ 0 _ _ _ H8.out.blk
          have y3 := cell_of_row _ _ 3 _ _ _ H8.out.blk
          dsimp at y0 y3
          have hcast : ((m + 1 : Nat) : Int) = (m : Int) + 1 := by omega
          go_upto_region 14 with fail
          go_quiet (fail)
          go_wp2
          go_ret
          first | exact ⟨rfl, _, _, _, HLD.out, H8.out.below ⟨rfl, rfl, rfl, Nat.le_refl _, fun _ _ => rfl⟩, D8.out.trans ⟨rfl, rfl, rfl, Nat.le_refl _, fun _ _ => rfl⟩⟩ | exact ⟨rfl, _, _, _, _, HLD.out, ⟨_, _, _, _, _, _, H8.out.below ⟨rfl, rfl, rfl, Nat.le_refl _, fun _ _ => rfl⟩⟩, D8.out.trans ⟨rfl, rfl, rfl, Nat.le_refl _, fun _ _ => rfl⟩⟩
end Go.Proofs.YtjgffedcbdnddaaDoor
set_option linter.unusedVariables false
set_option linter.unusedSimpArgs false
namespace Go.Proofs.YtjgffedcbdnddaaDoor
open Go.RowKit
/-- What a call on a trail leaves of the world: what lies below B, and the blocks of S. -/
structure KpU (B : Nat) (S : Nat → Prop) (w w' : World) : Prop where
  b : Below B w w'
  s : ∀ k, S k → w'.heap[k]? = w.heap[k]?
/-- What blocks of S hold. -/
abbrev FoS (S : Nat → Prop) (w : World) : Nat → Obj → Prop := fun k o => S k ∧ w.heap[k]? = some o
/-- A trail in block P: the line that is, lines that were, lines that were taken back. -/
structure US (S : Nat → Prop) (B P : Nat) (M : Int) (x : ULn) (Ps Ls : List ULn) (w : World) : Prop where
  ex : ∃ (W T : List StR) (vs rw rt : Value), TrS (FoS S w) B P M x W T vs rw rt w ∧ Ch (W.map (·.1)) Ps x ∧ Ch (T.map (·.1)) Ls x
  lt : ∀ k, S k → B ≤ k ∧ k < w.heap.size
  len : (Ps.length : Int) + Ls.length ≤ M
  m1 : 1 ≤ M
  m2 : M ≤ 1000
  sx : x.1.length ≤ 60
  sp : ∀ p ∈ Ps, p.1.length ≤ 60
  sl : ∀ p ∈ Ls, p.1.length ≤ 60
theorem some_lt {w : World} {k : Nat} (h : k < w.heap.size) : ∃ o, w.heap[k]? = some o := ⟨_, Array.getElem?_eq_getElem h⟩
section
variable {S S' : Nat → Prop} {B P : Nat} {M : Int} {x y : ULn} {Ps Ls : List ULn} {w w' : World}
theorem US.hB (h : US S B P M x Ps Ls w) : B ≤ w.heap.size := by
  obtain ⟨_, _, _, _, _, h0, _⟩ := h.ex
  have := h0.lt; omega
theorem US.grow (h : US S B P M x Ps Ls w) (hb : Below w.heap.size w w') (hS : ∀ k, S' k → S k ∨ (w.heap.size ≤ k ∧ k < w'.heap.size)) : US S' B P M x Ps Ls w' := by
  obtain ⟨W, T, vs, rw, rt, h0, hc, hd⟩ := h.ex
  have hP := h0.lt
  refine ⟨⟨W, T, vs, rw, rt, (h0.below hb).other fun k o hk => ⟨?_, hk.2⟩, hc, hd⟩, fun k hk => ?_, h.len, h.m1, h.m2, h.sx, h.sp, h.sl⟩
  · rcases hS k hk.1 with hk1 | hk1
    · obtain ⟨o', ho'⟩ := some_lt (h.lt k hk1).2
      exact FrS.up hb.size k (h0.fo k o' ⟨hk1, ho'⟩).1
    · exact ⟨by omega, hk1.2, by omega, fun e => by have := (h0.now.lt k e).2; omega, fun e => by have := (h0.were.lt k e).2; omega, fun e => by have := (h0.taken.lt k e).2; omega⟩
  · rcases hS k hk with hk1 | hk1
    · have := h.lt k hk1; have := hb.size; omega
    · omega
theorem US.below (h : US S B P M x Ps Ls w) (hb : Below w.heap.size w w') : US S B P M x Ps Ls w' := h.grow hb fun k hk => Or.inl hk
/-- A call has been done. -/
theorem us_fin {x' : ULn} {Ps' Ls' : List ULn} (h : US S B P M x Ps Ls w) {W T : List StR} {vs rw rt : Value} (h' : TrS (FoS S w) B P M x' W T vs rw rt w') (hb : Below B w w') (hc : Ch (W.map (·.1)) Ps' x') (hd : Ch (T.map (·.1)) Ls' x') (hlen : (Ps'.length : Int) + Ls'.length ≤ M)
    (sx : x'.1.length ≤ 60) (sp : ∀ p ∈ Ps', p.1.length ≤ 60) (sl : ∀ p ∈ Ls', p.1.length ≤ 60) : US S B P M x' Ps' Ls' w' ∧ KpU B S w w' := by
  have hk : ∀ k, S k → FrS B P vs rw rt w' k ∧ w'.heap[k]? = w.heap[k]? := fun k hk => by
    obtain ⟨o, ho⟩ := some_lt (h.lt k hk).2
    have := h'.fo k o ⟨hk, ho⟩
    exact ⟨this.1, this.2.trans ho.symm⟩
  exact ⟨⟨⟨W, T, vs, rw, rt, h'.other fun k o hko => ⟨(hk k hko.1).1, hko.2⟩, hc, hd⟩, fun k hs => ⟨(h.lt k hs).1, (hk k hs).1.2.1⟩, hlen, h.m1, h.m2, sx, sp, sl⟩, ⟨hb, fun k hs => (hk k hs).2⟩⟩
theorem us_len (h : US S B P M x Ps Ls w) {W T : List StR} (hc : Ch (W.map (·.1)) Ps x) (hd : Ch (T.map (·.1)) Ls x) : W.length = Ps.length ∧ T.length = Ls.length ∧ Ps.length ≤ 1000 ∧ Ls.length ≤ 1000 := by
  have h1 := hc.len; have h2 := hd.len
  rw [List.length_map] at h1 h2
  have := h.len; have := h.m2
  exact ⟨h1, h2, by omega, by omega⟩
theorem snoc_map {α β : Type} (f : α → β) : ∀ (W : List α) (n : Nat), W.length = n + 1 → ∃ W' q, W = W' ++ [q] ∧ W'.length = n := fun W n h => by
  have hne : W ≠ [] := fun e => by rw [e] at h; simp at h
  exact ⟨W.dropLast, W.getLast hne, (List.dropLast_concat_getLast hne).symm, by rw [List.length_dropLast, h]; rfl⟩
theorem usteps_us (h : US S B P M x Ps Ls w) : Calls Tryd.prog 8 #[.pointer (some ⟨P, 0, none⟩)] w fun e w' => e = .returned (.tuple #[.int .i64 Ps.length, .int .i64 Ls.length]) ∧ Below w.heap.size w w' := by
  obtain ⟨W, T, vs, rw, rt, h0, hc, hd⟩ := h.ex
  have := us_len h hc hd
  exact usteps_any h0 this.1 this.2.1
theorem unow_us (h : US S B P M x Ps Ls w) {n : Nat} (hn : x.1.length = n) : Calls Tryd.prog 10 #[.pointer (some ⟨P, 0, none⟩)] w fun e w' => ∃ b d, e = .returned (.agg #[.slice b n d, .int .i64 x.2]) ∧ OwS w' w.heap.size (.slice b n d) x.1 ∧ Below w.heap.size w w' := by
  obtain ⟨W, T, vs, rw, rt, h0, hc, hd⟩ := h.ex
  exact unow_any h0 hn (by have := h.sx; omega)
theorem uback_us_no (h : US S B P M x [] Ls w) : Calls Tryd.prog 11 #[.pointer (some ⟨P, 0, none⟩)] w fun e w' => e = .returned (.bool false) ∧ US S B P M x [] Ls w' ∧ KpU B S w w' := by
  obtain ⟨W, T, vs, rw, rt, h0, hc, hd⟩ := h.ex
  obtain rfl : W = [] := List.length_eq_zero_iff.1 (us_len h hc hd).1
  refine (uback_no h0 h.hB).mono ?_
  rintro e w' ⟨rfl, vs', r, t, h', hb⟩
  exact ⟨rfl, us_fin h h' hb hc hd h.len h.sx h.sp h.sl⟩
theorem uforth_us_no (h : US S B P M x Ps [] w) : Calls Tryd.prog 12 #[.pointer (some ⟨P, 0, none⟩)] w fun e w' => e = .returned (.bool false) ∧ US S B P M x Ps [] w' ∧ KpU B S w w' := by
  obtain ⟨W, T, vs, rw, rt, h0, hc, hd⟩ := h.ex
  obtain rfl : T = [] := List.length_eq_zero_iff.1 (us_len h hc hd).2.1
  refine (uforth_no h0 h.hB).mono ?_
  rintro e w' ⟨rfl, vs', r, t, h', hb⟩
  exact ⟨rfl, us_fin h h' hb hc hd h.len h.sx h.sp h.sl⟩
theorem uback_us (h : US S B P M x (Ps ++ [y]) Ls w) : Calls Tryd.prog 11 #[.pointer (some ⟨P, 0, none⟩)] w fun e w' => e = .returned (.bool true) ∧ US S B P M y Ps (Ls ++ [x]) w' ∧ KpU B S w w' := by
  obtain ⟨W, T, vs, rw, rt, h0, hc, hd⟩ := h.ex
  have hL := us_len h hc hd
  rw [List.length_append] at hL
  obtain ⟨W, q, rfl, hW⟩ := snoc_map (fun q : StR => q.1) W Ps.length hL.1
  rw [List.map_append, List.map_cons, List.map_nil] at hc
  obtain ⟨hc, hq⟩ := hc.pop
  have sx := h.sx
  have sy := h.sp y (List.mem_append_right _ (List.mem_singleton_self y))
  simp only [List.length_singleton] at hL
  refine (uback_yes h0 hq h.hB (by omega) (by omega) (by omega) (by omega)).mono ?_
  rintro e w' ⟨rfl, vs', r, t, h', hb⟩
  refine ⟨rfl, us_fin h h' hb hc ?_ ?_ sy (fun p hp => h.sp p (List.mem_append_left _ hp)) fun p hp => ?_⟩
  · rw [List.map_append]; exact hd.snoc hq.back
  · have := h.len; rw [List.length_append] at this ⊢; simp at this ⊢; omega
  · rw [List.mem_append, List.mem_singleton] at hp
    rcases hp with hp | rfl
    · exact h.sl p hp
    · exact sx
theorem uforth_us (h : US S B P M x Ps (Ls ++ [y]) w) : Calls Tryd.prog 12 #[.pointer (some ⟨P, 0, none⟩)] w fun e w' => e = .returned (.bool true) ∧ US S B P M y (Ps ++ [x]) Ls w' ∧ KpU B S w w' := by
  obtain ⟨W, T, vs, rw, rt, h0, hc, hd⟩ := h.ex
  have hL := us_len h hc hd
  rw [List.length_append] at hL
  obtain ⟨T, q, rfl, hT⟩ := snoc_map (fun q : StR => q.1) T Ls.length hL.2.1
  rw [List.map_append, List.map_cons, List.map_nil] at hd
  obtain ⟨hd, hq⟩ := hd.pop
  have sx := h.sx
  have sy := h.sl y (List.mem_append_right _ (List.mem_singleton_self y))
  simp only [List.length_singleton] at hL
  refine (uforth_yes h0 hq h.hB (by omega) (by omega) (by omega) (by omega)).mono ?_
  rintro e w' ⟨rfl, vs', r, t, h', hb⟩
  refine ⟨rfl, us_fin h h' hb ?_ hd ?_ sy (fun p hp => ?_) fun p hp => h.sl p (List.mem_append_left _ hp)⟩
  · rw [List.map_append]; exact hc.snoc hq.back
  · have := h.len; rw [List.length_append] at this ⊢; simp at this ⊢; omega
  · rw [List.mem_append, List.mem_singleton] at hp
    rcases hp with hp | rfl
    · exact h.sp p hp
    · exact sx
/-- The lines that were, behind Set. -/
def stP (M : Int) (x c : ULn) (Ps : List ULn) (j : Bool) : List ULn := if sgS c.1 x.1 = true then Ps else if j = true ∧ Ps ≠ [] then Ps else if M < (Ps.length : Int) + 1 then (Ps ++ [x]).tail else Ps ++ [x]
def stT (x c : ULn) (Ls : List ULn) : List ULn := if sgS c.1 x.1 = true then Ls else []
theorem uset_us_arg (h : US S B P M x Ps Ls w) (L : List Sn) (a : Option Addr) (n c : Nat) (xi : Int) (j : Bool) (hn : L.length = n) (hl : n ≤ 90000) (hs : Signs w a L) (hr : mayL L xi = false) :
    Calls Tryd.prog 13 #[.pointer (some ⟨P, 0, none⟩), .agg #[.slice a n c, .int .i64 xi], .bool j] w fun e w' => e = .returned (.int .i64 2) ∧ Below w.heap.size w w' := uset_arg P L a n c xi j w hn hl hs hr
theorem uset_us (h : US S B P M x Ps Ls w) (L : List Sn) (a : Option Addr) (n c : Nat) (xi : Int) (j : Bool) (hn : L.length = n) (hl : n ≤ 60) (Sg : Nat → Prop) (hs : SlS Sg w a L c) (hSg : ∀ k, Sg k → k < B ∨ S k) (hr : mayL L xi = true) :
    Calls Tryd.prog 13 #[.pointer (some ⟨P, 0, none⟩), .agg #[.slice a n c, .int .i64 xi], .bool j] w fun e w' => e = .returned (.int .i64 0) ∧ US S B P M (L, xi) (stP M x (L, xi) Ps j) (stT x (L, xi) Ls) w' ∧ KpU B S w w' := by
  obtain ⟨W, T, vs, rw, rt, h0, hc, hd⟩ := h.ex
  have hL := us_len h hc hd
  have sx := h.sx
  have sL : L.length ≤ 60 := by omega
  have hlen := h.len
  by_cases he : sgS L x.1 = true
  · have e : x.1 = L := by unfold sgS at he; exact (of_decide_eq_true he).symm
    obtain ⟨X, xa⟩ := x
    dsimp only at e sx
    subst e
    have e1 : stP M (X, xa) (X, xi) Ps j = Ps := if_pos he
    have e2 : stT (X, xa) (X, xi) Ls = Ls := if_pos he
    rw [e1, e2]
    refine (uset_same h0 X a n c xi j hn (by omega) hs.s hr he (by dsimp only; omega) h.hB).mono ?_
    rintro e w' ⟨rfl, h', hb⟩
    exact ⟨rfl, us_fin h h' hb hc.cursor hd.cursor h.len sx h.sp h.sl⟩
  have hef : sgS L x.1 = false := by simpa using he
  have e2 : stT x (L, xi) Ls = [] := if_neg he
  rw [e2]
  have BT : ∀ (va : Option Addr) (vn vc : Nat), vs = .slice va vn vc → ∀ w1, Below w.heap.size w w1 → Calls Tryd.prog 26 #[.agg #[vs, .int .i64 x.2], .agg #[.slice a n c, .int .i64 xi]] w1 fun e w' => ∃ q : StR, e = .returned (.agg (stA q)) ∧ Ld q.1 x (L, xi) ∧ StIn (fun k => w1.heap.size ≤ k ∧ k < w'.heap.size) w' q ∧ Below w1.heap.size w1 w' := fun va vn vc ev w1 hb1 => by
    obtain ⟨va', vc', ev', vsl⟩ := h0.now.sl
    rw [ev'] at ev ⊢
    exact between_any x.1 L x.2 xi va' a x.1.length n vc' c w1 rfl hn (by omega) (by omega) _ _ (vsl.below hb1) (hs.below hb1)
  by_cases hj : j = true ∧ Ps ≠ []
  · have e1 : stP M x (L, xi) Ps j = Ps := by unfold stP; rw [if_neg he, if_pos hj]
    rw [e1]
    obtain ⟨rfl, hP⟩ := hj
    obtain ⟨Ps, y, rfl⟩ : ∃ P' y, Ps = P' ++ [y] := ⟨_, _, (List.dropLast_concat_getLast hP).symm⟩
    rw [List.length_append] at hL
    obtain ⟨W, q, rfl, hW⟩ := snoc_map (fun q : StR => q.1) W Ps.length hL.1
    rw [List.map_append, List.map_cons, List.map_nil] at hc
    obtain ⟨hc, hq⟩ := hc.pop
    have sy := h.sp y (List.mem_append_right _ (List.mem_singleton_self y))
    rw [List.length_append] at hlen
    simp only [List.length_singleton] at hL hlen
    refine (uset_newC h0 hq L a n c xi Ps.length hW (by omega) hn (by omega) Sg hs (fun k hk => (hSg k hk).imp id fun hk => ?_) hr hef (by omega) (by omega) h.hB (by omega)).mono ?_
    · obtain ⟨o, ho⟩ := some_lt (h.lt k hk).2
      exact ⟨o, hk, ho⟩
    · rintro e w' ⟨rfl, q', vs', rw', hq', h', hb⟩
      refine ⟨rfl, us_fin h h' hb ?_ trivial ?_ sL h.sp (fun p hp => by cases hp)⟩
      · rw [List.map_append]; exact hc.snoc hq'.back
      · rw [List.length_append]; simp; omega
  · have e1 : stP M x (L, xi) Ps j = if M < (Ps.length : Int) + 1 then (Ps ++ [x]).tail else Ps ++ [x] := by unfold stP; rw [if_neg he, if_neg hj]
    rw [e1]
    have spx : ∀ p ∈ Ps ++ [x], p.1.length ≤ 60 := fun p hp => by
      rw [List.mem_append, List.mem_singleton] at hp
      rcases hp with hp | rfl
      · exact h.sp p hp
      · exact sx
    have hch : ∀ q' : StR, Ld q'.1 x (L, xi) → Ch ((W ++ [bkR q' x]).map (·.1)) (Ps ++ [x]) (L, xi) := fun q' hq' => by rw [List.map_append]; exact hc.snoc hq'.back
    by_cases ho : M < (Ps.length : Int) + 1
    · rw [if_pos ho]
      cases j with
      | true =>
        exfalso
        have : Ps = [] := by
          by_cases hp : Ps = []
          · exact hp
          · exact absurd ⟨rfl, hp⟩ hj
        rw [this] at ho
        have := h.m1
        simp at ho
        omega
      | false =>
        refine (uset_newM h0 L a n c xi Ps.length hL.1 (by omega) hn (by omega) hs.s hr hef (by omega) h.hB ho BT).mono ?_
        rintro e w' ⟨rfl, q', vs', rw', hq', h', hb⟩
        refine ⟨rfl, us_fin h h' hb ?_ trivial ?_ sL (fun p hp => spx p (List.mem_of_mem_tail hp)) (fun p hp => by cases hp)⟩
        · have h1 := hch q' hq'
          cases hW : W ++ [bkR q' x] with
          | nil => simp at hW
          | cons s ws =>
            cases hPs : Ps ++ [x] with
            | nil => simp at hPs
            | cons p pp =>
              rw [hW, hPs] at h1
              exact h1.2
        · rw [List.length_tail, List.length_append]; simp; omega
    · rw [if_neg ho]
      cases j with
      | false =>
        refine (uset_newA h0 L a n c xi Ps.length hL.1 (by omega) hn (by omega) hs.s hr hef (by omega) h.hB ho BT).mono ?_
        rintro e w' ⟨rfl, q', vs', rw', hq', h', hb⟩
        refine ⟨rfl, us_fin h h' hb (hch q' hq') trivial ?_ sL spx (fun p hp => by cases hp)⟩
        rw [List.length_append]; simp; omega
      | true =>
        have hp : Ps = [] := by
          by_cases hp : Ps = []
          · exact hp
          · exact absurd ⟨rfl, hp⟩ hj
        refine (uset_newB h0 L a n c xi Ps.length hL.1 (by rw [hp]; rfl) (by omega) hn (by omega) hs.s hr hef (by omega) h.hB ho BT).mono ?_
        rintro e w' ⟨rfl, q', vs', rw', hq', h', hb⟩
        refine ⟨rfl, us_fin h h' hb (hch q' hq') trivial ?_ sL spx (fun p hp => by cases hp)⟩
        rw [List.length_append]; simp; omega
end
end Go.Proofs.YtjgffedcbdnddaaDoor
set_option linter.unusedVariables false
set_option linter.unusedSimpArgs false
namespace Go.Proofs.YtjgffedcbdnddaaDoor
open Go.RowKit
/-- A trail, slices of signs and boxes beside it. -/
structure AwU (w0 : World) (B P : Nat) (x : ULn) (Ps Ls : List ULn) (Q : List (Option Addr × List Sn × Nat)) (K : List (Nat × Obj)) (w : World) : Prop where
  ex : ∃ S : Nat → Prop, US S B P 9 x Ps Ls w ∧ (∀ q ∈ Q, SlS S w q.1 q.2.1 q.2.2) ∧ (∀ p ∈ K, S p.1 ∧ w.heap[p.1]? = some p.2)
  b : Below w0.heap.size w0 w
  hb : w0.heap.size ≤ B
section
variable {w0 w w' : World} {B P : Nat} {x y : ULn} {Ps Ls : List ULn} {Q : List (Option Addr × List Sn × Nat)} {K : List (Nat × Obj)}
theorem AwU.grow (h : AwU w0 B P x Ps Ls Q K w) (hb : Below w.heap.size w w') {Q' : List (Option Addr × List Sn × Nat)} {K' : List (Nat × Obj)} (hQ : ∀ q ∈ Q', q ∈ Q ∨ SlS (fun k => w.heap.size ≤ k ∧ k < w'.heap.size) w' q.1 q.2.1 q.2.2) (hK : ∀ p ∈ K', p ∈ K ∨ (w.heap.size ≤ p.1 ∧ p.1 < w'.heap.size) ∧ w'.heap[p.1]? = some p.2) : AwU w0 B P x Ps Ls Q' K' w' := by
  obtain ⟨S, hu, hq, hk⟩ := h.ex
  refine ⟨⟨fun k => S k ∨ (w.heap.size ≤ k ∧ k < w'.heap.size), hu.grow hb (fun k hk => hk), fun q h1 => ?_, fun p h1 => ?_⟩, seqB h.b hb, h.hb⟩
  · rcases hQ q h1 with h2 | h2
    · exact ((hq q h2).below hb).mono fun k hk => Or.inl hk
    · exact h2.mono fun k hk => Or.inr hk
  · rcases hK p h1 with h2 | h2
    · exact ⟨Or.inl (hk p h2).1, (hb.block p.1 (hu.lt _ (hk p h2).1).2).trans (hk p h2).2⟩
    · exact ⟨Or.inr h2.1, h2.2⟩
theorem AwU.below (h : AwU w0 B P x Ps Ls Q K w) (hb : Below w.heap.size w w') : AwU w0 B P x Ps Ls Q K w' := h.grow hb (fun q h => Or.inl h) (fun p h => Or.inl h)
theorem AwU.op (h : AwU w0 B P x Ps Ls Q K w) {x' : ULn} {Ps' Ls' : List ULn} (ho : ∀ S : Nat → Prop, US S B P 9 x Ps Ls w → (∀ q ∈ Q, SlS S w q.1 q.2.1 q.2.2) → US S B P 9 x' Ps' Ls' w' ∧ KpU B S w w') : AwU w0 B P x' Ps' Ls' Q K w' := by
  obtain ⟨S, hu, hq, hk⟩ := h.ex
  obtain ⟨h1, h2⟩ := ho S hu hq
  exact ⟨⟨S, h1, fun q h3 => (hq q h3).keep h2.b.size h2.s, fun p h3 => ⟨(hk p h3).1, (h2.s _ (hk p h3).1).trans (hk p h3).2⟩⟩, h.b.trans (h2.b.mono h.hb), h.hb⟩
/-- A box that is made. -/
theorem AwU.box (h : AwU w0 B P x Ps Ls Q K w) (cs : Array Value) (t : TypeId) {X : Nat} (hX : w.heap.size = X) (hw : w.alloc (.cells cs t) = w') : AwU w0 B P x Ps Ls Q ((X, .cells cs t (0, 0)) :: K) w' := by
  subst hw; subst hX
  refine h.grow (below_alloc w _) (fun q h => Or.inl h) (fun p hp => ?_)
  rcases List.mem_cons.1 hp with rfl | hp
  · exact Or.inr ⟨⟨Nat.le_refl _, by simp⟩, heap_alloc_new w _⟩
  · exact Or.inl hp
theorem AwU.at (h : AwU w0 B P x Ps Ls Q K w) {X : Nat} {o : Obj} (hm : (X, o) ∈ K) : w.heap[X]? = some o := by
  obtain ⟨S, hu, hq, hk⟩ := h.ex
  exact (hk _ hm).2
theorem AwU.sg (h : AwU w0 B P x Ps Ls Q K w) {a : Option Addr} {L : List Sn} {c : Nat} (hm : (a, L, c) ∈ Q) : Signs w a L := by
  obtain ⟨S, hu, hq, hk⟩ := h.ex
  exact (hq _ hm).s
theorem aw_of (h : AwU w0 B P x Ps Ls Q K w) (hT : UT w0) (s : ByteArray) (L : List Sn) (n : Nat) (hs : s.size ≤ 1000000) (hL : sOf 0 s = L) (hn : L.length = n) (hv : (valsS s).length ≤ 1000000) :
    Calls Tryd.prog 14 #[.int .i64 0, .string s] w fun e w' => ∃ g, e = .returned (.slice (some ⟨g, 0, none⟩) n n) ∧ AwU w0 B P x Ps Ls ((some ⟨g, 0, none⟩, L, n) :: Q) K w' := by
  have h1 := sof_any 0 s w (hT.below h.b) hs hv
  rw [hL, hn] at h1
  refine h1.mono ?_
  rintro e w' ⟨g, rfl, hg, hb, hB⟩
  refine ⟨g, rfl, h.grow hB (fun q hq => ?_) (fun p h => Or.inl h)⟩
  rcases List.mem_cons.1 hq with rfl | hq
  · exact Or.inr ⟨signs_of_blk hb, Nat.le_of_eq hn, fun e => (by cases e), fun ad e _ => by injection e with e; subst e; exact ⟨hg, blk_lt hb⟩⟩
  · exact Or.inl hq
theorem aw_set {a : Option Addr} {L : List Sn} {c n : Nat} (h : AwU w0 B P x Ps Ls ((a, L, c) :: Q) K w) (xi : Int) (j : Bool) (hn : L.length = n) (hl : n ≤ 60) (hr : mayL L xi = true) {Ps' Ls' : List ULn} (hp : stP 9 x (L, xi) Ps j = Ps') (ht : stT x (L, xi) Ls = Ls') :
    Calls Tryd.prog 13 #[.pointer (some ⟨P, 0, none⟩), .agg #[.slice a n c, .int .i64 xi], .bool j] w fun e w' => e = .returned (.int .i64 0) ∧ AwU w0 B P (L, xi) Ps' Ls' ((a, L, c) :: Q) K w' := by
  obtain ⟨S, hu, hq, hk⟩ := h.ex
  have hs := hq (a, L, c) (List.mem_cons_self ..)
  refine (uset_us hu L a n c xi j hn hl S hs (fun k hk => Or.inr hk) hr).mono ?_
  rintro e w' ⟨rfl, h1, h2⟩
  rw [hp, ht] at h1
  refine ⟨rfl, ⟨S, h1, fun q h3 => (hq q h3).keep h2.b.size h2.s, fun p h3 => ⟨(hk p h3).1, (h2.s _ (hk p h3).1).trans (hk p h3).2⟩⟩, h.b.trans (h2.b.mono h.hb), h.hb⟩
theorem aw_arg (h : AwU w0 B P x Ps Ls Q K w) : Calls Tryd.prog 13 #[.pointer (some ⟨P, 0, none⟩), .agg #[.slice none 0 0, .int .i64 1], .bool false] w fun e w' => e = .returned (.int .i64 2) ∧ AwU w0 B P x Ps Ls Q K w' := by
  obtain ⟨S, hu, _⟩ := h.ex
  refine (uset_us_arg hu [] none 0 0 1 false rfl (by omega) (fun i hi => absurd hi (Nat.not_lt_zero i)) (by decide)).mono ?_
  rintro e w' ⟨rfl, hb⟩
  exact ⟨rfl, h.below hb⟩
theorem aw_steps (h : AwU w0 B P x Ps Ls Q K w) {m n : Nat} (hm : Ps.length = m) (hn : Ls.length = n) : Calls Tryd.prog 8 #[.pointer (some ⟨P, 0, none⟩)] w fun e w' => e = .returned (.tuple #[.int .i64 m, .int .i64 n]) ∧ AwU w0 B P x Ps Ls Q K w' := by
  obtain ⟨S, hu, _⟩ := h.ex
  subst hm; subst hn
  refine (usteps_us hu).mono ?_
  rintro e w' ⟨rfl, hb⟩
  exact ⟨rfl, h.below hb⟩
theorem aw_back (h : AwU w0 B P x (Ps ++ [y]) Ls Q K w) : Calls Tryd.prog 11 #[.pointer (some ⟨P, 0, none⟩)] w fun e w' => e = .returned (.bool true) ∧ AwU w0 B P y Ps (Ls ++ [x]) Q K w' := by
  obtain ⟨S, hu, hq, hk⟩ := h.ex
  refine (uback_us hu).mono ?_
  rintro e w' ⟨rfl, h1, h2⟩
  exact ⟨rfl, ⟨S, h1, fun q h3 => (hq q h3).keep h2.b.size h2.s, fun p h3 => ⟨(hk p h3).1, (h2.s _ (hk p h3).1).trans (hk p h3).2⟩⟩, h.b.trans (h2.b.mono h.hb), h.hb⟩
theorem aw_forth (h : AwU w0 B P x Ps (Ls ++ [y]) Q K w) : Calls Tryd.prog 12 #[.pointer (some ⟨P, 0, none⟩)] w fun e w' => e = .returned (.bool true) ∧ AwU w0 B P y (Ps ++ [x]) Ls Q K w' := by
  obtain ⟨S, hu, hq, hk⟩ := h.ex
  refine (uforth_us hu).mono ?_
  rintro e w' ⟨rfl, h1, h2⟩
  exact ⟨rfl, ⟨S, h1, fun q h3 => (hq q h3).keep h2.b.size h2.s, fun p h3 => ⟨(hk p h3).1, (h2.s _ (hk p h3).1).trans (hk p h3).2⟩⟩, h.b.trans (h2.b.mono h.hb), h.hb⟩
theorem aw_now {L : List Sn} {xi : Int} (h : AwU w0 B P (L, xi) Ps Ls Q K w) {n : Nat} (hn : L.length = n) : Calls Tryd.prog 10 #[.pointer (some ⟨P, 0, none⟩)] w fun e w' => ∃ b d, e = .returned (.agg #[.slice b n d, .int .i64 xi]) ∧ AwU w0 B P (L, xi) Ps Ls ((b, L, d) :: Q) K w' := by
  obtain ⟨S, hu, hq, hk⟩ := h.ex
  refine (unow_us hu hn).mono ?_
  rintro e w' ⟨b, d, rfl, ho, hb⟩
  refine ⟨b, d, rfl, h.grow hb (fun q hq => ?_) (fun p h => Or.inl h)⟩
  rcases List.mem_cons.1 hq with rfl | hq
  · obtain ⟨a, c, e, hs⟩ := ho.sl
    injection e with e1 e2 e3
    subst e1; subst e3
    exact Or.inr hs
  · exact Or.inl hq
theorem aw_text (h : AwU w0 B P x Ps Ls Q K w) {a : Option Addr} {L : List Sn} {c n : Nat} (hm : (a, L, c) ∈ Q) (s : ByteArray) (hn : L.length = n) (hl : n ≤ 90000) (ht : sTxt L = s) : Calls Tryd.prog 15 #[.slice a n c] w fun e w' => e = .returned (.string s) ∧ AwU w0 B P x Ps Ls Q K w' := by
  subst hn; subst ht
  refine (stext_any L a c w (by omega) (h.sg hm)).mono ?_
  rintro e w' ⟨rfl, hb⟩
  exact ⟨rfl, h.below hb⟩
end
theorem us_start {w w' : World} {P : Nat} {M : Int} (h1 : 1 ≤ M) (h2 : M ≤ 1000) (h : TrS (fun _ _ => False) w.heap.size P M ([], 0) [] [] (.slice none 0 0) (.slice none 0 0) (.slice none 0 0) w') : US (fun _ => False) w.heap.size P M ([], 0) [] [] w' :=
  ⟨⟨[], [], _, _, _, h.other (fun k o hk => hk.1.elim), trivial, trivial⟩, fun k hk => hk.elim, by simp; omega, h1, h2, by simp, fun p hp => (by cases hp), fun p hp => (by cases hp)⟩
abbrev uA : List Sn := [(97, 0)]
abbrev uB : List Sn := [(97, 0), (98, 0)]
abbrev uC : List Sn := [(97, 0), (98, 0), (99, 0)]
set_option maxHeartbeats 16000000 in
theorem uawake_any (w : World) (hT : UT w) : Calls Tryd.prog 5 #[] w fun e w' => e = .returned (.bool true) ∧ Below w.heap.size w w' := by
  have HT := Lib.hid hT
  have NW := Lib.hid (unew_any 9 w (by omega) (by omega))
  have fA : Hid (sOf 0 ⟨#[97]⟩ = uA ∧ (valsS ⟨#[97]⟩).length ≤ 1000000 ∧ mayL uA 1 = true ∧ stP 9 ([], 0) (uA, 1) [] false = [([], 0)] ∧ stT ([], 0) (uA, 1) [] = [] ∧ sTxt uA = ⟨#[97]⟩) := Lib.hid (by decide +kernel)
  have fB : Hid (sOf 0 ⟨#[97, 98]⟩ = uB ∧ (valsS ⟨#[97, 98]⟩).length ≤ 1000000 ∧ mayL uB 2 = true ∧ stP 9 (uA, 1) (uB, 2) [([], 0)] false = [([], 0), (uA, 1)] ∧ stT (uA, 1) (uB, 2) [] = []) := Lib.hid (by decide +kernel)
  have fC : Hid (sOf 0 ⟨#[97, 98, 99]⟩ = uC ∧ (valsS ⟨#[97, 98, 99]⟩).length ≤ 1000000 ∧ mayL uC 3 = true ∧ stP 9 (uB, 2) (uC, 3) [([], 0), (uA, 1)] true = [([], 0), (uA, 1)] ∧ stT (uB, 2) (uC, 3) [] = [] ∧ sTxt uC = ⟨#[97, 98, 99]⟩) := Lib.hid (by decide +kernel)
  clear hT
  go_enter Tryd.func5, Tryd.ntmps5
  go_upto_region 9 with (first
    | (go_at_call 6; refine NW.out.mono ?_; rintro e w1 ⟨P, rfl, hr, hb⟩; have K1 : Hid (AwU w w.heap.size P ([], 0) [] [] [] [] w1) := Lib.hid ⟨⟨_, us_start (by omega) (by omega) hr, fun q hq => (by cases hq), fun p hp => (by cases hp)⟩, hb, Nat.le_refl _⟩; clear hr hb NW)
    | (go_at_call 14; refine (aw_of K1.out HT.out ⟨#[97]⟩ uA 1 (by decide) fA.out.1 rfl fA.out.2.1).mono ?_; rintro e w2 ⟨g2, rfl, k2⟩; have K2 := Lib.hid k2; clear k2 K1)
    | (go_at_call 13; refine (aw_set (n := 1) K2.out 1 false rfl (by omega) fA.out.2.2.1 fA.out.2.2.2.1 fA.out.2.2.2.2.1).mono ?_; rintro e w3 ⟨rfl, k3⟩; have K3 := Lib.hid k3; clear k3 K2)
    | (go_at_call 14; refine (aw_of K3.out HT.out ⟨#[97, 98]⟩ uB 2 (by decide) fB.out.1 rfl fB.out.2.1).mono ?_; rintro e w4 ⟨g4, rfl, k4⟩; have K4 := Lib.hid k4; clear k4 K3)
    | (go_at_call 13; refine (aw_set (n := 2) K4.out 2 false rfl (by omega) fB.out.2.2.1 fB.out.2.2.2.1 fB.out.2.2.2.2).mono ?_; rintro e w5 ⟨rfl, k5⟩; have K5 := Lib.hid k5; clear k5 K4)
    | (go_at_call 14; refine (aw_of K5.out HT.out ⟨#[97, 98, 99]⟩ uC 3 (by decide) fC.out.1 rfl fC.out.2.1).mono ?_; rintro e w6 ⟨g6, rfl, k6⟩; have K6 := Lib.hid k6; clear k6 K5)
    | (go_at_call 13; refine (aw_set (n := 3) K6.out 3 true rfl (by omega) fC.out.2.2.1 fC.out.2.2.2.1 fC.out.2.2.2.2.1).mono ?_; rintro e w7 ⟨rfl, k7⟩; have K7 := Lib.hid k7; clear k7 K6)
    | (go_at_call 8; refine (aw_steps K7.out (m := 2) (n := 0) rfl rfl).mono ?_; rintro e w8 ⟨rfl, k8⟩; have K8 := Lib.hid k8; clear k8 K7)
    | (go_at_call 11; refine (aw_back (Ps := [([], 0)]) (y := (uA, 1)) K8.out).mono ?_; rintro e w9 ⟨rfl, k9⟩; have K9 := Lib.hid k9; clear k9 K8))
  go_upto_region 10 with (go_at_call 10; refine (aw_now K9.out (n := 1) rfl).mono ?_; rintro e w10 ⟨b10, d10, rfl, k10⟩; have K10 := Lib.hid k10; clear k10 K9)
  obtain ⟨X, hX⟩ : ∃ X, w10.heap.size = X := ⟨_, rfl⟩
  obtain ⟨v10, hv10⟩ : ∃ v, w10.alloc (.cells #[.slice b10 1 d10, .int .i64 1] 30) = v := ⟨_, rfl⟩
  have KA := Lib.hid (K10.out.box _ _ hX hv10)
  rw [hv10, hX]
  clear K10 hv10 hX
  go_upto_region 11 with (go_at_call 12; refine (aw_forth (Ls := []) (y := (uC, 3)) KA.out).mono ?_; rintro e w11 ⟨rfl, k11⟩; have K11 := Lib.hid k11; clear k11 KA)
  go_upto_region 12 with (go_at_call 10; refine (aw_now K11.out (n := 3) rfl).mono ?_; rintro e w12 ⟨b12, d12, rfl, k12⟩; have K12 := Lib.hid k12; clear k12 K11)
  obtain ⟨Y, hY⟩ : ∃ Y, w12.heap.size = Y := ⟨_, rfl⟩
  obtain ⟨v12, hv12⟩ : ∃ v, w12.alloc (.cells #[.slice b12 3 d12, .int .i64 3] 30) = v := ⟨_, rfl⟩
  have KB := Lib.hid (K12.out.box _ _ hY hv12)
  rw [hv12, hY]
  clear K12 hv12 hY
  have x0 := cell_of_row _ _ 0 _ _ _ (KB.out.at (X := X) (List.mem_cons_of_mem _ (List.mem_cons_self ..)))
  have x1 := cell_of_row _ _ 1 _ _ _ (KB.out.at (X := X) (List.mem_cons_of_mem _ (List.mem_cons_self ..)))
  have y0 := cell_of_row _ _ 0 _ _ _ (KB.out.at (X := Y) (List.mem_cons_self ..))
  have y1 := cell_of_row _ _ 1 _ _ _ (KB.out.at (X := Y) (List.mem_cons_self ..))
  dsimp at x0 x1 y0 y1
  go_wp2_with (first
    | (go_at_call 15; refine (aw_text KB.out (a := b10) (L := uA) (c := d10) (n := 1) (List.mem_cons_of_mem _ (List.mem_cons_self ..)) ⟨#[97]⟩ rfl (by omega) fA.out.2.2.2.2.2).mono ?_; rintro e w13 ⟨rfl, k13⟩; have K13 := Lib.hid k13; have x03 := cell_of_row _ _ 0 _ _ _ (k13.at (X := X) (List.mem_cons_of_mem _ (List.mem_cons_self ..))); have x13 := cell_of_row _ _ 1 _ _ _ (k13.at (X := X) (List.mem_cons_of_mem _ (List.mem_cons_self ..))); have y03 := cell_of_row _ _ 0 _ _ _ (k13.at (X := Y) (List.mem_cons_self ..)); have y13 := cell_of_row _ _ 1 _ _ _ (k13.at (X := Y) (List.mem_cons_self ..)); dsimp at x03 x13 y03 y13; clear k13 KB)
    | (go_at_call 15; refine (aw_text K13.out (a := b12) (L := uC) (c := d12) (n := 3) (List.mem_cons_self ..) ⟨#[97, 98, 99]⟩ rfl (by omega) fC.out.2.2.2.2.2).mono ?_; rintro e w14 ⟨rfl, k14⟩; have K14 := Lib.hid k14; clear k14 K13)
    | (go_at_call 13; refine (aw_arg K14.out).mono ?_; rintro e w15 ⟨rfl, k15⟩; have K15 := Lib.hid k15; clear k15 K14))
  go_ret
  exact ⟨rfl, K15.out.b⟩
end Go.Proofs.YtjgffedcbdnddaaDoor
