/-
  Joined: Ud19.
-/
import Derived.Test.YtjgffedcbdnddaaDoorJU10
set_option linter.unusedVariables false
set_option linter.unusedSimpArgs false
set_option maxRecDepth 100000
set_option linter.unusedVariables false
set_option linter.unusedSimpArgs false
namespace Go.Proofs.YtjgffedcbdnddaaDoor
open Go.RowKit
set_option maxHeartbeats 16000000 in
theorem uset_newA {Fo : Nat → Obj → Prop} {B P : Nat} {most : Int} {x : ULn} {W T : List StR} {vs rw rt : Value} {w : World} (h : TrS Fo B P most x W T vs rw rt w) (L : List Sn) (a : Option Addr) (n c : Nat) (xi : Int) (m : Nat) (hm : W.length = m) (hm1 : m ≤ 10000) (hn : L.length = n) (hl : n ≤ 90000) (hs : Signs w a L) (hr : mayL L xi = true) (he : sgS L x.1 = false) (hx : x.1.length ≤ 90000) (hB : B ≤ w.heap.size) (ho : ¬ most < (m : Int) + 1)
    (BT : ∀ (va : Option Addr) (vn vc : Nat), vs = .slice va vn vc → ∀ w1, Below w.heap.size w w1 → Calls Tryd.prog 26 #[.agg #[vs, .int .i64 x.2], .agg #[.slice a n c, .int .i64 xi]] w1 fun e w' => ∃ q : StR, e = .returned (.agg (stA q)) ∧ Ld q.1 x (L, xi) ∧ StIn (fun k => w1.heap.size ≤ k ∧ k < w'.heap.size) w' q ∧ Below w1.heap.size w1 w') :
    Calls Tryd.prog 13 #[.pointer (some ⟨P, 0, none⟩), .agg #[.slice a n c, .int .i64 xi], .bool false] w fun e w' => e = .returned (.int .i64 0) ∧ ∃ (q : StR) (vs' rw' : Value), Ld q.1 x (L, xi) ∧ TrS Fo B P most (L, xi) (W ++ [bkR q x]) [] vs' rw' (.slice none 0 0) w' ∧ Below B w w' := by
  obtain ⟨va, vc, rfl, vsl⟩ := h.now.sl
  obtain ⟨vn, hvn⟩ : ∃ vn, x.1.length = vn := ⟨_, rfl⟩
  have BTh : Hid (∀ w1, Below w.heap.size w w1 → Calls Tryd.prog 26 #[.agg #[.slice va vn vc, .int .i64 x.2], .agg #[.slice a n c, .int .i64 xi]] w1 fun e w' => ∃ q : StR, e = .returned (.agg (stA q)) ∧ Ld q.1 x (L, xi) ∧ StIn (fun k => w1.heap.size ≤ k ∧ k < w'.heap.size) w' q ∧ Below w1.heap.size w1 w') := Lib.hid (by have := BT va vn vc (by rw [hvn]); rw [hvn] at this; exact this)
  obtain ⟨wa, wc, rfl⟩ := h.were.form hm
  have hb := below_alloc w (.cells #[.slice a n c, .int .i64 xi] 30)
  have hr0 := heap_alloc_new w (.cells #[.slice a n c, .int .i64 xi] 30)
  obtain ⟨R, hR⟩ : ∃ R, w.heap.size = R := ⟨_, rfl⟩
  obtain ⟨W1, hW1⟩ : ∃ W1, w.alloc (.cells #[.slice a n c, .int .i64 xi] 30) = W1 := ⟨_, rfl⟩
  rw [hW1] at hb hr0
  rw [hR] at hr0
  have RT := lw_rt L a n c xi W1 hn hl (hs.below hb)
  rw [hr] at RT
  have RTh := Lib.hid RT
  have SM : Hid (∀ w2, Below w.heap.size w w2 → Calls Tryd.prog 24 #[.slice a n c, .slice va vn vc] w2 fun e w3 => e = .returned (.bool false) ∧ Below w2.heap.size w2 w3) := Lib.hid fun w2 hb2 => by
    have := ssame_any L x.1 a va c vc w2 (by omega) (by omega) (hs.below hb2) (vsl.s.below hb2)
    rw [hn, hvn, he] at this
    exact this
  rw [hvn] at h
  have HVN := Lib.hid hvn
  have H := Lib.hid h
  have HB := Lib.hid hb
  have HR := Lib.hid hR
  have R1 := Lib.hid hr0
  have HM := Lib.hid hm
  have hPR := Lib.hid (show P < R by have := h.lt; omega)
  have hvR := Lib.hid (show ∀ k, (Value.slice va vn vc).ownBlock = some k → k < R from fun k hk => by have := (h.now.lt k hk).2; omega)
  have y0 := cell_of_row _ _ 0 _ _ _ hr0
  have y1 := cell_of_row _ _ 1 _ _ _ hr0
  dsimp at y0 y1
  have hle := Lib.hid (show B ≤ P from h.le)
  have hBW := Lib.hid hB
  have hLl := Lib.hid (show L.length ≤ 100000 by omega)
  have hxl := Lib.hid (show x.1.length ≤ 100000 by omega)
  clear hb hr0 RT hs hr h he hx hvn vsl hB hn hl BT hm
  go_enter Tryd.func13, Tryd.ntmps13
  go_upto_region 5 with (go_at_call 23; refine RTh.out.mono ?_; rintro e w2 ⟨rfl, hb2⟩; have B2 := Lib.hid (seqB HB.out hb2); have R2 := Lib.hid (blk_below R1.out hb2); have H2 := Lib.hid (H.out.below B2.out); have z0 := cell_of_row _ _ 0 _ _ _ R2.out; have z1 := cell_of_row _ _ 1 _ _ _ R2.out; have p1 := cell_of_row _ _ 1 _ _ _ H2.out.blk; dsimp at z0 z1 p1; clear hb2)
  clear y0 y1
  go_region_held3 (fun w' => w'.cell? ⟨R, 0, none⟩ = some (.slice a n c) ∧ w'.cell? ⟨P, 1, none⟩ = some (.slice va vn vc)) (first | exact ⟨z0, p1⟩ | exact ⟨x0, q1⟩ | go_keep)
    (first | (go_at_call 24; refine (SM.out _ B2.out.drew).mono ?_; rintro e w3 ⟨rfl, hb3⟩; have B3 := Lib.hid (B2.out.drew.trans (hb3.mono B2.out.drew.size)); have R3 := Lib.hid (blk_below (w := w2.drew) R2.out hb3); have H3 := Lib.hid (H.out.below B3.out); have x0 := cell_of_row _ _ 0 _ _ _ R3.out; have q1 := cell_of_row _ _ 1 _ _ _ H3.out.blk; dsimp at x0 q1; clear hb3))
  clear z0 z1 p1 x0 q1
  go_upto_region 13 with (go_at_call 25; refine (udoer_b P _).mono ?_; rintro e w4 ⟨pt, rfl, hpt, hb4⟩; have B4 := Lib.hid (seqB B3.out hb4); have R4 := Lib.hid (blk_below R3.out hb4); have H4 := Lib.hid (H.out.below B4.out); have PT := Lib.hid hpt; have z0 := cell_of_row _ _ 0 _ _ _ R4.out; have z1 := cell_of_row _ _ 1 _ _ _ R4.out; have p1 := cell_of_row _ _ 1 _ _ _ H4.out.blk; have p2 := cell_of_row _ _ 2 _ _ _ H4.out.blk; have p3 := cell_of_row _ _ 3 _ _ _ H4.out.blk; dsimp at z0 z1 p1 p2 p3; clear hb4 hpt)
  have hwR := Lib.hid (show ∀ k, (Value.slice wa m wc).ownBlock = some k → k ≠ R from fun k hk => by have := (H.out.were.lt k hk).2; have := HR.out; omega)
  have hRP := Lib.hid (show R ≠ P by have := hPR.out; omega)
  have DO : Hid (∀ (w5 : World) (q : StR), Below w.heap.size w w5 → w5.cell? ⟨pt, 0, none⟩ = some (.pointer (some ⟨P, 1, none⟩)) → Ld q.1 x (L, xi) → StIn (fun k => w4.heap.size ≤ k ∧ k < w5.heap.size) w5 q → w5.cell? ⟨R, 0, none⟩ = some (.slice a n c) → w5.cell? ⟨R, 1, none⟩ = some (.int .i64 xi) → Calls Tryd.prog 36 #[.agg (stA q), .pointer (some ⟨pt, 0, none⟩)] w5 fun e w6 => e = .returned (.agg (stA (bkR q x))) ∧ ∃ vs', TrG Fo B P most (L, xi) W T vs' (.slice wa m wc) rt (.slice wa m wc) rt w6 ∧ Below B w w6 ∧ StIn (FrS B P vs' (.slice wa m wc) rt w6) w6 (bkR q x) ∧ w6.cell? ⟨R, 0, none⟩ = some (.slice a n c) ∧ w6.cell? ⟨R, 1, none⟩ = some (.int .i64 xi)) := Lib.hid fun w5 q hb5 hpt hld hst hz0 hz1 => by
    have h5 := H.out.below hb5
    have h4l := H4.out.lt
    have hv4 : ∀ k, (Value.slice va vn vc).ownBlock = some k → k < w4.heap.size := fun k hk => by have := hvR.out k hk; have := B4.out.size; have := HR.out; omega
    refine (doer_any pt P most (.slice va vn vc) (.slice wa m wc) rt x (L, xi) q w5 hpt h5.blk (h5.now.mono (Nat.zero_le _)) hld (hst.mono fun k hk => ⟨by omega, fun e => by have := hv4 k e; omega⟩) hxl.out hLl.out).mono ?_
    rintro e w6 ⟨rfl, hd⟩
    obtain ⟨vs', h6, hb6, hv6, ho6⟩ := h5.g.done (Nat.le_trans hBW.out hb5.size) hd
    refine ⟨rfl, vs', h6, (hb5.mono hBW.out).trans hb6, ?_, ?_, ?_⟩
    · have hk5 : ∀ k, (w4.heap.size ≤ k ∧ k < w5.heap.size) → w6.heap[k]? = w5.heap[k]? := fun k hk => ho6 k hk.2 (by omega) (fun e => by have := hv4 k e; omega)
      refine ((hst.keep hb6.size hk5).mono fun k hk => ⟨?_, Nat.lt_of_lt_of_le hk.2 hb6.size, by omega, fun e => ?_, fun e => ?_, fun e => ?_⟩).back x
      · have := H4.out.le; omega
      · rcases hv6 k e with e | e
        · have := hv4 k e; omega
        · omega
      · have := (H4.out.were.lt k e).2; omega
      · have := (H4.out.taken.lt k e).2; omega
    · exact (cell_hp (ho6 R (block_lt_of_cell hz0) hRP.out (fun e => by have := hvR.out R e; omega)) 0).trans hz0
    · exact (cell_hp (ho6 R (block_lt_of_cell hz0) hRP.out (fun e => by have := hvR.out R e; omega)) 1).trans hz1
  have z0d : w4.drew.cell? ⟨R, 0, none⟩ = _ := z0
  have z1d : w4.drew.cell? ⟨R, 1, none⟩ = _ := z1
  refine wp_region_noPanic ?_
  refine wp_region_held_drew (S := fun w' => w'.cell? ⟨R, 0, none⟩ = some (.slice a n c) ∧ w'.cell? ⟨R, 1, none⟩ = some (.int .i64 xi)) (by kernel_rfl) ⟨z0d, z1d⟩ (fun hHeld => ?_)
  refine wpAnyH_take (i := 0) (v := .pointer (some ⟨P, 0, none⟩)) rfl (by kernel_rfl) (by kernel_rfl) (by kernel_rfl) (fun _ _ _ h => h) (Or.inl ⟨by rfl, ?yy1⟩) (by assumption) ?rr1
  case yy1 =>
    as_aux_lemma =>
      intro w hSw
      try dsimp only at hSw
      go_simp
      all_goals with_reducible rfl
  try simp only [Act.put, List.getElem_toArray, List.getElem_cons_zero, List.getElem_cons_succ, List.setIfInBounds_toArray, List.set_cons_zero, List.set_cons_succ]
  refine wpAnyH_take (i := 1) (v := .pointer (some ⟨P, 0, none⟩)) rfl (by kernel_rfl) (by kernel_rfl) (by kernel_rfl) (fun _ _ _ h => h) (Or.inl ⟨by rfl, ?yy2⟩) (by assumption) ?rr2
  case yy2 =>
    as_aux_lemma =>
      intro w hSw
      try dsimp only at hSw
      go_simp
      all_goals with_reducible rfl
  try simp only [Act.put, List.getElem_toArray, List.getElem_cons_zero, List.getElem_cons_succ, List.setIfInBounds_toArray, List.set_cons_zero, List.set_cons_succ]
  refine wpAnyH_take (i := 2) (v := .pointer (some ⟨P, 0, none⟩)) rfl (by kernel_rfl) (by kernel_rfl) (by kernel_rfl) (fun _ _ _ h => h) (Or.inl ⟨by rfl, ?yy3⟩) (by assumption) ?rr3
  case yy3 =>
    as_aux_lemma =>
      intro w hSw
      try dsimp only at hSw
      go_simp
      all_goals with_reducible rfl
  try simp only [Act.put, List.getElem_toArray, List.getElem_cons_zero, List.getElem_cons_succ, List.setIfInBounds_toArray, List.set_cons_zero, List.set_cons_succ]
  refine wpAnyH_take (i := 3) (v := .pointer (some ⟨P, 0, none⟩)) rfl (by kernel_rfl) (by kernel_rfl) (by kernel_rfl) (fun _ _ _ h => h) (Or.inl ⟨by rfl, ?yy4⟩) (by assumption) ?rr4
  case yy4 =>
    as_aux_lemma =>
      intro w hSw
      try dsimp only at hSw
      go_simp
      all_goals with_reducible rfl
  try simp only [Act.put, List.getElem_toArray, List.getElem_cons_zero, List.getElem_cons_succ, List.setIfInBounds_toArray, List.set_cons_zero, List.set_cons_succ]
  refine wpAnyH_take (i := 4) (v := .pointer (some ⟨P, 3, none⟩)) rfl (by kernel_rfl) (by kernel_rfl) (by kernel_rfl) (fun _ _ _ h => h) (Or.inl ⟨by rfl, ?yy5⟩) (by assumption) ?rr5
  case yy5 =>
    as_aux_lemma =>
      intro w hSw
      try dsimp only at hSw
      go_simp
      all_goals with_reducible rfl
  try simp only [Act.put, List.getElem_toArray, List.getElem_cons_zero, List.getElem_cons_succ, List.setIfInBounds_toArray, List.set_cons_zero, List.set_cons_succ]
  refine wpAnyH_take (i := 6) (v := .func (.func 36) #[] #[.pointer (some ⟨pt, 0, none⟩)]) rfl (by kernel_rfl) (by kernel_rfl) (by kernel_rfl) (fun _ _ _ h => h) (Or.inl ⟨by rfl, ?yy6⟩) (by assumption) ?rr6
  case yy6 =>
    as_aux_lemma =>
      intro w hSw
      try dsimp only at hSw
      go_simp
      all_goals with_reducible rfl
  try simp only [Act.put, List.getElem_toArray, List.getElem_cons_zero, List.getElem_cons_succ, List.setIfInBounds_toArray, List.set_cons_zero, List.set_cons_succ]
  refine wpAnyH_take (i := 7) (v := .pointer (some ⟨P, 0, none⟩)) rfl (by kernel_rfl) (by kernel_rfl) (by kernel_rfl) (fun _ _ _ h => h) (Or.inl ⟨by rfl, ?yy7⟩) (by assumption) ?rr7
  case yy7 =>
    as_aux_lemma =>
      intro w hSw
      try dsimp only at hSw
      go_simp
      all_goals with_reducible rfl
  try simp only [Act.put, List.getElem_toArray, List.getElem_cons_zero, List.getElem_cons_succ, List.setIfInBounds_toArray, List.set_cons_zero, List.set_cons_succ]
  refine wpAnyH_take (i := 8) (v := .pointer (some ⟨P, 0, none⟩)) rfl (by kernel_rfl) (by kernel_rfl) (by kernel_rfl) (fun _ _ _ h => h) (Or.inl ⟨by rfl, ?yy8⟩) (by assumption) ?rr8
  case yy8 =>
    as_aux_lemma =>
      intro w hSw
      try dsimp only at hSw
      go_simp
      all_goals with_reducible rfl
  try simp only [Act.put, List.getElem_toArray, List.getElem_cons_zero, List.getElem_cons_succ, List.setIfInBounds_toArray, List.set_cons_zero, List.set_cons_succ]
  refine wpAnyH_take (i := 9) (v := .pointer (some ⟨P, 1, none⟩)) rfl (by kernel_rfl) (by kernel_rfl) (by kernel_rfl) (fun _ _ _ h => h) (Or.inl ⟨by rfl, ?yy9⟩) (by assumption) ?rr9
  case yy9 =>
    as_aux_lemma =>
      intro w hSw
      try dsimp only at hSw
      go_simp
      all_goals with_reducible rfl
  try simp only [Act.put, List.getElem_toArray, List.getElem_cons_zero, List.getElem_cons_succ, List.setIfInBounds_toArray, List.set_cons_zero, List.set_cons_succ]
  refine wpAnyH_take (i := 11) (v := .agg #[.slice a n c, .int .i64 xi]) rfl (by kernel_rfl) (by kernel_rfl) (by kernel_rfl) (fun _ _ _ h => h) (Or.inl ⟨by rfl, ?yy10⟩) (by assumption) ?rr10
  case yy10 =>
    as_aux_lemma =>
      intro w hSw
      try dsimp only at hSw
      go_simp
      all_goals with_reducible rfl
  try simp only [Act.put, List.getElem_toArray, List.getElem_cons_zero, List.getElem_cons_succ, List.setIfInBounds_toArray, List.set_cons_zero, List.set_cons_succ]
  refine wpAnyH_ready (rs := [5, 10]) (by kernel_rfl) (by simp) ?_
  refine AllReadyH.cons rfl (fun K hK => ?_) (AllReadyH.cons rfl (fun K hK => ?_) AllReadyH.nil)
  · skip
    go_simp
    refine hK.out _ _ ⟨z0d, z1d⟩ (fun hHeld11 => ?_)
    clear hK K
    try simp only [Act.put, List.getElem_toArray, List.getElem_cons_zero, List.getElem_cons_succ, List.setIfInBounds_toArray, List.set_cons_zero, List.set_cons_succ]
    refine wpAnyH_ready (rs := [10]) (by kernel_rfl) (by simp) ?_
    refine AllReadyH.cons rfl (fun K hK => ?_) AllReadyH.nil
    go_simp
    refine hK.out _ _ ⟨z0d, z1d⟩ (fun hHeld12 => ?_)
    clear hK K
    try simp only [Act.put, List.getElem_toArray, List.getElem_cons_zero, List.getElem_cons_succ, List.setIfInBounds_toArray, List.set_cons_zero, List.set_cons_succ]
    refine wpAnyH_ready (rs := [12]) (by kernel_rfl) (by simp) ?_
    refine AllReadyH.cons rfl (fun K hK => ?_) AllReadyH.nil
    go_simp
    go_at_call 26
    refine (BTh.out _ B4.out.drew).mono ?_
    rintro e w5 ⟨⟨⟨pl, G, C, at'⟩, ⟨ga, gc⟩, ⟨ca, cc⟩⟩, rfl, hld, hst, hb5⟩
    have B5 := Lib.hid (B4.out.drew.trans (hb5.mono B4.out.drew.size))
    have R5 := Lib.hid (blk_below (w := w4.drew) R4.out hb5)
    have H5 := Lib.hid (H.out.below B5.out)
    have HLD := Lib.hid hld
    have x0 := cell_of_row _ _ 0 _ _ _ R5.out
    have x1 := cell_of_row _ _ 1 _ _ _ R5.out
    have p35 := cell_of_row _ _ 3 _ _ _ H5.out.blk
    dsimp at x0 x1 p35
    have D5 := Lib.hid (DO.out w5 ((pl, G, C, at'), (ga, gc), (ca, cc)) B5.out ((hb5.cell (p := ⟨pt, 0, none⟩) (block_lt_of_cell (w := w4.drew) PT.out)).trans PT.out) hld hst x0 x1)
    clear hld hst hb5
    refine hK.out _ _ ⟨x0, x1⟩ (fun hHeld13 => ?_)
    clear hK K
    try simp only [Act.put, List.getElem_toArray, List.getElem_cons_zero, List.getElem_cons_succ, List.setIfInBounds_toArray, List.set_cons_zero, List.set_cons_succ]
    refine wpAnyH_ready (rs := [13]) (by kernel_rfl) (by simp) ?_
    refine AllReadyH.cons rfl (fun K hK => ?_) AllReadyH.nil
    go_simp
    go_at_call 36
    refine D5.out.mono ?_
    rintro e w6 ⟨he6, vs6, h6, hb6, hst6, v0, v1⟩
    replace he6 : e = .returned (.agg #[.int .i64 (pl : Int), .slice ca C.length cc, .slice ga G.length gc, .int .i64 x.2]) := he6
    subst he6
    have H6 := Lib.hid h6
    have B6 := Lib.hid hb6
    have ST6 := Lib.hid hst6
    have va0 := fun o => (below_alloc w6 o).cell (p := ⟨R, 0, none⟩) (block_lt_of_cell v0) |>.trans v0
    have va1 := fun o => (below_alloc w6 o).cell (p := ⟨R, 1, none⟩) (block_lt_of_cell v1) |>.trans v1
    have p36 := cell_of_row _ _ 3 _ _ _ h6.blk
    dsimp at p36
    have p37 := fun o => (below_alloc w6 o).cell (p := ⟨P, 3, none⟩) (block_lt_of_cell p36) |>.trans p36
    clear h6 hb6 hst6
    refine hK.out _ _ ⟨v0, v1⟩ (fun hHeld14 => ?_)
    clear hK K
    try simp only [Act.put, List.getElem_toArray, List.getElem_cons_zero, List.getElem_cons_succ, List.setIfInBounds_toArray, List.set_cons_zero, List.set_cons_succ]
    refine wpAnyH_ready (rs := [14]) (by kernel_rfl) (by simp) ?_
    refine AllReadyH.cons rfl (fun K hK => ?_) AllReadyH.nil
    go_simp
    refine hK.out _ _ ⟨va0 _, va1 _⟩ (fun hHeld15 => ?_)
    clear hK K
    try simp only [Act.put, List.getElem_toArray, List.getElem_cons_zero, List.getElem_cons_succ, List.setIfInBounds_toArray, List.set_cons_zero, List.set_cons_succ]
    refine wpAnyH_ready (rs := [15]) (by kernel_rfl) (by simp) ?_
    refine AllReadyH.cons rfl (fun K hK => ?_) AllReadyH.nil
    refine step_app_step (by rfl) _ _ (by rfl) B (.slice wa m wc) m W (by rfl) HM.out (H6.out.were.below (below_alloc _ _)) w6.heap.size 1 (bkR ((pl, G, C, at'), (ga, gc), (ca, cc)) x) (by rfl) (sta_news (heap_alloc_new w6 _)) (by omega) (Nat.le_trans (Nat.le_trans hBW.out B6.out.size) (below_alloc _ _).size) ?_
    intro ad7 c7 w7 o7 g7 p7
    have H7 := Lib.hid ((H6.out.below (below_alloc w6 (.cells (stA (bkR ((pl, G, C, at'), (ga, gc), (ca, cc)) x)) _))).add (Nat.le_trans (Nat.le_trans hBW.out B6.out.size) (below_alloc _ _).size) ((ST6.out.keep (below_alloc _ _).size (fun k hk => (below_alloc _ _).block k hk.2.1)).mono (FrS.up (below_alloc _ _).size)) o7 g7 p7)
    have t0 := g7.cell (va0 _) (fun e => hwR.out R e.symm rfl)
    have t1 := g7.cell (va1 _) (fun e => hwR.out R e.symm rfl)
    have s3 := cell_of_row _ _ 3 _ _ _ H7.out.1.blk
    have sf := fun i => frozen_of_row _ P i _ _ H7.out.1.blk
    have ba := blk_set H7.out.1.blk 3 (.slice ad7 (m + 1) c7)
    have s4 := cell_of_row _ _ 4 _ _ _ ba
    have sg := fun i => frozen_of_row _ P i _ _ ba
    dsimp at s3 s4
    have t0a := (cell_far (w := w7) (p := ⟨P, 3, none⟩) (q := ⟨R, 0, none⟩) hRP.out (.slice ad7 (m + 1) c7)).trans t0
    have t1a := (cell_far (w := w7) (p := ⟨P, 3, none⟩) (q := ⟨R, 1, none⟩) hRP.out (.slice ad7 (m + 1) c7)).trans t1
    have t0b := (cell_far (w := w7.setCell ⟨P, 3, none⟩ (.slice ad7 (m + 1) c7)) (p := ⟨P, 4, none⟩) (q := ⟨R, 0, none⟩) hRP.out (.slice none 0 0)).trans t0a
    have t1b := (cell_far (w := w7.setCell ⟨P, 3, none⟩ (.slice ad7 (m + 1) c7)) (p := ⟨P, 4, none⟩) (q := ⟨R, 1, none⟩) hRP.out (.slice none 0 0)).trans t1a
    clear o7 g7 p7 ba
    refine hK.out _ _ ⟨t0, t1⟩ (fun hHeld16 => ?_)
    clear hK K
    try simp only [Act.put, List.getElem_toArray, List.getElem_cons_zero, List.getElem_cons_succ, List.setIfInBounds_toArray, List.set_cons_zero, List.set_cons_succ]
    refine wpAnyH_take (i := 16) (v := .pointer (some ⟨P, 0, none⟩)) rfl (by kernel_rfl) (by kernel_rfl) (by kernel_rfl) (fun _ _ _ h => h) (Or.inl ⟨by rfl, ?yy17⟩) (by assumption) ?rr17
    case yy17 =>
      as_aux_lemma =>
        intro w hSw
        try dsimp only at hSw
        go_simp
        all_goals with_reducible rfl
    try simp only [Act.put, List.getElem_toArray, List.getElem_cons_zero, List.getElem_cons_succ, List.setIfInBounds_toArray, List.set_cons_zero, List.set_cons_succ]
    refine wpAnyH_take (i := 17) (v := .pointer (some ⟨P, 3, none⟩)) rfl (by kernel_rfl) (by kernel_rfl) (by kernel_rfl) (fun _ _ _ h => h) (Or.inl ⟨by rfl, ?yy18⟩) (by assumption) ?rr18
    case yy18 =>
      as_aux_lemma =>
        intro w hSw
        try dsimp only at hSw
        go_simp
        all_goals with_reducible rfl
    try simp only [Act.put, List.getElem_toArray, List.getElem_cons_zero, List.getElem_cons_succ, List.setIfInBounds_toArray, List.set_cons_zero, List.set_cons_succ]
    refine wpAnyH_ready (rs := [18]) (by kernel_rfl) (by simp) ?_
    refine AllReadyH.cons rfl (fun K hK => ?_) AllReadyH.nil
    go_simp
    refine hK.out _ _ ⟨t0a, t1a⟩ (fun hHeld19 => ?_)
    clear hK K
    try simp only [Act.put, List.getElem_toArray, List.getElem_cons_zero, List.getElem_cons_succ, List.setIfInBounds_toArray, List.set_cons_zero, List.set_cons_succ]
    refine wpAnyH_take (i := 19) (v := .pointer (some ⟨P, 0, none⟩)) rfl (by kernel_rfl) (by kernel_rfl) (by kernel_rfl) (fun _ _ _ h => h) (Or.inl ⟨by rfl, ?yy20⟩) (by assumption) ?rr20
    case yy20 =>
      as_aux_lemma =>
        intro w hSw
        try dsimp only at hSw
        go_simp
        all_goals with_reducible rfl
    try simp only [Act.put, List.getElem_toArray, List.getElem_cons_zero, List.getElem_cons_succ, List.setIfInBounds_toArray, List.set_cons_zero, List.set_cons_succ]
    refine wpAnyH_take (i := 20) (v := .pointer (some ⟨P, 4, none⟩)) rfl (by kernel_rfl) (by kernel_rfl) (by kernel_rfl) (fun _ _ _ h => h) (Or.inl ⟨by rfl, ?yy21⟩) (by assumption) ?rr21
    case yy21 =>
      as_aux_lemma =>
        intro w hSw
        try dsimp only at hSw
        go_simp
        all_goals with_reducible rfl
    try simp only [Act.put, List.getElem_toArray, List.getElem_cons_zero, List.getElem_cons_succ, List.setIfInBounds_toArray, List.set_cons_zero, List.set_cons_succ]
    refine wpAnyH_ready (rs := [21]) (by kernel_rfl) (by simp) ?_
    refine AllReadyH.cons rfl (fun K hK => ?_) AllReadyH.nil
    go_simp
    refine hK.out _ _ ⟨t0b, t1b⟩ (fun hHeld22 => ?_)
    clear hK K
    try simp only [Act.put, List.getElem_toArray, List.getElem_cons_zero, List.getElem_cons_succ, List.setIfInBounds_toArray, List.set_cons_zero, List.set_cons_succ]
    refine wpAnyH_done (by kernel_rfl) ?_ _
    refine NoPanic.normal ?_
    clear z0 z1 p1 p2 p3 x0 x1 p35 v0 v1 va0 va1 p36 p37 t0 t1 s3 s4 sf sg t0a t1a t0b t1b
    have H8 := Lib.hid (H7.out.1.two (.slice ad7 (m + 1) c7) (.slice none 0 0)).1.forget.s
    have D8 := Lib.hid (Below.setCell (p := ⟨P, 4, none⟩) (Below.setCell (p := ⟨P, 3, none⟩) ((B6.out.trans ((below_alloc w6 _).mono (Nat.le_trans hBW.out B6.out.size))).trans H7.out.2) hle.out (.slice ad7 (m + 1) c7)) hle.out (.slice none 0 0))
    generalize hW8 : (w7.setCell ⟨P, 3, none⟩ (.slice ad7 (m + 1) c7)).setCell ⟨P, 4, none⟩ (.slice none 0 0) = w8 at *
    have y0 := cell_of_row _ _ 0 _ _ _ H8.out.blk
    have y3 := cell_of_row _ _ 3 _ _ _ H8.out.blk
    dsimp at y0 y3
    have hcast : ((m + 1 : Nat) : Int) = (m : Int) + 1 := by omega
    go_upto_region 14 with fail
    go_quiet (fail)
    go_wp2
    go_ret
    first | exact ⟨rfl, _, _, _, HLD.out, H8.out.below ⟨rfl, rfl, rfl, Nat.le_refl _, fun _ _ => rfl⟩, D8.out.trans ⟨rfl, rfl, rfl, Nat.le_refl _, fun _ _ => rfl⟩⟩ | exact ⟨rfl, _, _, _, _, HLD.out, ⟨_, _, _, _, _, _, H8.out.below ⟨rfl, rfl, rfl, Nat.le_refl _, fun _ _ => rfl⟩⟩, D8.out.trans ⟨rfl, rfl, rfl, Nat.le_refl _, fun _ _ => rfl⟩⟩
  · skip
    go_simp
    refine hK.out _ _ ⟨z0d, z1d⟩ (fun hHeld23 => ?_)
    clear hK K
    try simp only [Act.put, List.getElem_toArray, List.getElem_cons_zero, List.getElem_cons_succ, List.setIfInBounds_toArray, List.set_cons_zero, List.set_cons_succ]
    refine wpAnyH_ready (rs := [5, 12]) (by kernel_rfl) (by simp) ?_
    refine AllReadyH.cons rfl (fun K hK => ?_) (AllReadyH.cons rfl (fun K hK => ?_) AllReadyH.nil)
    · skip
      go_simp
      refine hK.out _ _ ⟨z0d, z1d⟩ (fun hHeld24 => ?_)
      clear hK K
      try simp only [Act.put, List.getElem_toArray, List.getElem_cons_zero, List.getElem_cons_succ, List.setIfInBounds_toArray, List.set_cons_zero, List.set_cons_succ]
      refine wpAnyH_ready (rs := [12]) (by kernel_rfl) (by simp) ?_
      refine AllReadyH.cons rfl (fun K hK => ?_) AllReadyH.nil
      go_simp
      go_at_call 26
      refine (BTh.out _ B4.out.drew).mono ?_
      rintro e w5 ⟨⟨⟨pl, G, C, at'⟩, ⟨ga, gc⟩, ⟨ca, cc⟩⟩, rfl, hld, hst, hb5⟩
      have B5 := Lib.hid (B4.out.drew.trans (hb5.mono B4.out.drew.size))
      have R5 := Lib.hid (blk_below (w := w4.drew) R4.out hb5)
      have H5 := Lib.hid (H.out.below B5.out)
      have HLD := Lib.hid hld
      have x0 := cell_of_row _ _ 0 _ _ _ R5.out
      have x1 := cell_of_row _ _ 1 _ _ _ R5.out
      have p35 := cell_of_row _ _ 3 _ _ _ H5.out.blk
      dsimp at x0 x1 p35
      have D5 := Lib.hid (DO.out w5 ((pl, G, C, at'), (ga, gc), (ca, cc)) B5.out ((hb5.cell (p := ⟨pt, 0, none⟩) (block_lt_of_cell (w := w4.drew) PT.out)).trans PT.out) hld hst x0 x1)
      clear hld hst hb5
      refine hK.out _ _ ⟨x0, x1⟩ (fun hHeld25 => ?_)
      clear hK K
      try simp only [Act.put, List.getElem_toArray, List.getElem_cons_zero, List.getElem_cons_succ, List.setIfInBounds_toArray, List.set_cons_zero, List.set_cons_succ]
      refine wpAnyH_ready (rs := [13]) (by kernel_rfl) (by simp) ?_
      refine AllReadyH.cons rfl (fun K hK => ?_) AllReadyH.nil
      go_simp
      go_at_call 36
      refine D5.out.mono ?_
      rintro e w6 ⟨he6, vs6, h6, hb6, hst6, v0, v1⟩
      replace he6 : e = .returned (.agg #[.int .i64 (pl : Int), .slice ca C.length cc, .slice ga G.length gc, .int .i64 x.2]) := he6
      subst he6
      have H6 := Lib.hid h6
      have B6 := Lib.hid hb6
      have ST6 := Lib.hid hst6
      have va0 := fun o => (below_alloc w6 o).cell (p := ⟨R, 0, none⟩) (block_lt_of_cell v0) |>.trans v0
      have va1 := fun o => (below_alloc w6 o).cell (p := ⟨R, 1, none⟩) (block_lt_of_cell v1) |>.trans v1
      have p36 := cell_of_row _ _ 3 _ _ _ h6.blk
      dsimp at p36
      have p37 := fun o => (below_alloc w6 o).cell (p := ⟨P, 3, none⟩) (block_lt_of_cell p36) |>.trans p36
      clear h6 hb6 hst6
      refine hK.out _ _ ⟨v0, v1⟩ (fun hHeld26 => ?_)
      clear hK K
      try simp only [Act.put, List.getElem_toArray, List.getElem_cons_zero, List.getElem_cons_succ, List.setIfInBounds_toArray, List.set_cons_zero, List.set_cons_succ]
      refine wpAnyH_ready (rs := [14]) (by kernel_rfl) (by simp) ?_
      refine AllReadyH.cons rfl (fun K hK => ?_) AllReadyH.nil
      go_simp
      refine hK.out _ _ ⟨va0 _, va1 _⟩ (fun hHeld27 => ?_)
      clear hK K
      try simp only [Act.put, List.getElem_toArray, List.getElem_cons_zero, List.getElem_cons_succ, List.setIfInBounds_toArray, List.set_cons_zero, List.set_cons_succ]
      refine wpAnyH_ready (rs := [15]) (by kernel_rfl) (by simp) ?_
      refine AllReadyH.cons rfl (fun K hK => ?_) AllReadyH.nil
      refine step_app_step (by rfl) _ _ (by rfl) B (.slice wa m wc) m W (by rfl) HM.out (H6.out.were.below (below_alloc _ _)) w6.heap.size 1 (bkR ((pl, G, C, at'), (ga, gc), (ca, cc)) x) (by rfl) (sta_news (heap_alloc_new w6 _)) (by omega) (Nat.le_trans (Nat.le_trans hBW.out B6.out.size) (below_alloc _ _).size) ?_
      intro ad7 c7 w7 o7 g7 p7
      have H7 := Lib.hid ((H6.out.below (below_alloc w6 (.cells (stA (bkR ((pl, G, C, at'), (ga, gc), (ca, cc)) x)) _))).add (Nat.le_trans (Nat.le_trans hBW.out B6.out.size) (below_alloc _ _).size) ((ST6.out.keep (below_alloc _ _).size (fun k hk => (below_alloc _ _).block k hk.2.1)).mono (FrS.up (below_alloc _ _).size)) o7 g7 p7)
      have t0 := g7.cell (va0 _) (fun e => hwR.out R e.symm rfl)
      have t1 := g7.cell (va1 _) (fun e => hwR.out R e.symm rfl)
      have s3 := cell_of_row _ _ 3 _ _ _ H7.out.1.blk
      have sf := fun i => frozen_of_row _ P i _ _ H7.out.1.blk
      have ba := blk_set H7.out.1.blk 3 (.slice ad7 (m + 1) c7)
      have s4 := cell_of_row _ _ 4 _ _ _ ba
      have sg := fun i => frozen_of_row _ P i _ _ ba
      dsimp at s3 s4
      have t0a := (cell_far (w := w7) (p := ⟨P, 3, none⟩) (q := ⟨R, 0, none⟩) hRP.out (.slice ad7 (m + 1) c7)).trans t0
      have t1a := (cell_far (w := w7) (p := ⟨P, 3, none⟩) (q := ⟨R, 1, none⟩) hRP.out (.slice ad7 (m + 1) c7)).trans t1
      have t0b := (cell_far (w := w7.setCell ⟨P, 3, none⟩ (.slice ad7 (m + 1) c7)) (p := ⟨P, 4, none⟩) (q := ⟨R, 0, none⟩) hRP.out (.slice none 0 0)).trans t0a
      have t1b := (cell_far (w := w7.setCell ⟨P, 3, none⟩ (.slice ad7 (m + 1) c7)) (p := ⟨P, 4, none⟩) (q := ⟨R, 1, none⟩) hRP.out (.slice none 0 0)).trans t1a
      clear o7 g7 p7 ba
      refine hK.out _ _ ⟨t0, t1⟩ (fun hHeld28 => ?_)
      clear hK K
      try simp only [Act.put, List.getElem_toArray, List.getElem_cons_zero, List.getElem_cons_succ, List.setIfInBounds_toArray, List.set_cons_zero, List.set_cons_succ]
      refine wpAnyH_take (i := 16) (v := .pointer (some ⟨P, 0, none⟩)) rfl (by kernel_rfl) (by kernel_rfl) (by kernel_rfl) (fun _ _ _ h => h) (Or.inl ⟨by rfl, ?yy29⟩) (by assumption) ?rr29
      case yy29 =>
        as_aux_lemma =>
          intro w hSw
          try dsimp only at hSw
          go_simp
          all_goals with_reducible rfl
      try simp only [Act.put, List.getElem_toArray, List.getElem_cons_zero, List.getElem_cons_succ, List.setIfInBounds_toArray, List.set_cons_zero, List.set_cons_succ]
      refine wpAnyH_take (i := 17) (v := .pointer (some ⟨P, 3, none⟩)) rfl (by kernel_rfl) (by kernel_rfl) (by kernel_rfl) (fun _ _ _ h => h) (Or.inl ⟨by rfl, ?yy30⟩) (by assumption) ?rr30
      case yy30 =>
        as_aux_lemma =>
          intro w hSw
          try dsimp only at hSw
          go_simp
          all_goals with_reducible rfl
      try simp only [Act.put, List.getElem_toArray, List.getElem_cons_zero, List.getElem_cons_succ, List.setIfInBounds_toArray, List.set_cons_zero, List.set_cons_succ]
      refine wpAnyH_ready (rs := [18]) (by kernel_rfl) (by simp) ?_
      refine AllReadyH.cons rfl (fun K hK => ?_) AllReadyH.nil
      go_simp
      refine hK.out _ _ ⟨t0a, t1a⟩ (fun hHeld31 => ?_)
      clear hK K
      try simp only [Act.put, List.getElem_toArray, List.getElem_cons_zero, List.getElem_cons_succ, List.setIfInBounds_toArray, List.set_cons_zero, List.set_cons_succ]
      refine wpAnyH_take (i := 19) (v := .pointer (some ⟨P, 0, none⟩)) rfl (by kernel_rfl) (by kernel_rfl) (by kernel_rfl) (fun _ _ _ h => h) (Or.inl ⟨by rfl, ?yy32⟩) (by assumption) ?rr32
      case yy32 =>
        as_aux_lemma =>
          intro w hSw
          try dsimp only at hSw
          go_simp
          all_goals with_reducible rfl
      try simp only [Act.put, List.getElem_toArray, List.getElem_cons_zero, List.getElem_cons_succ, List.setIfInBounds_toArray, List.set_cons_zero, List.set_cons_succ]
      refine wpAnyH_take (i := 20) (v := .pointer (some ⟨P, 4, none⟩)) rfl (by kernel_rfl) (by kernel_rfl) (by kernel_rfl) (fun _ _ _ h => h) (Or.inl ⟨by rfl, ?yy33⟩) (by assumption) ?rr33
      case yy33 =>
        as_aux_lemma =>
          intro w hSw
          try dsimp only at hSw
          go_simp
          all_goals with_reducible rfl
      try simp only [Act.put, List.getElem_toArray, List.getElem_cons_zero, List.getElem_cons_succ, List.setIfInBounds_toArray, List.set_cons_zero, List.set_cons_succ]
      refine wpAnyH_ready (rs := [21]) (by kernel_rfl) (by simp) ?_
      refine AllReadyH.cons rfl (fun K hK => ?_) AllReadyH.nil
      go_simp
      refine hK.out _ _ ⟨t0b, t1b⟩ (fun hHeld34 => ?_)
      clear hK K
      try simp only [Act.put, List.getElem_toArray, List.getElem_cons_zero, List.getElem_cons_succ, List.setIfInBounds_toArray, List.set_cons_zero, List.set_cons_succ]
      refine wpAnyH_done (by kernel_rfl) ?_ _
      refine NoPanic.normal ?_
      clear z0 z1 p1 p2 p3 x0 x1 p35 v0 v1 va0 va1 p36 p37 t0 t1 s3 s4 sf sg t0a t1a t0b t1b
      have H8 := Lib.hid (H7.out.1.two (.slice ad7 (m + 1) c7) (.slice none 0 0)).1.forget.s
      have D8 := Lib.hid (Below.setCell (p := ⟨P, 4, none⟩) (Below.setCell (p := ⟨P, 3, none⟩) ((B6.out.trans ((below_alloc w6 _).mono (Nat.le_trans hBW.out B6.out.size))).trans H7.out.2) hle.out (.slice ad7 (m + 1) c7)) hle.out (.slice none 0 0))
      generalize hW8 : (w7.setCell ⟨P, 3, none⟩ (.slice ad7 (m + 1) c7)).setCell ⟨P, 4, none⟩ (.slice none 0 0) = w8 at *
      have y0 := cell_of_row _ _ 0 _ _ _ H8.out.blk
      have y3 := cell_of_row _ _ 3 _ _ _ H8.out.blk
      dsimp at y0 y3
      have hcast : ((m + 1 : Nat) : Int) = (m : Int) + 1 := by omega
      go_upto_region 14 with fail
      go_quiet (fail)
      go_wp2
      go_ret
      first | exact ⟨rfl, _, _, _, HLD.out, H8.out.below ⟨rfl, rfl, rfl, Nat.le_refl _, fun _ _ => rfl⟩, D8.out.trans ⟨rfl, rfl, rfl, Nat.le_refl _, fun _ _ => rfl⟩⟩ | exact ⟨rfl, _, _, _, _, HLD.out, ⟨_, _, _, _, _, _, H8.out.below ⟨rfl, rfl, rfl, Nat.le_refl _, fun _ _ => rfl⟩⟩, D8.out.trans ⟨rfl, rfl, rfl, Nat.le_refl _, fun _ _ => rfl⟩⟩
    · skip
      go_simp
      go_at_call 26
      refine (BTh.out _ B4.out.drew).mono ?_
      rintro e w5 ⟨⟨⟨pl, G, C, at'⟩, ⟨ga, gc⟩, ⟨ca, cc⟩⟩, rfl, hld, hst, hb5⟩
      have B5 := Lib.hid (B4.out.drew.trans (hb5.mono B4.out.drew.size))
      have R5 := Lib.hid (blk_below (w := w4.drew) R4.out hb5)
      have H5 := Lib.hid (H.out.below B5.out)
      have HLD := Lib.hid hld
      have x0 := cell_of_row _ _ 0 _ _ _ R5.out
      have x1 := cell_of_row _ _ 1 _ _ _ R5.out
      have p35 := cell_of_row _ _ 3 _ _ _ H5.out.blk
      dsimp at x0 x1 p35
      have D5 := Lib.hid (DO.out w5 ((pl, G, C, at'), (ga, gc), (ca, cc)) B5.out ((hb5.cell (p := ⟨pt, 0, none⟩) (block_lt_of_cell (w := w4.drew) PT.out)).trans PT.out) hld hst x0 x1)
      clear hld hst hb5
      refine hK.out _ _ ⟨x0, x1⟩ (fun hHeld35 => ?_)
      clear hK K
      try simp only [Act.put, List.getElem_toArray, List.getElem_cons_zero, List.getElem_cons_succ, List.setIfInBounds_toArray, List.set_cons_zero, List.set_cons_succ]
      refine wpAnyH_ready (rs := [5, 13]) (by kernel_rfl) (by simp) ?_
      refine AllReadyH.cons rfl (fun K hK => ?_) (AllReadyH.cons rfl (fun K hK => ?_) AllReadyH.nil)
      · skip
        go_simp
        refine hK.out _ _ ⟨x0, x1⟩ (fun hHeld36 => ?_)
        clear hK K
        try simp only [Act.put, List.getElem_toArray, List.getElem_cons_zero, List.getElem_cons_succ, List.setIfInBounds_toArray, List.set_cons_zero, List.set_cons_succ]
        refine wpAnyH_ready (rs := [13]) (by kernel_rfl) (by simp) ?_
        refine AllReadyH.cons rfl (fun K hK => ?_) AllReadyH.nil
        go_simp
        go_at_call 36
        refine D5.out.mono ?_
        rintro e w6 ⟨he6, vs6, h6, hb6, hst6, v0, v1⟩
        replace he6 : e = .returned (.agg #[.int .i64 (pl : Int), .slice ca C.length cc, .slice ga G.length gc, .int .i64 x.2]) := he6
        subst he6
        have H6 := Lib.hid h6
        have B6 := Lib.hid hb6
        have ST6 := Lib.hid hst6
        have va0 := fun o => (below_alloc w6 o).cell (p := ⟨R, 0, none⟩) (block_lt_of_cell v0) |>.trans v0
        have va1 := fun o => (below_alloc w6 o).cell (p := ⟨R, 1, none⟩) (block_lt_of_cell v1) |>.trans v1
        have p36 := cell_of_row _ _ 3 _ _ _ h6.blk
        dsimp at p36
        have p37 := fun o => (below_alloc w6 o).cell (p := ⟨P, 3, none⟩) (block_lt_of_cell p36) |>.trans p36
        clear h6 hb6 hst6
        refine hK.out _ _ ⟨v0, v1⟩ (fun hHeld37 => ?_)
        clear hK K
        try simp only [Act.put, List.getElem_toArray, List.getElem_cons_zero, List.getElem_cons_succ, List.setIfInBounds_toArray, List.set_cons_zero, List.set_cons_succ]
        refine wpAnyH_ready (rs := [14]) (by kernel_rfl) (by simp) ?_
        refine AllReadyH.cons rfl (fun K hK => ?_) AllReadyH.nil
        go_simp
        refine hK.out _ _ ⟨va0 _, va1 _⟩ (fun hHeld38 => ?_)
        clear hK K
        try simp only [Act.put, List.getElem_toArray, List.getElem_cons_zero, List.getElem_cons_succ, List.setIfInBounds_toArray, List.set_cons_zero, List.set_cons_succ]
        refine wpAnyH_ready (rs := [15]) (by kernel_rfl) (by simp) ?_
        refine AllReadyH.cons rfl (fun K hK => ?_) AllReadyH.nil
        refine step_app_step (by rfl) _ _ (by rfl) B (.slice wa m wc) m W (by rfl) HM.out (H6.out.were.below (below_alloc _ _)) w6.heap.size 1 (bkR ((pl, G, C, at'), (ga, gc), (ca, cc)) x) (by rfl) (sta_news (heap_alloc_new w6 _)) (by omega) (Nat.le_trans (Nat.le_trans hBW.out B6.out.size) (below_alloc _ _).size) ?_
        intro ad7 c7 w7 o7 g7 p7
        have H7 := Lib.hid ((H6.out.below (below_alloc w6 (.cells (stA (bkR ((pl, G, C, at'), (ga, gc), (ca, cc)) x)) _))).add (Nat.le_trans (Nat.le_trans hBW.out B6.out.size) (below_alloc _ _).size) ((ST6.out.keep (below_alloc _ _).size (fun k hk => (below_alloc _ _).block k hk.2.1)).mono (FrS.up (below_alloc _ _).size)) o7 g7 p7)
        have t0 := g7.cell (va0 _) (fun e => hwR.out R e.symm rfl)
        have t1 := g7.cell (va1 _) (fun e => hwR.out R e.symm rfl)
        have s3 := cell_of_row _ _ 3 _ _ _ H7.out.1.blk
        have sf := fun i => frozen_of_row _ P i _ _ H7.out.1.blk
        have ba := blk_set H7.out.1.blk 3 (.slice ad7 (m + 1) c7)
        have s4 := cell_of_row _ _ 4 _ _ _ ba
        have sg := fun i => frozen_of_row _ P i _ _ ba
        dsimp at s3 s4
        have t0a := (cell_far (w := w7) (p := ⟨P, 3, none⟩) (q := ⟨R, 0, none⟩) hRP.out (.slice ad7 (m + 1) c7)).trans t0
        have t1a := (cell_far (w := w7) (p := ⟨P, 3, none⟩) (q := ⟨R, 1, none⟩) hRP.out (.slice ad7 (m + 1) c7)).trans t1
        have t0b := (cell_far (w := w7.setCell ⟨P, 3, none⟩ (.slice ad7 (m + 1) c7)) (p := ⟨P, 4, none⟩) (q := ⟨R, 0, none⟩) hRP.out (.slice none 0 0)).trans t0a
        have t1b := (cell_far (w := w7.setCell ⟨P, 3, none⟩ (.slice ad7 (m + 1) c7)) (p := ⟨P, 4, none⟩) (q := ⟨R, 1, none⟩) hRP.out (.slice none 0 0)).trans t1a
        clear o7 g7 p7 ba
        refine hK.out _ _ ⟨t0, t1⟩ (fun hHeld39 => ?_)
        clear hK K
        try simp only [Act.put, List.getElem_toArray, List.getElem_cons_zero, List.getElem_cons_succ, List.setIfInBounds_toArray, List.set_cons_zero, List.set_cons_succ]
        refine wpAnyH_take (i := 16) (v := .pointer (some ⟨P, 0, none⟩)) rfl (by kernel_rfl) (by kernel_rfl) (by kernel_rfl) (fun _ _ _ h => h) (Or.inl ⟨by rfl, ?yy40⟩) (by assumption) ?rr40
        case yy40 =>
          as_aux_lemma =>
            intro w hSw
            try dsimp only at hSw
            go_simp
            all_goals with_reducible rfl
        try simp only [Act.put, List.getElem_toArray, List.getElem_cons_zero, List.getElem_cons_succ, List.setIfInBounds_toArray, List.set_cons_zero, List.set_cons_succ]
        refine wpAnyH_take (i := 17) (v := .pointer (some ⟨P, 3, none⟩)) rfl (by kernel_rfl) (by kernel_rfl) (by kernel_rfl) (fun _ _ _ h => h) (Or.inl ⟨by rfl, ?yy41⟩) (by assumption) ?rr41
        case yy41 =>
          as_aux_lemma =>
            intro w hSw
            try dsimp only at hSw
            go_simp
            all_goals with_reducible rfl
        try simp only [Act.put, List.getElem_toArray, List.getElem_cons_zero, List.getElem_cons_succ, List.setIfInBounds_toArray, List.set_cons_zero, List.set_cons_succ]
        refine wpAnyH_ready (rs := [18]) (by kernel_rfl) (by simp) ?_
        refine AllReadyH.cons rfl (fun K hK => ?_) AllReadyH.nil
        go_simp
        refine hK.out _ _ ⟨t0a, t1a⟩ (fun hHeld42 => ?_)
        clear hK K
        try simp only [Act.put, List.getElem_toArray, List.getElem_cons_zero, List.getElem_cons_succ, List.setIfInBounds_toArray, List.set_cons_zero, List.set_cons_succ]
        refine wpAnyH_take (i := 19) (v := .pointer (some ⟨P, 0, none⟩)) rfl (by kernel_rfl) (by kernel_rfl) (by kernel_rfl) (fun _ _ _ h => h) (Or.inl ⟨by rfl, ?yy43⟩) (by assumption) ?rr43
        case yy43 =>
          as_aux_lemma =>
            intro w hSw
            try dsimp only at hSw
            go_simp
            all_goals with_reducible rfl
        try simp only [Act.put, List.getElem_toArray, List.getElem_cons_zero, List.getElem_cons_succ, List.setIfInBounds_toArray, List.set_cons_zero, List.set_cons_succ]
        refine wpAnyH_take (i := 20) (v := .pointer (some ⟨P, 4, none⟩)) rfl (by kernel_rfl) (by kernel_rfl) (by kernel_rfl) (fun _ _ _ h => h) (Or.inl ⟨by rfl, ?yy44⟩) (by assumption) ?rr44
        case yy44 =>
          as_aux_lemma =>
            intro w hSw
            try dsimp only at hSw
            go_simp
            all_goals with_reducible rfl
        try simp only [Act.put, List.getElem_toArray, List.getElem_cons_zero, List.getElem_cons_succ, List.setIfInBounds_toArray, List.set_cons_zero, List.set_cons_succ]
        refine wpAnyH_ready (rs := [21]) (by kernel_rfl) (by simp) ?_
        refine AllReadyH.cons rfl (fun K hK => ?_) AllReadyH.nil
        go_simp
        refine hK.out _ _ ⟨t0b, t1b⟩ (fun hHeld45 => ?_)
        clear hK K
        try simp only [Act.put, List.getElem_toArray, List.getElem_cons_zero, List.getElem_cons_succ, List.setIfInBounds_toArray, List.set_cons_zero, List.set_cons_succ]
        refine wpAnyH_done (by kernel_rfl) ?_ _
        refine NoPanic.normal ?_
        clear z0 z1 p1 p2 p3 x0 x1 p35 v0 v1 va0 va1 p36 p37 t0 t1 s3 s4 sf sg t0a t1a t0b t1b
        have H8 := Lib.hid (H7.out.1.two (.slice ad7 (m + 1) c7) (.slice none 0 0)).1.forget.s
        have D8 := Lib.hid (Below.setCell (p := ⟨P, 4, none⟩) (Below.setCell (p := ⟨P, 3, none⟩) ((B6.out.trans ((below_alloc w6 _).mono (Nat.le_trans hBW.out B6.out.size))).trans H7.out.2) hle.out (.slice ad7 (m + 1) c7)) hle.out (.slice none 0 0))
        generalize hW8 : (w7.setCell ⟨P, 3, none⟩ (.slice ad7 (m + 1) c7)).setCell ⟨P, 4, none⟩ (.slice none 0 0) = w8 at *
        have y0 := cell_of_row _ _ 0 _ _ _ H8.out.blk
        have y3 := cell_of_row _ _ 3 _ _ _ H8.out.blk
        dsimp at y0 y3
        have hcast : ((m + 1 : Nat) : Int) = (m : Int) + 1 := by omega
        go_upto_region 14 with fail
        go_quiet (fail)
        go_wp2
        go_ret
        first | exact ⟨rfl, _, _, _, HLD.out, H8.out.below ⟨rfl, rfl, rfl, Nat.le_refl _, fun _ _ => rfl⟩, D8.out.trans ⟨rfl, rfl, rfl, Nat.le_refl _, fun _ _ => rfl⟩⟩ | exact ⟨rfl, _, _, _, _, HLD.out, ⟨_, _, _, _, _, _, H8.out.below ⟨rfl, rfl, rfl, Nat.le_refl _, fun _ _ => rfl⟩⟩, D8.out.trans ⟨rfl, rfl, rfl, Nat.le_refl _, fun _ _ => rfl⟩⟩
      · skip
        go_simp
        go_at_call 36
        refine D5.out.mono ?_
        rintro e w6 ⟨he6, vs6, h6, hb6, hst6, v0, v1⟩
        replace he6 : e = .returned (.agg #[.int .i64 (pl : Int), .slice ca C.length cc, .slice ga G.length gc, .int .i64 x.2]) := he6
        subst he6
        have H6 := Lib.hid h6
        have B6 := Lib.hid hb6
        have ST6 := Lib.hid hst6
        have va0 := fun o => (below_alloc w6 o).cell (p := ⟨R, 0, none⟩) (block_lt_of_cell v0) |>.trans v0
        have va1 := fun o => (below_alloc w6 o).cell (p := ⟨R, 1, none⟩) (block_lt_of_cell v1) |>.trans v1
        have p36 := cell_of_row _ _ 3 _ _ _ h6.blk
        dsimp at p36
        have p37 := fun o => (below_alloc w6 o).cell (p := ⟨P, 3, none⟩) (block_lt_of_cell p36) |>.trans p36
        clear h6 hb6 hst6
        refine hK.out _ _ ⟨v0, v1⟩ (fun hHeld46 => ?_)
        clear hK K
        try simp only [Act.put, List.getElem_toArray, List.getElem_cons_zero, List.getElem_cons_succ, List.setIfInBounds_toArray, List.set_cons_zero, List.set_cons_succ]
        refine wpAnyH_ready (rs := [5, 14]) (by kernel_rfl) (by simp) ?_
        refine AllReadyH.cons rfl (fun K hK => ?_) (AllReadyH.cons rfl (fun K hK => ?_) AllReadyH.nil)
        · skip
          go_simp
          refine hK.out _ _ ⟨v0, v1⟩ (fun hHeld47 => ?_)
          clear hK K
          try simp only [Act.put, List.getElem_toArray, List.getElem_cons_zero, List.getElem_cons_succ, List.setIfInBounds_toArray, List.set_cons_zero, List.set_cons_succ]
          refine wpAnyH_ready (rs := [14]) (by kernel_rfl) (by simp) ?_
          refine AllReadyH.cons rfl (fun K hK => ?_) AllReadyH.nil
          go_simp
          refine hK.out _ _ ⟨va0 _, va1 _⟩ (fun hHeld48 => ?_)
          clear hK K
          try simp only [Act.put, List.getElem_toArray, List.getElem_cons_zero, List.getElem_cons_succ, List.setIfInBounds_toArray, List.set_cons_zero, List.set_cons_succ]
          refine wpAnyH_ready (rs := [15]) (by kernel_rfl) (by simp) ?_
          refine AllReadyH.cons rfl (fun K hK => ?_) AllReadyH.nil
          refine step_app_step (by rfl) _ _ (by rfl) B (.slice wa m wc) m W (by rfl) HM.out (H6.out.were.below (below_alloc _ _)) w6.heap.size 1 (bkR ((pl, G, C, at'), (ga, gc), (ca, cc)) x) (by rfl) (sta_news (heap_alloc_new w6 _)) (by omega) (Nat.le_trans (Nat.le_trans hBW.out B6.out.size) (below_alloc _ _).size) ?_
          intro ad7 c7 w7 o7 g7 p7
          have H7 := Lib.hid ((H6.out.below (below_alloc w6 (.cells (stA (bkR ((pl, G, C, at'), (ga, gc), (ca, cc)) x)) _))).add (Nat.le_trans (Nat.le_trans hBW.out B6.out.size) (below_alloc _ _).size) ((ST6.out.keep (below_alloc _ _).size (fun k hk => (below_alloc _ _).block k hk.2.1)).mono (FrS.up (below_alloc _ _).size)) o7 g7 p7)
          have t0 := g7.cell (va0 _) (fun e => hwR.out R e.symm rfl)
          have t1 := g7.cell (va1 _) (fun e => hwR.out R e.symm rfl)
          have s3 := cell_of_row _ _ 3 _ _ _ H7.out.1.blk
          have sf := fun i => frozen_of_row _ P i _ _ H7.out.1.blk
          have ba := blk_set H7.out.1.blk 3 (.slice ad7 (m + 1) c7)
          have s4 := cell_of_row _ _ 4 _ _ _ ba
          have sg := fun i => frozen_of_row _ P i _ _ ba
          dsimp at s3 s4
          have t0a := (cell_far (w := w7) (p := ⟨P, 3, none⟩) (q := ⟨R, 0, none⟩) hRP.out (.slice ad7 (m + 1) c7)).trans t0
          have t1a := (cell_far (w := w7) (p := ⟨P, 3, none⟩) (q := ⟨R, 1, none⟩) hRP.out (.slice ad7 (m + 1) c7)).trans t1
          have t0b := (cell_far (w := w7.setCell ⟨P, 3, none⟩ (.slice ad7 (m + 1) c7)) (p := ⟨P, 4, none⟩) (q := ⟨R, 0, none⟩) hRP.out (.slice none 0 0)).trans t0a
          have t1b := (cell_far (w := w7.setCell ⟨P, 3, none⟩ (.slice ad7 (m + 1) c7)) (p := ⟨P, 4, none⟩) (q := ⟨R, 1, none⟩) hRP.out (.slice none 0 0)).trans t1a
          clear o7 g7 p7 ba
          refine hK.out _ _ ⟨t0, t1⟩ (fun hHeld49 => ?_)
          clear hK K
          try simp only [Act.put, List.getElem_toArray, List.getElem_cons_zero, List.getElem_cons_succ, List.setIfInBounds_toArray, List.set_cons_zero, List.set_cons_succ]
          refine wpAnyH_take (i := 16) (v := .pointer (some ⟨P, 0, none⟩)) rfl (by kernel_rfl) (by kernel_rfl) (by kernel_rfl) (fun _ _ _ h => h) (Or.inl ⟨by rfl, ?yy50⟩) (by assumption) ?rr50
          case yy50 =>
            as_aux_lemma =>
              intro w hSw
              try dsimp only at hSw
              go_simp
              all_goals with_reducible rfl
          try simp only [Act.put, List.getElem_toArray, List.getElem_cons_zero, List.getElem_cons_succ, List.setIfInBounds_toArray, List.set_cons_zero, List.set_cons_succ]
          refine wpAnyH_take (i := 17) (v := .pointer (some ⟨P, 3, none⟩)) rfl (by kernel_rfl) (by kernel_rfl) (by kernel_rfl) (fun _ _ _ h => h) (Or.inl ⟨by rfl, ?yy51⟩) (by assumption) ?rr51
          case yy51 =>
            as_aux_lemma =>
              intro w hSw
              try dsimp only at hSw
              go_simp
              all_goals with_reducible rfl
          try simp only [Act.put, List.getElem_toArray, List.getElem_cons_zero, List.getElem_cons_succ, List.setIfInBounds_toArray, List.set_cons_zero, List.set_cons_succ]
          refine wpAnyH_ready (rs := [18]) (by kernel_rfl) (by simp) ?_
          refine AllReadyH.cons rfl (fun K hK => ?_) AllReadyH.nil
          go_simp
          refine hK.out _ _ ⟨t0a, t1a⟩ (fun hHeld52 => ?_)
          clear hK K
          try simp only [Act.put, List.getElem_toArray, List.getElem_cons_zero, List.getElem_cons_succ, List.setIfInBounds_toArray, List.set_cons_zero, List.set_cons_succ]
          refine wpAnyH_take (i := 19) (v := .pointer (some ⟨P, 0, none⟩)) rfl (by kernel_rfl) (by kernel_rfl) (by kernel_rfl) (fun _ _ _ h => h) (Or.inl ⟨by rfl, ?yy53⟩) (by assumption) ?rr53
          case yy53 =>
            as_aux_lemma =>
              intro w hSw
              try dsimp only at hSw
              go_simp
              all_goals with_reducible rfl
          try simp only [Act.put, List.getElem_toArray, List.getElem_cons_zero, List.getElem_cons_succ, List.setIfInBounds_toArray, List.set_cons_zero, List.set_cons_succ]
          refine wpAnyH_take (i := 20) (v := .pointer (some ⟨P, 4, none⟩)) rfl (by kernel_rfl) (by kernel_rfl) (by kernel_rfl) (fun _ _ _ h => h) (Or.inl ⟨by rfl, ?yy54⟩) (by assumption) ?rr54
          case yy54 =>
            as_aux_lemma =>
              intro w hSw
              try dsimp only at hSw
              go_simp
              all_goals with_reducible rfl
          try simp only [Act.put, List.getElem_toArray, List.getElem_cons_zero, List.getElem_cons_succ, List.setIfInBounds_toArray, List.set_cons_zero, List.set_cons_succ]
          refine wpAnyH_ready (rs := [21]) (by kernel_rfl) (by simp) ?_
          refine AllReadyH.cons rfl (fun K hK => ?_) AllReadyH.nil
          go_simp
          refine hK.out _ _ ⟨t0b, t1b⟩ (fun hHeld55 => ?_)
          clear hK K
          try simp only [Act.put, List.getElem_toArray, List.getElem_cons_zero, List.getElem_cons_succ, List.setIfInBounds_toArray, List.set_cons_zero, List.set_cons_succ]
          refine wpAnyH_done (by kernel_rfl) ?_ _
          refine NoPanic.normal ?_
          clear z0 z1 p1 p2 p3 x0 x1 p35 v0 v1 va0 va1 p36 p37 t0 t1 s3 s4 sf sg t0a t1a t0b t1b
          have H8 := Lib.hid (H7.out.1.two (.slice ad7 (m + 1) c7) (.slice none 0 0)).1.forget.s
          have D8 := Lib.hid (Below.setCell (p := ⟨P, 4, none⟩) (Below.setCell (p := ⟨P, 3, none⟩) ((B6.out.trans ((below_alloc w6 _).mono (Nat.le_trans hBW.out B6.out.size))).trans H7.out.2) hle.out (.slice ad7 (m + 1) c7)) hle.out (.slice none 0 0))
          generalize hW8 : (w7.setCell ⟨P, 3, none⟩ (.slice ad7 (m + 1) c7)).setCell ⟨P, 4, none⟩ (.slice none 0 0) = w8 at *
          have y0 := cell_of_row _ _ 0 _ _ _ H8.out.blk
          have y3 := cell_of_row _ _ 3 _ _ _ H8.out.blk
          dsimp at y0 y3
          have hcast : ((m + 1 : Nat) : Int) = (m : Int) + 1 := by omega
          go_upto_region 14 with fail
          go_quiet (fail)
          go_wp2
          go_ret
          first | exact ⟨rfl, _, _, _, HLD.out, H8.out.below ⟨rfl, rfl, rfl, Nat.le_refl _, fun _ _ => rfl⟩, D8.out.trans ⟨rfl, rfl, rfl, Nat.le_refl _, fun _ _ => rfl⟩⟩ | exact ⟨rfl, _, _, _, _, HLD.out, ⟨_, _, _, _, _, _, H8.out.below ⟨rfl, rfl, rfl, Nat.le_refl _, fun _ _ => rfl⟩⟩, D8.out.trans ⟨rfl, rfl, rfl, Nat.le_refl _, fun _ _ => rfl⟩⟩
        · skip
          go_simp
          refine hK.out _ _ ⟨va0 _, va1 _⟩ (fun hHeld56 => ?_)
          clear hK K
          try simp only [Act.put, List.getElem_toArray, List.getElem_cons_zero, List.getElem_cons_succ, List.setIfInBounds_toArray, List.set_cons_zero, List.set_cons_succ]
          refine wpAnyH_ready (rs := [5]) (by kernel_rfl) (by simp) ?_
          refine AllReadyH.cons rfl (fun K hK => ?_) AllReadyH.nil
          go_simp
          refine hK.out _ _ ⟨va0 _, va1 _⟩ (fun hHeld57 => ?_)
          clear hK K
          try simp only [Act.put, List.getElem_toArray, List.getElem_cons_zero, List.getElem_cons_succ, List.setIfInBounds_toArray, List.set_cons_zero, List.set_cons_succ]
          refine wpAnyH_ready (rs := [15]) (by kernel_rfl) (by simp) ?_
          refine AllReadyH.cons rfl (fun K hK => ?_) AllReadyH.nil
          refine step_app_step (by rfl) _ _ (by rfl) B (.slice wa m wc) m W (by rfl) HM.out (H6.out.were.below (below_alloc _ _)) w6.heap.size 1 (bkR ((pl, G, C, at'), (ga, gc), (ca, cc)) x) (by rfl) (sta_news (heap_alloc_new w6 _)) (by omega) (Nat.le_trans (Nat.le_trans hBW.out B6.out.size) (below_alloc _ _).size) ?_
          intro ad7 c7 w7 o7 g7 p7
          have H7 := Lib.hid ((H6.out.below (below_alloc w6 (.cells (stA (bkR ((pl, G, C, at'), (ga, gc), (ca, cc)) x)) _))).add (Nat.le_trans (Nat.le_trans hBW.out B6.out.size) (below_alloc _ _).size) ((ST6.out.keep (below_alloc _ _).size (fun k hk => (below_alloc _ _).block k hk.2.1)).mono (FrS.up (below_alloc _ _).size)) o7 g7 p7)
          have t0 := g7.cell (va0 _) (fun e => hwR.out R e.symm rfl)
          have t1 := g7.cell (va1 _) (fun e => hwR.out R e.symm rfl)
          have s3 := cell_of_row _ _ 3 _ _ _ H7.out.1.blk
          have sf := fun i => frozen_of_row _ P i _ _ H7.out.1.blk
          have ba := blk_set H7.out.1.blk 3 (.slice ad7 (m + 1) c7)
          have s4 := cell_of_row _ _ 4 _ _ _ ba
          have sg := fun i => frozen_of_row _ P i _ _ ba
          dsimp at s3 s4
          have t0a := (cell_far (w := w7) (p := ⟨P, 3, none⟩) (q := ⟨R, 0, none⟩) hRP.out (.slice ad7 (m + 1) c7)).trans t0
          have t1a := (cell_far (w := w7) (p := ⟨P, 3, none⟩) (q := ⟨R, 1, none⟩) hRP.out (.slice ad7 (m + 1) c7)).trans t1
          have t0b := (cell_far (w := w7.setCell ⟨P, 3, none⟩ (.slice ad7 (m + 1) c7)) (p := ⟨P, 4, none⟩) (q := ⟨R, 0, none⟩) hRP.out (.slice none 0 0)).trans t0a
          have t1b := (cell_far (w := w7.setCell ⟨P, 3, none⟩ (.slice ad7 (m + 1) c7)) (p := ⟨P, 4, none⟩) (q := ⟨R, 1, none⟩) hRP.out (.slice none 0 0)).trans t1a
          clear o7 g7 p7 ba
          refine hK.out _ _ ⟨t0, t1⟩ (fun hHeld58 => ?_)
          clear hK K
          try simp only [Act.put, List.getElem_toArray, List.getElem_cons_zero, List.getElem_cons_succ, List.setIfInBounds_toArray, List.set_cons_zero, List.set_cons_succ]
          refine wpAnyH_take (i := 16) (v := .pointer (some ⟨P, 0, none⟩)) rfl (by kernel_rfl) (by kernel_rfl) (by kernel_rfl) (fun _ _ _ h => h) (Or.inl ⟨by rfl, ?yy59⟩) (by assumption) ?rr59
          case yy59 =>
            as_aux_lemma =>
              intro w hSw
              try dsimp only at hSw
              go_simp
              all_goals with_reducible rfl
          try simp only [Act.put, List.getElem_toArray, List.getElem_cons_zero, List.getElem_cons_succ, List.setIfInBounds_toArray, List.set_cons_zero, List.set_cons_succ]
          refine wpAnyH_take (i := 17) (v := .pointer (some ⟨P, 3, none⟩)) rfl (by kernel_rfl) (by kernel_rfl) (by kernel_rfl) (fun _ _ _ h => h) (Or.inl ⟨by rfl, ?yy60⟩) (by assumption) ?rr60
          case yy60 =>
            as_aux_lemma =>
              intro w hSw
              try dsimp only at hSw
              go_simp
              all_goals with_reducible rfl
          try simp only [Act.put, List.getElem_toArray, List.getElem_cons_zero, List.getElem_cons_succ, List.setIfInBounds_toArray, List.set_cons_zero, List.set_cons_succ]
          refine wpAnyH_ready (rs := [18]) (by kernel_rfl) (by simp) ?_
          refine AllReadyH.cons rfl (fun K hK => ?_) AllReadyH.nil
          go_simp
          refine hK.out _ _ ⟨t0a, t1a⟩ (fun hHeld61 => ?_)
          clear hK K
          try simp only [Act.put, List.getElem_toArray, List.getElem_cons_zero, List.getElem_cons_succ, List.setIfInBounds_toArray, List.set_cons_zero, List.set_cons_succ]
          refine wpAnyH_take (i := 19) (v := .pointer (some ⟨P, 0, none⟩)) rfl (by kernel_rfl) (by kernel_rfl) (by kernel_rfl) (fun _ _ _ h => h) (Or.inl ⟨by rfl, ?yy62⟩) (by assumption) ?rr62
          case yy62 =>
            as_aux_lemma =>
              intro w hSw
              try dsimp only at hSw
              go_simp
              all_goals with_reducible rfl
          try simp only [Act.put, List.getElem_toArray, List.getElem_cons_zero, List.getElem_cons_succ, List.setIfInBounds_toArray, List.set_cons_zero, List.set_cons_succ]
          refine wpAnyH_take (i := 20) (v := .pointer (some ⟨P, 4, none⟩)) rfl (by kernel_rfl) (by kernel_rfl) (by kernel_rfl) (fun _ _ _ h => h) (Or.inl ⟨by rfl, ?yy63⟩) (by assumption) ?rr63
          case yy63 =>
            as_aux_lemma =>
              intro w hSw
              try dsimp only at hSw
              go_simp
              all_goals with_reducible rfl
          try simp only [Act.put, List.getElem_toArray, List.getElem_cons_zero, List.getElem_cons_succ, List.setIfInBounds_toArray, List.set_cons_zero, List.set_cons_succ]
          refine wpAnyH_ready (rs := [21]) (by kernel_rfl) (by simp) ?_
          refine AllReadyH.cons rfl (fun K hK => ?_) AllReadyH.nil
          go_simp
          refine hK.out _ _ ⟨t0b, t1b⟩ (fun hHeld64 => ?_)
          clear hK K
          try simp only [Act.put, List.getElem_toArray, List.getElem_cons_zero, List.getElem_cons_succ, List.setIfInBounds_toArray, List.set_cons_zero, List.set_cons_succ]
          refine wpAnyH_done (by kernel_rfl) ?_ _
          refine NoPanic.normal ?_
          clear z0 z1 p1 p2 p3 x0 x1 p35 v0 v1 va0 va1 p36 p37 t0 t1 s3 s4 sf sg t0a t1a t0b t1b
          have H8 := Lib.hid (H7.out.1.two (.slice ad7 (m + 1) c7) (.slice none 0 0)).1.forget.s
          have D8 := Lib.hid (Below.setCell (p := ⟨P, 4, none⟩) (Below.setCell (p := ⟨P, 3, none⟩) ((B6.out.trans ((below_alloc w6 _).mono (Nat.le_trans hBW.out B6.out.size))).trans H7.out.2) hle.out (.slice ad7 (m + 1) c7)) hle.out (.slice none 0 0))
          generalize hW8 : (w7.setCell ⟨P, 3, none⟩ (.slice ad7 (m + 1) c7)).setCell ⟨P, 4, none⟩ (.slice none 0 0) = w8 at *
          have y0 := cell_of_row _ _ 0 _ _ _ H8.out.blk
          have y3 := cell_of_row _ _ 3 _ _ _ H8.out.blk
          dsimp at y0 y3
          have hcast : ((m + 1 : Nat) : Int) = (m : Int) + 1 := by omega
          go_upto_region 14 with fail
          go_quiet (fail)
          go_wp2
          go_ret
          first | exact ⟨rfl, _, _, _, HLD.out, H8.out.below ⟨rfl, rfl, rfl, Nat.le_refl _, fun _ _ => rfl⟩, D8.out.trans ⟨rfl, rfl, rfl, Nat.le_refl _, fun _ _ => rfl⟩⟩ | exact ⟨rfl, _, _, _, _, HLD.out, ⟨_, _, _, _, _, _, H8.out.below ⟨rfl, rfl, rfl, Nat.le_refl _, fun _ _ => rfl⟩⟩, D8.out.trans ⟨rfl, rfl, rfl, Nat.le_refl _, fun _ _ => rfl⟩⟩
end Go.Proofs.YtjgffedcbdnddaaDoor
