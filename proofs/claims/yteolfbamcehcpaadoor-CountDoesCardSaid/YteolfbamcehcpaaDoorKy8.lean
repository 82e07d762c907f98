/-
  Keys: their bytes, and what they are, typed as they are.
-/
import Derived.Test.YteolfbamcehcpaaDoorKy7
set_option linter.unusedVariables false
set_option linter.unusedSimpArgs false
namespace Go.Proofs.YteolfbamcehcpaaDoor
set_option maxRecDepth 100000
open Go.RowKit
def byR (k : Ky) : List UInt8 := if keyB k then byN k else []
def ByPost (k : Ky) (w : World) (e : Ending) (w' : World) : Prop := e = .returned (.string (mkS (byR k))) ∧ Below w.heap.size w w'
theorem byPost_no {k : Ky} {w w' : World} (h : keyB k = false) (hb : Below w.heap.size w w') : ByPost k w (.returned (.string ⟨#[]⟩)) w' := by
  unfold ByPost byR; rw [h]; exact ⟨rfl, hb⟩
theorem byPost_yes {k : Ky} {w w' : World} {s : ByteArray} (h : keyB k = true) (hs : s = mkS (byN k)) (hb : Below w.heap.size w w') : ByPost k w (.returned (.string s)) w' := by
  unfold ByPost byR; rw [h, hs]; exact ⟨rfl, hb⟩
theorem by_named (kind v : Int) (t : ByteArray) (c : Bool) (h1 : kind ≠ 1) (h2 : kind ≠ 2) (h3 : kind ≠ 3) (h15 : kind ≠ 15) : byN (kind, v, t, c) = (kRowOf kind v).2.2.2 := by
  unfold byN; dsimp only; rw [if_neg (by omega), if_neg h3, if_neg h15]
theorem txt_mk (l : List Int) : mkS (txt l).data.toList = txt l := mkS_of _
theorem by_12 (kind v : Int) (h : kind = 1 ∨ kind = 2) : mkS (byN (kind, v, ⟨#[]⟩, false)) = txt (oneI v) := by
  unfold byN; dsimp only; rw [if_pos h]
theorem by_3 (v : Int) : mkS (byN (3, v, ⟨#[]⟩, false)) = ⟨#[27]⟩ ++ txt (oneI v) := by
  unfold byN; dsimp only; rw [if_neg (by omega), if_pos rfl, show (⟨#[27]⟩ : ByteArray) = mkS [27] from rfl]
  conv => rhs; rw [← txt_mk]
  rw [mkS_app]; rfl
theorem by_15 (v : Int) (t : ByteArray) (c : Bool) : mkS (byN (15, v, t, c)) = ⟨#[27, 91, 50, 48, 48, 126]⟩ ++ t ++ ⟨#[27, 91, 50, 48, 49, 126]⟩ := by
  unfold byN; dsimp only; rw [if_neg (by omega), if_neg (by omega), if_pos rfl, show (⟨#[27, 91, 50, 48, 48, 126]⟩ : ByteArray) = mkS [27, 91, 50, 48, 48, 126] from rfl, show (⟨#[27, 91, 50, 48, 49, 126]⟩ : ByteArray) = mkS [27, 91, 50, 48, 49, 126] from rfl]
  conv => rhs; rw [← mkS_of t]
  rw [mkS_app, mkS_app]
theorem txt_one_len (v : Int) : (txt (oneI v)).size ≤ 4 := by rw [txt_size]; exact oneI_len v
set_option maxHeartbeats 4000000 in
set_option maxRecDepth 100000 in
theorem kbytes_any (k : Ky) (w : World) (hK : KT w) : Calls Tryd.prog 15 #[kyV k] w (ByPost k w) := by
  have B0 := below_alloc w (.cells #[.int .i64 k.1, .int .i64 k.2.1, .string k.2.2.1, .bool k.2.2.2] 23)
  have Q0 := Lib.hid (heap_alloc_new w (.cells #[.int .i64 k.1, .int .i64 k.2.1, .string k.2.2.1, .bool k.2.2.2] 23))
  have CH := kcheck_any k (w.alloc (.cells #[.int .i64 k.1, .int .i64 k.2.1, .string k.2.2.1, .bool k.2.2.2] 23)) (hK.below B0)
  cases hok : keyB k with
  | false =>
    have HP := Lib.hid (fun w w' hb => byPost_no (k := k) (w := w) (w' := w') hok hb)
    rw [ckE_no hok] at CH
    obtain ⟨kind, v, t, c⟩ := k
    dsimp only at B0 Q0 CH
    replace CH := Lib.hid CH
    clear hok hK
    show Calls _ _ #[.agg #[.int .i64 kind, .int .i64 v, .string t, .bool c]] _ _
    go_enter Tryd.func15, Tryd.ntmps15
    go_wp2_with (go_at_call 14; refine CH.out.mono ?_; rintro e w1 ⟨rfl, hb1⟩)
    go_ret
    exact HP.out _ _ (seqB B0 hb1)
  | true =>
    have HP := Lib.hid (fun w w' s hs hb => byPost_yes (k := k) (w := w) (w' := w') (s := s) hok hs hb)
    rw [ckE_yes hok] at CH
    have hf := kyF_of hok
    clear hok
    cases hf with
    | sign v h0 h1 h =>
      dsimp only at B0 Q0
      replace CH := Lib.hid CH
      have SN := Lib.hid (fun w => kenc_one v w)
      have he := Lib.hid (by_12 1 v (Or.inl rfl)).symm
      clear h hK
      show Calls _ _ #[.agg #[.int .i64 1, .int .i64 v, .string ⟨#[]⟩, .bool false]] _ _
      go_enter Tryd.func15, Tryd.ntmps15
      go_wp2_with (first
        | (go_at_call 14; refine CH.out.mono ?_; rintro e w1 ⟨rfl, hb1⟩; have q1 := blk_below Q0.out hb1; have y := fun i => cell_of_row _ _ i _ _ _ q1; have y0 := y 0; have y1 := y 1; clear y q1; dsimp at y0 y1)
        | (go_at_call 53; refine (SN.out _).mono ?_; rintro e w2 ⟨rfl, hb2⟩))
      go_ret
      exact HP.out _ _ _ he.out (seqB (seqB B0 hb1) hb2)
    | ctrl v h0 h1 =>
      dsimp only at B0 Q0
      replace CH := Lib.hid CH
      have SN := Lib.hid (fun w => kenc_one v w)
      have he := Lib.hid (by_12 2 v (Or.inr rfl)).symm
      clear hK
      show Calls _ _ #[.agg #[.int .i64 2, .int .i64 v, .string ⟨#[]⟩, .bool false]] _ _
      go_enter Tryd.func15, Tryd.ntmps15
      go_wp2_with (first
        | (go_at_call 14; refine CH.out.mono ?_; rintro e w1 ⟨rfl, hb1⟩; have q1 := blk_below Q0.out hb1; have y := fun i => cell_of_row _ _ i _ _ _ q1; have y0 := y 0; have y1 := y 1; clear y q1; dsimp at y0 y1)
        | (go_at_call 53; refine (SN.out _).mono ?_; rintro e w2 ⟨rfl, hb2⟩))
      go_ret
      exact HP.out _ _ _ he.out (seqB (seqB B0 hb1) hb2)
    | meta1 v h0 h1 =>
      dsimp only at B0 Q0
      have SN := fun w => kenc_one v w
      have he := Lib.hid (by_3 v).symm
      have hl := txt_one_len v
      generalize txt (oneI v) = u at *
      have R1 := ksum ⟨#[27]⟩ u (by show 1 + _ ≤ _; omega)
      replace CH := Lib.hid CH; replace SN := Lib.hid SN
      clear hK hl
      show Calls _ _ #[.agg #[.int .i64 3, .int .i64 v, .string ⟨#[]⟩, .bool false]] _ _
      go_enter Tryd.func15, Tryd.ntmps15
      go_wp2_with (first
        | (go_at_call 14; refine CH.out.mono ?_; rintro e w1 ⟨rfl, hb1⟩; have q1 := blk_below Q0.out hb1; have y := fun i => cell_of_row _ _ i _ _ _ q1; have y0 := y 0; have y1 := y 1; clear y q1; dsimp at y0 y1)
        | (go_at_call 53; refine (SN.out _).mono ?_; rintro e w2 ⟨rfl, hb2⟩))
      go_ret
      exact HP.out _ _ _ he.out (seqB (seqB B0 hb1) hb2)
    | meta0 v h0 h1 =>
      dsimp only at B0 Q0
      have SN := fun w => kenc_one v w
      have he := Lib.hid (by_3 v).symm
      have hl := txt_one_len v
      generalize txt (oneI v) = u at *
      have R1 := ksum ⟨#[27]⟩ u (by show 1 + _ ≤ _; omega)
      replace CH := Lib.hid CH; replace SN := Lib.hid SN
      clear hK hl
      show Calls _ _ #[.agg #[.int .i64 3, .int .i64 v, .string ⟨#[]⟩, .bool false]] _ _
      go_enter Tryd.func15, Tryd.ntmps15
      go_wp2_with (first
        | (go_at_call 14; refine CH.out.mono ?_; rintro e w1 ⟨rfl, hb1⟩; have q1 := blk_below Q0.out hb1; have y := fun i => cell_of_row _ _ i _ _ _ q1; have y0 := y 0; have y1 := y 1; clear y q1; dsimp at y0 y1)
        | (go_at_call 53; refine (SN.out _).mono ?_; rintro e w2 ⟨rfl, hb2⟩))
      go_ret
      exact HP.out _ _ _ he.out (seqB (seqB B0 hb1) hb2)
    | paste t c h =>
      dsimp only at B0 Q0
      have he := Lib.hid (by_15 0 t c).symm
      have R1 := ksum ⟨#[27, 91, 50, 48, 48, 126]⟩ t (by show 6 + _ ≤ _; omega)
      have R2 := ksum (⟨#[27, 91, 50, 48, 48, 126]⟩ ++ t) ⟨#[27, 91, 50, 48, 49, 126]⟩ (by rw [ByteArray.size_append]; show 6 + t.size + 6 ≤ _; omega)
      replace CH := Lib.hid CH
      clear hK
      show Calls _ _ #[.agg #[.int .i64 15, .int .i64 0, .string t, .bool c]] _ _
      go_enter Tryd.func15, Tryd.ntmps15
      go_wp2_with (first
        | (go_at_call 14; refine CH.out.mono ?_; rintro e w1 ⟨rfl, hb1⟩; have q1 := blk_below Q0.out hb1; have y := fun i => cell_of_row _ _ i _ _ _ q1; have y0 := y 0; have y1 := y 1; have y2 := y 2; have y3 := y 3; clear y q1; dsimp at y0 y1 y2 y3))
      go_ret
      exact HP.out _ _ _ he.out (seqB B0 hb1)
    | named kind v h1 h2 h3 h15 h =>
      dsimp only at B0 Q0
      have FD := fun w q (hK : KT w) hc => kfind_any v kind q w hK hc
      have he : Hid (mkS (kRowOf kind v).2.2.2 = mkS (byN (kind, v, ⟨#[]⟩, false))) := Lib.hid (by rw [by_named kind v _ _ h1 h2 h3 h15])
      obtain ⟨r, hr⟩ : ∃ r, kRowOf kind v = r := ⟨_, rfl⟩
      rw [hr] at FD he
      obtain ⟨ra, rb, rc, rd⟩ := r
      rw [rowV_eq, h] at FD
      replace FD := Lib.hid FD; replace CH := Lib.hid CH
      have HK := Lib.hid (hK.below B0)
      clear hK hr h
      show Calls _ _ #[.agg #[.int .i64 kind, .int .i64 v, .string ⟨#[]⟩, .bool false]] _ _
      go_enter Tryd.func15, Tryd.ntmps15
      go_upto_region 11 with (first
        | (go_at_call 14; refine CH.out.mono ?_; rintro e w1 ⟨rfl, hb1⟩; have q1 := blk_below Q0.out hb1; have q1l := blk_lt q1; have y := fun i => cell_of_row _ _ i _ _ _ q1; have y0 := y 0; have y1 := y 1; clear y q1; dsimp at y0 y1; have HK1 := Lib.hid (HK.out.below hb1)))
      go_region_held3 (fun w' => w'.cell? ⟨w.heap.size, 0, none⟩ = some (.int .i64 kind) ∧ w'.cell? ⟨w.heap.size, 1, none⟩ = some (.int .i64 v))
        (first | with_reducible exact ⟨y0, y1⟩ | with_reducible exact o1 | with_reducible exact o2 | with_reducible exact ⟨four_keep _ _ _ _ hne o2.1, four_keep _ _ _ _ hne o2.2⟩ | with_reducible exact ⟨four_keep _ _ _ _ hne0 o2.1, four_keep _ _ _ _ hne0 o2.2⟩ | go_keep)
        (first
          | (go_at_call 49; (with_reducible refine (kfinder_b _ w1.drew).mono ?_); rintro e w2 ⟨qq, rfl, hqq, hb2⟩; have N2 := seqB (Below.refl w1.heap.size w1).drew hb2; have hne : w.heap.size ≠ w2.heap.size := Nat.ne_of_lt (Nat.lt_of_lt_of_le q1l N2.size); have o1 : w2.cell? ⟨w.heap.size, 0, none⟩ = some (.int .i64 kind) ∧ w2.cell? ⟨w.heap.size, 1, none⟩ = some (.int .i64 v) := ⟨(N2.cell (p := ⟨w.heap.size, 0, none⟩) q1l).trans y0, (N2.cell (p := ⟨w.heap.size, 1, none⟩) q1l).trans y1⟩)
          | (go_at_call 49; (with_reducible refine (kfinder_b _ (w1.alloc (.cells #[.int .i64 0, .int .i64 0, .string ⟨#[]⟩, .string ⟨#[]⟩] 80)).drew).mono ?_); rintro e w2 ⟨qq, rfl, hqq, hb2⟩; have N2 := seqB (seqB (below_alloc w1 (.cells #[.int .i64 0, .int .i64 0, .string ⟨#[]⟩, .string ⟨#[]⟩] 80)) (Below.refl (w1.alloc (.cells #[.int .i64 0, .int .i64 0, .string ⟨#[]⟩, .string ⟨#[]⟩] 80)).heap.size (w1.alloc (.cells #[.int .i64 0, .int .i64 0, .string ⟨#[]⟩, .string ⟨#[]⟩] 80))).drew) hb2; have hne : w.heap.size ≠ w2.heap.size := Nat.ne_of_lt (Nat.lt_of_lt_of_le q1l N2.size); have o1 : w2.cell? ⟨w.heap.size, 0, none⟩ = some (.int .i64 kind) ∧ w2.cell? ⟨w.heap.size, 1, none⟩ = some (.int .i64 v) := ⟨(N2.cell (p := ⟨w.heap.size, 0, none⟩) q1l).trans y0, (N2.cell (p := ⟨w.heap.size, 1, none⟩) q1l).trans y1⟩; have hZ2 := blk_below (w := (w1.alloc (.cells #[.int .i64 0, .int .i64 0, .string ⟨#[]⟩, .string ⟨#[]⟩] 80)).drew) (heap_alloc_new w1 (.cells #[.int .i64 0, .int .i64 0, .string ⟨#[]⟩, .string ⟨#[]⟩] 80)) hb2; have hne0 : w.heap.size ≠ w1.heap.size := Nat.ne_of_lt q1l)
          | (go_at_call 76; (with_reducible refine (FD.out (w2.alloc (.cells #[.int .i64 0, .int .i64 0, .string ⟨#[]⟩, .string ⟨#[]⟩] 80)) qq (HK1.out.below (seqB N2 (below_alloc _ _))) (((below_alloc w2 (.cells #[.int .i64 0, .int .i64 0, .string ⟨#[]⟩, .string ⟨#[]⟩] 80)).cell (p := ⟨qq, 0, none⟩) (block_lt_of_cell hqq)).trans hqq)).mono ?_); rintro e w3 ⟨rfl, hb3⟩; have N3 := seqB (seqB N2 (below_alloc w2 (.cells #[.int .i64 0, .int .i64 0, .string ⟨#[]⟩, .string ⟨#[]⟩] 80))) hb3; have o2 : w3.cell? ⟨w.heap.size, 0, none⟩ = some (.int .i64 kind) ∧ w3.cell? ⟨w.heap.size, 1, none⟩ = some (.int .i64 v) := ⟨(N3.cell (p := ⟨w.heap.size, 0, none⟩) q1l).trans y0, (N3.cell (p := ⟨w.heap.size, 1, none⟩) q1l).trans y1⟩; have hZ := blk_below (heap_alloc_new w2 (.cells #[.int .i64 0, .int .i64 0, .string ⟨#[]⟩, .string ⟨#[]⟩] 80)) hb3; have zf := fun i => frozen_of_row _ _ i _ _ hZ; have zz := fun i => cell_of_row _ _ i _ _ _ hZ; have z0 := zz 0; have z1 := zz 1; have z2 := zz 2; have z3 := zz 3; dsimp at z0 z1 z2 z3; have hql1 := blk_lt hZ; clear zz hZ)
          | (go_at_call 76; (with_reducible refine (FD.out w2 qq (HK1.out.below N2) hqq).mono ?_); rintro e w3 ⟨rfl, hb3⟩; have N3 := seqB N2 hb3; have o2 : w3.cell? ⟨w.heap.size, 0, none⟩ = some (.int .i64 kind) ∧ w3.cell? ⟨w.heap.size, 1, none⟩ = some (.int .i64 v) := ⟨(N3.cell (p := ⟨w.heap.size, 0, none⟩) q1l).trans y0, (N3.cell (p := ⟨w.heap.size, 1, none⟩) q1l).trans y1⟩; try (have hZ := blk_below hZ2 hb3; have zf := fun i => frozen_of_row _ _ i _ _ hZ; have zz := fun i => cell_of_row _ _ i _ _ _ hZ; have z0 := zz 0; have z1 := zz 1; have z2 := zz 2; have z3 := zz 3; dsimp at z0 z1 z2 z3; have hql1 := blk_lt hZ; clear zz hZ; clear hZ2)))
      · go_wp2
        go_ret
        exact HP.out _ _ _ he.out (seqB (seqB (seqB B0 hb1) N3) (below_alloc _ _))
      · have c2 := four_cell3 (.int .i64 ra) (.int .i64 rb) (.string ⟨rc.toArray⟩) (.string ⟨rd.toArray⟩) z3
        have NF := four_below w3 w1 w2.heap.size (.int .i64 ra) (.int .i64 rb) (.string ⟨rc.toArray⟩) (.string ⟨rd.toArray⟩) N2.size N3
        generalize World.setCell _ _ _ = WF at *
        clear z0 z1 z2 z3 zf
        go_wp2
        go_ret
        exact HP.out _ _ _ he.out (seqB (seqB B0 hb1) NF)
      · have c2 := four_cell3 (.int .i64 ra) (.int .i64 rb) (.string ⟨rc.toArray⟩) (.string ⟨rd.toArray⟩) z3
        have NF := four_below w3 w1 w1.heap.size (.int .i64 ra) (.int .i64 rb) (.string ⟨rc.toArray⟩) (.string ⟨rd.toArray⟩) (Nat.le_refl _) N3
        generalize World.setCell _ _ _ = WF at *
        clear z0 z1 z2 z3 zf
        go_wp2
        go_ret
        exact HP.out _ _ _ he.out (seqB (seqB B0 hb1) NF)
theorem kTab_enter : ∀ r ∈ kTab, r.1 = 4 → r.2.1 = 13 ∨ r.2.1 = 10 := by decide
def vlI (k : Ky) : Int := if keyB k = true ∧ 0 ≤ vlN k then vlN k else 0
def vlB (k : Ky) : Bool := keyB k && decide (0 ≤ vlN k)
def VlPost (k : Ky) (w : World) (e : Ending) (w' : World) : Prop := e = .returned (.tuple #[.int .i64 (vlI k), .bool (vlB k)]) ∧ Below w.heap.size w w'
theorem vlPost_no {k : Ky} {w w' : World} (h : keyB k = false ∨ vlN k < 0) (hb : Below w.heap.size w w') : VlPost k w (.returned (.tuple #[.int .i64 0, .bool false])) w' := by
  unfold VlPost vlI vlB
  rcases h with h | h
  · rw [h]; exact ⟨rfl, hb⟩
  · rw [if_neg (fun x => by omega), decide_eq_false (by omega), Bool.and_false]; exact ⟨rfl, hb⟩
theorem vlPost_yes {k : Ky} {w w' : World} {v : Int} (h : keyB k = true) (hv : vlN k = v) (h0 : 0 ≤ v) (hb : Below w.heap.size w w') : VlPost k w (.returned (.tuple #[.int .i64 v, .bool true])) w' := by
  unfold VlPost vlI vlB
  rw [if_pos ⟨h, by omega⟩, h, decide_eq_true (by omega), hv]; exact ⟨rfl, hb⟩
set_option maxHeartbeats 4000000 in
set_option maxRecDepth 100000 in
theorem kvalue_any (k : Ky) (w : World) (hK : KT w) : Calls Tryd.prog 12 #[kyV k] w (VlPost k w) := by
  have B0 := below_alloc w (.cells #[.int .i64 k.1, .int .i64 k.2.1, .string k.2.2.1, .bool k.2.2.2] 23)
  have Q0 := Lib.hid (heap_alloc_new w (.cells #[.int .i64 k.1, .int .i64 k.2.1, .string k.2.2.1, .bool k.2.2.2] 23))
  have CH := kcheck_any k (w.alloc (.cells #[.int .i64 k.1, .int .i64 k.2.1, .string k.2.2.1, .bool k.2.2.2] 23)) (hK.below B0)
  have HN := Lib.hid (fun w w' h hb => vlPost_no (k := k) (w := w) (w' := w') h hb)
  have HY := Lib.hid (fun w w' v h hv h0 hb => vlPost_yes (k := k) (w := w) (w' := w') (v := v) h hv h0 hb)
  clear hK
  cases hok : keyB k with
  | false =>
    rw [ckE_no hok] at CH
    have hn := Lib.hid (Or.inl hok : keyB k = false ∨ vlN k < 0)
    obtain ⟨kind, v, t, c⟩ := k
    dsimp only at B0 Q0 CH
    replace CH := Lib.hid CH
    clear hok
    show Calls _ _ #[.agg #[.int .i64 kind, .int .i64 v, .string t, .bool c]] _ _
    go_enter Tryd.func12, Tryd.ntmps12
    go_wp2_with (go_at_call 14; refine CH.out.mono ?_; rintro e w1 ⟨rfl, hb1⟩)
    refine bodyPost_ret (v := .tuple #[.int .i64 0, .bool false]) (by simp [results, Tryd.results12, go_sem]) rfl ?_
    exact HN.out _ _ hn.out (seqB B0 hb1)
  | true =>
    rw [ckE_yes hok] at CH
    have hf := kyF_of hok
    have HK := Lib.hid hok
    clear hok
    replace CH := Lib.hid CH
    have key : ∀ (kind v : Int) (t : ByteArray) (c : Bool), k = (kind, v, t, c) → (kind = 4 → v = 13 ∨ v = 10) → (kind = 1 ∨ kind = 2 → 0 ≤ v) → Calls Tryd.prog 12 #[kyV k] w (VlPost k w) := by
      intro kind v t c hk h4 h12
      subst hk
      dsimp only at B0 Q0 CH
      have hv : vlN (kind, v, t, c) = if kind = 1 ∨ kind = 2 ∨ kind = 4 then v else if kind = 5 then 27 else if kind = 6 then 127 else -1 := rfl
      have HV := Lib.hid hv
      clear hf hv
      show Calls _ _ #[.agg #[.int .i64 kind, .int .i64 v, .string t, .bool c]] _ _
      by_cases a1 : kind = 1 ∨ kind = 2 ∨ kind = 4
      · have hv : Hid (vlN (kind, v, t, c) = v) := Lib.hid (by rw [HV.out, if_pos a1])
        have h0 : 0 ≤ v := by rcases a1 with h | h | h; exact h12 (Or.inl h); exact h12 (Or.inr h); rcases h4 h with h | h <;> omega
        have H0 := Lib.hid h0
        clear h4 h12 HV h0
        rcases a1 with rfl | rfl | rfl
        all_goals
          go_enter Tryd.func12, Tryd.ntmps12
          go_wp2_with (first
            | (go_at_call 14; refine CH.out.mono ?_; rintro e w1 ⟨rfl, hb1⟩; have q1 := blk_below Q0.out hb1; have y := fun i => cell_of_row _ _ i _ _ _ q1; have y0 := y 0; have y1 := y 1; clear y q1; dsimp at y0 y1))
          refine bodyPost_ret (v := .tuple #[.int .i64 v, .bool true]) (by simp [results, Tryd.results12, go_sem]) rfl ?_
          exact HY.out _ _ _ HK.out hv.out H0.out (seqB B0 hb1)
      · by_cases a5 : kind = 5
        · have hv : Hid (vlN (kind, v, t, c) = 27) := Lib.hid (by rw [HV.out, if_neg a1, if_pos a5])
          subst a5
          clear h4 h12 HV a1
          go_enter Tryd.func12, Tryd.ntmps12
          go_wp2_with (first
            | (go_at_call 14; refine CH.out.mono ?_; rintro e w1 ⟨rfl, hb1⟩; have q1 := blk_below Q0.out hb1; have y := fun i => cell_of_row _ _ i _ _ _ q1; have y0 := y 0; have y1 := y 1; clear y q1; dsimp at y0 y1))
          refine bodyPost_ret (v := .tuple #[.int .i64 27, .bool true]) (by simp [results, Tryd.results12, go_sem]) rfl ?_
          exact HY.out _ _ _ HK.out hv.out (by decide) (seqB B0 hb1)
        · by_cases a6 : kind = 6
          · have hv : Hid (vlN (kind, v, t, c) = 127) := Lib.hid (by rw [HV.out, if_neg a1, if_neg a5, if_pos a6])
            subst a6
            clear h4 h12 HV a1 a5
            go_enter Tryd.func12, Tryd.ntmps12
            go_wp2_with (first
              | (go_at_call 14; refine CH.out.mono ?_; rintro e w1 ⟨rfl, hb1⟩; have q1 := blk_below Q0.out hb1; have y := fun i => cell_of_row _ _ i _ _ _ q1; have y0 := y 0; have y1 := y 1; clear y q1; dsimp at y0 y1))
            refine bodyPost_ret (v := .tuple #[.int .i64 127, .bool true]) (by simp [results, Tryd.results12, go_sem]) rfl ?_
            exact HY.out _ _ _ HK.out hv.out (by decide) (seqB B0 hb1)
          · have hv : Hid (keyB (kind, v, t, c) = false ∨ vlN (kind, v, t, c) < 0) := Lib.hid (Or.inr (by rw [HV.out, if_neg a1, if_neg a5, if_neg a6]; decide))
            have b1 : ¬ kind = 1 := fun h => a1 (Or.inl h)
            have b2 : ¬ kind = 2 := fun h => a1 (Or.inr (Or.inl h))
            have b4 : ¬ kind = 4 := fun h => a1 (Or.inr (Or.inr h))
            clear h4 h12 HV a1
            go_enter Tryd.func12, Tryd.ntmps12
            go_wp2_with (first
              | (go_at_call 14; refine CH.out.mono ?_; rintro e w1 ⟨rfl, hb1⟩; have q1 := blk_below Q0.out hb1; have y := fun i => cell_of_row _ _ i _ _ _ q1; have y0 := y 0; have y1 := y 1; clear y q1; dsimp at y0 y1))
            refine bodyPost_ret (v := .tuple #[.int .i64 0, .bool false]) (by simp [results, Tryd.results12, go_sem]) rfl ?_
            exact HN.out _ _ hv.out (seqB B0 hb1)
    cases hf with
    | sign v h0 h1 h => exact key _ _ _ _ rfl (fun h => by omega) (fun _ => by omega)
    | ctrl v h0 h1 => exact key _ _ _ _ rfl (fun h => by omega) (fun _ => h0)
    | meta1 v h0 h1 => exact key _ _ _ _ rfl (fun h => by omega) (fun h => by omega)
    | meta0 v h0 h1 => exact key _ _ _ _ rfl (fun h => by omega) (fun h => by omega)
    | paste t c h => exact key _ _ _ _ rfl (fun h => by omega) (fun h => by omega)
    | named kind v h1 h2 h3 h15 h =>
      exact key _ _ _ _ rfl (fun h4 => by
        obtain ⟨r, hr⟩ := Option.isSome_iff_exists.1 h
        have ⟨hm, e1, e2⟩ := find_ok hr
        rw [← e2]
        exact kTab_enter r hm (e1.trans h4)) (fun h => by omega)
end Go.Proofs.YteolfbamcehcpaaDoor
