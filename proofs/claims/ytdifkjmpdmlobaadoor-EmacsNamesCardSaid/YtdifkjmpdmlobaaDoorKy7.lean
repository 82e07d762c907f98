/-
  Keys: their names.
-/
import Derived.Test.YtdifkjmpdmlobaaDoorKy6
import Derived.Deep.RegionHeld3
set_option linter.unusedVariables false
set_option linter.unusedSimpArgs false
namespace Go.Proofs.YtdifkjmpdmlobaaDoor
set_option maxRecDepth 100000
open Go.RowKit
/-- The forms of a key that may be. -/
inductive KyF : Ky → Prop
  | sign (v : Int) (h0 : 32 ≤ v) (h1 : v ≤ 1114367) (h : mayB 1 v = true) : KyF (1, v, ⟨#[]⟩, false)
  | ctrl (v : Int) (h0 : 0 ≤ v) (h1 : v < 32) : KyF (2, v, ⟨#[]⟩, false)
  | meta1 (v : Int) (h0 : 32 ≤ v) (h1 : v < 128) : KyF (3, v, ⟨#[]⟩, false)
  | meta0 (v : Int) (h0 : 0 ≤ v) (h1 : v < 32) : KyF (3, v, ⟨#[]⟩, false)
  | paste (t : ByteArray) (c : Bool) (h : t.size ≤ 65536) : KyF (15, 0, t, c)
  | named (kind v : Int) (h1 : kind ≠ 1) (h2 : kind ≠ 2) (h3 : kind ≠ 3) (h15 : kind ≠ 15) (h : (kFind kind v).isSome = true) : KyF (kind, v, ⟨#[]⟩, false)
theorem kyF_of {k : Ky} (h : keyB k = true) : KyF k := by
  obtain ⟨kind, v, t, c⟩ := k
  by_cases h15 : kind = 15
  · subst h15
    rw [key_paste] at h
    simp at h
    obtain ⟨rfl, h⟩ := h
    exact .paste t c h
  · rw [key_other _ _ _ _ h15] at h
    simp at h
    obtain ⟨⟨ht, rfl⟩, hm⟩ := h
    obtain rfl : t = ⟨#[]⟩ := ht
    by_cases h1 : kind = 1
    · subst h1
      have hm' := hm
      rw [may_sign] at hm
      simp at hm
      exact .sign v hm.1.1 (right_le hm.2).2 hm'
    by_cases h2 : kind = 2
    · subst h2
      rw [may_ctrl] at hm
      unfold ctB at hm
      simp at hm
      exact .ctrl v hm.1.1 (by omega)
    by_cases h3 : kind = 3
    · subst h3
      rw [may_meta] at hm
      simp at hm
      by_cases hb : 32 ≤ v
      · exact .meta1 v hb hm.1.2
      · exact .meta0 v hm.1.1 (by omega)
    · rw [may_other _ _ h1 h2 h3] at hm
      exact .named kind v h1 h2 h3 h15 hm
/-- The finder, where the world is not named. -/
theorem kfinder_b (kind : Int) (w : World) : Calls Tryd.prog 120 #[.int .i64 kind] w fun e w' => ∃ q, e = .returned (.func (.func 132) #[] #[.pointer (some ⟨q, 0, none⟩)]) ∧ w'.cell? ⟨q, 0, none⟩ = some (.int .i64 kind) ∧ Below w.heap.size w w' :=
  (kfinder_any kind w).mono fun e w' ⟨h1, h2⟩ => ⟨w.heap.size, h1, by rw [← h2]; exact kcell _ _ _, by rw [← h2]; exact below_alloc _ _⟩
def nmR (k : Ky) : List UInt8 := if keyB k then nmN k else []
def NmPost (k : Ky) (w : World) (e : Ending) (w' : World) : Prop := e = .returned (.tuple #[.string (mkS (nmR k)), .int .i64 (ckE k)]) ∧ Below w.heap.size w w'
theorem nmPost_no {k : Ky} {w w' : World} (h : keyB k = false) (hb : Below w.heap.size w w') : NmPost k w (.returned (.tuple #[.string ⟨#[]⟩, .int .i64 2])) w' := by
  unfold NmPost nmR; rw [h, ckE_no h]; exact ⟨rfl, hb⟩
theorem nmPost_yes {k : Ky} {w w' : World} {s : ByteArray} (h : keyB k = true) (hs : s = mkS (nmN k)) (hb : Below w.heap.size w w') : NmPost k w (.returned (.tuple #[.string s, .int .i64 0])) w' := by
  unfold NmPost nmR; rw [h, ckE_yes h, hs]; exact ⟨rfl, hb⟩
theorem nm_meta1 (v : Int) (h : 32 ≤ v) : nmN (3, v, ⟨#[]⟩, false) = 77 :: 45 :: sgN v := by
  show 77 :: 45 :: (if 32 ≤ v then sgN v else ctN v) = _; rw [if_pos h]
theorem nm_meta0 (v : Int) (h : ¬ 32 ≤ v) : nmN (3, v, ⟨#[]⟩, false) = 77 :: 45 :: ctN v := by
  show 77 :: 45 :: (if 32 ≤ v then sgN v else ctN v) = _; rw [if_neg h]
theorem nm_named (kind v : Int) (t : ByteArray) (c : Bool) (h1 : kind ≠ 1) (h2 : kind ≠ 2) (h3 : kind ≠ 3) (h15 : kind ≠ 15) : nmN (kind, v, t, c) = (kRowOf kind v).2.2.1 := by
  unfold nmN; dsimp only; rw [if_neg h1, if_neg h2, if_neg h3, if_neg h15]
theorem sgN_len (v : Int) : (sgN v).length ≤ 22 := by
  unfold sgN; split
  · simp
  · have := hexN_len v 1; simp; omega
theorem ctN_len (v : Int) : (ctN v).length = 3 := by obtain ⟨c, h⟩ := ctN_cons v; rw [h]; rfl
theorem four_keep {w : World} {b c k : Nat} {x : Value} (v0 v1 v2 v3 : Value) (hp : c ≠ b) (h : w.cell? ⟨c, k, none⟩ = some x) :
    ((((w.setCell ⟨b, 0, none⟩ v0).setCell ⟨b, 1, none⟩ v1).setCell ⟨b, 2, none⟩ v2).setCell ⟨b, 3, none⟩ v3).cell? ⟨c, k, none⟩ = some x := by
  have o : ∀ (w : World) (i : Nat) (v : Value), (w.setCell ⟨b, i, none⟩ v).cell? ⟨c, k, none⟩ = w.cell? ⟨c, k, none⟩ := fun w i v => World.cell?_setCell_other w _ _ v (fun e => hp (by simpa using (congrArg Addr.block e).symm))
  rw [o, o, o, o, h]
theorem four_cell2 {w : World} {b : Nat} {x : Value} (v0 v1 v2 v3 : Value) (h : w.cell? ⟨b, 2, none⟩ = some x) :
    ((((w.setCell ⟨b, 0, none⟩ v0).setCell ⟨b, 1, none⟩ v1).setCell ⟨b, 2, none⟩ v2).setCell ⟨b, 3, none⟩ v3).cell? ⟨b, 2, none⟩ = some v2 := by
  rw [World.cell?_setCell_other _ _ _ _ (by simp), World.cell?_setCell_same _ _ _ (h := by rw [World.cell?_setCell_other _ _ _ _ (by simp), World.cell?_setCell_other _ _ _ _ (by simp)]; exact h)]
theorem four_cell3 {w : World} {b : Nat} {x : Value} (v0 v1 v2 v3 : Value) (h : w.cell? ⟨b, 3, none⟩ = some x) :
    ((((w.setCell ⟨b, 0, none⟩ v0).setCell ⟨b, 1, none⟩ v1).setCell ⟨b, 2, none⟩ v2).setCell ⟨b, 3, none⟩ v3).cell? ⟨b, 3, none⟩ = some v3 := by
  rw [World.cell?_setCell_same _ _ _ (h := by rw [World.cell?_setCell_other _ _ _ _ (by simp), World.cell?_setCell_other _ _ _ _ (by simp), World.cell?_setCell_other _ _ _ _ (by simp)]; exact h)]
set_option maxHeartbeats 4000000 in
set_option maxRecDepth 100000 in
theorem kname_any (k : Ky) (w : World) (hK : KT w) : Calls Tryd.prog 101 #[kyV k] w (NmPost k w) := by
  have B0 := below_alloc w (.cells #[.int .i64 k.1, .int .i64 k.2.1, .string k.2.2.1, .bool k.2.2.2] 107)
  have Q0 := Lib.hid (heap_alloc_new w (.cells #[.int .i64 k.1, .int .i64 k.2.1, .string k.2.2.1, .bool k.2.2.2] 107))
  have CH := kcheck_any k (w.alloc (.cells #[.int .i64 k.1, .int .i64 k.2.1, .string k.2.2.1, .bool k.2.2.2] 107)) (hK.below B0)
  cases hok : keyB k with
  | false =>
    have HP := Lib.hid (fun w w' hb => nmPost_no (k := k) (w := w) (w' := w') hok hb)
    rw [ckE_no hok] at CH
    obtain ⟨kind, v, t, c⟩ := k
    dsimp only at B0 Q0 CH
    replace CH := Lib.hid CH
    clear hok hK
    show Calls _ _ #[.agg #[.int .i64 kind, .int .i64 v, .string t, .bool c]] _ _
    go_enter Tryd.func101, Tryd.ntmps101
    go_wp2_with (go_at_call 82; refine CH.out.mono ?_; rintro e w1 ⟨rfl, hb1⟩)
    refine bodyPost_ret (v := .tuple #[.string ⟨#[]⟩, .int .i64 2]) (by simp [results, Tryd.results101, go_sem]) rfl ?_
    exact HP.out _ _ (seqB B0 hb1)
  | true =>
    have HP := Lib.hid (fun w w' s hs hb => nmPost_yes (k := k) (w := w) (w' := w') (s := s) hok hs hb)
    rw [ckE_yes hok] at CH
    have hf := kyF_of hok
    clear hok
    cases hf with
    | sign v h0 h1 h =>
      dsimp only at B0 Q0
      replace CH := Lib.hid CH
      have SN := Lib.hid (fun w => ksign_any v w (by omega) h1)
      clear h hK
      show Calls _ _ #[.agg #[.int .i64 1, .int .i64 v, .string ⟨#[]⟩, .bool false]] _ _
      go_enter Tryd.func101, Tryd.ntmps101
      go_wp2_with (first
        | (go_at_call 82; refine CH.out.mono ?_; rintro e w1 ⟨rfl, hb1⟩; have q1 := blk_below Q0.out hb1; have y := fun i => cell_of_row _ _ i _ _ _ q1; have y0 := y 0; have y1 := y 1; clear y q1; dsimp at y0 y1)
        | (go_at_call 121; refine (SN.out _).mono ?_; rintro e w2 ⟨rfl, hb2⟩))
      refine bodyPost_ret (v := .tuple #[.string (mkS (sgN v)), .int .i64 0]) (by simp [results, Tryd.results101, go_sem]) rfl ?_
      exact HP.out _ _ _ rfl (seqB (seqB B0 hb1) hb2)
    | ctrl v h0 h1 =>
      dsimp only at B0 Q0
      replace CH := Lib.hid CH
      have SN := Lib.hid (fun w => kctrl_any v w h0 h1)
      clear hK
      show Calls _ _ #[.agg #[.int .i64 2, .int .i64 v, .string ⟨#[]⟩, .bool false]] _ _
      go_enter Tryd.func101, Tryd.ntmps101
      go_wp2_with (first
        | (go_at_call 82; refine CH.out.mono ?_; rintro e w1 ⟨rfl, hb1⟩; have q1 := blk_below Q0.out hb1; have y := fun i => cell_of_row _ _ i _ _ _ q1; have y0 := y 0; have y1 := y 1; clear y q1; dsimp at y0 y1)
        | (go_at_call 122; refine (SN.out _).mono ?_; rintro e w2 ⟨rfl, hb2⟩))
      refine bodyPost_ret (v := .tuple #[.string (mkS (ctN v)), .int .i64 0]) (by simp [results, Tryd.results101, go_sem]) rfl ?_
      exact HP.out _ _ _ rfl (seqB (seqB B0 hb1) hb2)
    | meta1 v h0 h1 =>
      dsimp only at B0 Q0
      replace CH := Lib.hid CH
      have SN := fun w => ksign_any v w (by omega) (by omega)
      have hl := sgN_len v
      have hsz : (mkS (sgN v)).size ≤ 22 := by rw [mkS_size]; exact hl
      have he : Hid (⟨#[77, 45]⟩ ++ mkS (sgN v) = mkS (nmN (3, v, ⟨#[]⟩, false))) := Lib.hid (by rw [nm_meta1 v h0, show (⟨#[77, 45]⟩ : ByteArray) = mkS [77, 45] from rfl, mkS_app]; rfl)
      generalize mkS (sgN v) = u at *
      have R1 := ksum ⟨#[77, 45]⟩ u (by show 2 + _ ≤ _; omega)
      replace SN := Lib.hid SN
      clear hK hl hsz
      show Calls _ _ #[.agg #[.int .i64 3, .int .i64 v, .string ⟨#[]⟩, .bool false]] _ _
      go_enter Tryd.func101, Tryd.ntmps101
      go_wp2_with (first
        | (go_at_call 82; refine CH.out.mono ?_; rintro e w1 ⟨rfl, hb1⟩; have q1 := blk_below Q0.out hb1; have y := fun i => cell_of_row _ _ i _ _ _ q1; have y0 := y 0; have y1 := y 1; clear y q1; dsimp at y0 y1)
        | (go_at_call 121; refine (SN.out _).mono ?_; rintro e w2 ⟨rfl, hb2⟩))
      refine bodyPost_ret (v := .tuple #[.string (⟨#[77, 45]⟩ ++ u), .int .i64 0]) (by simp [results, Tryd.results101, go_sem]) rfl ?_
      exact HP.out _ _ _ he.out (seqB (seqB B0 hb1) hb2)
    | meta0 v h0 h1 =>
      dsimp only at B0 Q0
      replace CH := Lib.hid CH
      have SN := fun w => kctrl_any v w h0 h1
      have hl := ctN_len v
      have hsz : (mkS (ctN v)).size = 3 := by rw [mkS_size]; exact hl
      have he : Hid (⟨#[77, 45]⟩ ++ mkS (ctN v) = mkS (nmN (3, v, ⟨#[]⟩, false))) := Lib.hid (by rw [nm_meta0 v (by omega), show (⟨#[77, 45]⟩ : ByteArray) = mkS [77, 45] from rfl, mkS_app]; rfl)
      generalize mkS (ctN v) = u at *
      have R1 := ksum ⟨#[77, 45]⟩ u (by show 2 + _ ≤ _; omega)
      replace SN := Lib.hid SN
      clear hK hl hsz
      show Calls _ _ #[.agg #[.int .i64 3, .int .i64 v, .string ⟨#[]⟩, .bool false]] _ _
      go_enter Tryd.func101, Tryd.ntmps101
      go_wp2_with (first
        | (go_at_call 82; refine CH.out.mono ?_; rintro e w1 ⟨rfl, hb1⟩; have q1 := blk_below Q0.out hb1; have y := fun i => cell_of_row _ _ i _ _ _ q1; have y0 := y 0; have y1 := y 1; clear y q1; dsimp at y0 y1)
        | (go_at_call 122; refine (SN.out _).mono ?_; rintro e w2 ⟨rfl, hb2⟩))
      refine bodyPost_ret (v := .tuple #[.string (⟨#[77, 45]⟩ ++ u), .int .i64 0]) (by simp [results, Tryd.results101, go_sem]) rfl ?_
      exact HP.out _ _ _ he.out (seqB (seqB B0 hb1) hb2)
    | paste t c h =>
      dsimp only at B0 Q0
      replace CH := Lib.hid CH
      have SN := Lib.hid (fun w => kpaste_any 15 0 t c w (by omega))
      clear hK
      show Calls _ _ #[.agg #[.int .i64 15, .int .i64 0, .string t, .bool c]] _ _
      go_enter Tryd.func101, Tryd.ntmps101
      go_wp2_with (first
        | (go_at_call 82; refine CH.out.mono ?_; rintro e w1 ⟨rfl, hb1⟩; have q1 := blk_below Q0.out hb1; have y := fun i => cell_of_row _ _ i _ _ _ q1; have y0 := y 0; have y1 := y 1; have y2 := y 2; have y3 := y 3; clear y q1; dsimp at y0 y1 y2 y3)
        | (go_at_call 123; refine (SN.out _).mono ?_; rintro e w2 ⟨rfl, hb2⟩))
      refine bodyPost_ret (v := .tuple #[.string (mkS (psN t.data.toList c)), .int .i64 0]) (by simp [results, Tryd.results101, go_sem]) rfl ?_
      exact HP.out _ _ _ rfl (seqB (seqB B0 hb1) hb2)
    | named kind v h1 h2 h3 h15 h =>
      dsimp only at B0 Q0
      have FD := fun w q (hK : KT w) hc => kfind_any v kind q w hK hc
      have he : Hid (mkS (kRowOf kind v).2.2.1 = mkS (nmN (kind, v, ⟨#[]⟩, false))) := Lib.hid (by rw [nm_named kind v _ _ h1 h2 h3 h15])
      obtain ⟨r, hr⟩ : ∃ r, kRowOf kind v = r := ⟨_, rfl⟩
      rw [hr] at FD he
      obtain ⟨ra, rb, rc, rd⟩ := r
      rw [rowV_eq, h] at FD
      replace FD := Lib.hid FD; replace CH := Lib.hid CH
      have HK := Lib.hid (hK.below B0)
      clear hK hr h
      show Calls _ _ #[.agg #[.int .i64 kind, .int .i64 v, .string ⟨#[]⟩, .bool false]] _ _
      go_enter Tryd.func101, Tryd.ntmps101
      go_upto_region 15 with (first
        | (go_at_call 82; refine CH.out.mono ?_; rintro e w1 ⟨rfl, hb1⟩; have q1 := blk_below Q0.out hb1; have q1l := blk_lt q1; have y := fun i => cell_of_row _ _ i _ _ _ q1; have y0 := y 0; have y1 := y 1; clear y q1; dsimp at y0 y1; have HK1 := Lib.hid (HK.out.below hb1)))
      go_region_held3 (fun w' => w'.cell? ⟨w.heap.size, 0, none⟩ = some (.int .i64 kind) ∧ w'.cell? ⟨w.heap.size, 1, none⟩ = some (.int .i64 v))
        (first | with_reducible exact ⟨y0, y1⟩ | with_reducible exact o1 | with_reducible exact o2 | with_reducible exact ⟨four_keep _ _ _ _ hne o2.1, four_keep _ _ _ _ hne o2.2⟩ | with_reducible exact ⟨four_keep _ _ _ _ hne0 o2.1, four_keep _ _ _ _ hne0 o2.2⟩ | go_keep)
        (first
          | (go_at_call 120; (with_reducible refine (kfinder_b _ w1.drew).mono ?_); rintro e w2 ⟨qq, rfl, hqq, hb2⟩; have N2 := seqB (Below.refl w1.heap.size w1).drew hb2; have hne : w.heap.size ≠ w2.heap.size := Nat.ne_of_lt (Nat.lt_of_lt_of_le q1l N2.size); have o1 : w2.cell? ⟨w.heap.size, 0, none⟩ = some (.int .i64 kind) ∧ w2.cell? ⟨w.heap.size, 1, none⟩ = some (.int .i64 v) := ⟨(N2.cell (p := ⟨w.heap.size, 0, none⟩) q1l).trans y0, (N2.cell (p := ⟨w.heap.size, 1, none⟩) q1l).trans y1⟩)
          | (go_at_call 120; (with_reducible refine (kfinder_b _ (w1.alloc (.cells #[.int .i64 0, .int .i64 0, .string ⟨#[]⟩, .string ⟨#[]⟩] 170)).drew).mono ?_); rintro e w2 ⟨qq, rfl, hqq, hb2⟩; have N2 := seqB (seqB (below_alloc w1 (.cells #[.int .i64 0, .int .i64 0, .string ⟨#[]⟩, .string ⟨#[]⟩] 170)) (Below.refl (w1.alloc (.cells #[.int .i64 0, .int .i64 0, .string ⟨#[]⟩, .string ⟨#[]⟩] 170)).heap.size (w1.alloc (.cells #[.int .i64 0, .int .i64 0, .string ⟨#[]⟩, .string ⟨#[]⟩] 170))).drew) hb2; have hne : w.heap.size ≠ w2.heap.size := Nat.ne_of_lt (Nat.lt_of_lt_of_le q1l N2.size); have o1 : w2.cell? ⟨w.heap.size, 0, none⟩ = some (.int .i64 kind) ∧ w2.cell? ⟨w.heap.size, 1, none⟩ = some (.int .i64 v) := ⟨(N2.cell (p := ⟨w.heap.size, 0, none⟩) q1l).trans y0, (N2.cell (p := ⟨w.heap.size, 1, none⟩) q1l).trans y1⟩; have hZ2 := blk_below (w := (w1.alloc (.cells #[.int .i64 0, .int .i64 0, .string ⟨#[]⟩, .string ⟨#[]⟩] 170)).drew) (heap_alloc_new w1 (.cells #[.int .i64 0, .int .i64 0, .string ⟨#[]⟩, .string ⟨#[]⟩] 170)) hb2; have hne0 : w.heap.size ≠ w1.heap.size := Nat.ne_of_lt q1l)
          | (go_at_call 132; (with_reducible refine (FD.out (w2.alloc (.cells #[.int .i64 0, .int .i64 0, .string ⟨#[]⟩, .string ⟨#[]⟩] 170)) qq (HK1.out.below (seqB N2 (below_alloc _ _))) (((below_alloc w2 (.cells #[.int .i64 0, .int .i64 0, .string ⟨#[]⟩, .string ⟨#[]⟩] 170)).cell (p := ⟨qq, 0, none⟩) (block_lt_of_cell hqq)).trans hqq)).mono ?_); rintro e w3 ⟨rfl, hb3⟩; have N3 := seqB (seqB N2 (below_alloc w2 (.cells #[.int .i64 0, .int .i64 0, .string ⟨#[]⟩, .string ⟨#[]⟩] 170))) hb3; have o2 : w3.cell? ⟨w.heap.size, 0, none⟩ = some (.int .i64 kind) ∧ w3.cell? ⟨w.heap.size, 1, none⟩ = some (.int .i64 v) := ⟨(N3.cell (p := ⟨w.heap.size, 0, none⟩) q1l).trans y0, (N3.cell (p := ⟨w.heap.size, 1, none⟩) q1l).trans y1⟩; have hZ := blk_below (heap_alloc_new w2 (.cells #[.int .i64 0, .int .i64 0, .string ⟨#[]⟩, .string ⟨#[]⟩] 170)) hb3; have zf := fun i => frozen_of_row _ _ i _ _ hZ; have zz := fun i => cell_of_row _ _ i _ _ _ hZ; have z0 := zz 0; have z1 := zz 1; have z2 := zz 2; have z3 := zz 3; dsimp at z0 z1 z2 z3; have hql1 := blk_lt hZ; clear zz hZ)
          | (go_at_call 132; (with_reducible refine (FD.out w2 qq (HK1.out.below N2) hqq).mono ?_); rintro e w3 ⟨rfl, hb3⟩; have N3 := seqB N2 hb3; have o2 : w3.cell? ⟨w.heap.size, 0, none⟩ = some (.int .i64 kind) ∧ w3.cell? ⟨w.heap.size, 1, none⟩ = some (.int .i64 v) := ⟨(N3.cell (p := ⟨w.heap.size, 0, none⟩) q1l).trans y0, (N3.cell (p := ⟨w.heap.size, 1, none⟩) q1l).trans y1⟩; try (have hZ := blk_below hZ2 hb3; have zf := fun i => frozen_of_row _ _ i _ _ hZ; have zz := fun i => cell_of_row _ _ i _ _ _ hZ; have z0 := zz 0; have z1 := zz 1; have z2 := zz 2; have z3 := zz 3; dsimp at z0 z1 z2 z3; have hql1 := blk_lt hZ; clear zz hZ; clear hZ2)))
      · go_wp2
        refine bodyPost_ret (v := .tuple #[.string (mkS rc), .int .i64 0]) (by simp [results, Tryd.results101, go_sem]) rfl ?_
        exact HP.out _ _ _ he.out (seqB (seqB (seqB B0 hb1) N3) (below_alloc _ _))
      · have c2 := four_cell2 (.int .i64 ra) (.int .i64 rb) (.string ⟨rc.toArray⟩) (.string ⟨rd.toArray⟩) z2
        have NF := four_below w3 w1 w2.heap.size (.int .i64 ra) (.int .i64 rb) (.string ⟨rc.toArray⟩) (.string ⟨rd.toArray⟩) N2.size N3
        generalize World.setCell _ _ _ = WF at *
        clear z0 z1 z2 z3 zf
        go_wp2
        refine bodyPost_ret (v := .tuple #[.string (mkS rc), .int .i64 0]) (by simp [results, Tryd.results101, go_sem]) rfl ?_
        exact HP.out _ _ _ he.out (seqB (seqB B0 hb1) NF)
      · have c2 := four_cell2 (.int .i64 ra) (.int .i64 rb) (.string ⟨rc.toArray⟩) (.string ⟨rd.toArray⟩) z2
        have NF := four_below w3 w1 w1.heap.size (.int .i64 ra) (.int .i64 rb) (.string ⟨rc.toArray⟩) (.string ⟨rd.toArray⟩) (Nat.le_refl _) N3
        generalize World.setCell _ _ _ = WF at *
        clear z0 z1 z2 z3 zf
        go_wp2
        refine bodyPost_ret (v := .tuple #[.string (mkS rc), .int .i64 0]) (by simp [results, Tryd.results101, go_sem]) rfl ?_
        exact HP.out _ _ _ he.out (seqB (seqB B0 hb1) NF)
end Go.Proofs.YtdifkjmpdmlobaaDoor
