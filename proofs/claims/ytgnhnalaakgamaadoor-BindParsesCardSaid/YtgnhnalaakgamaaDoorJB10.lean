/-
  Joined: Ky7 Ky8 Ky9 Ky10 Ky11 Ky12 Ky13.
-/
import Derived.Test.YtgnhnalaakgamaaDoorJB02
import Derived.Test.YtgnhnalaakgamaaDoorJB09
import Derived.Deep.RegionHeld3
import Derived.Laws.Strings2
import Derived.Laws.BytesArg
set_option linter.unusedVariables false
set_option linter.unusedSimpArgs false
set_option maxRecDepth 100000
set_option linter.unusedVariables false
set_option linter.unusedSimpArgs false
namespace Go.Proofs.YtgnhnalaakgamaaDoor
open Go.RowKit
/-- The forms of a key that may be. -/
inductive KyF : Ky → Prop
  | sign (v : Int) (h0 : 32 ≤ v) (h1 : v ≤ 1114367) (h : kmB 1 v = true) : KyF (1, v, ⟨#[]⟩, false)
  | ctrl (v : Int) (h0 : 0 ≤ v) (h1 : v < 32) : KyF (2, v, ⟨#[]⟩, false)
  | meta1 (v : Int) (h0 : 32 ≤ v) (h1 : v < 128) : KyF (3, v, ⟨#[]⟩, false)
  | meta0 (v : Int) (h0 : 0 ≤ v) (h1 : v < 32) : KyF (3, v, ⟨#[]⟩, false)
  | paste (t : ByteArray) (c : Bool) (h : t.size ≤ 65536) : KyF (15, 0, t, c)
  | named (kind v : Int) (h1 : kind ≠ 1) (h2 : kind ≠ 2) (h3 : kind ≠ 3) (h15 : kind ≠ 15) (h : (kFind kind v).isSome = true) : KyF (kind, v, ⟨#[]⟩, false)
theorem kyF_of {k : Ky} (h : keyB k = true) : KyF k := by
  obtain ⟨kind, v, t, c⟩ := k
  by_cases h15 : kind = 15
  · subst h15
    rw [key_paste] at h
    simp at h
    obtain ⟨rfl, h⟩ := h
    exact .paste t c h
  · rw [key_other _ _ _ _ h15] at h
    simp at h
    obtain ⟨⟨ht, rfl⟩, hm⟩ := h
    obtain rfl : t = ⟨#[]⟩ := ht
    by_cases h1 : kind = 1
    · subst h1
      have hm' := hm
      rw [may_sign] at hm
      simp at hm
      exact .sign v hm.1.1 (right_le hm.2).2 hm'
    by_cases h2 : kind = 2
    · subst h2
      rw [may_ctrl] at hm
      unfold ctB at hm
      simp at hm
      exact .ctrl v hm.1.1 (by omega)
    by_cases h3 : kind = 3
    · subst h3
      rw [may_meta] at hm
      simp at hm
      by_cases hb : 32 ≤ v
      · exact .meta1 v hb hm.1.2
      · exact .meta0 v hm.1.1 (by omega)
    · rw [may_other _ _ h1 h2 h3] at hm
      exact .named kind v h1 h2 h3 h15 hm
/-- The finder, where the world is not named. -/
theorem kfinder_b (kind : Int) (w : World) : Calls Tryd.prog 48 #[.int .i64 kind] w fun e w' => ∃ q, e = .returned (.func (.func 65) #[] #[.pointer (some ⟨q, 0, none⟩)]) ∧ w'.cell? ⟨q, 0, none⟩ = some (.int .i64 kind) ∧ Below w.heap.size w w' :=
  (kfinder_any kind w).mono fun e w' ⟨h1, h2⟩ => ⟨w.heap.size, h1, by rw [← h2]; exact kcell _ _ _, by rw [← h2]; exact below_alloc _ _⟩
def nmR (k : Ky) : List UInt8 := if keyB k then nmN k else []
def NmPost (k : Ky) (w : World) (e : Ending) (w' : World) : Prop := e = .returned (.tuple #[.string (mkS (nmR k)), .int .i64 (ckE k)]) ∧ Below w.heap.size w w'
theorem nmPost_no {k : Ky} {w w' : World} (h : keyB k = false) (hb : Below w.heap.size w w') : NmPost k w (.returned (.tuple #[.string ⟨#[]⟩, .int .i64 2])) w' := by
  unfold NmPost nmR; rw [h, ckE_no h]; exact ⟨rfl, hb⟩
theorem nmPost_yes {k : Ky} {w w' : World} {s : ByteArray} (h : keyB k = true) (hs : s = mkS (nmN k)) (hb : Below w.heap.size w w') : NmPost k w (.returned (.tuple #[.string s, .int .i64 0])) w' := by
  unfold NmPost nmR; rw [h, ckE_yes h, hs]; exact ⟨rfl, hb⟩
theorem nm_meta1 (v : Int) (h : 32 ≤ v) : nmN (3, v, ⟨#[]⟩, false) = 77 :: 45 :: sgN v := by
  show 77 :: 45 :: (if 32 ≤ v then sgN v else ctN v) = _; rw [if_pos h]
theorem nm_meta0 (v : Int) (h : ¬ 32 ≤ v) : nmN (3, v, ⟨#[]⟩, false) = 77 :: 45 :: ctN v := by
  show 77 :: 45 :: (if 32 ≤ v then sgN v else ctN v) = _; rw [if_neg h]
theorem nm_named (kind v : Int) (t : ByteArray) (c : Bool) (h1 : kind ≠ 1) (h2 : kind ≠ 2) (h3 : kind ≠ 3) (h15 : kind ≠ 15) : nmN (kind, v, t, c) = (kRowOf kind v).2.2.1 := by
  unfold nmN; dsimp only; rw [if_neg h1, if_neg h2, if_neg h3, if_neg h15]
theorem sgN_len (v : Int) : (sgN v).length ≤ 22 := by
  unfold sgN; split
  · simp
  · have := hexN_len v 1; simp; omega
theorem ctN_len (v : Int) : (ctN v).length = 3 := by obtain ⟨c, h⟩ := ctN_cons v; rw [h]; rfl
theorem four_keep {w : World} {b c k : Nat} {x : Value} (v0 v1 v2 v3 : Value) (hp : c ≠ b) (h : w.cell? ⟨c, k, none⟩ = some x) :
    ((((w.setCell ⟨b, 0, none⟩ v0).setCell ⟨b, 1, none⟩ v1).setCell ⟨b, 2, none⟩ v2).setCell ⟨b, 3, none⟩ v3).cell? ⟨c, k, none⟩ = some x := by
  have o : ∀ (w : World) (i : Nat) (v : Value), (w.setCell ⟨b, i, none⟩ v).cell? ⟨c, k, none⟩ = w.cell? ⟨c, k, none⟩ := fun w i v => World.cell?_setCell_other w _ _ v (fun e => hp (by simpa using (congrArg Addr.block e).symm))
  rw [o, o, o, o, h]
theorem four_cell2 {w : World} {b : Nat} {x : Value} (v0 v1 v2 v3 : Value) (h : w.cell? ⟨b, 2, none⟩ = some x) :
    ((((w.setCell ⟨b, 0, none⟩ v0).setCell ⟨b, 1, none⟩ v1).setCell ⟨b, 2, none⟩ v2).setCell ⟨b, 3, none⟩ v3).cell? ⟨b, 2, none⟩ = some v2 := by
  rw [World.cell?_setCell_other _ _ _ _ (by simp), World.cell?_setCell_same _ _ _ (h := by rw [World.cell?_setCell_other _ _ _ _ (by simp), World.cell?_setCell_other _ _ _ _ (by simp)]; exact h)]
theorem four_cell3 {w : World} {b : Nat} {x : Value} (v0 v1 v2 v3 : Value) (h : w.cell? ⟨b, 3, none⟩ = some x) :
    ((((w.setCell ⟨b, 0, none⟩ v0).setCell ⟨b, 1, none⟩ v1).setCell ⟨b, 2, none⟩ v2).setCell ⟨b, 3, none⟩ v3).cell? ⟨b, 3, none⟩ = some v3 := by
  rw [World.cell?_setCell_same _ _ _ (h := by rw [World.cell?_setCell_other _ _ _ _ (by simp), World.cell?_setCell_other _ _ _ _ (by simp), World.cell?_setCell_other _ _ _ _ (by simp)]; exact h)]
set_option maxHeartbeats 4000000 in
set_option maxRecDepth 100000 in
theorem kname_any (k : Ky) (w : World) (hK : KT w) : Calls Tryd.prog 29 #[kyV k] w (NmPost k w) := by
  have B0 := below_alloc w (.cells #[.int .i64 k.1, .int .i64 k.2.1, .string k.2.2.1, .bool k.2.2.2] 34)
  have Q0 := Lib.hid (heap_alloc_new w (.cells #[.int .i64 k.1, .int .i64 k.2.1, .string k.2.2.1, .bool k.2.2.2] 34))
  have CH := kcheck_any k (w.alloc (.cells #[.int .i64 k.1, .int .i64 k.2.1, .string k.2.2.1, .bool k.2.2.2] 34)) (hK.below B0)
  cases hok : keyB k with
  | false =>
    have HP := Lib.hid (fun w w' hb => nmPost_no (k := k) (w := w) (w' := w') hok hb)
    rw [ckE_no hok] at CH
    obtain ⟨kind, v, t, c⟩ := k
    dsimp only at B0 Q0 CH
    replace CH := Lib.hid CH
    clear hok hK
    show Calls _ _ #[.agg #[.int .i64 kind, .int .i64 v, .string t, .bool c]] _ _
    go_enter Tryd.func29, Tryd.ntmps29
    go_wp2_with (go_at_call 36; refine CH.out.mono ?_; rintro e w1 ⟨rfl, hb1⟩)
    refine bodyPost_ret (v := .tuple #[.string ⟨#[]⟩, .int .i64 2]) (by simp [results, Tryd.results29, go_sem]) rfl ?_
    exact HP.out _ _ (seqB B0 hb1)
  | true =>
    have HP := Lib.hid (fun w w' s hs hb => nmPost_yes (k := k) (w := w) (w' := w') (s := s) hok hs hb)
    rw [ckE_yes hok] at CH
    have hf := kyF_of hok
    clear hok
    cases hf with
    | sign v h0 h1 h =>
      dsimp only at B0 Q0
      replace CH := Lib.hid CH
      have SN := Lib.hid (fun w => ksign_any v w (by omega) h1)
      clear h hK
      show Calls _ _ #[.agg #[.int .i64 1, .int .i64 v, .string ⟨#[]⟩, .bool false]] _ _
      go_enter Tryd.func29, Tryd.ntmps29
      go_wp2_with (first
        | (go_at_call 36; refine CH.out.mono ?_; rintro e w1 ⟨rfl, hb1⟩; have q1 := blk_below Q0.out hb1; have y := fun i => cell_of_row _ _ i _ _ _ q1; have y0 := y 0; have y1 := y 1; clear y q1; dsimp at y0 y1)
        | (go_at_call 45; refine (SN.out _).mono ?_; rintro e w2 ⟨rfl, hb2⟩))
      refine bodyPost_ret (v := .tuple #[.string (mkS (sgN v)), .int .i64 0]) (by simp [results, Tryd.results29, go_sem]) rfl ?_
      exact HP.out _ _ _ rfl (seqB (seqB B0 hb1) hb2)
    | ctrl v h0 h1 =>
      dsimp only at B0 Q0
      replace CH := Lib.hid CH
      have SN := Lib.hid (fun w => kctrl_any v w h0 h1)
      clear hK
      show Calls _ _ #[.agg #[.int .i64 2, .int .i64 v, .string ⟨#[]⟩, .bool false]] _ _
      go_enter Tryd.func29, Tryd.ntmps29
      go_wp2_with (first
        | (go_at_call 36; refine CH.out.mono ?_; rintro e w1 ⟨rfl, hb1⟩; have q1 := blk_below Q0.out hb1; have y := fun i => cell_of_row _ _ i _ _ _ q1; have y0 := y 0; have y1 := y 1; clear y q1; dsimp at y0 y1)
        | (go_at_call 46; refine (SN.out _).mono ?_; rintro e w2 ⟨rfl, hb2⟩))
      refine bodyPost_ret (v := .tuple #[.string (mkS (ctN v)), .int .i64 0]) (by simp [results, Tryd.results29, go_sem]) rfl ?_
      exact HP.out _ _ _ rfl (seqB (seqB B0 hb1) hb2)
    | meta1 v h0 h1 =>
      dsimp only at B0 Q0
      replace CH := Lib.hid CH
      have SN := fun w => ksign_any v w (by omega) (by omega)
      have hl := sgN_len v
      have hsz : (mkS (sgN v)).size ≤ 22 := by rw [mkS_size]; exact hl
      have he : Hid (⟨#[77, 45]⟩ ++ mkS (sgN v) = mkS (nmN (3, v, ⟨#[]⟩, false))) := Lib.hid (by rw [nm_meta1 v h0, show (⟨#[77, 45]⟩ : ByteArray) = mkS [77, 45] from rfl, mkS_app]; rfl)
      generalize mkS (sgN v) = u at *
      have R1 := ksum ⟨#[77, 45]⟩ u (by show 2 + _ ≤ _; omega)
      replace SN := Lib.hid SN
      clear hK hl hsz
      show Calls _ _ #[.agg #[.int .i64 3, .int .i64 v, .string ⟨#[]⟩, .bool false]] _ _
      go_enter Tryd.func29, Tryd.ntmps29
      go_wp2_with (first
        | (go_at_call 36; refine CH.out.mono ?_; rintro e w1 ⟨rfl, hb1⟩; have q1 := blk_below Q0.out hb1; have y := fun i => cell_of_row _ _ i _ _ _ q1; have y0 := y 0; have y1 := y 1; clear y q1; dsimp at y0 y1)
        | (go_at_call 45; refine (SN.out _).mono ?_; rintro e w2 ⟨rfl, hb2⟩))
      refine bodyPost_ret (v := .tuple #[.string (⟨#[77, 45]⟩ ++ u), .int .i64 0]) (by simp [results, Tryd.results29, go_sem]) rfl ?_
      exact HP.out _ _ _ he.out (seqB (seqB B0 hb1) hb2)
    | meta0 v h0 h1 =>
      dsimp only at B0 Q0
      replace CH := Lib.hid CH
      have SN := fun w => kctrl_any v w h0 h1
      have hl := ctN_len v
      have hsz : (mkS (ctN v)).size = 3 := by rw [mkS_size]; exact hl
      have he : Hid (⟨#[77, 45]⟩ ++ mkS (ctN v) = mkS (nmN (3, v, ⟨#[]⟩, false))) := Lib.hid (by rw [nm_meta0 v (by omega), show (⟨#[77, 45]⟩ : ByteArray) = mkS [77, 45] from rfl, mkS_app]; rfl)
      generalize mkS (ctN v) = u at *
      have R1 := ksum ⟨#[77, 45]⟩ u (by show 2 + _ ≤ _; omega)
      replace SN := Lib.hid SN
      clear hK hl hsz
      show Calls _ _ #[.agg #[.int .i64 3, .int .i64 v, .string ⟨#[]⟩, .bool false]] _ _
      go_enter Tryd.func29, Tryd.ntmps29
      go_wp2_with (first
        | (go_at_call 36; refine CH.out.mono ?_; rintro e w1 ⟨rfl, hb1⟩; have q1 := blk_below Q0.out hb1; have y := fun i => cell_of_row _ _ i _ _ _ q1; have y0 := y 0; have y1 := y 1; clear y q1; dsimp at y0 y1)
        | (go_at_call 46; refine (SN.out _).mono ?_; rintro e w2 ⟨rfl, hb2⟩))
      refine bodyPost_ret (v := .tuple #[.string (⟨#[77, 45]⟩ ++ u), .int .i64 0]) (by simp [results, Tryd.results29, go_sem]) rfl ?_
      exact HP.out _ _ _ he.out (seqB (seqB B0 hb1) hb2)
    | paste t c h =>
      dsimp only at B0 Q0
      replace CH := Lib.hid CH
      have SN := Lib.hid (fun w => kpaste_any 15 0 t c w (by omega))
      clear hK
      show Calls _ _ #[.agg #[.int .i64 15, .int .i64 0, .string t, .bool c]] _ _
      go_enter Tryd.func29, Tryd.ntmps29
      go_wp2_with (first
        | (go_at_call 36; refine CH.out.mono ?_; rintro e w1 ⟨rfl, hb1⟩; have q1 := blk_below Q0.out hb1; have y := fun i => cell_of_row _ _ i _ _ _ q1; have y0 := y 0; have y1 := y 1; have y2 := y 2; have y3 := y 3; clear y q1; dsimp at y0 y1 y2 y3)
        | (go_at_call 47; refine (SN.out _).mono ?_; rintro e w2 ⟨rfl, hb2⟩))
      refine bodyPost_ret (v := .tuple #[.string (mkS (psN t.data.toList c)), .int .i64 0]) (by simp [results, Tryd.results29, go_sem]) rfl ?_
      exact HP.out _ _ _ rfl (seqB (seqB B0 hb1) hb2)
    | named kind v h1 h2 h3 h15 h =>
      dsimp only at B0 Q0
      have FD := fun w q (hK : KT w) hc => kfind_any v kind q w hK hc
      have he : Hid (mkS (kRowOf kind v).2.2.1 = mkS (nmN (kind, v, ⟨#[]⟩, false))) := Lib.hid (by rw [nm_named kind v _ _ h1 h2 h3 h15])
      obtain ⟨r, hr⟩ : ∃ r, kRowOf kind v = r := ⟨_, rfl⟩
      rw [hr] at FD he
      obtain ⟨ra, rb, rc, rd⟩ := r
      rw [rowV_eq, h] at FD
      replace FD := Lib.hid FD; replace CH := Lib.hid CH
      have HK := Lib.hid (hK.below B0)
      clear hK hr h
      show Calls _ _ #[.agg #[.int .i64 kind, .int .i64 v, .string ⟨#[]⟩, .bool false]] _ _
      go_enter Tryd.func29, Tryd.ntmps29
      go_upto_region 15 with (first
        | (go_at_call 36; refine CH.out.mono ?_; rintro e w1 ⟨rfl, hb1⟩; have q1 := blk_below Q0.out hb1; have q1l := blk_lt q1; have y := fun i => cell_of_row _ _ i _ _ _ q1; have y0 := y 0; have y1 := y 1; clear y q1; dsimp at y0 y1; have HK1 := Lib.hid (HK.out.below hb1)))
      go_region_held3 (fun w' => w'.cell? ⟨w.heap.size, 0, none⟩ = some (.int .i64 kind) ∧ w'.cell? ⟨w.heap.size, 1, none⟩ = some (.int .i64 v))
        (first | with_reducible exact ⟨y0, y1⟩ | with_reducible exact o1 | with_reducible exact o2 | with_reducible exact ⟨four_keep _ _ _ _ hne o2.1, four_keep _ _ _ _ hne o2.2⟩ | with_reducible exact ⟨four_keep _ _ _ _ hne0 o2.1, four_keep _ _ _ _ hne0 o2.2⟩ | go_keep)
        (first
          | (go_at_call 48; (with_reducible refine (kfinder_b _ w1.drew).mono ?_); rintro e w2 ⟨qq, rfl, hqq, hb2⟩; have N2 := seqB (Below.refl w1.heap.size w1).drew hb2; have hne : w.heap.size ≠ w2.heap.size := Nat.ne_of_lt (Nat.lt_of_lt_of_le q1l N2.size); have o1 : w2.cell? ⟨w.heap.size, 0, none⟩ = some (.int .i64 kind) ∧ w2.cell? ⟨w.heap.size, 1, none⟩ = some (.int .i64 v) := ⟨(N2.cell (p := ⟨w.heap.size, 0, none⟩) q1l).trans y0, (N2.cell (p := ⟨w.heap.size, 1, none⟩) q1l).trans y1⟩)
          | (go_at_call 48; (with_reducible refine (kfinder_b _ (w1.alloc (.cells #[.int .i64 0, .int .i64 0, .string ⟨#[]⟩, .string ⟨#[]⟩] 90)).drew).mono ?_); rintro e w2 ⟨qq, rfl, hqq, hb2⟩; have N2 := seqB (seqB (below_alloc w1 (.cells #[.int .i64 0, .int .i64 0, .string ⟨#[]⟩, .string ⟨#[]⟩] 90)) (Below.refl (w1.alloc (.cells #[.int .i64 0, .int .i64 0, .string ⟨#[]⟩, .string ⟨#[]⟩] 90)).heap.size (w1.alloc (.cells #[.int .i64 0, .int .i64 0, .string ⟨#[]⟩, .string ⟨#[]⟩] 90))).drew) hb2; have hne : w.heap.size ≠ w2.heap.size := Nat.ne_of_lt (Nat.lt_of_lt_of_le q1l N2.size); have o1 : w2.cell? ⟨w.heap.size, 0, none⟩ = some (.int .i64 kind) ∧ w2.cell? ⟨w.heap.size, 1, none⟩ = some (.int .i64 v) := ⟨(N2.cell (p := ⟨w.heap.size, 0, none⟩) q1l).trans y0, (N2.cell (p := ⟨w.heap.size, 1, none⟩) q1l).trans y1⟩; have hZ2 := blk_below (w := (w1.alloc (.cells #[.int .i64 0, .int .i64 0, .string ⟨#[]⟩, .string ⟨#[]⟩] 90)).drew) (heap_alloc_new w1 (.cells #[.int .i64 0, .int .i64 0, .string ⟨#[]⟩, .string ⟨#[]⟩] 90)) hb2; have hne0 : w.heap.size ≠ w1.heap.size := Nat.ne_of_lt q1l)
          | (go_at_call 65; (with_reducible refine (FD.out (w2.alloc (.cells #[.int .i64 0, .int .i64 0, .string ⟨#[]⟩, .string ⟨#[]⟩] 90)) qq (HK1.out.below (seqB N2 (below_alloc _ _))) (((below_alloc w2 (.cells #[.int .i64 0, .int .i64 0, .string ⟨#[]⟩, .string ⟨#[]⟩] 90)).cell (p := ⟨qq, 0, none⟩) (block_lt_of_cell hqq)).trans hqq)).mono ?_); rintro e w3 ⟨rfl, hb3⟩; have N3 := seqB (seqB N2 (below_alloc w2 (.cells #[.int .i64 0, .int .i64 0, .string ⟨#[]⟩, .string ⟨#[]⟩] 90))) hb3; have o2 : w3.cell? ⟨w.heap.size, 0, none⟩ = some (.int .i64 kind) ∧ w3.cell? ⟨w.heap.size, 1, none⟩ = some (.int .i64 v) := ⟨(N3.cell (p := ⟨w.heap.size, 0, none⟩) q1l).trans y0, (N3.cell (p := ⟨w.heap.size, 1, none⟩) q1l).trans y1⟩; have hZ := blk_below (heap_alloc_new w2 (.cells #[.int .i64 0, .int .i64 0, .string ⟨#[]⟩, .string ⟨#[]⟩] 90)) hb3; have zf := fun i => frozen_of_row _ _ i _ _ hZ; have zz := fun i => cell_of_row _ _ i _ _ _ hZ; have z0 := zz 0; have z1 := zz 1; have z2 := zz 2; have z3 := zz 3; dsimp at z0 z1 z2 z3; have hql1 := blk_lt hZ; clear zz hZ)
          | (go_at_call 65; (with_reducible refine (FD.out w2 qq (HK1.out.below N2) hqq).mono ?_); rintro e w3 ⟨rfl, hb3⟩; have N3 := seqB N2 hb3; have o2 : w3.cell? ⟨w.heap.size, 0, none⟩ = some (.int .i64 kind) ∧ w3.cell? ⟨w.heap.size, 1, none⟩ = some (.int .i64 v) := ⟨(N3.cell (p := ⟨w.heap.size, 0, none⟩) q1l).trans y0, (N3.cell (p := ⟨w.heap.size, 1, none⟩) q1l).trans y1⟩; try (have hZ := blk_below hZ2 hb3; have zf := fun i => frozen_of_row _ _ i _ _ hZ; have zz := fun i => cell_of_row _ _ i _ _ _ hZ; have z0 := zz 0; have z1 := zz 1; have z2 := zz 2; have z3 := zz 3; dsimp at z0 z1 z2 z3; have hql1 := blk_lt hZ; clear zz hZ; clear hZ2)))
      · go_wp2
        refine bodyPost_ret (v := .tuple #[.string (mkS rc), .int .i64 0]) (by simp [results, Tryd.results29, go_sem]) rfl ?_
        exact HP.out _ _ _ he.out (seqB (seqB (seqB B0 hb1) N3) (below_alloc _ _))
      · have c2 := four_cell2 (.int .i64 ra) (.int .i64 rb) (.string ⟨rc.toArray⟩) (.string ⟨rd.toArray⟩) z2
        have NF := four_below w3 w1 w2.heap.size (.int .i64 ra) (.int .i64 rb) (.string ⟨rc.toArray⟩) (.string ⟨rd.toArray⟩) N2.size N3
        generalize World.setCell _ _ _ = WF at *
        clear z0 z1 z2 z3 zf
        go_wp2
        refine bodyPost_ret (v := .tuple #[.string (mkS rc), .int .i64 0]) (by simp [results, Tryd.results29, go_sem]) rfl ?_
        exact HP.out _ _ _ he.out (seqB (seqB B0 hb1) NF)
      · have c2 := four_cell2 (.int .i64 ra) (.int .i64 rb) (.string ⟨rc.toArray⟩) (.string ⟨rd.toArray⟩) z2
        have NF := four_below w3 w1 w1.heap.size (.int .i64 ra) (.int .i64 rb) (.string ⟨rc.toArray⟩) (.string ⟨rd.toArray⟩) (Nat.le_refl _) N3
        generalize World.setCell _ _ _ = WF at *
        clear z0 z1 z2 z3 zf
        go_wp2
        refine bodyPost_ret (v := .tuple #[.string (mkS rc), .int .i64 0]) (by simp [results, Tryd.results29, go_sem]) rfl ?_
        exact HP.out _ _ _ he.out (seqB (seqB B0 hb1) NF)
end Go.Proofs.YtgnhnalaakgamaaDoor
set_option linter.unusedVariables false
set_option linter.unusedSimpArgs false
namespace Go.Proofs.YtgnhnalaakgamaaDoor
open Go.RowKit
def byR (k : Ky) : List UInt8 := if keyB k then byN k else []
def ByPost (k : Ky) (w : World) (e : Ending) (w' : World) : Prop := e = .returned (.string (mkS (byR k))) ∧ Below w.heap.size w w'
theorem byPost_no {k : Ky} {w w' : World} (h : keyB k = false) (hb : Below w.heap.size w w') : ByPost k w (.returned (.string ⟨#[]⟩)) w' := by
  unfold ByPost byR; rw [h]; exact ⟨rfl, hb⟩
theorem byPost_yes {k : Ky} {w w' : World} {s : ByteArray} (h : keyB k = true) (hs : s = mkS (byN k)) (hb : Below w.heap.size w w') : ByPost k w (.returned (.string s)) w' := by
  unfold ByPost byR; rw [h, hs]; exact ⟨rfl, hb⟩
theorem by_named (kind v : Int) (t : ByteArray) (c : Bool) (h1 : kind ≠ 1) (h2 : kind ≠ 2) (h3 : kind ≠ 3) (h15 : kind ≠ 15) : byN (kind, v, t, c) = (kRowOf kind v).2.2.2 := by
  unfold byN; dsimp only; rw [if_neg (by omega), if_neg h3, if_neg h15]
theorem txt_mk (l : List Int) : mkS (txt l).data.toList = txt l := mkS_of _
theorem by_12 (kind v : Int) (h : kind = 1 ∨ kind = 2) : mkS (byN (kind, v, ⟨#[]⟩, false)) = txt (oneI v) := by
  unfold byN; dsimp only; rw [if_pos h]
theorem by_3 (v : Int) : mkS (byN (3, v, ⟨#[]⟩, false)) = ⟨#[27]⟩ ++ txt (oneI v) := by
  unfold byN; dsimp only; rw [if_neg (by omega), if_pos rfl, show (⟨#[27]⟩ : ByteArray) = mkS [27] from rfl]
  conv => rhs; rw [← txt_mk]
  rw [mkS_app]; rfl
theorem by_15 (v : Int) (t : ByteArray) (c : Bool) : mkS (byN (15, v, t, c)) = ⟨#[27, 91, 50, 48, 48, 126]⟩ ++ t ++ ⟨#[27, 91, 50, 48, 49, 126]⟩ := by
  unfold byN; dsimp only; rw [if_neg (by omega), if_neg (by omega), if_pos rfl, show (⟨#[27, 91, 50, 48, 48, 126]⟩ : ByteArray) = mkS [27, 91, 50, 48, 48, 126] from rfl, show (⟨#[27, 91, 50, 48, 49, 126]⟩ : ByteArray) = mkS [27, 91, 50, 48, 49, 126] from rfl]
  conv => rhs; rw [← mkS_of t]
  rw [mkS_app, mkS_app]
theorem txt_one_len (v : Int) : (txt (oneI v)).size ≤ 4 := by rw [txt_size]; exact oneI_len v
theorem kTab_enter : ∀ r ∈ kTab, r.1 = 4 → r.2.1 = 13 ∨ r.2.1 = 10 := by decide
def vlI (k : Ky) : Int := if keyB k = true ∧ 0 ≤ vlN k then vlN k else 0
def vlB (k : Ky) : Bool := keyB k && decide (0 ≤ vlN k)
def VlPost (k : Ky) (w : World) (e : Ending) (w' : World) : Prop := e = .returned (.tuple #[.int .i64 (vlI k), .bool (vlB k)]) ∧ Below w.heap.size w w'
theorem vlPost_no {k : Ky} {w w' : World} (h : keyB k = false ∨ vlN k < 0) (hb : Below w.heap.size w w') : VlPost k w (.returned (.tuple #[.int .i64 0, .bool false])) w' := by
  unfold VlPost vlI vlB
  rcases h with h | h
  · rw [h]; exact ⟨rfl, hb⟩
  · rw [if_neg (fun x => by omega), decide_eq_false (by omega), Bool.and_false]; exact ⟨rfl, hb⟩
theorem vlPost_yes {k : Ky} {w w' : World} {v : Int} (h : keyB k = true) (hv : vlN k = v) (h0 : 0 ≤ v) (hb : Below w.heap.size w w') : VlPost k w (.returned (.tuple #[.int .i64 v, .bool true])) w' := by
  unfold VlPost vlI vlB
  rw [if_pos ⟨h, by omega⟩, h, decide_eq_true (by omega), hv]; exact ⟨rfl, hb⟩
end Go.Proofs.YtgnhnalaakgamaaDoor
set_option linter.unusedVariables false
set_option linter.unusedSimpArgs false
namespace Go.Proofs.YtgnhnalaakgamaaDoor
open Go.RowKit
theorem ext_list (s : ByteArray) (a b : Nat) : (s.extract a b).data.toList = (s.data.toList.drop a).take (b - a) := by
  have e : s = ByteArray.mk s.data.toList.toArray := by cases s; simp
  conv => lhs; rw [e]
  rw [ByteArray.extract_mk]
theorem list_size (s : ByteArray) : s.data.toList.length = s.size := Array.length_toList
theorem kunhex (s : ByteArray) (w : World) (hs : s.size ≤ 999999) : Calls Tryd.prog 76 #[.string s] w fun e w' => e = .returned (.tuple #[.int .i64 (uhR s.data.toList), .int .i64 (uhE s.data.toList)]) ∧ Below w.heap.size w w' := by
  have h := unhex_any s.data.toList w (by rw [list_size]; exact hs)
  rwa [show (⟨s.data.toList.toArray⟩ : ByteArray) = s from mkS_of s] at h
theorem uh_or (l : List UInt8) : (uhE l = 0 ∧ 0 ≤ uhR l) ∨ (uhE l = 6 ∧ uhR l = 0) := by
  rcases uh_cases l with h | h
  · exact Or.inl ⟨h.2.1, by omega⟩
  · exact Or.inr ⟨h.2.1, h.2.2⟩
theorem sgOf_one (s : ByteArray) (h : s.size = 1) : sgOf s.data.toList = ((s[0]'(by omega)).toNat : Int) := by
  unfold sgOf
  rw [if_pos (by rw [list_size]; exact h)]
  obtain ⟨a⟩ := s
  obtain ⟨l⟩ := a
  match l, h with
  | [x], _ => rfl
theorem sgOf_no (s : ByteArray) (h1 : s.size ≠ 1) (h : s.size < 3) : sgOf s.data.toList = -1 := by
  unfold sgOf
  rw [if_neg (by rw [list_size]; exact h1), if_pos (Or.inl (by rw [list_size]; exact h))]
theorem head_get (s : ByteArray) (h : 0 < s.size) : s.data.toList.headD 0 = s[0] := by
  obtain ⟨a⟩ := s
  obtain ⟨l⟩ := a
  match l, h with
  | x :: _, _ => rfl
theorem sgOf_no2 (s : ByteArray) (h3 : 3 ≤ s.size) (h : ¬ ((s[0]'(by omega)).toNat : Int) = 60) : sgOf s.data.toList = -1 := by
  unfold sgOf
  rw [if_neg (by rw [list_size]; omega), if_pos (Or.inr (by rw [head_get s (by omega)]; intro e; apply h; rw [e]; rfl))]
theorem sgOf_hex (s : ByteArray) (h3 : 3 ≤ s.size) (h : ((s[0]'(by omega)).toNat : Int) = 60) : sgOf s.data.toList = if uhE (s.extract 1 (s.size - 1)).data.toList = 0 then uhR (s.extract 1 (s.size - 1)).data.toList else -1 := by
  unfold sgOf
  have h60 : s.data.toList.headD 0 = 60 := by
    rw [head_get s (by omega)]
    have : (s[0]'(by omega)).toNat = 60 := by omega
    exact UInt8.toNat_inj.1 this
  rw [if_neg (by rw [list_size]; omega), if_neg (by rw [list_size, h60]; intro hh; rcases hh with hh | hh; omega; exact hh rfl), list_size, ext_list]
  rfl
set_option maxHeartbeats 2000000 in
set_option maxRecDepth 100000 in
theorem ksgOf_any (s : ByteArray) (w : World) (hs : s.size ≤ 900000) : Calls Tryd.prog 62 #[.string s] w fun e w' => e = .returned (.int .i64 (sgOf s.data.toList)) ∧ Below w.heap.size w w' := by
  by_cases h1 : s.size = 1
  · have e := Lib.hid (sgOf_one s h1)
    have hk0 : (0 : Int) < s.size := by omega
    have hw : Hid (wrap64 (((s[0]'(by omega)).toNat : Nat) : Int) = (((s[0]'(by omega)).toNat : Nat) : Int)) := Lib.hid (by have := u8_lt (s[0]'(by omega)); unfold wrap64; omega)
    have hi1 : (s.size : Int) = 1 := by omega
    go_enter Tryd.func62, Tryd.ntmps62
    go_wp2_with fail
    go_ret
    rw [e.out]
    refine ⟨?_, Below.refl _ _⟩
    show Ending.returned (.int .i64 (wrap64 _)) = _
    rw [hw.out]
  · have hi1 : ¬ (s.size : Int) = 1 := by omega
    by_cases h3 : s.size < 3
    · have e := Lib.hid (sgOf_no s h1 h3)
      have hi3 : (s.size : Int) < 3 := by omega
      go_enter Tryd.func62, Tryd.ntmps62
      go_wp2_with fail
      go_ret
      rw [e.out]
      exact ⟨rfl, Below.refl _ _⟩
    · have hi3 : ¬ (s.size : Int) < 3 := by omega
      have hk0 : (0 : Int) < s.size := by omega
      by_cases h60 : ((s[0]'(by omega)).toNat : Int) = 60
      · have e := Lib.hid (sgOf_hex s (by omega) h60)
        have U := fun w => kunhex (s.extract 1 (s.size - 1)) w (by rw [ByteArray.size_extract]; omega)
        have hx : Hid (((s.size : Int) - 1).toNat = s.size - 1) := Lib.hid (by omega)
        have hor := uh_or (s.extract 1 (s.size - 1)).data.toList
        generalize hu : uhE (s.extract 1 (s.size - 1)).data.toList = ue at *
        generalize hr : uhR (s.extract 1 (s.size - 1)).data.toList = ur at *
        replace U := Lib.hid U
        clear hu hr
        rcases hor with ⟨rfl, h0⟩ | ⟨rfl, rfl⟩
        · clear h0
          go_enter Tryd.func62, Tryd.ntmps62
          go_wp2_with (go_at_call 76; refine (U.out _).mono ?_; rintro e w2 ⟨rfl, hb2⟩)
          go_ret
          rw [e.out]
          exact ⟨by simp, hb2⟩
        · go_enter Tryd.func62, Tryd.ntmps62
          go_wp2_with (go_at_call 76; refine (U.out _).mono ?_; rintro e w2 ⟨rfl, hb2⟩)
          go_ret
          rw [e.out]
          exact ⟨by simp, hb2⟩
      · have e := Lib.hid (sgOf_no2 s (by omega) h60)
        go_enter Tryd.func62, Tryd.ntmps62
        go_wp2_with fail
        go_ret
        rw [e.out]
        exact ⟨rfl, Below.refl _ _⟩
theorem ctFrom_hit (l : List UInt8) (k : Nat) (hk : k < 32) (h : ctN (k : Int) = l) : ctFrom l (32 - k) k = k := by
  rw [show 32 - k = (31 - k) + 1 by omega, ctFrom, if_pos h]
theorem ctFrom_miss (l : List UInt8) (k : Nat) (hk : k < 32) (h : ¬ ctN (k : Int) = l) : ctFrom l (32 - k) k = ctFrom l (32 - (k + 1)) (k + 1) := by
  rw [show 32 - k = (31 - k) + 1 by omega, ctFrom, if_neg h, show 31 - k = 32 - (k + 1) by omega]
theorem ctFrom_end (l : List UInt8) : ctFrom l (32 - 32) 32 = -1 := rfl
theorem mkS_eq {l : List UInt8} {s : ByteArray} (h : mkS l = s) : l = s.data.toList := by subst h; simp [mkS]
set_option maxHeartbeats 2000000 in
set_option maxRecDepth 100000 in
theorem kctOf_any (s : ByteArray) (w : World) : Calls Tryd.prog 61 #[.string s] w fun e w' => e = .returned (.int .i64 (ctOf s.data.toList)) ∧ Below w.heap.size w w' := by
  go_enter Tryd.func61, Tryd.ntmps61
  go_wp2
  go_loopw [4] (fun iv wr => ∃ k : Nat, k ≤ 32 ∧ iv = .int .i64 (k : Int) ∧ Hid (ctFrom s.data.toList (32 - k) k = ctOf s.data.toList) ∧ Below w.heap.size w wr) (fun iv _ => 32 - (intOf iv).toNat)
  case atStart => exact ⟨0, by omega, rfl, Lib.hid rfl, Below.refl _ _⟩
  case round =>
    obtain ⟨k, hk, rfl, HE, hb⟩ := hrel
    have hsz := hb.size
    by_cases hlt : k < 32
    · have hk0 : (0 : Int) ≤ k := by omega
      have hk1 : (k : Int) < 32 := by omega
      have C := fun w => kctrl_any (k : Int) w hk0 hk1
      by_cases he : mkS (ctN (k : Int)) = s
      · have HF : Hid (ctOf s.data.toList = k) := Lib.hid (by rw [← HE.out]; exact ctFrom_hit _ k hlt (mkS_eq he))
        rw [he] at C
        replace C := Lib.hid C
        clear he HE
        go_wp2_with (go_at_call 46; refine (C.out _).mono ?_; rintro e w2 ⟨rfl, hb2⟩)
        go_ret
        rw [HF.out]
        exact ⟨rfl, hb.trans (hb2.mono hsz)⟩
      · have HF : Hid (ctFrom s.data.toList (32 - (k + 1)) (k + 1) = ctOf s.data.toList) := Lib.hid (by rw [← HE.out]; exact (ctFrom_miss _ k hlt (fun h => he (by rw [h]))).symm)
        obtain ⟨s1, s2, s3⟩ := kstr_ne he
        generalize mkS (ctN (k : Int)) = u at *
        replace C := Lib.hid C
        clear he HE
        go_wp2_with (go_at_call 46; refine (C.out _).mono ?_; rintro e w2 ⟨rfl, hb2⟩)
        go_roundw
        case rel => exact ⟨k + 1, by omega, by go_num, HF, hb.trans (hb2.mono hsz)⟩
        case measure => (simp [intOf]; try omega)
    · obtain rfl : k = 32 := by omega
      have HF : Hid (ctOf s.data.toList = -1) := Lib.hid (by rw [← HE.out]; rfl)
      clear HE
      go_wp2
      go_ret
      rw [HF.out]
      exact ⟨rfl, hb⟩
theorem last_suffix (l : List UInt8) : Lib.hasSuffix l [33] = decide (l.getLast? = some 33) := by
  unfold Lib.hasSuffix
  by_cases h : l.getLast? = some 33
  · rw [decide_eq_true h, List.isSuffixOf_iff_suffix]
    obtain ⟨r, rfl⟩ := List.getLast?_eq_some_iff.1 h
    exact List.suffix_append _ _
  · rw [decide_eq_false h]
    cases hs : [33].isSuffixOf l with
    | false => rfl
    | true =>
      obtain ⟨r, rfl⟩ := List.isSuffixOf_iff_suffix.1 hs
      simp at h
def cutS (s : ByteArray) : ByteArray := mkS (psCut s.data.toList).1
def cutB (s : ByteArray) : Bool := (psCut s.data.toList).2
set_option maxHeartbeats 2000000 in
set_option maxRecDepth 100000 in
theorem kcut_inner (s : ByteArray) (w : World) (hs : s.size ≤ 900000) : Calls Tryd.prog 83 #[.string s, .string ⟨#[33]⟩] w fun e w' => e = .returned (.tuple #[.string (cutS s), .bool (cutB s)]) ∧ w' = w := by
  have H := Tryd.stringslite_HasSuffix s ⟨#[33]⟩ w (by omega)
  rw [show (⟨#[33]⟩ : ByteArray).data.toList = [33] from rfl, last_suffix] at H
  by_cases h : s.data.toList.getLast? = some 33
  · rw [decide_eq_true h] at H
    have e1 : Hid (cutS s = s.extract 0 (s.size - 1)) := Lib.hid (by
      unfold cutS psCut
      rw [if_pos h]
      have := ext_list s 0 (s.size - 1)
      rw [List.drop_zero, Nat.sub_zero, ← list_size, ← List.dropLast_eq_take] at this
      rw [← list_size]
      show mkS s.data.toList.dropLast = _
      rw [← this])
    have e2 : Hid (cutB s = true) := Lib.hid (by unfold cutB psCut; rw [if_pos h])
    have hp : 0 < s.size := by
      rw [← list_size]; cases hl : s.data.toList with
      | nil => rw [hl] at h; cases h
      | cons => simp
    have hp1 : (0 : Int) < s.size := by omega
    replace H := Lib.hid H
    clear h
    go_enter Tryd.func83, Tryd.ntmps83
    go_wp2_with (go_at_call 87; refine H.out.mono ?_; rintro e w2 ⟨rfl, rfl⟩)
    refine bodyPost_ret (v := .tuple #[.string (s.extract 0 (s.size - 1)), .bool true]) (by simp [results, Tryd.results83, go_sem]) rfl ?_
    rw [e1.out, e2.out]; exact ⟨rfl, rfl⟩
  · rw [decide_eq_false h] at H
    have e1 : Hid (cutS s = s) := Lib.hid (by unfold cutS psCut; rw [if_neg h])
    have e2 : Hid (cutB s = false) := Lib.hid (by unfold cutB psCut; rw [if_neg h])
    replace H := Lib.hid H
    clear h
    go_enter Tryd.func83, Tryd.ntmps83
    go_wp2_with (go_at_call 87; refine H.out.mono ?_; rintro e w2 ⟨rfl, rfl⟩)
    refine bodyPost_ret (v := .tuple #[.string s, .bool false]) (by simp [results, Tryd.results83, go_sem]) rfl ?_
    rw [e1.out, e2.out]; exact ⟨rfl, rfl⟩
set_option maxHeartbeats 2000000 in
set_option maxRecDepth 100000 in
theorem kcut_any (s : ByteArray) (w : World) (hs : s.size ≤ 900000) : Calls Tryd.prog 75 #[.string s, .string ⟨#[33]⟩] w fun e w' => e = .returned (.tuple #[.string (cutS s), .bool (cutB s)]) ∧ w' = w := by
  have H := kcut_inner s w hs
  generalize cutS s = a at *
  generalize cutB s = b at *
  replace H := Lib.hid H
  go_enter Tryd.func75, Tryd.ntmps75
  go_wp2_with (go_at_call 83; refine H.out.mono ?_; rintro e w2 ⟨rfl, rfl⟩)
  refine bodyPost_ret (v := .tuple #[.string a, .bool b]) (by simp [results, Tryd.results75, go_sem]) rfl ?_
  exact ⟨rfl, rfl⟩
end Go.Proofs.YtgnhnalaakgamaaDoor
set_option linter.unusedVariables false
set_option linter.unusedSimpArgs false
namespace Go.Proofs.YtgnhnalaakgamaaDoor
open Go.RowKit
def uRow (L : List Int) : Array Value := (L.map (Value.int .u8)).toArray
theorem uRow_at (L : List Int) (i : Nat) (h : i < L.length) : (uRow L)[i]? = some (.int .u8 (L.getD i 0)) := by
  rw [uRow, List.getElem?_toArray, List.getElem?_map, List.getElem?_eq_getElem h, List.getD, List.getElem?_eq_getElem h]; rfl
theorem uRow_set (L : List Int) (i : Nat) (x : Int) : (uRow L).setIfInBounds i (.int .u8 x) = uRow (L.set i x) := by
  apply Array.ext'; simp [uRow, List.map_set]
theorem made_u8 (n : Nat) : madeCells #[.int .u8 0] (n * 1) = uRow (List.replicate n 0) := by
  apply Array.ext'
  rw [toList_madeCells_one]; simp [uRow]
theorem u_cell {w : World} {g k : Nat} {L : List Int} {t : TypeId} {f : Nat × Nat} (h : w.heap[g]? = some (.cells (uRow L) t f)) (hk : k < L.length) :
    w.cell? ⟨g, k, none⟩ = some (.int .u8 (L.getD k 0)) := by
  rw [cell_of_row _ _ _ _ _ _ h, uRow_at L k hk]
def uL (t : List UInt8) : List Int := t.map fun b => (b.toNat : Int)
theorem txt_uL (t : List UInt8) : txt (uL t) = mkS t := by
  unfold txt uL mkS
  rw [List.map_map]
  have : ((fun n : Int => n.toNat.toUInt8) ∘ fun b : UInt8 => (b.toNat : Int)) = id := by funext b; simp
  rw [this, List.map_id]
/-- The room for a paste's bytes, so many of them read. -/
def psL (t : List UInt8) (n : Nat) : List Int := uL t ++ List.replicate (n - t.length) 0
theorem psL_len (t : List UInt8) (n : Nat) (h : t.length ≤ n) : (psL t n).length = n := by simp [psL, uL]; omega
theorem psL_set (t : List UInt8) (n : Nat) (b : UInt8) (h : t.length < n) : (psL t n).set t.length (b.toNat : Int) = psL (t ++ [b]) n := by
  have hl : (uL t).length = t.length := by simp [uL]
  unfold psL
  rw [List.set_append_right _ _ (by omega), hl, Nat.sub_self]
  obtain ⟨m, hm⟩ : ∃ m, n - t.length = m + 1 := ⟨n - t.length - 1, by omega⟩
  have hm2 : n - (t ++ [b]).length = m := by simp; omega
  rw [hm, hm2, List.replicate_succ, List.set_cons_zero]
  simp [uL]
theorem psL_full (t : List UInt8) (n : Nat) (h : t.length = n) : psL t n = uL t := by unfold psL; rw [h, Nat.sub_self]; simp
theorem bp_step (l : List UInt8) (n k : Nat) (h : k < n) (he : uhE ((l.drop (2 * k)).take 2) = 0) : bpOf l (n - k) k = (bpOf l (n - (k + 1)) (k + 1)).map fun r => (uhR ((l.drop (2 * k)).take 2)).toNat.toUInt8 :: r := by
  rw [show n - k = (n - (k + 1)) + 1 by omega, bpOf, if_pos he]
theorem bp_stop (l : List UInt8) (n k : Nat) (h : k < n) (he : ¬ uhE ((l.drop (2 * k)).take 2) = 0) : bpOf l (n - k) k = none := by
  rw [show n - k = (n - (k + 1)) + 1 by omega, bpOf, if_neg he]
theorem bp_done (l : List UInt8) (n : Nat) : bpOf l (n - n) n = some [] := by rw [Nat.sub_self]; rfl
theorem ps_none {l : List UInt8} (h : bpOf (psCut l).1 ((psCut l).1.length / 2) 0 = none) : psOf l = k0 := by unfold psOf; rw [h]
theorem ps_some {l t : List UInt8} (h : bpOf (psCut l).1 ((psCut l).1.length / 2) 0 = some t) : psOf l = (15, 0, mkS t, (psCut l).2) := by unfold psOf; rw [h]
theorem cutS_list (s : ByteArray) : (cutS s).data.toList = (psCut s.data.toList).1 := by simp [cutS, mkS]
theorem cutS_size (s : ByteArray) : (cutS s).size ≤ s.size := by
  rw [← list_size, cutS_list, ← list_size]
  unfold psCut; split
  · simp
  · simp
def psN2 (s : ByteArray) : Nat := (cutS s).size / 2
theorem ps_none2 {s : ByteArray} (h : bpOf (cutS s).data.toList (psN2 s) 0 = none) : psOf s.data.toList = k0 := by
  apply ps_none; rw [← cutS_list, list_size]; exact h
theorem ps_some2 {s : ByteArray} {t : List UInt8} (h : bpOf (cutS s).data.toList (psN2 s) 0 = some t) : psOf s.data.toList = (15, 0, mkS t, cutB s) := by
  apply ps_some; rw [← cutS_list, list_size]; exact h
theorem u8_wrap {b : Int} (h : 0 ≤ b) : IntKind.u8.wrap b = ((b.toNat.toUInt8).toNat : Int) := by
  rw [show IntKind.u8.wrap b = b % 256 by first | rfl | (simp [IntKind.wrap]; done) | (unfold IntKind.wrap; simp [IntKind.bits, IntKind.signed]; omega)]
  simp
  omega
theorem u8_list {w : World} {g n : Nat} {t : List UInt8} {ty : TypeId} {f : Nat × Nat} (h : w.heap[g]? = some (.cells (uRow (psL t n)) ty f)) (hl : t.length = n) :
    ∀ dst, Tryd.prog.underlying dst = some .string → (convert 43 dst (.slice (some ⟨g, 0, none⟩) n n)).run Tryd.prog w = .ok (.string (mkS t)) w := by
  rw [psL_full t n hl] at h
  have hu : (uL t).length = n := by simp [uL]; exact hl
  have := conv_lit (w := w) (g := g) (k := n) (c := n) (uL t) hu.symm (fun i hi => by rw [Nat.zero_add]; exact u_cell h (by omega))
  rwa [txt_uL] at this
set_option maxHeartbeats 4000000 in
set_option maxRecDepth 100000 in
theorem kpsOf_any (s : ByteArray) (w : World) (hs : s.size ≤ 900000) : Calls Tryd.prog 60 #[.string s] w fun e w' => e = .returned (kyV (psOf s.data.toList)) ∧ Below w.heap.size w w' := by
  have C := fun w => (kcut_any s w hs).mono fun e w' h => (⟨h.1, h.2.symm⟩ : e = .returned (.tuple #[.string (cutS s), .bool (cutB s)]) ∧ w = w')
  have HN := fun h => ps_none2 (s := s) h
  have HS := fun t h => ps_some2 (s := s) (t := t) h
  have hDs := cutS_size s
  have hn : psN2 s = (cutS s).size / 2 := rfl
  generalize cutS s = D at *
  generalize cutB s = cb at *
  generalize psN2 s = n at *
  generalize psOf s.data.toList = R at *
  have B0 := below_alloc w (.cells #[.int .i64 0, .int .i64 0, .string ⟨#[]⟩, .bool false] 34)
  have hq := heap_alloc_new w (.cells #[.int .i64 0, .int .i64 0, .string ⟨#[]⟩, .bool false] 34)
  obtain ⟨W0, hW0⟩ : ∃ W0, w.alloc (.cells #[.int .i64 0, .int .i64 0, .string ⟨#[]⟩, .bool false] 34) = W0 := ⟨_, rfl⟩
  rw [hW0] at B0 hq
  replace hq := Lib.hid hq
  obtain ⟨i0, hi, hz0, hz1, hz2⟩ := info_parts infoByte
  have hmk := make_rowN (P := Tryd.prog) 43 5 i0 _ Tryd.underlying43 hi hz0 n (by rw [hz2]; omega) (by omega)
  rw [hz1] at hmk
  have hmade : madeCells (Value.int .u8 0).cells (n * 1) = uRow (psL [] n) := by rw [show (Value.int .u8 0).cells = #[.int .u8 0] from rfl, made_u8]; simp [psL, uL]
  rw [hmade] at hmk
  have hquo : (n : Int) = ((D.size : Int) / 2) := by omega
  have hmk2 : ∀ w : World, (Instr.makeSlice 43 (.int .i64 ((D.size : Int) / 2)) (.int .i64 ((D.size : Int) / 2))).run Tryd.prog w = .ok (.slice (some ⟨w.heap.size, 0, none⟩) n n) (w.alloc (.cells (uRow (psL [] n)) 5)) := by rw [← hquo]; exact hmk
  clear hmk hquo hmade
  have h2n : 2 * n ≤ D.size := by omega
  clear hn
  replace C := Lib.hid C; replace HN := Lib.hid HN; replace HS := Lib.hid HS
  go_enter Tryd.func60, Tryd.ntmps60
  go_upto_region 1 with fail
  clear hW0
  go_wp2_with (go_at_call 75; refine (C.out _).mono ?_; rintro e w2 ⟨rfl, rfl⟩)
  go_loopw [20] (fun iv wr => ∃ (k : Nat) (t : List UInt8), t.length = k ∧ k ≤ n ∧ iv = .int .i64 (k : Int) ∧ wr.heap[W0.heap.size]? = some (.cells (uRow (psL t n)) 5 (0, 0)) ∧ Hid (bpOf D.data.toList n 0 = (bpOf D.data.toList (n - k) k).map (t ++ ·)) ∧ Below W0.heap.size W0 wr) (fun iv _ => n - (intOf iv).toNat)
  case atStart => exact ⟨0, [], rfl, Nat.zero_le _, rfl, heap_alloc_new _ _, Lib.hid (by simp), below_alloc _ _⟩
  case round =>
    obtain ⟨k, t, hlen, hk, rfl, hown, HE, hb⟩ := hrel
    have hsz := hb.size
    have q := blk_below hq.out hb
    have hDi : (D.size : Int) ≤ 900000 := by omega
    by_cases hlt : k < n
    · have hk1 : (k : Int) < n := by omega
      have hk0 : (0 : Int) ≤ k := by omega
      have h2k : 2 * k + 2 ≤ D.size := by omega
      have U := fun w => kunhex (D.extract (2 * k) (2 * k + 2)) w (by rw [ByteArray.size_extract]; omega)
      rw [ext_list, show 2 * k + 2 - 2 * k = 2 by omega] at U
      have hsz1 := psL_len t n (by omega)
      have s1 := u_cell hown (k := k) (by rw [hsz1]; exact hlt)
      have f1 := fun i => frozen_of_row wr W0.heap.size i _ _ hown
      have hor := uh_or ((D.data.toList.drop (2 * k)).take 2)
      by_cases he : uhE ((D.data.toList.drop (2 * k)).take 2) = 0
      · have hst := bp_step D.data.toList n k hlt he
        have h0 : 0 ≤ uhR ((D.data.toList.drop (2 * k)).take 2) := by rcases hor with h | h; exact h.2; rw [h.1] at he; cases he
        rw [he] at U
        have hset := psL_set t n (uhR ((D.data.toList.drop (2 * k)).take 2)).toNat.toUInt8 (by omega)
        have huw := u8_wrap h0
        rw [hlen] at hset
        generalize uhR ((D.data.toList.drop (2 * k)).take 2) = ur at *
        replace U := Lib.hid U
        clear hor he
        generalize (psL t n).getD k 0 = q0 at *
        replace hset := Lib.hid hset; replace hst := Lib.hid hst; replace hsz1 := Lib.hid hsz1; replace hlen := Lib.hid hlen; replace huw := Lib.hid huw
        go_wp2_with (go_at_call 76; refine (U.out _).mono ?_; rintro e w3 ⟨rfl, hb3⟩; have hown3 := blk_below hown hb3; have s3 := u_cell hown3 (k := k) (by rw [hsz1.out]; exact hlt); have f3 := fun i => frozen_of_row w3 W0.heap.size i _ _ hown3)
        go_roundw
        case rel => exact ⟨k + 1, t ++ [ur.toNat.toUInt8], by simp [hlen.out], by omega, by go_num, by rw [← hset.out, ← huw.out, ← uRow_set]; exact blk_set hown3 _ _, Lib.hid (by rw [HE.out, hst.out, Option.map_map]; congr 1; funext r; simp), (hb.trans (hb3.mono hsz)).setCell (Nat.le_refl _) _⟩
        case measure => (simp [intOf]; try omega)
      · have hst := bp_stop D.data.toList n k hlt he
        have hR := HN.out (by rw [HE.out, hst]; rfl)
        have h6 : uhE ((D.data.toList.drop (2 * k)).take 2) = 6 := by rcases hor with h | h; exact absurd h.1 he; exact h.1
        rw [h6] at U
        generalize uhR ((D.data.toList.drop (2 * k)).take 2) = ur at *
        replace U := Lib.hid U
        have hRk : Hid (kyV R = .agg #[.int .i64 0, .int .i64 0, .string ⟨#[]⟩, .bool false]) := Lib.hid (by rw [hR]; rfl)
        clear hor he hst hR h6 s1 f1 hown
        have NB := Lib.hid (seqB B0 hb)
        go_wp2_with (go_at_call 76; refine (U.out _).mono ?_; rintro e w3 ⟨rfl, hb3⟩; have q3 := blk_below q hb3; have zf := fun i => frozen_of_row _ w.heap.size i _ _ q3; have zz := fun i => cell_of_row _ _ i _ _ _ q3; have z0 := zz 0; have z1 := zz 1; have z2 := zz 2; have z3 := zz 3; dsimp at z0 z1 z2 z3; clear zz; have NF := Lib.hid (four_below w3 w w.heap.size (.int .i64 0) (.int .i64 0) (.string ⟨#[]⟩) (.bool false) (Nat.le_refl _) (seqB NB.out hb3)); have hfin := Lib.hid (four_set q3 (.int .i64 0) (.int .i64 0) (.string ⟨#[]⟩) (.bool false)))
        generalize hWF : World.setCell _ _ _ = WF
        have hqf : WF.heap[w.heap.size]? = some (.cells #[.int .i64 0, .int .i64 0, .string ⟨#[]⟩, .bool false] 34 (0, 0)) := by rw [← hWF]; exact hfin.out
        have hN : Below w.heap.size w WF := by rw [← hWF]; exact NF.out
        have y := fun i => cell_of_row _ _ i _ _ _ hqf
        have y0 := y 0; have y1 := y 1; have y2 := y 2; have y3 := y 3
        dsimp at y0 y1 y2 y3
        clear y hqf hWF
        refine bodyPost_ret (v := .agg #[.int .i64 0, .int .i64 0, .string ⟨#[]⟩, .bool false]) (by simp [results, Tryd.results60, go_sem, y0, y1, y2, y3]) rfl ?_
        rw [hRk.out]
        exact ⟨rfl, hN⟩
    · obtain rfl : k = n := by omega
      have hR := HS.out t (by rw [HE.out, bp_done]; simp)
      have hcv := u8_list hown hlen
      have hRk : Hid (kyV R = .agg #[.int .i64 15, .int .i64 0, .string (mkS t), .bool cb]) := Lib.hid (by rw [hR]; rfl)
      generalize mkS t = u at *
      have zf := fun i => frozen_of_row _ w.heap.size i _ _ q
      have zz := fun i => cell_of_row _ _ i _ _ _ q
      have z0 := zz 0; have z1 := zz 1; have z2 := zz 2; have z3 := zz 3
      dsimp at z0 z1 z2 z3
      have NF := Lib.hid (four_below wr w w.heap.size (.int .i64 15) (.int .i64 0) (.string u) (.bool cb) (Nat.le_refl _) (seqB B0 hb))
      have hfin := Lib.hid (four_set q (.int .i64 15) (.int .i64 0) (.string u) (.bool cb))
      clear zz q hown hR HE
      go_wp2_with fail
      generalize hWF : World.setCell _ _ _ = WF
      have hqf : WF.heap[w.heap.size]? = some (.cells #[.int .i64 15, .int .i64 0, .string u, .bool cb] 34 (0, 0)) := by rw [← hWF]; exact hfin.out
      have hN : Below w.heap.size w WF := by rw [← hWF]; exact NF.out
      have y := fun i => cell_of_row _ _ i _ _ _ hqf
      have y0 := y 0; have y1 := y 1; have y2 := y 2; have y3 := y 3
      dsimp at y0 y1 y2 y3
      clear y hqf hWF
      refine bodyPost_ret (v := .agg #[.int .i64 15, .int .i64 0, .string u, .bool cb]) (by simp [results, Tryd.results60, go_sem, y0, y1, y2, y3]) rfl ?_
      rw [hRk.out]
      exact ⟨rfl, hN⟩
end Go.Proofs.YtgnhnalaakgamaaDoor
set_option linter.unusedVariables false
set_option linter.unusedSimpArgs false
namespace Go.Proofs.YtgnhnalaakgamaaDoor
open Go.RowKit
/-- From a row on: which is of a name. -/
def kNFrom (l : List UInt8) (k : Nat) : Option KRow := (kTab.drop k).find? fun r => r.2.2.1 == l
theorem kNFrom_step (l : List UInt8) (k : Nat) (hk : k < 13) : kNFrom l k = if (kTab.getD k kr0).2.2.1 = l then some (kTab.getD k kr0) else kNFrom l (k + 1) := by
  unfold kNFrom
  have hk' : k < kTab.length := hk
  rw [List.drop_eq_getElem_cons hk', List.find?_cons]
  have e : kTab.getD k kr0 = kTab[k] := by rw [List.getD, List.getElem?_eq_getElem hk']; rfl
  rw [e]
  by_cases h : (kTab[k]).2.2.1 = l
  · rw [if_pos h, show ((kTab[k]).2.2.1 == l) = true by rw [h]; simp]
  · rw [if_neg h, show ((kTab[k]).2.2.1 == l) = false by simpa using h]
theorem kN_hit {l : List UInt8} {k : Nat} {r : KRow} (h : kNFrom l k = kNamed l) (hk : k < 13) (e : kTab.getD k kr0 = r) (h1 : r.2.2.1 = l) : kNamed l = some r := by
  rw [← h, kNFrom_step l k hk, e, if_pos h1]
theorem kN_miss {l : List UInt8} {k : Nat} {r : KRow} (h : kNFrom l k = kNamed l) (hk : k < 13) (e : kTab.getD k kr0 = r) (h1 : ¬ r.2.2.1 = l) : kNFrom l (k + 1) = kNamed l := by
  rw [← h, kNFrom_step l k hk, e, if_neg h1]
theorem kN_end {l : List UInt8} (h : kNFrom l 13 = kNamed l) : kNamed l = none := by rw [← h]; rfl
theorem pre_iff (l p : List UInt8) : Lib.hasPrefix l p = true ↔ p <+: l := by unfold Lib.hasPrefix; exact List.isPrefixOf_iff_prefix
theorem kyOf_named {l : List UInt8} {r : KRow} (h : kNamed l = some r) : kyOf l = (r.1, r.2.1, ⟨#[]⟩, false) := by unfold kyOf; rw [h]
theorem pre_no {l p : List UInt8} (h : Lib.hasPrefix l p = false) : ¬ p <+: l := fun h2 => by rw [(pre_iff l p).2 h2] at h; cases h
theorem kyOf_p {l : List UInt8} (h : kNamed l = none) (h1 : Lib.hasPrefix l [80, 45] = true) : kyOf l = psOf (l.drop 2) := by
  unfold kyOf; rw [h]; dsimp only; rw [if_pos ((pre_iff _ _).1 h1)]
theorem kyOf_mc {l : List UInt8} (h : kNamed l = none) (h1 : Lib.hasPrefix l [80, 45] = false) (h2 : Lib.hasPrefix l [77, 45, 67, 45] = true) : kyOf l = (3, ctOf (l.drop 2), ⟨#[]⟩, false) := by
  unfold kyOf; rw [h]; dsimp only; rw [if_neg (pre_no h1), if_pos ((pre_iff _ _).1 h2)]
theorem kyOf_m {l : List UInt8} (h : kNamed l = none) (h1 : Lib.hasPrefix l [80, 45] = false) (h2 : Lib.hasPrefix l [77, 45, 67, 45] = false) (h3 : Lib.hasPrefix l [77, 45] = true) : kyOf l = (3, sgOf (l.drop 2), ⟨#[]⟩, false) := by
  unfold kyOf; rw [h]; dsimp only; rw [if_neg (pre_no h1), if_neg (pre_no h2), if_pos ((pre_iff _ _).1 h3)]
theorem kyOf_c {l : List UInt8} (h : kNamed l = none) (h1 : Lib.hasPrefix l [80, 45] = false) (h2 : Lib.hasPrefix l [77, 45, 67, 45] = false) (h3 : Lib.hasPrefix l [77, 45] = false) (h4 : Lib.hasPrefix l [67, 45] = true) : kyOf l = (2, ctOf l, ⟨#[]⟩, false) := by
  unfold kyOf; rw [h]; dsimp only; rw [if_neg (pre_no h1), if_neg (pre_no h2), if_neg (pre_no h3), if_pos ((pre_iff _ _).1 h4)]
theorem kyOf_s {l : List UInt8} (h : kNamed l = none) (h1 : Lib.hasPrefix l [80, 45] = false) (h2 : Lib.hasPrefix l [77, 45, 67, 45] = false) (h3 : Lib.hasPrefix l [77, 45] = false) (h4 : Lib.hasPrefix l [67, 45] = false) : kyOf l = (1, sgOf l, ⟨#[]⟩, false) := by
  unfold kyOf; rw [h]; dsimp only; rw [if_neg (pre_no h1), if_neg (pre_no h2), if_neg (pre_no h3), if_neg (pre_no h4)]
/-- What stands behind two bytes. -/
def rest2 (s : ByteArray) : ByteArray := s.extract 2 s.size
theorem rest2_list (s : ByteArray) : (rest2 s).data.toList = s.data.toList.drop 2 := by
  unfold rest2; rw [ext_list, List.take_of_length_le]; rw [List.length_drop, list_size]; omega
theorem rest2_nil (s : ByteArray) (h : ¬ 2 < s.size) : rest2 s = ⟨#[]⟩ := by
  apply kzero; unfold rest2; rw [ByteArray.size_extract]; omega
/-- The reference's rule for which keys may be. -/
theorem kFind_iff (kind v : Int) : (kFind kind v).isSome = decide ((kind = 4 ∧ (v = 13 ∨ v = 10)) ∨ (5 ≤ kind ∧ kind ≤ 14 ∧ v = 0) ∨ (kind = 14 ∧ v = 1)) := by
  unfold kFind
  rw [Bool.eq_iff_iff, List.find?_isSome, decide_eq_true_iff]
  simp only [kTab, kIs, List.mem_cons, List.not_mem_nil, or_false, exists_eq_or_imp, exists_eq_left, Bool.and_eq_true, beq_iff_eq]
  omega
end Go.Proofs.YtgnhnalaakgamaaDoor
set_option linter.unusedVariables false
set_option linter.unusedSimpArgs false
namespace Go.Proofs.YtgnhnalaakgamaaDoor
open Go.RowKit
theorem may_other2 (kind v : Int) (h1 : kind ≠ 1) (h2 : kind ≠ 2) (h3 : kind ≠ 3) : kmB kind v = decide ((kind = 4 ∧ (v = 13 ∨ v = 10)) ∨ (5 ≤ kind ∧ kind ≤ 14 ∧ v = 0) ∨ (kind = 14 ∧ v = 1)) := by
  rw [may_other kind v h1 h2 h3, kFind_iff]
theorem rm4 (v : Int) : kmB 4 v = (decide (v = 10) || decide (v = 13)) := by
  rw [may_other2 _ _ (by decide) (by decide) (by decide), Bool.eq_iff_iff, decide_eq_true_iff]; simp; try omega
theorem rm14 (v : Int) : kmB 14 v = (decide (v = 0) || decide (v = 1)) := by
  rw [may_other2 _ _ (by decide) (by decide) (by decide), Bool.eq_iff_iff, decide_eq_true_iff]; simp; try omega
theorem rmo (kind v : Int) (h1 : kind ≠ 1) (h2 : kind ≠ 2) (h3 : kind ≠ 3) (h4 : kind ≠ 4) (h14 : kind ≠ 14) : kmB kind v = (decide (5 ≤ kind) && decide (kind ≤ 13) && decide (v = 0)) := by
  rw [may_other2 _ _ h1 h2 h3, Bool.eq_iff_iff, decide_eq_true_iff]; simp; try omega
end Go.Proofs.YtgnhnalaakgamaaDoor
set_option linter.unusedVariables false
set_option linter.unusedSimpArgs false
namespace Go.Proofs.YtgnhnalaakgamaaDoor
open Go.RowKit
theorem conv1 (v : Int) (w : World) (o : Obj) : ∀ dst, Tryd.prog.underlying dst = some .string → (convert 43 dst (.slice (some ⟨w.heap.size + 1, 0, none⟩) 1 1)).run Tryd.prog ((w.alloc o).alloc (Obj.cells #[.int .u8 v] 5)) = .ok (.string (txt [v])) ((w.alloc o).alloc (Obj.cells #[.int .u8 v] 5)) := by
  have h := conv_new (w.alloc o) [v] 1 rfl
  rwa [show (w.alloc o).heap.size = w.heap.size + 1 by simp] at h
theorem conv2 (u v : Int) (w : World) (o : Obj) : ∀ dst, Tryd.prog.underlying dst = some .string → (convert 43 dst (.slice (some ⟨w.heap.size + 1, 0, none⟩) 2 2)).run Tryd.prog ((w.alloc o).alloc (Obj.cells #[.int .u8 u, .int .u8 v] 5)) = .ok (.string (txt [u, v])) ((w.alloc o).alloc (Obj.cells #[.int .u8 u, .int .u8 v] 5)) := by
  have h := conv_new (w.alloc o) [u, v] 2 rfl
  rwa [show (w.alloc o).heap.size = w.heap.size + 1 by simp] at h
/-- What a value is named by the reference. -/
def svN (v : Int) : List UInt8 := if 32 ≤ v then sgN v else ctN v
theorem kTab_row : ∀ r ∈ kTab, kRowOf r.1 r.2.1 = r := by decide
end Go.Proofs.YtgnhnalaakgamaaDoor
