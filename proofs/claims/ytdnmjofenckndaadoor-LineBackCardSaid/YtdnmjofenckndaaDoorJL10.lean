/-
  Joined: Ln15.
-/
import Derived.Test.YtdnmjofenckndaaDoorJL08
import Derived.Deep.Cut
import Derived.Deep.CutRange
import Derived.Deep.QuietTactic
set_option linter.unusedVariables false
set_option linter.unusedSimpArgs false
set_option maxRecDepth 100000
set_option linter.unusedVariables false
set_option linter.unusedSimpArgs false
namespace Go.Proofs.YtdnmjofenckndaaDoor
open Go.RowKit Go.Sort
/-- Three numbers' box. -/
def TwX (w : World) (X : Nat) (q r s : Int) : Prop := w.heap[X]? = some (.cells #[.int .i64 q, .int .i64 r, .int .i64 s] 31 (0, 0))
theorem TwX.below {w w' : World} {X : Nat} {q r s : Int} (h : TwX w X q r s) (hb : Below w.heap.size w w') : TwX w' X q r s := blk_below h hb
theorem TwX.cells {w : World} {X : Nat} {q r s : Int} (h : TwX w X q r s) : w.cell? ⟨X, 0, none⟩ = some (.int .i64 q) ∧ w.cell? ⟨X, 1, none⟩ = some (.int .i64 r) ∧ w.cell? ⟨X, 2, none⟩ = some (.int .i64 s) := ⟨cell_of_row _ _ 0 _ _ _ h, cell_of_row _ _ 1 _ _ _ h, cell_of_row _ _ 2 _ _ _ h⟩
theorem lineback_far (a : Option Addr) (n c : Nat) (x q r s : Int) (w : World) (hT : LnT w) (hl : ¬ n ≤ 100) :
    Calls Tryd.prog 4 #[.agg #[.slice a n c, .int .i64 x], .agg #[.int .i64 q, .int .i64 r, .int .i64 s]] w fun e w' => e = .returned (.bool true) ∧ Below w.heap.size w w' := by
  have B0 := seqB (below_alloc w (.cells #[.slice a n c, .int .i64 x] 24)) (below_alloc _ (.cells #[.int .i64 q, .int .i64 r, .int .i64 s] 31))
  have Z0 : LnX ((w.alloc (.cells #[.slice a n c, .int .i64 x] 24)).alloc (.cells #[.int .i64 q, .int .i64 r, .int .i64 s] 31)) w.heap.size a n c x := LnX.below (heap_alloc_new _ _) (below_alloc _ _)
  have z0 := Z0.cells.1; have z1 := Z0.cells.2
  have LI := Lib.hid fun w => light_ln a n c x false (decide_eq_false hl) w
  have AW := Lib.hid fun w hT => lawake_any w hT
  have HT := Lib.hid hT
  clear hT Z0
  go_enter Tryd.func4, Tryd.ntmps4
  go_wp2_with (first
    | (go_at_call 14; refine (LI.out _).mono ?_; rintro e w1 ⟨rfl, hb⟩; have N1 := Lib.hid (seqB B0 hb); clear hb)
    | (go_at_call 16; refine (AW.out _ (HT.out.below N1.out)).mono ?_; rintro e w2 ⟨rfl, hb⟩; have N2 := Lib.hid (seqB N1.out hb); clear hb))
  go_ret
  exact ⟨rfl, N2.out⟩
theorem lineback_no (L : List (Int × Int)) (a : Option Addr) (n c : Nat) (x q r s : Int) (w : World) (hT : LnT w) (hn : L.length = n) (hl : n ≤ 100) (hno : (decide (0 ≤ x) && decide (x ≤ n) && sgC L) = false) (hs : SgA w a c L) :
    Calls Tryd.prog 4 #[.agg #[.slice a n c, .int .i64 x], .agg #[.int .i64 q, .int .i64 r, .int .i64 s]] w fun e w' => e = .returned (.bool true) ∧ Below w.heap.size w w' := by
  have B0 := seqB (below_alloc w (.cells #[.slice a n c, .int .i64 x] 24)) (below_alloc _ (.cells #[.int .i64 q, .int .i64 r, .int .i64 s] 31))
  have Z0 : LnX ((w.alloc (.cells #[.slice a n c, .int .i64 x] 24)).alloc (.cells #[.int .i64 q, .int .i64 r, .int .i64 s] 31)) w.heap.size a n c x := LnX.below (heap_alloc_new _ _) (below_alloc _ _)
  have z0 := Z0.cells.1; have z1 := Z0.cells.2
  have X0 := Lib.hid Z0
  have LI := Lib.hid fun w => light_ln a n c x true (decide_eq_true hl) w
  have MA := fun (w' : World) (hb : Below w.heap.size w w') => r17_may L a n c x w' hn (by omega) (hs.s.below hb)
  rw [hno] at MA
  replace MA := Lib.hid MA
  have AW := Lib.hid fun w hT => lawake_any w hT
  have HT := Lib.hid hT
  clear hT hs hno Z0
  go_enter Tryd.func4, Tryd.ntmps4
  go_wp2_with (first
    | (go_at_call 14; refine (LI.out _).mono ?_; rintro e w1 ⟨rfl, hb⟩; have N1 := Lib.hid (seqB B0 hb); have z0' := (X0.out.below hb).cells.1; have z1' := (X0.out.below hb).cells.2; clear hb)
    | (go_at_call 15; refine (MA.out _ N1.out).mono ?_; rintro e w2 ⟨rfl, hb⟩; have N2 := Lib.hid (seqB N1.out hb); clear hb)
    | (go_at_call 16; refine (AW.out _ (HT.out.below N2.out)).mono ?_; rintro e w3 ⟨rfl, hb⟩; have N3 := Lib.hid (seqB N2.out hb); clear hb))
  go_ret
  exact ⟨rfl, N3.out⟩
theorem lsy {P : Program} {f : FuncId} {args : Array Value} {w : World} {a n : Nat} {v : Value}
    (h : Calls P f args (w.drewN (a + n)) fun e w' => e = .returned v ∧ w.drewN (a + n) = w') :
    Calls P f args (w.drewN (a + n)) fun e w'' => e = .returned v ∧ ∃ m, w'' = w.drewN (a + m) :=
  h.mono fun _ _ h => ⟨h.1, n, h.2.symm⟩
theorem lsy0 {P : Program} {f : FuncId} {args : Array Value} {w : World} {n : Nat} {v : Value}
    (h : Calls P f args (w.drewN n) fun e w' => e = .returned v ∧ w.drewN n = w') :
    Calls P f args (w.drewN n) fun e w'' => e = .returned v ∧ ∃ m, w'' = w.drewN m :=
  h.mono fun _ _ h => ⟨h.1, n, h.2.symm⟩
/-- Behind a cut the signs come back where they were. -/
theorem back_eq (L : List (Int × Int)) (n f t : Nat) (hn : L.length = n) (hft : f ≤ t) (htn : t ≤ n) : (L.take f ++ L.drop t).take f ++ (L.drop f).take (t - f) ++ (L.take f ++ L.drop t).drop f = L := by
  have h1 : (L.take f).length = f := by rw [List.length_take]; omega
  have e1 : (L.take f ++ L.drop t).take f = L.take f := by
    rw [List.take_append_of_le_length (by omega)]; exact List.take_of_length_le (by omega)
  have e2 : (L.take f ++ L.drop t).drop f = L.drop t := by
    rw [List.drop_append_of_le_length (by omega), List.drop_of_length_le (by omega), List.nil_append]
  rw [e1, e2, List.append_assoc]
  have e3 : (L.drop f).take (t - f) ++ L.drop t = L.drop f := by
    have := List.take_append_drop (t - f) (L.drop f)
    rw [List.drop_drop, show f + (t - f) = t by omega] at this
    exact this
  rw [e3, List.take_append_drop]
set_option maxHeartbeats 16000000 in
theorem lineback_yes (L : List (Int × Int)) (a : Option Addr) (n c p : Nat) (q r s : Int) (w : World) (hT : LnT w) (hn : L.length = n) (hl : n ≤ 100) (hp : p ≤ n) (hok : sgC L = true) (hs : SgA w a c L) :
    Calls Tryd.prog 4 #[.agg #[.slice a n c, .int .i64 (p : Int)], .agg #[.int .i64 q, .int .i64 r, .int .i64 s]] w fun e w' => e = .returned (.bool true) ∧ Below w.heap.size w w' := by
  obtain ⟨W, hW⟩ : ∃ W, (w.alloc (.cells #[.slice a n c, .int .i64 (p : Int)] 24)).alloc (.cells #[.int .i64 q, .int .i64 r, .int .i64 s] 31) = W := ⟨_, rfl⟩
  have B0 : Below w.heap.size w W := by rw [← hW]; exact seqB (below_alloc w (.cells #[.slice a n c, .int .i64 (p : Int)] 24)) (below_alloc _ (.cells #[.int .i64 q, .int .i64 r, .int .i64 s] 31))
  have X0 : Hid (LnX W w.heap.size a n c (p : Int)) := Lib.hid (by rw [← hW]; exact LnX.below (heap_alloc_new _ _) (below_alloc _ _))
  have K0 : Hid (TwX W (w.heap.size + 1) q r s) := Lib.hid (by
    rw [← hW]
    have h := heap_alloc_new (w.alloc (.cells #[.slice a n c, .int .i64 (p : Int)] 24)) (.cells #[.int .i64 q, .int .i64 r, .int .i64 s] 31)
    rw [show (w.alloc (.cells #[.slice a n c, .int .i64 (p : Int)] 24)).heap.size = w.heap.size + 1 by simp] at h
    exact h)
  have M0 := Lib.hid B0
  have z0 := X0.out.cells.1; have z1 := X0.out.cells.2
  have LI := Lib.hid fun w => light_ln a n c (p : Int) true (decide_eq_true hl) w
  have MA := fun (w' : World) (hb : Below w.heap.size w w') => r17_may L a n c (p : Int) w' hn (by omega) (hs.s.below hb)
  rw [show (decide ((0 : Int) ≤ (p : Int)) && decide ((p : Int) ≤ n) && sgC L) = true by rw [hok, decide_eq_true (by omega), decide_eq_true (by omega)]; rfl] at MA
  replace MA := Lib.hid MA
  have HS := Lib.hid fun (w' : World) (hb : Below w.heap.size w w') => SgA.below hs hb
  have HT := Lib.hid hT
  have JN := Lib.hid fun (w' : World) (hb : Below w.heap.size w w') => joinS_ref (fun _ => True) L [] a none c 0 n 0 w' hn rfl (by omega) (by omega) (HS.out w' hb) ⟨fun j hj => absurd hj (Nat.not_lt_zero j), Nat.le_refl _, fun _ => rfl, fun ad e => by cases e⟩
  clear hs hT hok B0
  go_enter Tryd.func4, Tryd.ntmps4
  go_upto_region 3 with (first
    | (go_at_call 14; refine (LI.out _).mono ?_; rintro e w1 ⟨rfl, hb⟩; have M1 := Lib.hid (seqB M0.out hb); have X1 := Lib.hid (X0.out.below hb); have K1 := Lib.hid (K0.out.below hb); have z01 := X1.out.cells.1; have z11 := X1.out.cells.2; clear hb z0 z1 M0 X0 K0 LI)
    | (go_at_call 15; refine (MA.out _ M1.out).mono ?_; rintro e w2 ⟨rfl, hb⟩; have M2 := Lib.hid (seqB M1.out hb); have X2 := Lib.hid (X1.out.below hb); have K2 := Lib.hid (K1.out.below hb); have z02 := X2.out.cells.1; have z12 := X2.out.cells.2; clear hb z01 z11 M1 X1 K1 MA))
  clear hW
  go_cut [5] from 20 to 25 (fun s5 wx => ∃ (X : Nat) (b : Option Addr) (d : Nat), s5 = .pointer (some ⟨X, 0, none⟩) ∧ Hid (LnX wx X b n d (p : Int)) ∧ Hid (OwS wx w.heap.size (.slice b n d) L) ∧ Hid (Below w.heap.size w wx) ∧ Hid (LnX wx w.heap.size a n c (p : Int)) ∧ Hid (TwX wx (w.heap.size + 1) q r s))
  case first =>
    have JN2 := Lib.hid (JN.out w2.drew M2.out.drew)
    have JN3 := Lib.hid fun o => JN.out (w2.alloc o).drew (seqB M2.out (below_alloc w2 o)).drew
    have hH2 : Hid (w.heap.size < w2.drew.heap.size) := Lib.hid (blk_lt X2.out)
    have hH2o : Hid (∀ o, w.heap.size < (w2.alloc o).drew.heap.size) := Lib.hid (fun o => Nat.lt_of_lt_of_le (blk_lt X2.out) (below_alloc w2 o).size)
    have neX : Hid (w2.heap.size ≠ w.heap.size) := Lib.hid (by have := blk_lt X2.out; omega)
    clear JN
    go_region_held3 (fun w' => w'.cell? ⟨w.heap.size, 0, none⟩ = some (.slice a n c) ∧ w'.cell? ⟨w.heap.size, 1, none⟩ = some (.int .i64 (p : Int))) (first | exact ⟨z02, z12⟩ | exact ⟨z03, z13⟩ | exact ⟨(World.cell?_alloc_lt _ _ _ hH2.out).trans z02, (World.cell?_alloc_lt _ _ _ hH2.out).trans z12⟩ | exact ⟨(World.cell?_alloc_lt _ _ _ hH3.out).trans z03, (World.cell?_alloc_lt _ _ _ hH3.out).trans z13⟩ | exact ⟨(farL neX.out).trans z03, (farL neX.out).trans z13⟩ | go_keep)
      (first
        | (go_at_call 22; (with_reducible refine JN2.out.mono ?_); rintro e w3 ⟨b3, d3, rfl, ho, hb⟩; have Y3 := Lib.hid ho; have D3 := Lib.hid ((Below.refl w2.heap.size w2).drew.trans hb); have z03 := (hb.cell (p := ⟨w.heap.size, 0, none⟩) hH2.out).trans z02; have z13 := (hb.cell (p := ⟨w.heap.size, 1, none⟩) hH2.out).trans z12; have hH3 := Lib.hid (Nat.lt_of_lt_of_le hH2.out hb.size); have WAY1 := True.intro; clear ho hb)
        | (go_at_call 22; (with_reducible refine (JN3.out _).mono ?_); rintro e w3 ⟨b3, d3, rfl, ho, hb⟩; have Y3 := Lib.hid ho; have F3 := Lib.hid (blk_below (show (w2.alloc (.cells #[.slice none 0 0, .int .i64 0] 24)).drew.heap[w2.heap.size]? = _ from heap_alloc_new w2 (.cells #[.slice none 0 0, .int .i64 0] 24)) hb); have yf3 := fun i => frozen_of_row _ w2.heap.size i _ _ F3.out; have y03 := cell_of_row _ _ 0 _ _ _ F3.out; have y13 := cell_of_row _ _ 1 _ _ _ F3.out; dsimp at y03 y13; have D3 := Lib.hid (seqB (below_alloc w2 (.cells #[.slice none 0 0, .int .i64 0] 24)) ((Below.refl _ _).drew.trans hb)); have z03 := (hb.cell (p := ⟨w.heap.size, 0, none⟩) (hH2o.out _)).trans ((World.cell?_alloc_lt _ _ _ hH2.out).trans z02); have z13 := (hb.cell (p := ⟨w.heap.size, 1, none⟩) (hH2o.out _)).trans ((World.cell?_alloc_lt _ _ _ hH2.out).trans z12); have hH3 := Lib.hid (Nat.lt_of_lt_of_le (hH2o.out _) hb.size); clear ho hb))
    · go_wp2_with fail
      go_meet
      have ba := below_alloc w3 (.cells #[.slice b3 n d3, .int .i64 (p : Int)] 24)
      have D4 := seqB D3.out ba
      have Y4 : OwS w3 w.heap.size (.slice b3 n d3) L := by have h := Y3.out; rw [List.append_nil] at h; exact h.mono (show w.heap.size ≤ w2.drew.heap.size from M2.out.size)
      exact ⟨w3.heap.size, b3, d3, rfl, Lib.hid (heap_alloc_new _ _), Lib.hid (ows_keep Y4 ba), Lib.hid (seqB M2.out D4), Lib.hid (X2.out.below D4), Lib.hid (K2.out.below D4)⟩
    · go_wp2_with fail
      go_meet
      have hM := seqB M2.out D3.out
      have hO : OwS w3 (w2.heap.size + 1) (.slice b3 n d3) L := by
        have h := Y3.out
        rw [List.append_nil] at h
        exact h.mono (by show _ ≤ (w2.alloc _).heap.size; simp)
      obtain ⟨f1, _, _, f4, f5⟩ := ln_fin (w := w) F3.out hO hM M2.out.size rfl
      have hX : LnX w3 w.heap.size a n c (p : Int) := X2.out.below D3.out
      have hK : TwX w3 (w.heap.size + 1) q r s := K2.out.below D3.out
      refine ⟨w2.heap.size, b3, d3, rfl, Lib.hid f1, Lib.hid (f4.mono (by have := M2.out.size; omega)), Lib.hid f5, Lib.hid ?_, Lib.hid ?_⟩
      · unfold LnX
        rw [Below.heap_setCell _ _ _ _ (Ne.symm neX.out), Below.heap_setCell _ _ _ _ (Ne.symm neX.out)]
        exact hX
      · have hne : w.heap.size + 1 ≠ w2.heap.size := by have := blk_lt K2.out; omega
        unfold TwX
        rw [Below.heap_setCell _ _ _ _ hne, Below.heap_setCell _ _ _ _ hne]
        exact hK
  case rest =>
    obtain ⟨X5, b5, d5, rfl, P5, Y5, M5, E5, K5⟩ := hcut
    clear z02 z12 M2 X2 K2 JN
    have z0 := E5.out.cells.1; have z1 := E5.out.cells.2
    have k0 := K5.out.cells.1; have k1 := K5.out.cells.2.1; have k2 := K5.out.cells.2.2
    obtain ⟨f, hf⟩ : ∃ f, btF n q r = f := ⟨_, rfl⟩
    obtain ⟨t, ht⟩ : ∃ t, btT n q r = t := ⟨_, rfl⟩
    obtain ⟨f2, hf2⟩ : ∃ f2, btF n (p : Int) q = f2 := ⟨_, rfl⟩
    obtain ⟨t2, ht2⟩ : ∃ t2, btT n (p : Int) q = t2 := ⟨_, rfl⟩
    have hbt := bt_le n q r
    rw [hf, ht] at hbt
    obtain ⟨hft, htn⟩ := hbt
    have CU := Lib.hid fun (w' : World) (h : SgA w' a c L) => lw_cut (fun _ => True) L a n c p q r f t w' hn (by omega) hp hf ht h
    have CS := Lib.hid fun (w' : World) (hT : Tabs w') (h : SgA w' a c L) => lw_case (fun _ => True) L a n c p q s f2 t2 w' hn (by omega) hp hf2 ht2 hT h
    go_upto_region 5 with (go_at_call 23; refine (CU.out _ (HS.out _ M5.out)).mono ?_; rintro e w6 ⟨b6, d6, b7, d7, rfl, ho, ho2, hb⟩; have C6 := Lib.hid (ho.mono M5.out.size); have G6 := Lib.hid (ho2.mono M5.out.size); have P6 := Lib.hid (P5.out.below hb); have Y6 := Lib.hid (ows_keep Y5.out hb); have M6 := Lib.hid (seqB M5.out hb); have E6 := Lib.hid (E5.out.below hb); have K6 := Lib.hid (K5.out.below hb); clear ho ho2 hb CU z0 z1 k0 k1 k2 P5 Y5 M5 E5 K5)
    obtain ⟨N, hN⟩ : ∃ N, f + (n - t) = N := ⟨_, rfl⟩
    rw [hN] at C6
    rw [hN]
    obtain ⟨v6, hv6⟩ : ∃ v, w6.alloc (.cells #[.slice b6 N d6, .int .i64 (cutAt f t p : Int)] 24) = v := ⟨_, rfl⟩
    obtain ⟨lx6, lb6⟩ := lnx_new w6 b6 N d6 (cutAt f t p : Int) hv6
    rw [hv6]
    obtain ⟨X6, hX6⟩ : ∃ X, w6.heap.size = X := ⟨_, rfl⟩
    have nex : Hid (X6 ≠ w.heap.size ∧ X6 ≠ w.heap.size + 1 ∧ X6 ≠ X5 ∧ w.heap.size ≤ X6) := Lib.hid (by
      have h1 := blk_lt E6.out; have h2 := blk_lt K6.out; have h3 := blk_lt P6.out; have h4 := M6.out.size
      omega)
    rw [hX6] at lx6
    rw [hX6]
    have C7 := Lib.hid (ows_keep C6.out lb6)
    have G7 := Lib.hid (ows_keep G6.out lb6)
    have P7 := Lib.hid (P6.out.below lb6)
    have Y7 := Lib.hid (ows_keep Y6.out lb6)
    have M7 := Lib.hid (seqB M6.out lb6)
    have E7 := Lib.hid (E6.out.below lb6)
    have K7 := Lib.hid (K6.out.below lb6)
    have Q7 := Lib.hid lx6
    have z0 := E7.out.cells.1
    have k0 := K7.out.cells.1; have k1 := K7.out.cells.2.1
    have x0 := lx6.cells.1; have x1 := lx6.cells.2
    have xf := fun i => frozen_of_row _ X6 i _ _ lx6
    clear C6 G6 P6 Y6 M6 E6 K6 lb6 hv6 hX6 lx6
    have PL1 := Lib.hid fun w => place16_ref n q w
    have PL2 := Lib.hid fun w => place16_ref n r w
    have LO := fun w => lo_ref (plc n q) (plc n r) w
    rw [show (if plc n q < plc n r then plc n q else plc n r) = (f : Int) by
      rw [← hf]; unfold btF
      have h1 : 0 ≤ plc n q := by unfold plc; omega
      have h2 : 0 ≤ plc n r := by unfold plc; omega
      split <;> omega] at LO
    replace LO := Lib.hid LO
    generalize plc n q = pq at *
    generalize plc n r = pr at *
    go_region_held3 (fun w' => w'.cell? ⟨w.heap.size, 0, none⟩ = some (.slice a n c) ∧ w'.cell? ⟨w.heap.size + 1, 0, none⟩ = some (.int .i64 q) ∧ w'.cell? ⟨w.heap.size + 1, 1, none⟩ = some (.int .i64 r)) (first | exact ⟨z0, k0, k1⟩ | exact ⟨(far1 nex.out.1).trans z0, (far1 nex.out.2.1).trans k0, (far1 nex.out.2.1).trans k1⟩ | go_keep)
      (first
        | (go_at_call 25; (with_reducible refine (PL1.out _).mono ?_); rintro e w' ⟨rfl, h⟩; subst h)
        | (go_at_call 25; (with_reducible refine (PL2.out _).mono ?_); rintro e w' ⟨rfl, h⟩; subst h)
        | (go_at_call 24; (with_reducible refine (LO.out _).mono ?_); rintro e w' ⟨rfl, h⟩; subst h))
    have hbf : Below w.heap.size w (v6.setCell ⟨X6, 1, none⟩ (.int .i64 (f : Int))).drew := (M7.out.setCell (p := ⟨X6, 1, none⟩) nex.out.2.2.2 _).drew
    have gC : OwS (v6.setCell ⟨X6, 1, none⟩ (.int .i64 (f : Int))).drew w.heap.size (.slice b6 N d6) (L.take f ++ L.drop t) := by unfold OwS; exact World.ownsRow.drew (own_set C7.out (own_ne_kind C7.out (show v6.heap[X6]? = some (.cells _ 24 (0, 0)) from Q7.out) (by decide)) _)
    have gG : OwS (v6.setCell ⟨X6, 1, none⟩ (.int .i64 (f : Int))).drew w.heap.size (.slice b7 (t - f) d7) ((L.drop f).take (t - f)) := by unfold OwS; exact World.ownsRow.drew (own_set G7.out (own_ne_kind G7.out (show v6.heap[X6]? = some (.cells _ 24 (0, 0)) from Q7.out) (by decide)) _)
    have gY : OwS (v6.setCell ⟨X6, 1, none⟩ (.int .i64 (f : Int))).drew w.heap.size (.slice b5 n d5) L := by unfold OwS; exact World.ownsRow.drew (own_set Y7.out (own_ne_kind Y7.out (show v6.heap[X6]? = some (.cells _ 24 (0, 0)) from Q7.out) (by decide)) _)
    have gP : LnX (v6.setCell ⟨X6, 1, none⟩ (.int .i64 (f : Int))).drew X5 b5 n d5 (p : Int) := by
      unfold LnX; show (World.setCell _ _ _).heap[X5]? = _
      rw [Below.heap_setCell _ _ _ _ (Ne.symm nex.out.2.2.1)]; exact P7.out
    have gE : LnX (v6.setCell ⟨X6, 1, none⟩ (.int .i64 (f : Int))).drew w.heap.size a n c (p : Int) := by
      unfold LnX; show (World.setCell _ _ _).heap[w.heap.size]? = _
      rw [Below.heap_setCell _ _ _ _ (Ne.symm nex.out.1)]; exact E7.out
    have gK : TwX (v6.setCell ⟨X6, 1, none⟩ (.int .i64 (f : Int))).drew (w.heap.size + 1) q r s := by
      unfold TwX; show (World.setCell _ _ _).heap[w.heap.size + 1]? = _
      rw [Below.heap_setCell _ _ _ _ (Ne.symm nex.out.2.1)]; exact K7.out
    have gQ : LnX (v6.setCell ⟨X6, 1, none⟩ (.int .i64 (f : Int))).drew X6 b6 N d6 (f : Int) := blk_set Q7.out 1 _
    clear C7 G7 Y7 P7 M7 E7 K7 Q7 PL1 PL2 LO z0 k0 k1 x0 x1 xf nex
    generalize (v6.setCell ⟨X6, 1, none⟩ (.int .i64 (f : Int))).drew = v7 at *
    have C8 := Lib.hid gC; have G8 := Lib.hid gG; have Y8 := Lib.hid gY; have P8 := Lib.hid gP; have E8 := Lib.hid gE; have K8 := Lib.hid gK; have Q8 := Lib.hid gQ; have M8 := Lib.hid hbf
    have x0 := gQ.cells.1; have x1 := gQ.cells.2
    clear gC gG gY gP gE gK gQ hbf
    have hlN : Hid ((L.take f ++ L.drop t).length = N) := Lib.hid (by rw [List.length_append, List.length_take, List.length_drop]; omega)
    have hlG : Hid (((L.drop f).take (t - f)).length = t - f) := Lib.hid (by rw [List.length_take, List.length_drop]; omega)
    have IN := lw_ins (fun _ => True) (L.take f ++ L.drop t) ((L.drop f).take (t - f)) b6 b7 N d6 (t - f) d7 f v7 hlN.out hlG.out (by omega) (by omega) (ows_slA C8.out) (ows_slA G8.out)
    rw [back_eq L n f t hn hft htn, show f + (t - f) + (N - f) = n by omega] at IN
    replace IN := Lib.hid IN
    obtain ⟨xy, hxy⟩ : ∃ z : Int, (f : Int) + ((t - f : Nat) : Int) = z := ⟨_, rfl⟩
    rw [hxy] at IN
    clear hxy
    go_upto_region 7 with (go_at_call 26; refine IN.out.mono ?_; rintro e w9 ⟨b9, d9, rfl, ho, hb⟩; have I9 := Lib.hid (ho.mono M8.out.size); have Y9 := Lib.hid (ows_keep Y8.out hb); have P9 := Lib.hid (P8.out.below hb); have M9 := Lib.hid (seqB M8.out hb); have E9 := Lib.hid (E8.out.below hb); have K9 := Lib.hid (K8.out.below hb); clear ho hb IN x0 x1 C8 G8 Y8 P8 M8 E8 K8 Q8)
    obtain ⟨v9, hv9⟩ : ∃ v, w9.alloc (.cells #[.slice b9 n d9, .int .i64 xy] 24) = v := ⟨_, rfl⟩
    obtain ⟨lx9, lb9⟩ := lnx_new w9 b9 n d9 xy hv9
    rw [hv9]
    obtain ⟨X9, hX9⟩ : ∃ X, w9.heap.size = X := ⟨_, rfl⟩
    rw [hX9] at lx9
    rw [hX9]
    have Ia := Lib.hid (ows_keep I9.out lb9)
    have Ya := Lib.hid (ows_keep Y9.out lb9)
    have Pa := Lib.hid (P9.out.below lb9)
    have Ma := Lib.hid (seqB M9.out lb9)
    have Ea := Lib.hid (E9.out.below lb9)
    have Ka := Lib.hid (K9.out.below lb9)
    have Ra := Lib.hid lx9
    have z0 := Ea.out.cells.1; have z1 := Ea.out.cells.2
    have k0 := Ka.out.cells.1; have k1 := Ka.out.cells.2.1; have k2 := Ka.out.cells.2.2
    clear I9 Y9 P9 M9 E9 K9 lb9 hv9 hX9 lx9
    go_upto_region 8 with (go_at_call 27; refine (CS.out _ (HT.out.below Ma.out).1 (HS.out _ Ma.out)).mono ?_; rintro e wb ⟨bb, db, rfl, ho, hb⟩; have Ub := Lib.hid (ho.mono Ma.out.size); have Ib := Lib.hid (ows_keep Ia.out hb); have Yb := Lib.hid (ows_keep Ya.out hb); have Pb := Lib.hid (Pa.out.below hb); have Mb := Lib.hid (seqB Ma.out hb); have Eb := Lib.hid (Ea.out.below hb); have Rb := Lib.hid (Ra.out.below hb); clear ho hb CS z0 z1 k0 k1 k2 Ia Ya Pa Ma Ea Ka Ra)
    obtain ⟨vb, hvb⟩ : ∃ v, wb.alloc (.cells #[.slice bb n db, .int .i64 (t2 : Int)] 24) = v := ⟨_, rfl⟩
    obtain ⟨lxb, lbb⟩ := lnx_new wb bb n db (t2 : Int) hvb
    rw [hvb]
    obtain ⟨Xb, hXb⟩ : ∃ X, wb.heap.size = X := ⟨_, rfl⟩
    rw [hXb] at lxb
    rw [hXb]
    have Uc := Lib.hid (ows_keep Ub.out lbb)
    have Ic := Lib.hid (ows_keep Ib.out lbb)
    have Yc := Lib.hid (ows_keep Yb.out lbb)
    have Pc := Lib.hid (Pb.out.below lbb)
    have Mc := Lib.hid (seqB Mb.out lbb)
    have Ec := Lib.hid (Eb.out.below lbb)
    have Rc := Lib.hid (Rb.out.below lbb)
    have Tc := Lib.hid lxb
    clear Ub Ib Yb Pb Mb Eb Rb lbb hvb hXb lxb
    have LE := Lib.hid fun v w => let_up v w
    have hH := Lib.hid (And.intro hn hl)
    go_wp2_with fail
    go_loopw [10] (fun iv wr => ∃ k : Nat, k ≤ n ∧ iv = .int .i64 (k : Int) ∧ Hid (Below vb.heap.size vb wr)) (fun iv _ => n - (intOf iv).toNat)
    case atStart => exact ⟨0, Nat.zero_le _, rfl, Lib.hid (Below.refl _ _)⟩
    case round =>
      obtain ⟨k, hk, rfl, HB⟩ := hrel
      have e0 := (Ec.out.below HB.out).cells.1; have e1 := (Ec.out.below HB.out).cells.2
      have t0 := (Tc.out.below HB.out).cells.1
      by_cases hlt : k < n
      · have hk1 : (k : Int) < n := by omega
        have hk0 : (0 : Int) ≤ k := by omega
        obtain ⟨bq, oq, rfl, hbq, c1, c2⟩ := (HS.out _ (seqB Mc.out HB.out)).s k (by have := hH.out.1; omega)
        obtain ⟨bu, ou, hbu, hbq2, d1, d2⟩ := (ows_sg (ows_keep Uc.out HB.out)) k (by rw [cs_len]; have := hH.out.1; omega)
        rw [cs_at _ _ _ _ _ (by have := hH.out.1; omega)] at d1 d2
        have hg := ch_gr L s k
        obtain ⟨v, u, hvu⟩ : ∃ v u, L.getD k (0, 0) = (v, u) := ⟨_, _, rfl⟩
        rw [hvu] at c1 c2 d1 d2 hg
        dsimp at c1 c2
        obtain ⟨v', hv', hvv⟩ : ∃ v', wr.cell? ⟨bu, ou + k * 2, none⟩ = some (.int .i64 v') ∧ grM v' = grM v := by
          refine ⟨_, d1, ?_⟩
          split
          · exact hg
          · rfl
        have d2' : wr.cell? ⟨bu, ou + k * 2 + 1, none⟩ = some (.int .i64 u) := by
          rw [d2]; split <;> rfl
        subst hbu
        clear d1 d2 hg hvu
        have L1 := fun w => LE.out v' w
        have L2 := fun w => LE.out v w
        rw [hvv] at L1
        generalize grM v = gv at *
        replace L1 := Lib.hid L1; replace L2 := Lib.hid L2
        clear hvv
        go_upto_region 11 with fail
        go_quiet ((first | (go_at_call 28; with_reducible exact lsy0 (L1.out _)) | (go_at_call 28; with_reducible exact lsy0 (L2.out _))))
        go_wp2_with fail
        go_roundw
        case rel => exact ⟨k + 1, by omega, by go_num, Lib.hid (drewN_below HB.out _)⟩
        case measure => (simp [intOf]; try omega)
      · obtain rfl : k = n := by omega
        have hk1 : ¬ (k : Int) < k := by omega
        obtain ⟨L1, x1, ok1, hn1, S1, _⟩ := swap_both L a k c p hH.out.1 hH.out.2 hp
        obtain ⟨L2, x2, ok2, hn2, S2, _⟩ := words_both L a k c p hH.out.1 hH.out.2 hp
        replace S1 := Lib.hid S1; replace S2 := Lib.hid S2
        have AW := Lib.hid fun w hT => lawake_any w hT
        have SM := Lib.hid fun (w' : World) (b b' : Option Addr) (d d' : Nat) (h : SgA w' b d L) (h' : SgA w' b' d' L) => (by
          have hh := sgsame_ref L L b b' d d' w' (by omega) (by omega) h.s h'.s
          rw [hH.out.1, decide_eq_true rfl] at hh
          exact hh : Calls Tryd.prog 29 #[.slice b k d, .slice b' k d'] w' fun e w'' => e = .returned (.bool true) ∧ Below w'.heap.size w' w'')
        have SL := Lib.hid fun (w' : World) (b b' : Option Addr) (d d' : Nat) (h : SgA w' b d L) (h' : SgA w' b' d' L) => r16_same L L b b' k k d d' (p : Int) (p : Int) w' hH.out.1 hH.out.1 (by have := hH.out.2; omega) (by have := hH.out.2; omega) h.s h'.s rfl rfl
        have Id := Lib.hid (ows_slA (ows_keep Ic.out HB.out))
        have Yd := Lib.hid (ows_slA (ows_keep Yc.out HB.out))
        have Pd := Lib.hid (Pc.out.below HB.out)
        have Md := Lib.hid (seqB Mc.out HB.out)
        have Ed := Lib.hid (Ec.out.below HB.out)
        have Rd := Lib.hid (Rc.out.below HB.out)
        clear Ic Yc Pc Mc Ec Rc Tc Uc HB LE t0 hn1 hn2
        go_upto_region 15 with (first
          | (go_at_call 17; refine (S1.out _ (HS.out _ Md.out)).mono ?_; rintro e we ⟨be, de, rfl, hs, hb⟩; have Ie := Lib.hid (SgA.below Id.out hb); have Ye := Lib.hid (SgA.below Yd.out hb); have Pe := Lib.hid (Pd.out.below hb); have Me := Lib.hid (seqB Md.out hb); have Ee := Lib.hid (Ed.out.below hb); have Re := Lib.hid (Rd.out.below hb); have f0 := Ee.out.cells.1; have f1 := Ee.out.cells.2; clear hs hb Id Yd Pd Md Ed Rd S1 e0 e1)
          | (go_at_call 19; refine (S2.out _ (HT.out.below Me.out).1 (HS.out _ Me.out)).mono ?_; rintro e wf ⟨bf, df, rfl, hs, hb⟩; have If := Lib.hid (SgA.below Ie.out hb); have Yf := Lib.hid (SgA.below Ye.out hb); have Pf := Lib.hid (Pe.out.below hb); have Mf := Lib.hid (seqB Me.out hb); have Ef := Lib.hid (Ee.out.below hb); have Rf := Lib.hid (Re.out.below hb); clear hs hb Ie Ye Pe Me Ee Re S2 f0 f1))
        go_wp2_with (first
          | (go_at_call 16; refine (AW.out _ (HT.out.below Mf.out)).mono ?_; rintro e wg ⟨rfl, hb⟩; have Ig := Lib.hid (SgA.below If.out hb); have Yg := Lib.hid (SgA.below Yf.out hb); have Pg := Lib.hid (Pf.out.below hb); have Mg := Lib.hid (seqB Mf.out hb); have Eg := Lib.hid (Ef.out.below hb); have Rg := Lib.hid (Rf.out.below hb); have f0 := Eg.out.cells.1; have f1 := Eg.out.cells.2; have r0 := Rg.out.cells.1; have q0 := Pg.out.cells.1; have q1 := Pg.out.cells.2; clear hb If Yf Pf Mf Ef Rf AW)
          | (go_at_call 29; (with_reducible refine (SM.out _ _ _ _ _ Ig.out (HS.out _ Mg.out)).mono ?_); rintro e wh ⟨rfl, hb⟩; have Yh := Lib.hid (SgA.below Yg.out hb); have Ph := Lib.hid (Pg.out.below hb); have Mh := Lib.hid (seqB Mg.out hb); have Eh := Lib.hid (Eg.out.below hb); have g0 := Eh.out.cells.1; have g1 := Eh.out.cells.2; have h0 := Ph.out.cells.1; have h1 := Ph.out.cells.2; clear hb Ig Yg Pg Mg Eg Rg SM f0 f1 r0 q0 q1)
          | (go_at_call 21; (with_reducible refine (SL.out _ _ _ _ _ (HS.out _ Mh.out) Yh.out).mono ?_); rintro e wi ⟨rfl, hb⟩; have Mi := Lib.hid (seqB Mh.out hb); clear hb))
        go_ret
        exact ⟨rfl, Mi.out⟩
theorem lineback_any (y : SgArg) (x q r s : Int) (w : World) (hT : LnT w) (hy : y.In w w.heap.size) :
    Calls Tryd.prog 4 #[.agg #[.slice y.a y.l.length y.c, .int .i64 x], .agg #[.int .i64 q, .int .i64 r, .int .i64 s]] w fun e w' => e = .returned (.bool true) ∧ Below w.heap.size w w' := by
  have hs : SgA w y.a y.c y.l := hy.1.mono (fun _ _ => trivial)
  by_cases hl : y.l.length ≤ 100
  · cases hm : (decide (0 ≤ x) && decide (x ≤ y.l.length) && sgC y.l) with
    | false => exact lineback_no y.l y.a _ y.c x q r s w hT rfl hl hm hs
    | true =>
      simp only [Bool.and_eq_true, decide_eq_true_eq] at hm
      obtain ⟨⟨h1, h2⟩, h3⟩ := hm
      obtain ⟨p, rfl⟩ := Int.eq_ofNat_of_zero_le h1
      exact lineback_yes y.l y.a _ y.c p q r s w hT rfl hl (by omega) h3 hs
  · exact lineback_far y.a _ y.c x q r s w hT hl
end Go.Proofs.YtdnmjofenckndaaDoor
