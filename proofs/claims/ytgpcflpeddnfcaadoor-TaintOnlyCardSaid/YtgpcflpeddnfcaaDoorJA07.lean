/-
  Joined: Ta9 Ta10 Ta11 Args.
-/
import Derived.Test.YtgpcflpeddnfcaaDoorJA04
import Derived.Test.YtgpcflpeddnfcaaDoorJA06
import Derived.Deep.Slices
import Derived.Deep.Fields
import Derived.ChangeSame
import Derived.Lib.SmallJoins
import Derived.Lib.LaidTab
import Derived.Lib.LaidU8
set_option linter.unusedVariables false
set_option linter.unusedSimpArgs false
set_option maxRecDepth 100000
set_option linter.unusedVariables false
set_option linter.unusedSimpArgs false
namespace Go.Proofs.YtgpcflpeddnfcaaDoor
open Go.RowKit
def tnS : List ByteArray := [⟨#[116, 121, 112, 101, 100]⟩, ⟨#[113, 117, 111, 116, 101, 100]⟩, ⟨#[112, 97, 115, 116, 101, 100]⟩, ⟨#[111, 108, 100]⟩, ⟨#[111, 102, 102, 101, 114, 101, 100]⟩, ⟨#[112, 114, 111, 109, 112, 116]⟩]
/-- The labels' names lie in memory. -/
structure TN (w : World) : Prop where
  cell : ∀ i, i < 6 → w.cell? ⟨2, i, none⟩ = some (.string (tnS.getD i ⟨#[]⟩))
  lt : 2 < w.heap.size
theorem TN.below {w w' : World} (h : TN w) (hb : Below w.heap.size w w') : TN w' :=
  ⟨fun i hi => (hb.cell (p := ⟨2, i, none⟩) h.lt).trans (h.cell i hi), Nat.lt_of_lt_of_le h.lt hb.size⟩
/-- The words after k labels. -/
def twK (k : Nat) : List ByteArray := if k = 0 then [decB 2] else if k ≤ 2 then [decB 2, tnS.getD 0 ⟨#[]⟩, decB 1] else [decB 2, tnS.getD 0 ⟨#[]⟩, decB 1, tnS.getD 2 ⟨#[]⟩, decB 1]
def tdS : ByteArray := ⟨#[100, 97, 110, 103, 101, 114]⟩
def tlS : ByteArray := ⟨#[108, 111, 111, 107, 115]⟩
def twS : ByteArray := ⟨#[119, 105, 108, 100]⟩
def twA : List ByteArray := [decB 2, tnS.getD 0 ⟨#[]⟩, decB 1, tnS.getD 2 ⟨#[]⟩, decB 1, tdS, decB 1, twS, decB 1]
def twT : ByteArray := ⟨#[50, 32, 116, 121, 112, 101, 100, 32, 49, 32, 112, 97, 115, 116, 101, 100, 32, 49, 32, 100, 97, 110, 103, 101, 114, 32, 49, 32, 119, 105, 108, 100, 32, 49]⟩
theorem twT_ok : (⟨(joK ⟨#[32]⟩ twA twA.length).toArray⟩ : ByteArray) = twT := by decide +kernel
theorem twA_sz : ∀ i, (twA.getD i ⟨#[]⟩).size ≤ 1000000 := fun i => by
  by_cases h : i < 9
  · have : ∀ j : Fin 9, (twA.getD j.val ⟨#[]⟩).size ≤ 1000000 := by decide +kernel
    exact this ⟨i, h⟩
  · rw [List.getD, List.getElem?_eq_none (by show 9 ≤ i; omega)]; decide
theorem own_sti {w : World} {B : Nat} {v : Value} {E : List ByteArray} (h : w.ownsRow B 9 1 v E.length (E.map Value.string)) (hE : 0 < E.length) : ∃ a c, v = .slice a E.length c ∧ E.length ≤ c ∧ StI w a E := by
  rcases h.2 with ⟨rfl, h0⟩ | ⟨g, cap, cur, rfl, hBg, hg, r⟩
  · omega
  · refine ⟨_, cap, rfl, ?_, fun j hj => ⟨g, 0, rfl, blk_lt hg, ?_⟩⟩
    · exact r.1
    · rw [Nat.zero_add, h.cellAt j (by omega), List.getElem?_map, List.getD, List.getElem?_eq_getElem hj]; rfl
def taR11 : Array Value := #[.int .i64 2, .int .i64 1, .int .i64 0, .int .i64 1, .int .i64 0, .int .i64 0, .int .i64 0, .int .i64 1, .int .i64 0, .int .i64 1, .int .i64 1]
def twN (k : Nat) : Int := if k = 0 then 1 else if k = 2 then 1 else 0
theorem tw_idx (k : Nat) (h : k < 6) (w : World) : (Instr.index 147 (.agg #[.int .i64 1, .int .i64 0, .int .i64 1, .int .i64 0, .int .i64 0, .int .i64 0]) (.int .i64 (k : Int))).run Tryd.prog w = .ok (.int .i64 (twN k)) w := by
  rcases (show k = 0 ∨ k = 1 ∨ k = 2 ∨ k = 3 ∨ k = 4 ∨ k = 5 by omega) with rfl | rfl | rfl | rfl | rfl | rfl <;> kernel_rfl
/-- One label. -/
theorem tw_step (k B P : Nat) (w : World) (h : WdS B P (twK k) w) (hk : k < 6) :
    Calls Tryd.prog 152 #[.string (tnS.getD k ⟨#[]⟩), .int .i64 (twN k), .pointer (some ⟨P, 0, none⟩)] w fun e w' => e = .returned (.tuple #[]) ∧ WdS B P (twK (k + 1)) w' ∧ KeW B P w w' := by
  rcases (show k = 0 ∨ k = 2 ∨ (k = 1 ∨ k = 3 ∨ k = 4 ∨ k = 5) by omega) with rfl | rfl | hk'
  · exact txt1_yes _ 1 B P (twK 0) w h (by decide) (by decide) (by decide) (by decide)
  · exact txt1_yes _ 1 B P (twK 2) w h (by decide) (by decide) (by decide) (by decide)
  · have e1 : twN k = 0 := by unfold twN; rw [if_neg (by omega), if_neg (by omega)]
    have e2 : twK (k + 1) = twK k := by rcases hk' with rfl | rfl | rfl | rfl <;> rfl
    rw [e1, e2]
    refine (txt1_no _ P w).mono ?_
    rintro e w' ⟨rfl, rfl⟩
    exact ⟨rfl, h, KeW.refl _ _ _⟩
set_option maxHeartbeats 4000000 in
theorem ttext_aw (w : World) (hT : TN w) : Calls Tryd.prog 110 #[.agg taR11] w fun e w' => e = .returned (.string twT) ∧ Below w.heap.size w w' := by
  have HT := Lib.hid hT
  have DC := Lib.hid fun (w : World) => dec_any 2 w (by decide) (by decide)
  have hmf : ∀ (fn : Fn) (first cap : Array Value) (w : World), (Instr.makeFunc fn first cap).run Tryd.prog w = .ok (.func fn first cap) w := fun _ _ _ _ => rfl
  have B1 := below_alloc w (.cells taR11 149)
  have R1 := heap_alloc_new w (.cells taR11 149)
  obtain ⟨w1, hw1⟩ : ∃ W, w.alloc (.cells taR11 149) = W := ⟨_, rfl⟩
  rw [hw1] at B1 R1
  unfold taR11 at *
  have x0 := cell_of_row _ _ 0 _ _ _ R1
  dsimp at x0
  have HB1 := Lib.hid B1
  have HR1 := Lib.hid R1
  clear hT B1 R1
  go_enter Tryd.func110, Tryd.ntmps110
  go_upto_region 1 with fail
  go_upto_region 3 with (go_at_call 95; refine (DC.out _).mono ?_; rintro e w2 ⟨rfl, hb2⟩; have B2 := Lib.hid (seqB HB1.out hb2); have R2 := Lib.hid (blk_below HR1.out hb2); clear hb2)
  have A1 := below_alloc w2 (.cells #[.string ⟨(decS 2).toArray⟩] 9)
  have A2 := below_alloc (w2.alloc (.cells #[.string ⟨(decS 2).toArray⟩] 9)) (.cells #[.slice (some ⟨w2.heap.size, 0, none⟩) 1 1] 135)
  have h3 := heap_alloc_new w2 (.cells #[.string ⟨(decS 2).toArray⟩] 9)
  have h4 := heap_alloc_new (w2.alloc (.cells #[.string ⟨(decS 2).toArray⟩] 9)) (.cells #[.slice (some ⟨w2.heap.size, 0, none⟩) 1 1] 135)
  have hz3 : (w2.alloc (.cells #[.string ⟨(decS 2).toArray⟩] 9)).heap.size = w2.heap.size + 1 := by simp
  rw [hz3] at h4
  have h5 := blk_below h3 A2
  have A3 := seqB A1 A2
  obtain ⟨w4, hw4⟩ : ∃ W, (w2.alloc (.cells #[.string ⟨(decS 2).toArray⟩] 9)).alloc (.cells #[.slice (some ⟨w2.heap.size, 0, none⟩) 1 1] 135) = W := ⟨_, rfl⟩
  rw [hw4] at h4 h5 A3 ⊢
  have R4 := blk_below R2.out A3
  have N4 := Lib.hid (seqB B2.out A3)
  have W4 : Hid (WdS w2.heap.size (w2.heap.size + 1) (twK 0) w4) := Lib.hid ⟨⟨_, h4, rfl, .inr ⟨w2.heap.size, 1, #[.string ⟨(decS 2).toArray⟩], rfl, Nat.le_refl _, h5, Nat.le_refl _, by decide, rfl, rfl⟩⟩, A3.size⟩
  have hle1 : w.heap.size + 1 ≤ w2.heap.size := by have := B2.out.size; have := blk_lt R2.out; omega
  have hr := fun i => cell_of_row _ _ i _ _ _ R4
  have r1 := hr 1; have r2 := hr 2; have r3 := hr 3; have r4 := hr 4; have r5 := hr 5; have r6 := hr 6
  dsimp at r1 r2 r3 r4 r5 r6
  have HR4 := Lib.hid R4
  obtain ⟨P, hP⟩ : ∃ P, w2.heap.size + 1 = P := ⟨_, rfl⟩
  rw [hP] at W4 ⊢
  have HP1 : Hid (w.heap.size < P) := Lib.hid (by omega)
  have HP2 : Hid (w.heap.size < w2.heap.size) := Lib.hid (by omega)
  clear A1 A2 h3 h4 hz3 h5 A3 hw4 R4 B2 R2 hr hle1 hP x0 HB1 HR1 hw1 DC
  generalize w2.heap.size = Bb at *
  go_wp2
  have hix0 : Hid (∀ (k : Nat), k < 6 → ∀ w, (Instr.index 147 (.agg #[.int .i64 1, .int .i64 0, .int .i64 1, .int .i64 0, .int .i64 0, .int .i64 0]) (.int .i64 (k : Int))).run Tryd.prog w = .ok (.int .i64 (twN k)) w) := Lib.hid fun k h w => tw_idx k h w
  clear r1 r2 r3 r4 r5 r6
  go_loopw [14] (fun iv wr => ∃ k : Nat, k ≤ 6 ∧ iv = .int .i64 (k : Int) ∧ Hid (WdS Bb P (twK k) wr) ∧ Hid (Below w.heap.size w wr) ∧ Hid (wr.heap[w.heap.size]? = some (.cells taR11 149 (0, 0)))) (fun iv _ => 6 - (intOf iv).toNat)
  case atStart => exact ⟨0, by omega, rfl, W4, N4, HR4⟩
  case round =>
    obtain ⟨k, hk, rfl, hW, hb, hR⟩ := hrel
    by_cases hlt : k < 6
    · have hk1 : (k : Int) < 6 := by omega
      have hk0 : (0 : Int) ≤ k := by omega
      have hix := hix0.out k hlt
      have cn := (HT.out.below hb.out).cell k hlt
      have ST := Lib.hid (tw_step k Bb P wr hW.out hlt)
      obtain ⟨u, hu⟩ : ∃ u, tnS.getD k ⟨#[]⟩ = u := ⟨_, rfl⟩
      obtain ⟨n, hn⟩ : ∃ n, twN k = n := ⟨_, rfl⟩
      rw [hu] at cn ST
      rw [hn] at hix ST
      clear hu hn
      go_wp2_with (go_at_call 152; refine ST.out.mono ?_; rintro e w5 ⟨rfl, hW5, hK5⟩; have W5 := Lib.hid hW5; have N5 := Lib.hid (hb.out.trans (hK5.below (Nat.le_of_lt HP1.out) (Nat.le_of_lt HP2.out))); have R5 := Lib.hid ((hK5.block _ HP2.out (Nat.ne_of_lt HP1.out)).trans hR.out); clear hW5 hK5)
      go_roundw
      case rel => exact ⟨k + 1, by omega, by go_num, W5, N5, R5⟩
      case measure => (simp [intOf]; try omega)
    · obtain rfl : k = 6 := by omega
      have AD := Lib.hid fun (s : ByteArray) (E : List ByteArray) (wx : World) (h : WdS Bb P E wx) (hE : E.length ≤ 1000) => txt1_yes s 1 Bb P E wx h (by decide) (by decide) (by decide) hE
      have NO := Lib.hid fun (s : ByteArray) (wx : World) => txt1_no s P wx
      have hr := fun i => cell_of_row _ _ i _ _ _ hR.out
      unfold taR11 at hr
      have r7 := hr 7; have r8 := hr 8; have r9 := hr 9
      dsimp at r7 r8 r9
      have JN := Lib.hid fun (a : Option Addr) (c : Nat) (wx : World) (h : StI wx a twA) (hc : twA.length ≤ c) => join_any ⟨#[32]⟩ twA a c wx (by decide) (by decide) twA_sz (by decide) (by decide) hc h
      clear hr
      go_upto_region 9 with (go_at_call 152; refine (AD.out _ _ _ hW.out (by decide)).mono ?_; rintro e w5 ⟨rfl, hW5, hK5⟩; have W5 := Lib.hid hW5; have N5 := Lib.hid (hb.out.trans (hK5.below (Nat.le_of_lt HP1.out) (Nat.le_of_lt HP2.out))); have R5 := Lib.hid ((hK5.block _ HP2.out (Nat.ne_of_lt HP1.out)).trans hR.out); have s8 := cell_of_row _ _ 8 _ _ _ R5.out; have s9 := cell_of_row _ _ 9 _ _ _ R5.out; unfold taR11 at s8 s9; dsimp at s8 s9; clear hW5 hK5 r7 r8 r9)
      go_upto_region 10 with (go_at_call 152; refine (NO.out _ _).mono ?_; rintro e w6 ⟨rfl, rfl⟩)
      go_upto_region 11 with (go_at_call 152; refine (AD.out _ _ _ W5.out (by decide)).mono ?_; rintro e w7 ⟨rfl, hW7, hK7⟩; have W7 := Lib.hid hW7; have N7 := Lib.hid (N5.out.trans (hK7.below (Nat.le_of_lt HP1.out) (Nat.le_of_lt HP2.out))); clear hW7 hK7 s8 s9)
      have W8 : WdS Bb P twA w7 := W7.out
      obtain ⟨v, hv, ho⟩ := W8.ex
      obtain ⟨a, c, rfl, hc, hst⟩ := own_sti ho (by decide)
      have cP := cell_of_row _ _ 0 _ _ _ hv
      dsimp at cP
      have JJ := JN.out a c w7 hst hc
      rw [twT_ok] at JJ
      rw [show twA.length = 9 from rfl] at cP JJ
      replace JJ := Lib.hid JJ
      clear hv ho hst hc W8 W7
      go_wp2_with (go_at_call 98; refine JJ.out.mono ?_; rintro e w8 ⟨rfl, hb8⟩; have N8 := Lib.hid (N7.out.trans (hb8.mono N7.out.size)); clear hb8)
      go_ret
      exact ⟨rfl, N8.out⟩
end Go.Proofs.YtgpcflpeddnfcaaDoor
set_option linter.unusedVariables false
set_option linter.unusedSimpArgs false
namespace Go.Proofs.YtgpcflpeddnfcaaDoor
open Go.RowKit
def teS : List (Int × Int) := [(10, 2), (10, 0)]
theorem ta_any1 : anyW taS = true := by
  show (wdB (97, 0) || (wdB (27, 2) || false)) = true
  rw [ta_facts.2.2.2.2.1, ta_facts.2.2.2.2.2]; rfl
theorem ta_any2 : anyW [(97, 0)] = false := by
  show (wdB (97, 0) || false) = false
  rw [ta_facts.2.2.2.2.1]; rfl
theorem ta_only : onL [2, 3] taS = [(27, 2)] := by decide +kernel
theorem ta_ends : enK teS 2 = [0] := by decide +kernel
theorem ta_cut (S : Nat) (w : World) : (Instr.slice 28 (.slice (some ⟨S, 0, none⟩) 2 2) none (some (.int .i64 1)) none).run Tryd.prog w = .ok (.slice (some ⟨S, 0, none⟩) 1 2) w := by
  have h := run_cutH w (some ⟨S, 0, none⟩) 2 2 1 (by decide)
  rw [if_neg (by decide)] at h
  exact h
theorem take1 {w : World} {a : Option Addr} (h : Signs w a taS) : Signs w a [(97, 0)] := fun i hi => by
  obtain rfl : i = 0 := by simp at hi; omega
  exact h 0 (by decide)
theorem row_new2 (w : World) : Row (w.alloc (.cells #[.int .i64 2, .int .i64 3] 3)) (some ⟨w.heap.size, 0, none⟩) [2, 3] := fun j hj => by
  refine ⟨_, 0, rfl, ?_, by simp⟩
  rcases (show j = 0 ∨ j = 1 by simp at hj; omega) with rfl | rfl <;> (rw [World.cell?_alloc_new]; rfl)
set_option maxHeartbeats 4000000 in
theorem tawake_any (w : World) (hT : Tabs w) (hN : TN w) : Calls Tryd.prog 56 #[] w fun e w' => e = .returned (.bool true) ∧ Below w.heap.size w w' := by
  have HT := Lib.hid hT
  have hN' := Lib.hid hN
  have B0 := below_alloc w (.cells #[.int .i64 97, .int .i64 0, .int .i64 27, .int .i64 2] 70)
  have S0 : Signs (w.alloc (.cells #[.int .i64 97, .int .i64 0, .int .i64 27, .int .i64 2] 70)) (some ⟨w.heap.size, 0, none⟩) taS := signs_new w taS _
  obtain ⟨W0, hW0⟩ : ∃ W0, w.alloc (.cells #[.int .i64 97, .int .i64 0, .int .i64 27, .int .i64 2] 70) = W0 := ⟨_, rfl⟩
  rw [hW0] at B0 S0
  have OF := Lib.hid (taof_aw (some ⟨w.heap.size, 0, none⟩) 2 W0 (hT.below B0) S0)
  have HB0 := Lib.hid B0
  have HS0 := Lib.hid S0
  clear hT hN B0 S0
  go_enter Tryd.func56, Tryd.ntmps56
  go_upto_region 3 with (go_at_call 109; refine OF.out.mono ?_; rintro e w1 ⟨rfl, hb1⟩; have B1 := Lib.hid (seqB HB0.out hb1); have S1 := Lib.hid (HS0.out.below hb1); clear hb1)
  have A1 := below_alloc w1 (.cells taR11 149)
  have R1 := heap_alloc_new w1 (.cells taR11 149)
  unfold taR11 at A1 R1
  obtain ⟨w2, hw2⟩ : ∃ W, w1.alloc (.cells #[.int .i64 2, .int .i64 1, .int .i64 0, .int .i64 1, .int .i64 0, .int .i64 0, .int .i64 0, .int .i64 1, .int .i64 0, .int .i64 1, .int .i64 1] 149) = W := ⟨_, rfl⟩
  rw [hw2] at A1 R1 ⊢
  obtain ⟨X, hX⟩ : ∃ X, w1.heap.size = X := ⟨_, rfl⟩
  have B2 := Lib.hid (seqB B1.out A1)
  have S2 := Lib.hid (S1.out.below A1)
  rw [hX] at R1 ⊢
  have hr := fun i => cell_of_row _ _ i _ _ _ R1
  have r0 := hr 0; have r1 := hr 1; have r2 := hr 2; have r3 := hr 3; have r4 := hr 4; have r5 := hr 5; have r6 := hr 6; have r7 := hr 7; have r8 := hr 8; have r9 := hr 9; have r10 := hr 10
  dsimp at r0 r1 r2 r3 r4 r5 r6 r7 r8 r9 r10
  have TX := Lib.hid fun (w' : World) (hb : Below w.heap.size w w') => ttext_aw w' (hN'.out.below hb)
  unfold twT at TX
  have SY := Lib.hid fun (w' : World) (hb : Below w.heap.size w w') (hs : Signs w' (some ⟨w.heap.size, 0, none⟩) taS) => (by have h := safe_any taS (some ⟨w.heap.size, 0, none⟩) 2 2 w' (HT.out.below hb) rfl (by decide) hs; rw [ta_any1] at h; exact h : Calls Tryd.prog 111 #[.slice (some ⟨w.heap.size, 0, none⟩) 2 2] w' fun e w'' => e = .returned (.bool false) ∧ Below w'.heap.size w' w'')
  have SN := Lib.hid fun (w' : World) (hb : Below w.heap.size w w') (hs : Signs w' (some ⟨w.heap.size, 0, none⟩) taS) => (by have h := safe_any [(97, 0)] (some ⟨w.heap.size, 0, none⟩) 1 2 w' (HT.out.below hb) rfl (by decide) (take1 hs); rw [ta_any2] at h; exact h : Calls Tryd.prog 111 #[.slice (some ⟨w.heap.size, 0, none⟩) 1 2] w' fun e w'' => e = .returned (.bool true) ∧ Below w'.heap.size w' w'')
  have ON := Lib.hid fun (b : Option Addr) (w' : World) (hs : Signs w' (some ⟨w.heap.size, 0, none⟩) taS) (hq : Row w' b [2, 3]) => (by
    refine (only_any taS [2, 3] (some ⟨w.heap.size, 0, none⟩) b 2 2 2 2 w' rfl rfl (by decide) (by decide) hs hq).mono ?_
    rintro e w'' ⟨x, rfl, h, hb⟩
    rw [ta_only] at h
    obtain ⟨ao, co, rfl, _⟩ := ows_sln (n := 1) h rfl
    exact ⟨ao, co, rfl, hb⟩ : Calls Tryd.prog 57 #[.slice (some ⟨w.heap.size, 0, none⟩) 2 2, .slice b 2 2] w' fun e w'' => ∃ ao co, e = .returned (.slice ao 1 co) ∧ Below w'.heap.size w' w'')
  have EN := Lib.hid fun (a : Option Addr) (w' : World) (hs : Signs w' a teS) => (by
    refine (ends_any teS a 2 2 w' rfl (by decide) hs).mono ?_
    rintro e w'' ⟨x, rfl, h, hb⟩
    rw [ta_ends] at h
    obtain ⟨ao, co, rfl, _⟩ := esI.row (n := 1) h rfl
    exact ⟨ao, co, rfl, hb⟩ : Calls Tryd.prog 58 #[.slice a 2 2] w' fun e w'' => ∃ ao co, e = .returned (.slice ao 1 co) ∧ Below w'.heap.size w' w'')
  have hcut := ta_cut w.heap.size
  clear A1 R1 hr hw2 hX OF HB0 HS0 hW0 B1 S1
  go_wp2_with (first
    | (go_at_call 110; refine (TX.out _ B2.out).mono ?_; rintro e w3 ⟨rfl, hb3⟩; have B3 := Lib.hid (seqB B2.out hb3); have S3 := Lib.hid (S2.out.below hb3); clear hb3)
    | (go_at_call 111; refine (SY.out _ B3.out S3.out).mono ?_; rintro e w4 ⟨rfl, hb4⟩; have B4 := Lib.hid (seqB B3.out hb4); have S4 := Lib.hid (S3.out.below hb4); clear hb4 SY)
    | (go_at_call 111; refine (SN.out _ B4.out S4.out).mono ?_; rintro e w5 ⟨rfl, hb5⟩; have C5 := below_alloc w5 (.cells #[.int .i64 2, .int .i64 3] 3); have D5 := seqB B4.out hb5; have B5 := Lib.hid (seqB D5 C5); have S5 := Lib.hid ((S4.out.below hb5).below C5); have Q5 := Lib.hid (row_new2 w5); clear hb5 C5 D5)
    | (go_at_call 57; refine (ON.out _ _ S5.out Q5.out).mono ?_; rintro e w6 ⟨ao, co, rfl, hb6⟩; have B6 := Lib.hid (seqB B5.out hb6); have C6 := below_alloc w6 (.cells #[.int .i64 10, .int .i64 2, .int .i64 10, .int .i64 0] 70); have B7 := Lib.hid (seqB B6.out C6); have E7 : Hid (Signs (w6.alloc (.cells #[.int .i64 10, .int .i64 2, .int .i64 10, .int .i64 0] 70)) (some ⟨w6.heap.size, 0, none⟩) teS) := Lib.hid (signs_new w6 teS _); clear hb6 C6)
    | (go_at_call 58; refine (EN.out _ _ E7.out).mono ?_; rintro e w8 ⟨ae, ce, rfl, hb8⟩; have B8 := Lib.hid (seqB B7.out hb8); clear hb8))
  go_ret
  exact ⟨rfl, B8.out⟩
theorem taintonly_any (l : List (Int × Int)) (Q : List Int) (a b : Option Addr) (n c m d : Nat) (w : World) (hT : Tabs w) (hN : TN w) (hn : l.length = n) (hm : Q.length = m) (hl : n ≤ 100) (hl2 : m ≤ 20) (hs : Signs w a l) (hQ : Row w b Q) :
    Calls Tryd.prog 11 #[.slice a n c, .slice b m d] w fun e w' => e = .returned (.bool true) ∧ Below w.heap.size w w' :=
  taintonly_main l Q a b n c m d w hn hm hl hl2 hs hQ (Lib.hid fun w' hb => tawake_any w' (hT.below hb) (hN.below hb))
end Go.Proofs.YtgpcflpeddnfcaaDoor
set_option linter.unusedVariables false
set_option linter.unusedSimpArgs false
namespace Go.Proofs.YtgpcflpeddnfcaaDoor
open Go.RowKit
theorem taintonly_big (a b : Option Addr) (n c m d : Nat) (w : World) (hT : Tabs w) (hN : TN w) (hl : 100 < n ∨ 20 < m) :
    Calls Tryd.prog 11 #[.slice a n c, .slice b m d] w fun e w' => e = .returned (.bool true) ∧ Below w.heap.size w w' := by
  have AW := Lib.hid (tawake_any w hT hN)
  clear hT hN
  by_cases h1 : 100 < n
  · have hi : (100 : Int) < n := by omega
    clear hl
    go_enter Tryd.func11, Tryd.ntmps11
    go_wp2_with (go_at_call 56; refine AW.out.mono ?_; rintro e w1 ⟨rfl, hb⟩; have N1 := Lib.hid hb; clear hb)
    go_ret
    exact ⟨rfl, N1.out⟩
  · have hi : ¬ (100 : Int) < n := by omega
    have hj : (20 : Int) < m := by omega
    clear hl
    go_enter Tryd.func11, Tryd.ntmps11
    go_wp2_with (go_at_call 56; refine AW.out.mono ?_; rintro e w1 ⟨rfl, hb⟩; have N1 := Lib.hid hb; clear hb)
    go_ret
    exact ⟨rfl, N1.out⟩
theorem taintonly_all (l : List (Int × Int)) (Q : List Int) (a b : Option Addr) (c d : Nat) (w : World) (hT : Tabs w) (hN : TN w) (hs : Signs w a l) (hQ : Ints w b Q) :
    Calls Tryd.prog 11 #[.slice a l.length c, .slice b Q.length d] w fun e w' => e = .returned (.bool true) ∧ Below w.heap.size w w' := by
  by_cases h : 100 < l.length ∨ 20 < Q.length
  · exact taintonly_big a b _ c _ d w hT hN h
  · exact taintonly_any l Q a b _ c _ d w hT hN rfl rfl (by omega) (by omega) hs (fun j hj => by
      obtain ⟨bb, off, e, h1⟩ := hQ.1 j hj
      exact ⟨bb, off, e, hQ.2 j bb off hj e, h1⟩)
end Go.Proofs.YtgpcflpeddnfcaaDoor
set_option linter.unusedVariables false
set_option linter.unusedSimpArgs false
namespace Go.Proofs.YtgpcflpeddnfcaaDoor
open Go.ChangeShapes Go.WideShapes Go.ChangeAt Go.RowKit Go.Deep Go.Joins
section
variable {H : Type} {enc : TypeId × Value → H} {W : World}
theorem add_none (b off k : Nat) : (⟨b, off, none⟩ : Addr).add k = ⟨b, off + k, none⟩ := by unfold Addr.add; split <;> simp_all
theorem cellsInt : Tryd.prog.cellsOf 3 = 1 := by kernel_rfl
theorem arg_ints {base : Nat} {v0 : Value} {d0 : DataW H} {p : List MemPlace} (hv : Value.okWide Tryd.prog W .any base 53 v0) (h : DataW.Trod enc Tryd.prog W 0 (fun _ => true) true 53 v0 d0 p) :
    ∃ (l : List Int) (a : Option Addr) (c : Nat), v0 = .slice a l.length c ∧ Ints W a l ∧ l.length ≤ 9223372036854775807 := by
  obtain ⟨a0, len, cap, rfl⟩ := okWide_slice Tryd.underlying53 hv
  obtain ⟨fuel, hf⟩ := h
  rcases open_ints Tryd.underlying53 Tryd.underlying3 cellsInt hf with ⟨hcs, _⟩ | ⟨a, len', cap', zs, hcs, _, hl, hm, hz, _, hcell, _⟩
  · simp [Value.cells] at hcs
    obtain ⟨rfl, rfl, rfl⟩ := hcs
    exact ⟨[], none, 0, rfl, ⟨fun j hj => absurd hj (Nat.not_lt_zero j), fun j b off hj => absurd hj (Nat.not_lt_zero j)⟩, by simp⟩
  · simp [Value.cells] at hcs
    obtain ⟨rfl, rfl, rfl⟩ := hcs
    simp only [if_true] at hz
    have hlen : (zs.take len).length = len := by rw [List.length_take]; omega
    have hk : ∀ j, j < (zs.take len).length → ∃ b off, a = ⟨b, off, none⟩ ∧ b < W.heap.size ∧ W.cell? ⟨b, off + j, none⟩ = some (.int .i64 ((zs.take len).getD j 0)) := by
      intro j hj
      have hj2 : j < len := by rw [hlen] at hj; exact hj
      obtain ⟨b, off, sp⟩ := a
      have h0 := hcell 0 (by omega)
      have hsp : sp = none := by
        have h1 : W.cell? ⟨b, off, sp⟩ = some (.int .i64 (zs.getD 0 0)) := by simpa [Addr.add] using h0
        exact cell_spot h1
      subst hsp
      have hcj := hcell j (by omega)
      rw [add_none] at hcj
      refine ⟨b, off, rfl, block_lt_of_cell hcj, ?_⟩
      rw [hcj]
      simp only [List.getD, List.getElem?_take, hj2, if_true]
    refine ⟨zs.take len, some a, cap, by rw [hlen], ⟨fun j hj => ?_, fun j b off hj e => ?_⟩, by rw [hlen]; unfold maxLen at hm; omega⟩
    · obtain ⟨b, off, rfl, h1, h2⟩ := hk j hj
      exact ⟨b, off, rfl, h1⟩
    · obtain ⟨b', off', rfl, h1, h2⟩ := hk j hj
      obtain ⟨rfl, rfl⟩ : b' = b ∧ off' = off := by simpa using e
      exact h2
end
end Go.Proofs.YtgpcflpeddnfcaaDoor
