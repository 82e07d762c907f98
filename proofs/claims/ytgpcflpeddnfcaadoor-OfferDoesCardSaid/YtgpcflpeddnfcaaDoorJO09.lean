/-
  Joined: Ln12 Ln13 Of1 Of2 Of3 Of4 Of5 Of6 Of8 Of9.
-/
import Derived.Test.YtgpcflpeddnfcaaDoorJO02
import Derived.Test.YtgpcflpeddnfcaaDoorJO03
import Derived.Test.YtgpcflpeddnfcaaDoorJO04
import Derived.Test.YtgpcflpeddnfcaaDoorJO05
import Derived.Test.YtgpcflpeddnfcaaDoorJO06
import Derived.Test.YtgpcflpeddnfcaaDoorJO08
import Derived.BigQuiet
import Derived.Lib.QuietBelow
import Derived.Maps.OwnSet
import Derived.Maps.Views
import Derived.Deep.SlicePairs
import Derived.Deep.RegionHeld3
set_option linter.unusedVariables false
set_option linter.unusedSimpArgs false
set_option maxRecDepth 100000
set_option linter.unusedVariables false
set_option linter.unusedSimpArgs false
namespace Go.Proofs.YtgpcflpeddnfcaaDoor
open Go.RowKit Go.Sort
def lnA : List (Int × Int) := [(97, 0), (98, 0), (32, 0), (99, 0), (100, 0)]
theorem lnA_facts : sOf 0 ⟨#[97, 98, 32, 99, 100]⟩ = lnA ∧ (valsS ⟨#[97, 98, 32, 99, 100]⟩).length = 5 ∧ sOf 0 ⟨#[97, 98]⟩ = [(97, 0), (98, 0)] ∧ (valsS ⟨#[97, 98]⟩).length = 2 ∧ sgC lnA = true := by decide +kernel
theorem lnA_wds : nextM lnA ((2 : Nat) : Int) = ((5 : Nat) : Int) ∧ backM lnA ((5 : Nat) : Int) = ((3 : Nat) : Int) ∧ nextM lnA ((3 : Nat) : Int) = ((5 : Nat) : Int) ∧ backM lnA ((3 : Nat) : Int) = ((0 : Nat) : Int) ∧ nextM lnA ((0 : Nat) : Int) = ((2 : Nat) : Int) ∧ (kAt lnA false ((0 : Nat) : Int) == 1) = true ∧ (kAt lnA false ((3 : Nat) : Int) == 1) = true := by decide +kernel
theorem lnA_txt : sTxt (swpM lnA 0 2 3 5) = ⟨#[99, 100, 32, 97, 98]⟩ ∧ sTxt (lnA.take 1 ++ lnA.drop 3) = ⟨#[97, 99, 100]⟩ ∧ sTxt ((lnA.drop 1).take (3 - 1)) = ⟨#[98, 32]⟩ ∧ sTxt (csL lnA 2 2 5) = ⟨#[97, 98, 32, 67, 100]⟩ ∧ sTxt (lnA.take 2 ++ (lnA.drop 1).take (3 - 1) ++ lnA.drop 2) = ⟨#[97, 98, 98, 32, 32, 99, 100]⟩ ∧ sTxt (lnA.take 0 ++ (lnA.drop 1).take (3 - 1) ++ lnA.drop 2) = ⟨#[98, 32, 32, 99, 100]⟩ := by decide +kernel
theorem lnA_bt : btF 5 1 3 = 1 ∧ btT 5 1 3 = 3 ∧ btF 5 ((2 : Nat) : Int) 5 = 2 ∧ btT 5 ((2 : Nat) : Int) 5 = 5 ∧ btF 5 0 2 = 0 ∧ btT 5 0 2 = 2 ∧ cutAt 1 3 2 = 1 := by decide +kernel
theorem lw_right (L : List (Int × Int)) (a : Option Addr) (n c p : Nat) (w : World) (hn : L.length = n) (hl : n ≤ 90000) (hp : p ≤ n) (hok : sgC L = true) (hs : Signs w a L) :
    Calls Tryd.prog 80 #[.agg #[.slice a n c, .int .i64 (p : Int)]] w fun e w' => e = .returned (.bool true) ∧ Below w.heap.size w w' := by
  have B0 := below_alloc w (.cells #[.slice a n c, .int .i64 (p : Int)] 30)
  have CK := scheck_any L a c (w.alloc (.cells #[.slice a n c, .int .i64 (p : Int)] 30)) (by omega) (hs.below B0)
  rw [hn, sgE_yes hok] at CK
  replace CK := Lib.hid CK
  have h1 : (0 : Int) ≤ p := by omega
  have h2 : (p : Int) ≤ n := by omega
  clear hs
  go_enter Tryd.func80, Tryd.ntmps80
  go_wp2_with (go_at_call 73; refine CK.out.mono ?_; rintro e w1 ⟨rfl, b1⟩)
  go_ret
  exact ⟨rfl, seqB B0 b1⟩
theorem text_n (L : List (Int × Int)) (a : Option Addr) (n c : Nat) (s : ByteArray) (w : World) (hn : L.length = n) (hl : n ≤ 90000) (ht : sTxt L = s) (hs : Signs w a L) :
    Calls Tryd.prog 61 #[.slice a n c] w fun e w' => e = .returned (.string s) ∧ Below w.heap.size w w' := by
  subst hn; subst ht; exact stext_any L a c w (by omega) hs
theorem ows_sg {w : World} {B n d : Nat} {b : Option Addr} {L : List (Int × Int)} (h : OwS w B (.slice b n d) L) : Signs w b L := by
  obtain ⟨a, c, e, hs⟩ := h.sl
  injection e with e1 e2 e3
  subst e1
  exact hs.s
theorem ows_slA {w : World} {B n d : Nat} {b : Option Addr} {L : List (Int × Int)} (h : OwS w B (.slice b n d) L) : SlS (fun _ => True) w b L d := by
  obtain ⟨a, c, e, hs⟩ := h.sl
  injection e with e1 e2 e3
  subst e1; subst e3
  exact hs.mono (fun _ _ => trivial)
/-- A slice of signs that a call made. -/
def SgA (w : World) (b : Option Addr) (d : Nat) (L : List (Int × Int)) : Prop := SlS (fun _ => True) w b L d
theorem lna_of (w : World) (hT : UT w) : Calls Tryd.prog 60 #[.int .i64 0, .string ⟨#[97, 98, 32, 99, 100]⟩] w fun e w' => ∃ b, e = .returned (.slice b 5 5) ∧ SgA w' b 5 lnA ∧ Below w.heap.size w w' := by
  have h := sof_any 0 ⟨#[97, 98, 32, 99, 100]⟩ w hT (by decide) (by rw [lnA_facts.2.1]; omega)
  rw [lnA_facts.1] at h
  refine h.mono ?_
  rintro e w' ⟨g, rfl, hg, hb, hB⟩
  exact ⟨_, rfl, ⟨signs_of_blk hb, Nat.le_refl _, fun e => (by cases e), fun _ _ _ => trivial⟩, hB⟩
theorem lnb_of (w : World) (hT : UT w) : Calls Tryd.prog 60 #[.int .i64 0, .string ⟨#[97, 98]⟩] w fun e w' => ∃ b, e = .returned (.slice b 2 2) ∧ SgA w' b 2 [(97, 0), (98, 0)] ∧ Below w.heap.size w w' := by
  have h := sof_any 0 ⟨#[97, 98]⟩ w hT (by decide) (by rw [lnA_facts.2.2.2.1]; omega)
  rw [lnA_facts.2.2.1] at h
  refine h.mono ?_
  rintro e w' ⟨g, rfl, hg, hb, hB⟩
  exact ⟨_, rfl, ⟨signs_of_blk hb, Nat.le_refl _, fun e => (by cases e), fun _ _ _ => trivial⟩, hB⟩
theorem lna_ins (w : World) (b b2 : Option Addr) (d2 : Nat) (h : SgA w b 5 lnA) (h2 : SgA w b2 d2 ((lnA.drop 1).take (3 - 1))) : Calls Tryd.prog 87 #[.agg #[.slice b 5 5, .int .i64 2], .slice b2 2 d2] w fun e w' => ∃ b3 d3, e = .returned (.agg #[.slice b3 7 d3, .int .i64 4]) ∧ SgA w' b3 d3 (lnA.take 2 ++ (lnA.drop 1).take (3 - 1) ++ lnA.drop 2) ∧ Below w.heap.size w w' := by
  refine (lw_ins _ lnA _ b b2 5 5 2 d2 2 w rfl rfl (by omega) (by omega) h h2).mono ?_
  rintro e w' ⟨b3, d3, rfl, ho, hb⟩
  exact ⟨b3, d3, rfl, ows_slA ho, hb⟩
theorem lna_rep (w : World) (b b2 : Option Addr) (d2 : Nat) (h : SgA w b 5 lnA) (h2 : SgA w b2 d2 ((lnA.drop 1).take (3 - 1))) : Calls Tryd.prog 130 #[.agg #[.slice b 5 5, .int .i64 2], .int .i64 0, .int .i64 2, .slice b2 2 d2] w fun e w' => ∃ b3 d3, e = .returned (.agg #[.slice b3 5 d3, .int .i64 2]) ∧ SgA w' b3 d3 (lnA.take 0 ++ (lnA.drop 1).take (3 - 1) ++ lnA.drop 2) ∧ Below w.heap.size w w' := by
  refine (lw_rep _ lnA _ b b2 5 5 2 d2 2 0 2 0 2 w rfl rfl (by omega) lnA_bt.2.2.2.2.1 lnA_bt.2.2.2.2.2.1 h h2).mono ?_
  rintro e w' ⟨b3, d3, rfl, ho, hb⟩
  exact ⟨b3, d3, rfl, ows_slA ho, hb⟩
end Go.Proofs.YtgpcflpeddnfcaaDoor
set_option linter.unusedVariables false
set_option linter.unusedSimpArgs false
namespace Go.Proofs.YtgpcflpeddnfcaaDoor
open Go.RowKit Go.Sort
/-- The tables that lines read. -/
def LnT (w : World) : Prop := Tabs w ∧ UT w
theorem LnT.below {w w' : World} (h : LnT w) (hb : Below w.heap.size w w') : LnT w' := ⟨h.1.below hb, h.2.below hb⟩
theorem SgA.below {w w' : World} {b : Option Addr} {d : Nat} {L : List (Int × Int)} (h : SgA w b d L) (hb : Below w.heap.size w w') : SgA w' b d L := SlS.below h hb
/-- A line's box. -/
def LnX (w : World) (X : Nat) (b : Option Addr) (n d : Nat) (x : Int) : Prop := w.heap[X]? = some (.cells #[.slice b n d, .int .i64 x] 30 (0, 0))
theorem LnX.below {w w' : World} {X : Nat} {b : Option Addr} {n d : Nat} {x : Int} (h : LnX w X b n d x) (hb : Below w.heap.size w w') : LnX w' X b n d x := blk_below h hb
theorem LnX.cells {w : World} {X : Nat} {b : Option Addr} {n d : Nat} {x : Int} (h : LnX w X b n d x) : w.cell? ⟨X, 0, none⟩ = some (.slice b n d) ∧ w.cell? ⟨X, 1, none⟩ = some (.int .i64 x) := ⟨cell_of_row _ _ 0 _ _ _ h, cell_of_row _ _ 1 _ _ _ h⟩
theorem lnx_new (w : World) (b : Option Addr) (n d : Nat) (x : Int) {v : World} (hv : w.alloc (.cells #[.slice b n d, .int .i64 x] 30) = v) : LnX v w.heap.size b n d x ∧ Below w.heap.size w v := by
  subst hv; exact ⟨heap_alloc_new _ _, below_alloc _ _⟩
theorem lna_right (w : World) (b : Option Addr) (h : SgA w b 5 lnA) : Calls Tryd.prog 80 #[.agg #[.slice b 5 5, .int .i64 2]] w fun e w' => e = .returned (.bool true) ∧ Below w.heap.size w w' :=
  lw_right lnA b 5 5 2 w rfl (by omega) (by omega) lnA_facts.2.2.2.2 h.s
end Go.Proofs.YtgpcflpeddnfcaaDoor
set_option linter.unusedVariables false
set_option linter.unusedSimpArgs false
namespace Go.Proofs.YtgpcflpeddnfcaaDoor
open Go.RowKit
def mayL (L : List (Int × Int)) (x : Int) : Bool := decide (0 ≤ x) && (decide (x ≤ L.length) && sgC L)
theorem mayL_out {L : List (Int × Int)} {x : Int} (h : mayL L x = true) : 0 ≤ x ∧ x ≤ L.length ∧ sgC L = true := by
  simp only [mayL, Bool.and_eq_true, decide_eq_true_eq] at h; exact h
theorem lw_rt (L : List (Int × Int)) (a : Option Addr) (n c : Nat) (x : Int) (w : World) (hn : L.length = n) (hl : n ≤ 90000) (hs : Signs w a L) :
    Calls Tryd.prog 80 #[.agg #[.slice a n c, .int .i64 x]] w fun e w' => e = .returned (.bool (mayL L x)) ∧ Below w.heap.size w w' := by
  have B0 := below_alloc w (.cells #[.slice a n c, .int .i64 x] 30)
  have CK := scheck_any L a c (w.alloc (.cells #[.slice a n c, .int .i64 x] 30)) (by omega) (hs.below B0)
  rw [hn] at CK
  clear hs
  have hmy : Hid (mayL L x = (decide (0 ≤ x) && (decide (x ≤ n) && sgC L))) := Lib.hid (by rw [mayL, hn])
  clear hn
  cases hc : sgC L with
  | true =>
    rw [hc] at hmy
    rw [sgE_yes hc] at CK
    replace CK := Lib.hid CK
    clear hc
    by_cases h1 : 0 ≤ x
    · by_cases h2 : x ≤ n
      · rw [decide_eq_true h1, decide_eq_true h2] at hmy
        go_enter Tryd.func80, Tryd.ntmps80
        go_wp2_with (go_at_call 73; refine CK.out.mono ?_; rintro e w1 ⟨rfl, b1⟩)
        go_ret
        exact ⟨by rw [hmy.out] <;> rfl, seqB B0 b1⟩
      · rw [decide_eq_true h1, decide_eq_false h2] at hmy
        go_enter Tryd.func80, Tryd.ntmps80
        go_wp2_with fail
        go_ret
        exact ⟨by rw [hmy.out] <;> rfl, B0⟩
    · rw [decide_eq_false h1] at hmy
      go_enter Tryd.func80, Tryd.ntmps80
      go_wp2_with fail
      go_ret
      exact ⟨by rw [hmy.out] <;> rfl, B0⟩
  | false =>
    rw [hc] at hmy
    rw [sgE_no hc] at CK
    replace CK := Lib.hid CK
    have hm2 : Hid (mayL L x = false) := Lib.hid (by rw [hmy.out]; simp)
    clear hc hmy
    by_cases h1 : 0 ≤ x
    · by_cases h2 : x ≤ n
      · go_enter Tryd.func80, Tryd.ntmps80
        go_wp2_with (go_at_call 73; refine CK.out.mono ?_; rintro e w1 ⟨rfl, b1⟩)
        go_ret
        exact ⟨by rw [hm2.out] <;> rfl, seqB B0 b1⟩
      · go_enter Tryd.func80, Tryd.ntmps80
        go_wp2_with fail
        go_ret
        exact ⟨by rw [hm2.out] <;> rfl, B0⟩
    · go_enter Tryd.func80, Tryd.ntmps80
      go_wp2_with fail
      go_ret
      exact ⟨by rw [hm2.out] <;> rfl, B0⟩
/-- Where the word that ends at a place begins. -/
def wdB (L : List (Int × Int)) : Nat → Nat
  | 0 => 0
  | k + 1 => if knd (L.getD k (0, 0)).1 = 0 then k + 1 else wdB L k
theorem wdB_le (L : List (Int × Int)) : ∀ k, wdB L k ≤ k
  | 0 => Nat.le_refl _
  | k + 1 => by
    have := wdB_le L k
    unfold wdB
    split <;> omega
set_option maxHeartbeats 4000000 in
theorem word_any (L : List (Int × Int)) (a : Option Addr) (n c p : Nat) (w : World) (hn : L.length = n) (hl : n ≤ 90000) (hp : p ≤ n) (hok : sgC L = true) (hT : Tabs w) (hs : Signs w a L) :
    Calls Tryd.prog 31 #[.agg #[.slice a n c, .int .i64 (p : Int)]] w fun e w' => e = .returned (.tuple #[.int .i64 (wdB L p : Nat), .int .i64 (p : Int)]) ∧ Below w.heap.size w w' := by
  have B0 := below_alloc w (.cells #[.slice a n c, .int .i64 (p : Int)] 30)
  have Q0 := Lib.hid (heap_alloc_new w (.cells #[.slice a n c, .int .i64 (p : Int)] 30))
  have RT := Lib.hid fun w' (hb : Below w.heap.size w w') => lw_right L a n c p w' hn hl hp hok (hs.below hb)
  have KN := Lib.hid fun v w' (hb : Below w.heap.size w w') => kind_any v w' (hT.below hb)
  have HS := Lib.hid hs
  have HN := Lib.hid hn
  clear hs hn hT hok
  go_enter Tryd.func31, Tryd.ntmps31
  go_upto_region 1 with fail
  obtain ⟨w0, hw0⟩ : ∃ v, w.alloc (.cells #[.slice a n c, .int .i64 (p : Int)] 30) = v := ⟨_, rfl⟩
  obtain ⟨X, hX⟩ : ∃ x, w.heap.size = x := ⟨_, rfl⟩
  have HX := Lib.hid hX
  rw [hw0, hX] at Q0
  rw [hw0] at B0
  rw [hw0, hX]
  clear hw0 hX
  have N0 := Lib.hid B0
  have z0 := cell_of_row _ _ 0 _ _ _ Q0.out
  have z1 := cell_of_row _ _ 1 _ _ _ Q0.out
  dsimp at z0 z1
  clear B0
  go_wp2_with (go_at_call 80; refine (RT.out _ N0.out).mono ?_; rintro e w1 ⟨rfl, hb⟩; have Q1 := Lib.hid (blk_below Q0.out hb); have N1 := Lib.hid (seqB N0.out hb); have z0 := cell_of_row _ _ 0 _ _ _ Q1.out; have z1 := cell_of_row _ _ 1 _ _ _ Q1.out; dsimp at z0 z1; clear hb RT Q0 N0)
  go_loopw [4] (fun fv wr => ∃ k : Nat, k ≤ p ∧ fv = .int .i64 (k : Int) ∧ Hid (wdB L k = wdB L p) ∧ Hid (Below w1.heap.size w1 wr)) (fun fv _ => (intOf fv).toNat)
  case atStart => exact ⟨p, Nat.le_refl _, rfl, Lib.hid rfl, Lib.hid (Below.refl _ _)⟩
  case round =>
    obtain ⟨k, hk, rfl, HW, HB⟩ := hrel
    have z0 := cell_of_row _ _ 0 _ _ _ (blk_below Q1.out HB.out)
    have z1 := cell_of_row _ _ 1 _ _ _ (blk_below Q1.out HB.out)
    dsimp at z0 z1
    have N2 := Lib.hid (seqB N1.out HB.out)
    cases k with
    | zero =>
      go_wp2_with fail
      go_quiet (fail)
      go_wp2_with fail
      refine bodyPost_ret (results_tmp2 rfl _ _ _) rfl ?_
      refine ⟨?_, drewN_below N2.out _⟩
      have : wdB L p = 0 := HW.out.symm
      rw [this]; first | rfl | simp
    | succ k =>
      have hk1 : (0 : Int) < ((k + 1 : Nat) : Int) := by omega
      have hk2 : (((k + 1 : Nat) : Int) - 1) = (k : Int) := by omega
      have hk3 : (k : Int) < n := by omega
      have hk0 : (0 : Int) ≤ k := by omega
      obtain ⟨b, off, rfl, hbk, c1, _⟩ := (HS.out.below N2.out) k (by rw [HN.out]; omega)
      obtain ⟨v, hv⟩ : ∃ v, (L.getD k (0, 0)).1 = v := ⟨_, rfl⟩
      have hW : wdB L (k + 1) = (if knd v = 0 then k + 1 else wdB L k) := by rw [← hv]; rfl
      rw [hv] at c1
      obtain ⟨q, hq⟩ : ∃ q, knd v = q := ⟨_, rfl⟩
      have KN2 := Lib.hid (KN.out v wr N2.out)
      rw [hq] at KN2 hW
      rw [hW] at HW
      clear hv hW hq
      by_cases h0 : q = 0
      · subst h0
        rw [if_pos rfl] at HW
        go_wp2_with (go_at_call 84; refine KN2.out.mono ?_; rintro e w2 ⟨rfl, b2⟩; have N3 := Lib.hid (seqB N2.out b2); have z1 := cell_of_row _ _ 1 _ _ _ (blk_below (blk_below Q1.out HB.out) b2); dsimp at z1; clear b2)
        go_quiet (fail)
        go_wp2_with fail
        refine bodyPost_ret (results_tmp2 rfl _ _ _) rfl ?_
        exact ⟨by rw [← HW.out] <;> rfl, drewN_below N3.out _⟩
      · rw [if_neg h0] at HW
        have hqb : (q == 0) = false := beq_eq_false_iff_ne.2 h0
        go_wp2_with (go_at_call 84; refine KN2.out.mono ?_; rintro e w2 ⟨rfl, b2⟩; have N3 := Lib.hid (seqB HB.out b2); clear b2)
        go_roundw
        case rel => exact ⟨k, by omega, by go_num, HW, N3⟩
        case measure => (simp [intOf]; try omega)
end Go.Proofs.YtgpcflpeddnfcaaDoor
set_option linter.unusedVariables false
set_option linter.unusedSimpArgs false
namespace Go.Proofs.YtgpcflpeddnfcaaDoor
open Go.RowKit Go.Sort
theorem samev_any (v u x y : Int) (w : World) : Calls Tryd.prog 83 #[.agg #[.int .i64 v, .int .i64 u], .agg #[.int .i64 x, .int .i64 y]] w fun e w' => e = .returned (.bool (decide (v = x))) ∧ Below w.heap.size w w' := by
  go_enter Tryd.func83, Tryd.ntmps83
  go_wp2
  go_ret
  exact ⟨by first | rfl | (congr 2; rw [Bool.eq_iff_iff]; simp), seqB (below_alloc _ _) (below_alloc _ _)⟩
set_option maxHeartbeats 4000000 in
theorem common_any (l m : List (Int × Int)) (a b : Option Addr) (n c k d : Nat) (w : World) (hn : l.length = n) (hk : m.length = k) (hl : n ≤ 1000000) (hl2 : k ≤ 1000000) (hs : Signs w a l) (ht : Signs w b m) :
    Calls Tryd.prog 82 #[.slice a n c, .slice b k d, .func (.func 83) #[] #[]] w fun e w' => e = .returned (.int .i64 (cmn (vsL l) (vsL m) : Nat)) ∧ Below w.heap.size w w' := by
  have SV := Lib.hid fun v u x y w => samev_any v u x y w
  have HS := Lib.hid hs; have HT := Lib.hid ht; have HN := Lib.hid hn; have HK := Lib.hid hk
  clear hs ht hn hk
  go_enter Tryd.func82, Tryd.ntmps82
  go_wp2_with fail
  go_loopw [7] (fun iv wr => ∃ j : Nat, j ≤ n ∧ j ≤ k ∧ iv = .int .i64 (j : Int) ∧ Hid (∀ i, i < j → (vsL l).getD i 0 = (vsL m).getD i 0) ∧ Hid (Below w.heap.size w wr)) (fun iv _ => n - (intOf iv).toNat)
  case atStart => exact ⟨0, Nat.zero_le _, Nat.zero_le _, rfl, Lib.hid (fun i hi => absurd hi (Nat.not_lt_zero i)), Lib.hid (Below.refl _ _)⟩
  case round =>
    obtain ⟨j, hj, hjk, rfl, HE, HB⟩ := hrel
    have hj0 : (0 : Int) ≤ j := by omega
    by_cases h1 : j < n
    · have h1i : (j : Int) < n := by omega
      by_cases h2 : j < k
      · have h2i : (j : Int) < k := by omega
        obtain ⟨ba, oa, rfl, hba, c1, c2⟩ := (HS.out.below HB.out) j (by rw [HN.out]; exact h1)
        obtain ⟨bb, ob, rfl, hbb, d1, d2⟩ := (HT.out.below HB.out) j (by rw [HK.out]; exact h2)
        have hva := vsL_at l j (by rw [HN.out]; exact h1)
        have hvb := vsL_at m j (by rw [HK.out]; exact h2)
        obtain ⟨⟨v, u⟩, hvu⟩ : ∃ q, l.getD j (0, 0) = q := ⟨_, rfl⟩
        obtain ⟨⟨x, y⟩, hxy⟩ : ∃ q, m.getD j (0, 0) = q := ⟨_, rfl⟩
        rw [hvu] at c1 c2 hva
        rw [hxy] at d1 d2 hvb
        dsimp only at c1 c2 d1 d2 hva hvb
        have HVA := Lib.hid hva
        have HVB := Lib.hid hvb
        clear hva hvb hvu hxy
        have SV2 := Lib.hid (SV.out v u x y)
        by_cases e : v = x
        · rw [decide_eq_true e] at SV2
          have HE2 : Hid (∀ i, i < j + 1 → (vsL l).getD i 0 = (vsL m).getD i 0) := Lib.hid (by
            intro i hi
            by_cases h : i = j
            · rw [h, HVA.out, HVB.out, e]
            · exact HE.out i (by omega))
          clear e HVA HVB
          have SV3 := Lib.hid fun d os => (SV2.out (grow (redrawn wr d) os)).regrown_of
          have G1 := fun d os => cell_regrown c1 d os
          have G2 := fun d os => cell_regrown c2 d os
          have G3 := fun d os => cell_regrown d1 d os
          have G4 := fun d os => cell_regrown d2 d os
          go_upto_region 2 with fail
          refine wp_region_quiet_below (by kernel_rfl) (by kernel_rfl) ?_
          repeat (any_goals (go_big_quiet_step (first | (go_at_call 83; exact SV3.out _ _))))
          refine wpQuiet_nil ?_
          intro _ hw'
          obtain ⟨⟨dq, osq⟩, hw''⟩ := hw'
          subst hw''
          have N1 := Lib.hid (seqB HB.out (below_regrown wr dq osq))
          clear G1 G2 G3 G4 SV3
          go_wp2_with fail
          go_roundw
          case rel => exact ⟨j + 1, by omega, by omega, by go_num, HE2, N1⟩
          case measure => (simp [intOf]; try omega)
        · rw [decide_eq_false e] at SV2
          have HR : Hid (cmn (vsL l) (vsL m) = j) := Lib.hid (cmn_is _ _ j (by rw [vsL_len, HN.out]; exact hj) (by rw [vsL_len, HK.out]; exact hjk) HE.out (Or.inr (Or.inr (by rw [HVA.out, HVB.out]; exact e))))
          clear e HVA HVB
          have SV3 := Lib.hid fun d os => (SV2.out (grow (redrawn wr d) os)).regrown_of
          have G1 := fun d os => cell_regrown c1 d os
          have G2 := fun d os => cell_regrown c2 d os
          have G3 := fun d os => cell_regrown d1 d os
          have G4 := fun d os => cell_regrown d2 d os
          go_upto_region 2 with fail
          refine wp_region_quiet_below (by kernel_rfl) (by kernel_rfl) ?_
          repeat (any_goals (go_big_quiet_step (first | (go_at_call 83; exact SV3.out _ _))))
          refine wpQuiet_nil ?_
          intro _ hw'
          obtain ⟨⟨dq, osq⟩, hw''⟩ := hw'
          subst hw''
          have N1 := Lib.hid (seqB HB.out (below_regrown wr dq osq))
          clear G1 G2 G3 G4 SV3
          go_wp2_with fail
          go_ret
          exact ⟨by rw [HR.out] <;> rfl, N1.out⟩
      · obtain rfl : j = k := by omega
        have h2i : ¬ (j : Int) < j := by omega
        have HR : Hid (cmn (vsL l) (vsL m) = j) := Lib.hid (cmn_is _ _ j (by rw [vsL_len, HN.out]; exact hj) (by rw [vsL_len, HK.out]; exact hjk) HE.out (Or.inr (Or.inl (by rw [vsL_len, HK.out]))))
        go_wp2_with fail
        go_quiet (fail)
        go_wp2_with fail
        go_ret
        exact ⟨by rw [HR.out] <;> rfl, drewN_below HB.out _⟩
    · obtain rfl : j = n := by omega
      have h1i : ¬ (j : Int) < j := by omega
      have HR : Hid (cmn (vsL l) (vsL m) = j) := Lib.hid (cmn_is _ _ j (by rw [vsL_len, HN.out]; exact hj) (by rw [vsL_len, HK.out]; exact hjk) HE.out (Or.inl (by rw [vsL_len, HN.out])))
      go_wp2_with fail
      go_quiet (fail)
      go_wp2_with fail
      go_ret
      exact ⟨by rw [HR.out] <;> rfl, drewN_below HB.out _⟩
end Go.Proofs.YtgpcflpeddnfcaaDoor
set_option linter.unusedVariables false
set_option linter.unusedSimpArgs false
namespace Go.Proofs.YtgpcflpeddnfcaaDoor
open Go.RowKit Go.Sort
def b3i (v : Int) : List Int := [v / 65536 % 256, v / 256 % 256, v % 256]
def tbI (l : List Int) : List Int := l.flatMap b3i
def st3 (l : List (Int × Int)) : ByteArray := strOfNums (tbI (vsL l))
theorem tbI_next (l : List Int) (k : Nat) (h : k < l.length) : tbI (l.take (k + 1)) = tbI (l.take k) ++ b3i (l.getD k 0) := by
  rw [tbI, List.take_add_one, List.getElem?_eq_getElem h, List.flatMap_append, List.getD, List.getElem?_eq_getElem h]; simp [tbI]
theorem tbI_len (l : List Int) : (tbI l).length = 3 * l.length := by
  induction l with
  | nil => rfl
  | cons x xs ih => rw [tbI, List.flatMap_cons, List.length_append, show List.flatMap b3i xs = tbI xs from rfl, ih]; simp [b3i]; omega
theorem conv_row {w : World} {B : Nat} {v : Value} {xs : List Int} (h : w.ownsRow B 5 1 v xs.length (u8s xs)) :
    ∀ dst, Tryd.prog.underlying dst = some .string → (convert 179 dst v).run Tryd.prog w = .ok (.string (strOfNums xs)) w := by
  intro dst hd
  rcases h.2 with ⟨rfl, h0⟩ | ⟨g, cap, cur, rfl, _, _, _⟩
  · have e : xs = [] := List.eq_nil_of_length_eq_zero h0
    rw [run_convert_bytes_nil w _ 5 Tryd.underlying179 Tryd.underlying5 0 0 dst hd, e]
    rfl
  · rw [run_convert_bytes_arg w _ 5 Tryd.underlying179 Tryd.underlying5 g 0 _ _ xs rfl (fun i hi => ?_) dst hd]
    have := h.cells (g := g) rfl i (.int .u8 (xs.getD i 0)) (by simp [u8s, List.getElem?_eq_getElem hi, List.getD])
    have hadd : (⟨g, 0, none⟩ : Addr).add i = ⟨g, 0 + i, none⟩ := by unfold Addr.add; split <;> simp_all
    rw [← hadd]; exact this
set_option maxHeartbeats 4000000 in
theorem text3_any (l : List (Int × Int)) (a : Option Addr) (n c : Nat) (w : World) (hn : l.length = n) (hl : n ≤ 100000) (hok : sgC l = true) (hs : Signs w a l) :
    Calls Tryd.prog 126 #[.slice a n c] w fun e w' => e = .returned (.string (st3 l)) ∧ Below w.heap.size w w' := by
  obtain ⟨i0, hi, hz0, hz1, hz2⟩ := info_parts infoByte
  have HS := Lib.hid hs
  have HN := Lib.hid hn
  have HV := Lib.hid (sgC_vals hok)
  clear hs hn hok
  go_enter Tryd.func126, Tryd.ntmps126
  go_wp2_with (at_make; refine wpList_make_own _ rfl _ _ 179 rfl w.heap.size 5 i0 (.int .u8 0) 1 Tryd.underlying179 hi hz0 hz1  _ _ _ (3 * n) rfl rfl ?hC ?b2 ?b3 (Nat.le_refl _) ?_)
  case hC => first | omega | (simp; try omega)
  case b2 => rw [hz2]; omega
  case b3 => unfold maxLen; omega
  intro w0 hown0 hgrow0
  have hb0 : Below w.heap.size w w0 := (Below.refl _ _).grown hgrow0 (Nat.le_refl _) (fun k h => by cases h)
  have HO0 := Lib.hid hown0
  have HB0 := Lib.hid hb0
  clear hown0 hgrow0 hb0
  go_wp2
  go_loopw [3, 12] (fun v iv wr => ∃ k : Nat, k ≤ n ∧ iv = .int .i64 (k : Int) ∧ Hid (wr.ownsRow w.heap.size 5 1 v (tbI ((vsL l).take k)).length (u8s (tbI ((vsL l).take k)))) ∧ Hid (Below w.heap.size w wr)) (fun _ iv _ => n - (intOf iv).toNat)
  case atStart => exact ⟨0, Nat.zero_le _, rfl, HO0, HB0⟩
  case round =>
    obtain ⟨k, hk, rfl, HO, HB⟩ := hrel
    by_cases hlt : k < n
    · have hk1 : (k : Int) < n := by omega
      have hk0 : (0 : Int) ≤ k := by omega
      obtain ⟨b, off, rfl, hbk, c1, c2⟩ := (HS.out.below HB.out) k (by rw [HN.out]; exact hlt)
      have hva := vsL_at l k (by rw [HN.out]; exact hlt)
      have hnx := tbI_next (vsL l) k (by rw [vsL_len, HN.out]; exact hlt)
      rw [hva] at hnx
      obtain ⟨⟨v, u⟩, hvu⟩ : ∃ q, l.getD k (0, 0) = q := ⟨_, rfl⟩
      have hv := HV.out v (List.mem_map.2 ⟨(v, u), by rw [← hvu]; exact getD_mem (by rw [HN.out]; exact hlt), rfl⟩)
      rw [hvu] at c1 c2 hnx
      dsimp only at c1 c2 hnx
      have HX := Lib.hid hnx
      have hlen : (tbI ((vsL l).take k)).length = 3 * k := by rw [tbI_len, List.length_take, vsL_len, HN.out]; omega
      obtain ⟨T, hT⟩ : ∃ T, tbI ((vsL l).take k) = T := ⟨_, rfl⟩
      rw [hT] at HO HX hlen
      have HL := Lib.hid hlen
      have HVV := Lib.hid hv
      clear hva hnx hvu hT hlen hv
      have BA := below_alloc wr (.cells #[.int .i64 v, .int .i64 u] 70)
      have X8 := heap_alloc_new wr (.cells #[.int .i64 v, .int .i64 u] 70)
      clear X8
      go_wp2_with (at_builtin; refine wpList_append_own _ rfl _ _ 179 rfl w.heap.size 5 i0 (.int .u8 0) 1 1 Tryd.underlying179 hi hz0 hz1 hz2 rfl (by decide) _ _ _ rfl ((HO.out.alloc _).alloc _) ⟨wr.heap.size + 1, 0, none⟩ 3 3 [.int .u8 (v / 65536 % 256), .int .u8 (v / 256 % 256), .int .u8 (v % 256)] rfl rfl ?c1 ?c2 ?c3 ?c4 ?c5 ?_)
      case c1 =>
        intro j q hj
        have hs1 : (wr.alloc (.cells #[.int .i64 v, .int .i64 u] 70)).heap.size = wr.heap.size + 1 := by simp
        have h9 := heap_alloc_new (wr.alloc (.cells #[.int .i64 v, .int .i64 u] 70)) (.cells #[.int .u8 (v / 65536 % 256), .int .u8 (v / 256 % 256), .int .u8 (v % 256)] 5)
        rw [hs1] at h9
        match j, hj with
        | 0, hj => simp at hj; subst hj; exact cell_of_row _ _ 0 _ _ _ h9
        | 1, hj => simp at hj; subst hj; exact cell_of_row _ _ 1 _ _ _ h9
        | 2, hj => simp at hj; subst hj; exact cell_of_row _ _ 2 _ _ _ h9
        | j + 3, hj => simp at hj
      case c2 => intro q hq; simp at hq; rcases hq with rfl | rfl | rfl <;> rfl
      case c3 => rw [HL.out]; unfold maxLen; omega
      case c4 => rw [HL.out]; omega
      case c5 => have := HB.out.size; simp; omega
      intro v' w3 hown3 hgrow3 _
      have N3 := Lib.hid ((((HB.out.alloc HB.out.size _).alloc (by have := HB.out.size; simp; omega) _).grown hgrow3 (by have := HB.out.size; simp; omega) (fun k hk => (((HO.out.alloc (.cells #[.int .i64 v, .int .i64 u] 70)).alloc (.cells #[.int .u8 (v / 65536 % 256), .int .u8 (v / 256 % 256), .int .u8 (v % 256)] 5)).lt k hk).1)))
      have O3 : Hid (w3.ownsRow w.heap.size 5 1 v' (tbI ((vsL l).take (k + 1))).length (u8s (tbI ((vsL l).take (k + 1))))) := Lib.hid (by
        rw [HX.out]; simpa [u8s, b3i] using hown3)
      clear hown3 hgrow3
      go_wp2
      go_roundw
      case rel => exact ⟨k + 1, by omega, by go_num, O3, N3⟩
      case measure => (simp [intOf]; try omega)
    · obtain rfl : k = n := by omega
      have hk1 : ¬ (k : Int) < k := by omega
      rw [show (vsL l).take k = vsL l by rw [← HN.out, ← vsL_len, List.take_length]] at HO
      have CV := conv_row HO.out
      go_wp2_with fail
      go_ret
      exact ⟨rfl, HB.out⟩
end Go.Proofs.YtgpcflpeddnfcaaDoor
set_option linter.unusedVariables false
set_option linter.unusedSimpArgs false
namespace Go.Proofs.YtgpcflpeddnfcaaDoor
open Go.RowKit Go.Sort
/-- Block b is a map that counts the texts U. -/
structure CntM (w : World) (b : Nat) (U : List (List UInt8)) : Prop where
  ex : ∃ D : DataW Unit, w.ownsMap Tryd.prog 9 (plainElem Tryd.prog 3) b U.length D ∧ ∀ t, D.atKey (.string t) (.lit (.int .i64 0)) = .lit (.int .i64 (U.count t : Nat))
  le : U.length ≤ 100000
theorem keyS : Maps.Keyed Tryd.prog 9 := Maps.string_keyed Tryd.underlying9
theorem keyS_mk {s : ByteArray} (h : s.size ≤ maxLen) : keyOf Tryd.prog 9 (.string s) = some (.string s.data.toList) := by
  simp [keyOf, mapKey, Tryd.underlying9, h]
theorem zeroInt (w : World) : (zeroValue 3).run Tryd.prog w = .ok (.int .i64 0) w := by kernel_rfl
theorem litS_key {t : List UInt8} : WideAt.IsKeyLit (Lit.string t) := trivial
theorem litS_ne {s t : List UInt8} (h : s ≠ t) : Lit.string s ≠ Lit.string t := fun e => h (by injection e)
theorem CntM.kept {w w' : World} {b : Nat} {U : List (List UInt8)} (h : CntM w b U) {row : Option Nat} (hg : w.grownBy w' row) (hne : some b ≠ row) : CntM w' b U := by
  obtain ⟨D, h1, h2⟩ := h.ex
  exact ⟨⟨D, h1.kept hg hne, h2⟩, h.le⟩
theorem CntM.below {w w' : World} {b : Nat} {U : List (List UInt8)} (h : CntM w b U) (hb : Below w.heap.size w w') : CntM w' b U := h.kept (row := none) ⟨hb.os, hb.tape, hb.output, hb.size, fun k hk _ => hb.block k hk⟩ (by simp)
theorem CntM.blk {w w' : World} {b : Nat} {U : List (List UInt8)} (h : CntM w b U) (hk : w'.heap[b]? = w.heap[b]?) : CntM w' b U := by
  obtain ⟨D, ⟨es, clock, hb, F, hs, hD⟩, h2⟩ := h.ex
  exact ⟨⟨D, ⟨es, clock, hk.trans hb, F, hs, hD⟩, h2⟩, h.le⟩
theorem CntM.lt {w : World} {b : Nat} {U : List (List UInt8)} (h : CntM w b U) : b < w.heap.size := by
  obtain ⟨D, h1, _⟩ := h.ex; exact h1.lt
theorem CntM.made (w : World) : CntM (w.alloc (.map #[] 0)) w.heap.size [] :=
  ⟨⟨.map [], World.ownsMap_made w _ _ _, fun t => rfl⟩, by simp⟩
theorem CntM.look {w : World} {b : Nat} {U : List (List UInt8)} (h : CntM w b U) {s : ByteArray} (hs : s.size ≤ maxLen) {q : Nat} (hq : U.count s.data.toList = q) : (Instr.lookup 166 (.map (some b)) (.string s) false).run Tryd.prog w = .ok (.int .i64 (q : Int)) w := by
  obtain ⟨D, h1, h2⟩ := h.ex
  obtain ⟨c, hrun, hat, _⟩ := h1.lookup_int keyS Tryd.underlying166 Tryd.underlying3 (zeroInt w) (keyS_mk hs)
  rw [h2, hq] at hat
  rw [hrun]
  injection hat with e
  injection e with e1 e2
  rw [← e2]
theorem CntM.add {w : World} {b : Nat} {U : List (List UInt8)} (h : CntM w b U) {s : ByteArray} (hs : s.size ≤ maxLen) {q : Nat} (hq : U.count s.data.toList = q) (hl : U.length < 100000) {x : Int} (hx : x = (q : Int) + 1) :
    ∃ w', (Instr.mapUpdate 166 (.map (some b)) (.string s) (.int .i64 x)).run Tryd.prog w = .ok () w' ∧ CntM w' b (U ++ [s.data.toList]) ∧ w.grownBy w' (some b) := by
  subst hx
  obtain ⟨D, h1, h2⟩ := h.ex
  have hqU : q ≤ U.length := by rw [← hq]; exact List.count_le_length
  obtain ⟨w', hrun, ho, hg⟩ := h1.update keyS Tryd.underlying166 (by unfold maxLen; omega) (keyS_mk hs) (plainElem_int Tryd.underlying3 (a := (q : Int) + 1) (by simp [Lit.wf, IntKind.min, IntKind.max, IntKind.signed, IntKind.bits]; omega))
  have hT := h1.tidy keyS
  have hM := hT.isMap
  refine ⟨w', hrun, ⟨⟨_, by rw [List.length_append]; exact ho, fun t => ?_⟩, by simp; omega⟩, hg⟩
  by_cases ht : t = s.data.toList
  · subst ht
    rw [Maps.atKey_put_same hM litS_key, List.count_append, hq]
    simp
  · rw [Maps.atKey_put_other (litS_ne ht), h2, List.count_append]
    simp [List.count_singleton]
    rw [if_neg (fun e => ht e.symm)]; simp
/-- All blocks stay but b. -/
structure KpB (b : Nat) (w w' : World) : Prop where
  os : w'.os = w.os
  tape : w'.tape = w.tape
  output : w'.output = w.output
  size : w.heap.size ≤ w'.heap.size
  block : ∀ k, k < w.heap.size → k ≠ b → w'.heap[k]? = w.heap[k]?
theorem KpB.of {b : Nat} {w w' : World} (h : Below w.heap.size w w') : KpB b w w' := ⟨h.os, h.tape, h.output, h.size, fun k hk _ => h.block k hk⟩
theorem KpB.grown {b : Nat} {w w' : World} (h : w.grownBy w' (some b)) : KpB b w w' := ⟨h.os, h.tape, h.output, h.size, fun k hk hb => h.block k hk (by simpa using hb)⟩
theorem KpB.trans {b : Nat} {w w' w'' : World} (h : KpB b w w') (h2 : KpB b w' w'') : KpB b w w'' :=
  ⟨h2.os.trans h.os, h2.tape.trans h.tape, h2.output.trans h.output, Nat.le_trans h.size h2.size, fun k hk hb => (h2.block k (Nat.lt_of_lt_of_le hk h.size) hb).trans (h.block k hk hb)⟩
theorem KpB.below {b : Nat} {w w' : World} (h : KpB b w w') {B : Nat} (hB : B ≤ b) (hs : B ≤ w.heap.size) : Below B w w' := ⟨h.os, h.tape, h.output, h.size, fun k hk => h.block k (by omega) (by omega)⟩
/-- The picker: its word behind Q, its map b behind R. -/
structure PkS (w : World) (Q R b : Nat) (a : Option Addr) (m c : Nat) (W : List (Int × Int)) (U : List (List UInt8)) : Prop where
  q : w.heap[Q]? = some (.cells #[.slice a m c] 28 (0, 0))
  r : w.heap[R]? = some (.cells #[.map (some b)] 166 (0, 0))
  m : CntM w b U
  s : Signs w a W
  nq : Q ≠ b
  nr : R ≠ b
  ns : ∀ ad, a = some ad → W ≠ [] → ad.block ≠ b
theorem PkS.below {w w' : World} {Q R b : Nat} {a : Option Addr} {m c : Nat} {W : List (Int × Int)} {U : List (List UInt8)} (h : PkS w Q R b a m c W U) (hb : Below w.heap.size w w') : PkS w' Q R b a m c W U :=
  ⟨blk_below h.q hb, blk_below h.r hb, h.m.below hb, h.s.below hb, h.nq, h.nr, h.ns⟩
theorem signs_kpb {w w' : World} {b : Nat} {a : Option Addr} {W : List (Int × Int)} (h : Signs w a W) (hk : KpB b w w') (hn : ∀ ad, a = some ad → W ≠ [] → ad.block ≠ b) : Signs w' a W := fun i hi => by
  obtain ⟨g, off, e, hlt, c1, c2⟩ := h i hi
  have hne : g ≠ b := hn _ e (fun e => by rw [e] at hi; exact absurd hi (Nat.not_lt_zero _))
  have hb := hk.block g hlt hne
  refine ⟨g, off, e, Nat.lt_of_lt_of_le hlt hk.size, ?_, ?_⟩
  · unfold World.cell? at c1 ⊢; rw [hb]; exact c1
  · unfold World.cell? at c2 ⊢; rw [hb]; exact c2
theorem PkS.add {w w' : World} {Q R b : Nat} {a : Option Addr} {m c : Nat} {W : List (Int × Int)} {U V : List (List UInt8)} (h : PkS w Q R b a m c W U) (hg : w.grownBy w' (some b)) (hm : CntM w' b V) : PkS w' Q R b a m c W V :=
  ⟨(hg.block Q (blk_lt h.q) (by simpa using h.nq)).trans h.q, (hg.block R (blk_lt h.r) (by simpa using h.nr)).trans h.r, hm, signs_kpb h.s (KpB.grown hg) h.ns, h.nq, h.nr, h.ns⟩
theorem picker3_any (a : Option Addr) (m c : Nat) (W : List (Int × Int)) (w : World) (hs : Signs w a W) : Calls Tryd.prog 81 #[.slice a m c] w fun e w' => ∃ Q R b, e = .returned (.func (.func 125) #[] #[.pointer (some ⟨Q, 0, none⟩), .pointer (some ⟨R, 0, none⟩)]) ∧ PkS w' Q R b a m c W [] ∧ w.heap.size ≤ Q ∧ w.heap.size ≤ R ∧ w.heap.size ≤ b ∧ Below w.heap.size w w' := by
  have B1 := below_alloc w (.cells #[.slice a m c] 28)
  have h1 := heap_alloc_new w (.cells #[.slice a m c] 28)
  have hs1 : (w.alloc (.cells #[.slice a m c] 28)).heap.size = w.heap.size + 1 := by simp
  have B2 := below_alloc (w.alloc (.cells #[.slice a m c] 28)) (.map #[] 0)
  have h2 := CntM.made (w.alloc (.cells #[.slice a m c] 28))
  have hs2 : ((w.alloc (.cells #[.slice a m c] 28)).alloc (.map #[] 0)).heap.size = w.heap.size + 2 := by simp
  have B3 := below_alloc ((w.alloc (.cells #[.slice a m c] 28)).alloc (.map #[] 0)) (.cells #[.map (some (w.heap.size + 1))] 166)
  have h3 := heap_alloc_new ((w.alloc (.cells #[.slice a m c] 28)).alloc (.map #[] 0)) (.cells #[.map (some (w.heap.size + 1))] 166)
  rw [hs1] at h2
  rw [hs2] at h3
  have hlt : ∀ ad, a = some ad → W ≠ [] → ad.block ≠ w.heap.size + 1 := fun ad e hW => by
    obtain ⟨g, off, e2, hlt, _⟩ := hs 0 (List.length_pos_iff.2 hW)
    rw [e] at e2
    injection e2 with e3
    rw [e3]; simp; omega
  have HF : Hid (PkS _ w.heap.size (w.heap.size + 2) (w.heap.size + 1) a m c W []) := Lib.hid ⟨blk_below (blk_below h1 B2) B3, h3, h2.below B3, hs.below (seqB B1 (seqB B2 B3)), by omega, by omega, hlt⟩
  have BF := Lib.hid (seqB B1 (seqB B2 B3))
  have hmm := @run_makeMap Tryd.prog
  have hmf : ∀ (fn : Fn) (first cap : Array Value) (w : World), (Instr.makeFunc fn first cap).run Tryd.prog w = .ok (.func fn first cap) w := fun _ _ _ _ => rfl
  clear B1 h1 hs1 B2 h2 hs2 B3 h3 hlt hs
  go_enter Tryd.func81, Tryd.ntmps81
  go_wp2
  go_ret
  exact ⟨_, _, _, rfl, HF.out, by omega, by omega, by omega, BF.out⟩
end Go.Proofs.YtgpcflpeddnfcaaDoor
set_option linter.unusedVariables false
set_option linter.unusedSimpArgs false
namespace Go.Proofs.YtgpcflpeddnfcaaDoor
open Go.RowKit Go.Sort
theorem st3_tx (l : List (Int × Int)) (h : ∀ v ∈ vsL l, 0 ≤ v ∧ v < 16777216) : (st3 l).data.toList = tx3 (vsL l) := by
  unfold st3 tbI tx3
  generalize vsL l = L at *
  clear l
  induction L with
  | nil => rfl
  | cons x xs ih =>
    have e : ∀ l : List Int, (strOfNums l).data.toList = l.map fun x => x.toNat.toUInt8 := fun l => by simp [strOfNums]
    rw [e] at ih ⊢
    rw [List.flatMap_cons, List.map_append, ih (fun v hv => h v (List.mem_cons_of_mem _ hv)), List.flatMap_cons]
    rfl
theorem st3_size (l : List (Int × Int)) (h : l.length ≤ 100000) : (st3 l).size ≤ maxLen := by
  have e : (st3 l).size = (tbI (vsL l)).length := by simp [st3, strOfNums, ByteArray.size]
  rw [e, tbI_len, vsL_len]
  unfold maxLen; omega
theorem okC_no {W l : List (Int × Int)} (h : okC W l = false) : l.length ≤ W.length ∨ 4096 < l.length ∨ cmn (vsL W) (vsL l) < W.length ∨ sgC l = false := by
  unfold okC at h
  simp only [Bool.and_eq_false_iff, decide_eq_false_iff_not] at h
  rcases h with h | h | h | h
  · exact Or.inl (by omega)
  · exact Or.inr (Or.inl (by omega))
  · exact Or.inr (Or.inr (Or.inl (by omega)))
  · exact Or.inr (Or.inr (Or.inr h))
section
variable {w : World} {Q R b : Nat} {a : Option Addr} {m c : Nat} {W : List (Int × Int)} {U : List (List UInt8)}
set_option maxHeartbeats 4000000 in
theorem picked3_no (h : PkS w Q R b a m c W U) (l : List (Int × Int)) (y : Option Addr) (n d : Nat) (hn : l.length = n) (hm : W.length = m) (hl : n ≤ 100000) (hl2 : m ≤ 100000) (hs : Signs w y l) (ho : okC W l = false) :
    Calls Tryd.prog 125 #[.slice y n d, .pointer (some ⟨Q, 0, none⟩), .pointer (some ⟨R, 0, none⟩)] w fun e w' => e = .returned (.bool false) ∧ Below w.heap.size w w' := by
  have q0 := cell_of_row _ _ 0 _ _ _ h.q
  dsimp at q0
  have G0 := fun d os => cell_regrown q0 d os
  have CM0 : ∀ d' os, Calls Tryd.prog 82 #[.slice a m c, .slice y n d, .func (.func 83) #[] #[]] (grow (redrawn w d') os) fun e w' => e = .returned (.int .i64 (cmn (vsL W) (vsL l) : Nat)) ∧ Below (grow (redrawn w d') os).heap.size (grow (redrawn w d') os) w' := fun d' os => common_any W l a y m c n d _ hm hn (by omega) (by omega) (h.s.below (below_regrown w d' os)) (hs.below (below_regrown w d' os))
  have CK0 : ∀ d' os, Calls Tryd.prog 73 #[.slice y n d] (grow (redrawn w d') os) fun e w' => e = .returned (.int .i64 (sgE l)) ∧ Below (grow (redrawn w d') os).heap.size (grow (redrawn w d') os) w' := fun d' os => by
    have := scheck_any l y d (grow (redrawn w d') os) (by omega) (hs.below (below_regrown w d' os))
    rw [hn] at this; exact this
  have hcm := cmn_le (vsL W) (vsL l)
  rw [vsL_len, vsL_len, hm, hn] at hcm
  have ho2 := okC_no ho
  rw [hn, hm] at ho2
  obtain ⟨k, hk⟩ : ∃ k, cmn (vsL W) (vsL l) = k := ⟨_, rfl⟩
  rw [hk] at CM0 ho2 hcm
  have CM := Lib.hid fun d os => (CM0 d os).regrown_of
  have BR := Lib.hid fun d os => below_regrown w d os
  by_cases h1 : n ≤ m
  · have h1i : (n : Int) ≤ m := by omega
    clear CK0 CM0 CM ho2 hcm hk h hs hn hm ho
    go_enter Tryd.func125, Tryd.ntmps125
    go_upto_region 1 with fail
    refine wp_region_quiet_below (by kernel_rfl) (by kernel_rfl) ?_
    repeat (any_goals (go_big_quiet_step (first | fail)))
    refine wpQuiet_nil ?_
    intro _ hw'
    obtain ⟨⟨dq, osq⟩, hw''⟩ := hw'
    subst hw''
    go_wp2_with fail
    go_ret
    exact ⟨rfl, BR.out _ _⟩
  have h1i : ¬ (n : Int) ≤ m := by omega
  by_cases h2 : 4096 < n
  · have h2i : (4096 : Int) < n := by omega
    clear CK0 CM0 CM ho2 hcm hk h hs hn hm ho
    go_enter Tryd.func125, Tryd.ntmps125
    go_upto_region 1 with fail
    refine wp_region_quiet_below (by kernel_rfl) (by kernel_rfl) ?_
    repeat (any_goals (go_big_quiet_step (first | fail)))
    refine wpQuiet_nil ?_
    intro _ hw'
    obtain ⟨⟨dq, osq⟩, hw''⟩ := hw'
    subst hw''
    go_wp2_with fail
    go_ret
    exact ⟨rfl, BR.out _ _⟩
  have h2i : ¬ (4096 : Int) < n := by omega
  by_cases h3 : k < m
  · have h3i : (k : Int) < m := by omega
    clear CK0 CM0 ho2 hcm hk h hs hn hm ho
    go_enter Tryd.func125, Tryd.ntmps125
    go_upto_region 1 with fail
    refine wp_region_quiet_below (by kernel_rfl) (by kernel_rfl) ?_
    repeat (any_goals (go_big_quiet_step (first | (go_at_call 82; exact CM.out _ _))))
    refine wpQuiet_nil ?_
    intro _ hw'
    obtain ⟨⟨dq, osq⟩, hw''⟩ := hw'
    subst hw''
    go_wp2_with fail
    go_ret
    exact ⟨rfl, BR.out _ _⟩
  have h3i : ¬ (k : Int) < m := by omega
  have h4 : sgC l = false := by
    rcases ho2 with h | h | h | h
    · exact absurd h h1
    · exact absurd h h2
    · exact absurd h h3
    · exact h
  rw [sgE_no h4] at CK0
  have CK := Lib.hid fun d os => (CK0 d os).regrown_of
  clear CK0 CM0 ho2 hcm hk h hs hn hm ho h4
  go_enter Tryd.func125, Tryd.ntmps125
  go_upto_region 1 with fail
  refine wp_region_quiet_below (by kernel_rfl) (by kernel_rfl) ?_
  repeat (any_goals (go_big_quiet_step (first | (go_at_call 82; exact CM.out _ _) | (go_at_call 73; exact CK.out _ _))))
  refine wpQuiet_nil ?_
  intro _ hw'
  obtain ⟨⟨dq, osq⟩, hw''⟩ := hw'
  subst hw''
  go_wp2_with fail
  go_ret
  exact ⟨rfl, BR.out _ _⟩
set_option maxHeartbeats 4000000 in
theorem picked3_yes (h : PkS w Q R b a m c W U) (l : List (Int × Int)) (y : Option Addr) (n d : Nat) (hn : l.length = n) (hm : W.length = m) (hl2 : m ≤ 100000) (hs : Signs w y l) (hU : U.length < 100000) (ho : okC W l = true) :
    Calls Tryd.prog 125 #[.slice y n d, .pointer (some ⟨Q, 0, none⟩), .pointer (some ⟨R, 0, none⟩)] w fun e w' => e = .returned (.bool (decide (tx3 (vsL l) ∉ U))) ∧ PkS w' Q R b a m c W (U ++ [tx3 (vsL l)]) ∧ KpB b w w' := by
  have ok := okC_out ho
  rw [hn, hm] at ok
  have hl : n ≤ 100000 := by omega
  have q0 := cell_of_row _ _ 0 _ _ _ h.q
  dsimp at q0
  have G0 := fun d os => cell_regrown q0 d os
  have CM0 : ∀ d' os, Calls Tryd.prog 82 #[.slice a m c, .slice y n d, .func (.func 83) #[] #[]] (grow (redrawn w d') os) fun e w' => e = .returned (.int .i64 (cmn (vsL W) (vsL l) : Nat)) ∧ Below (grow (redrawn w d') os).heap.size (grow (redrawn w d') os) w' := fun d' os => common_any W l a y m c n d _ hm hn (by omega) (by omega) (h.s.below (below_regrown w d' os)) (hs.below (below_regrown w d' os))
  have CK0 : ∀ d' os, Calls Tryd.prog 73 #[.slice y n d] (grow (redrawn w d') os) fun e w' => e = .returned (.int .i64 (sgE l)) ∧ Below (grow (redrawn w d') os).heap.size (grow (redrawn w d') os) w' := fun d' os => by
    have := scheck_any l y d (grow (redrawn w d') os) (by omega) (hs.below (below_regrown w d' os))
    rw [hn] at this; exact this
  obtain ⟨k, hk⟩ : ∃ k, cmn (vsL W) (vsL l) = k := ⟨_, rfl⟩
  rw [hk] at CM0 ok
  rw [sgE_yes ok.2.2.2] at CK0
  have CM := Lib.hid fun d os => (CM0 d os).regrown_of
  have CK := Lib.hid fun d os => (CK0 d os).regrown_of
  have TX := Lib.hid fun (w' : World) (hb : Below w.heap.size w w') => text3_any l y n d w' hn hl ok.2.2.2 (hs.below hb)
  have h1i : ¬ (n : Int) ≤ m := by omega
  have h1n : ¬ n ≤ m := by omega
  have h2i : ¬ (4096 : Int) < n := by omega
  have h3i : ¬ (k : Int) < m := by omega
  have h3n : ¬ k < m := by omega
  have hst := st3_tx l (sgC_vals ok.2.2.2)
  have hsz := st3_size l (by omega)
  obtain ⟨T, hT⟩ : ∃ T, st3 l = T := ⟨_, rfl⟩
  rw [hT] at hst hsz TX
  rw [← hst]
  obtain ⟨q, hq⟩ : ∃ q, U.count T.data.toList = q := ⟨_, rfl⟩
  have hqU : q ≤ 100000 := by rw [← hq]; exact Nat.le_trans List.count_le_length (by omega)
  have hdec : decide (T.data.toList ∉ U) = decide (q = 0) := by
    rw [← hq]
    by_cases hin : T.data.toList ∈ U
    · have := List.count_pos_iff.2 hin
      rw [decide_eq_false (by simpa using hin), decide_eq_false (by omega)]
    · rw [decide_eq_true hin, decide_eq_true (List.count_eq_zero.2 hin)]
  rw [hdec]
  have HH := Lib.hid h
  have HQ := Lib.hid hq
  have HZ := Lib.hid hsz
  have HU := Lib.hid hU
  clear CM0 CK0 hk h hs hn hm ho ok hst hT hdec hq hsz hU
  go_enter Tryd.func125, Tryd.ntmps125
  go_upto_region 1 with fail
  refine wp_region_quiet_below (by kernel_rfl) (by kernel_rfl) ?_
  repeat (any_goals (go_big_quiet_step (first | (go_at_call 82; exact CM.out _ _) | (go_at_call 73; exact CK.out _ _))))
  refine wpQuiet_nil ?_
  intro _ hw'
  obtain ⟨⟨dq, osq⟩, hw''⟩ := hw'
  subst hw''
  have BR := Lib.hid (below_regrown w dq osq)
  clear G0 CM CK q0
  go_upto_region 4 with (go_at_call 126; refine (TX.out _ BR.out).mono ?_; rintro e w3 ⟨rfl, hb⟩; have N3 := Lib.hid (seqB BR.out hb); clear hb TX BR)
  have H3 := Lib.hid (HH.out.below N3.out)
  have K3 := Lib.hid (KpB.of (b := b) N3.out)
  have r3 := cell_of_row _ _ 0 _ _ _ H3.out.r
  dsimp at r3
  have lk3 := H3.out.m.look HZ.out HQ.out
  by_cases hq0 : q = 0
  · subst hq0
    obtain ⟨w4, hup, hm4, hg4⟩ := H3.out.m.add HZ.out HQ.out HU.out (x := 1) rfl
    have H4 := Lib.hid (H3.out.add hg4 hm4)
    have K4 := Lib.hid (K3.out.trans (KpB.grown hg4))
    have r4 := cell_of_row _ _ 0 _ _ _ H4.out.r
    dsimp at r4
    have lk4 := H4.out.m.look HZ.out (q := 1) (by rw [List.count_append, HQ.out]; simp)
    clear hm4 hg4 H3 K3 HH HQ HU HZ
    have e0 : (((0 : Nat) : Int)) = 0 := rfl
    have e1 : (((1 : Nat) : Int)) = 1 := rfl
    rw [e0] at lk3
    rw [e1] at lk4
    go_wp2_with fail
    go_ret
    exact ⟨rfl, H4.out, K4.out⟩
  · obtain ⟨w4, hup, hm4, hg4⟩ := H3.out.m.add HZ.out HQ.out HU.out (x := (q : Int) + 1) rfl
    have H4 := Lib.hid (H3.out.add hg4 hm4)
    have K4 := Lib.hid (K3.out.trans (KpB.grown hg4))
    have r4 := cell_of_row _ _ 0 _ _ _ H4.out.r
    dsimp at r4
    have lk4 := H4.out.m.look HZ.out (q := q + 1) (by rw [List.count_append, HQ.out]; simp)
    clear hm4 hg4 H3 K3 HH HQ HU HZ
    rw [show (((q + 1 : Nat)) : Int) = (q : Int) + 1 by omega] at lk4
    have hq1 : ((q : Int) + 1 == 1) = false := beq_eq_false_iff_ne.2 (by omega)
    have hq2 : ¬ ((q : Int) + 1 = 1) := by omega
    go_wp2_with fail
    go_ret
    exact ⟨by rw [decide_eq_false hq0] <;> rfl, H4.out, K4.out⟩
end
end Go.Proofs.YtgpcflpeddnfcaaDoor
set_option linter.unusedVariables false
set_option linter.unusedSimpArgs false
namespace Go.Proofs.YtgpcflpeddnfcaaDoor
open Go.RowKit Go.Sort
theorem own_ne_map {w : World} {B n size b : Nat} {e : TypeId} {v : Value} {xs : List Value} {es : Array MapEntry} {ck : Nat} (h : w.ownsRow B e size v n xs) (hb : w.heap[b]? = some (.map es ck)) : v.ownBlock ≠ some b := by
  rcases h.2 with ⟨rfl, _⟩ | ⟨g, cap, cur, rfl, _, hg, _⟩
  · simp [Value.ownBlock]
  · intro e'
    obtain rfl : g = b := by simpa [Value.ownBlock] using e'
    rw [hg] at hb; simp at hb
theorem CntM.es {w : World} {b : Nat} {U : List (List UInt8)} (h : CntM w b U) : ∃ es ck, w.heap[b]? = some (.map es ck) := by
  obtain ⟨D, ⟨es, ck, hb, _⟩, _⟩ := h.ex
  exact ⟨es, ck, hb⟩
theorem own_kept_ne {w w' : World} {B n size : Nat} {e : TypeId} {v : Value} {xs : List Value} {row : Option Nat} (h : w.ownsRow B e size v n xs) (hg : w.grownBy w' row) (hne : v.ownBlock ≠ row ∨ v.ownBlock = none) : w'.ownsRow B e size v n xs := World.ownsRow.kept h hg (by rcases hne with h | h <;> simp_all)
/-- A row of slices, with its values. -/
structure RdV (B : Nat) (v : Value) (vs : List Value) (E : List (List Sg2)) (w : World) : Prop where
  row : w.ownsRow B 28 1 v E.length vs
  len : vs.length = E.length
  el : ∀ i, i < E.length → ∃ x, vs[i]? = some x ∧ OwS w B x (E.getD i [])
theorem RdK.vs {B : Nat} {v : Value} {E : List (List Sg2)} {w : World} (h : RdK B v E w) : ∃ vs, RdV B v vs E w := by
  obtain ⟨vs, h1, h2⟩ := h.ex
  exact ⟨vs, h1, by have := h1.1; omega, h2⟩
theorem RdV.rd {B : Nat} {v : Value} {vs : List Value} {E : List (List Sg2)} {w : World} (h : RdV B v vs E w) (hB : B ≤ w.heap.size) : RdK B v E w := ⟨⟨vs, h.row, h.el⟩, hB⟩
theorem RdV.below {B : Nat} {v : Value} {vs : List Value} {E : List (List Sg2)} {w w' : World} (h : RdV B v vs E w) (hb : Below w.heap.size w w') : RdV B v vs E w' :=
  ⟨own_kept_ne h.row (row := none) ⟨hb.os, hb.tape, hb.output, hb.size, fun k hk _ => hb.block k hk⟩ (by cases v.ownBlock <;> simp), h.len, fun i hi => by obtain ⟨x, e, hx⟩ := h.el i hi; exact ⟨x, e, ows_keep hx hb⟩⟩
theorem ows_map {B b : Nat} {x : Value} {l : List Sg2} {U : List (List UInt8)} {w w' : World} (h : OwS w B x l) (hm : CntM w b U) (hg : w.grownBy w' (some b)) : OwS w' B x l := by
  obtain ⟨es, ck, hb⟩ := hm.es
  exact own_kept_ne h hg (Or.inl (own_ne_map h hb))
theorem RdV.map {B b : Nat} {v : Value} {vs : List Value} {E : List (List Sg2)} {U : List (List UInt8)} {w w' : World} (h : RdV B v vs E w) (hm : CntM w b U) (hg : w.grownBy w' (some b)) : RdV B v vs E w' := by
  obtain ⟨es, ck, hb⟩ := hm.es
  exact ⟨own_kept_ne h.row hg (Or.inl (own_ne_map h.row hb)), h.len, fun i hi => by obtain ⟨x, e, hx⟩ := h.el i hi; exact ⟨x, e, ows_map hx hm hg⟩⟩
theorem RdV.set {B O : Nat} {v : Value} {vs : List Value} {E : List (List Sg2)} {w : World} {cs : Array Value} {fr : Nat × Nat} (h : RdV B v vs E w) (hO : w.heap[O]? = some (.cells cs 115 fr)) (i : Nat) (u : Value) : RdV B v vs E (w.setCell ⟨O, i, none⟩ u) :=
  ⟨own_set h.row (own_ne_kind h.row hO (by decide)) u, h.len, fun j hj => by obtain ⟨x, e, hx⟩ := h.el j hj; exact ⟨x, e, by unfold OwS at hx ⊢; exact own_set hx (own_ne_kind hx hO (by decide)) u⟩⟩
/-- A row of signs that a call made, as a slice of its own. -/
theorem ows_blk {w : World} {B g n : Nat} {l : List Sg2} (h : w.heap[g]? = some (.cells (sRow l) 70 (0, 0))) (hB : B ≤ g) (hn : l.length = n) (hl : n ≤ maxLen) : OwS w B (.slice (some ⟨g, 0, none⟩) n n) l := by
  have hlen := apR_len l
  have hsz : (sRow l).size = l.length * 2 := by rw [← hlen, Array.length_toList]
  refine ⟨by rw [hlen], .inr ⟨g, n, sRow l, by rw [hn], hB, h, ?_⟩⟩
  refine ⟨by omega, ?_, ?_⟩
  · simp_all
  · simp_all [List.take_of_length_le]
/-- An offer in block O. -/
structure OfS (B O : Nat) (L : List Sg2) (xa : Option Addr) (n xc at_ wd : Nat) (T : List (List Sg2)) (st : Nat) (hd : Int) (w : World) : Prop where
  ex : ∃ vT vs, w.heap[O]? = some (.cells #[.slice xa n xc, .int .i64 at_, .int .i64 wd, vT, .int .i64 st, .int .i64 hd] 115 (0, 0)) ∧ RdV B vT vs T w
  own : OwS w B (.slice xa n xc) L
  le : B ≤ O
section
variable {B O : Nat} {L : List Sg2} {xa : Option Addr} {n xc at_ wd : Nat} {T : List (List Sg2)} {st : Nat} {hd : Int} {w w' : World}
theorem OfS.below (h : OfS B O L xa n xc at_ wd T st hd w) (hb : Below w.heap.size w w') : OfS B O L xa n xc at_ wd T st hd w' := by
  obtain ⟨vT, vs, h1, h2⟩ := h.ex
  exact ⟨⟨vT, vs, blk_below h1 hb, h2.below hb⟩, ows_keep h.own hb, h.le⟩
theorem OfS.map {b : Nat} {U : List (List UInt8)} (h : OfS B O L xa n xc at_ wd T st hd w) (hm : CntM w b U) (hg : w.grownBy w' (some b)) : OfS B O L xa n xc at_ wd T st hd w' := by
  obtain ⟨vT, vs, h1, h2⟩ := h.ex
  obtain ⟨es, ck, hb⟩ := hm.es
  have hne : O ≠ b := fun e => by rw [e, hb] at h1; simp at h1
  exact ⟨⟨vT, vs, (hg.block O (blk_lt h1) (by simpa using hne)).trans h1, h2.map hm hg⟩, ows_map h.own hm hg, h.le⟩
theorem OfS.stem (h : OfS B O L xa n xc at_ wd T st hd w) (st' : Nat) : OfS B O L xa n xc at_ wd T st' hd (w.setCell ⟨O, 4, none⟩ (.int .i64 st')) := by
  obtain ⟨vT, vs, h1, h2⟩ := h.ex
  exact ⟨⟨vT, vs, blk_set h1 4 _, h2.set h1 4 _⟩, by have := h.own; unfold OwS at this ⊢; exact own_set this (own_ne_kind this h1 (by decide)) _, h.le⟩
theorem OfS.hand (h : OfS B O L xa n xc at_ wd T st hd w) (hd' : Int) : OfS B O L xa n xc at_ wd T st hd' (w.setCell ⟨O, 5, none⟩ (.int .i64 hd')) := by
  obtain ⟨vT, vs, h1, h2⟩ := h.ex
  exact ⟨⟨vT, vs, blk_set h1 5 _, h2.set h1 5 _⟩, by have := h.own; unfold OwS at this ⊢; exact own_set this (own_ne_kind this h1 (by decide)) _, h.le⟩
theorem OfS.mono (h : OfS B O L xa n xc at_ wd T st hd w) {B' : Nat} (hB : B' ≤ B) : OfS B' O L xa n xc at_ wd T st hd w := by
  obtain ⟨vT, vs, h1, h2⟩ := h.ex
  exact ⟨⟨vT, vs, h1, ⟨World.ownsRow.mono h2.row hB, h2.len, fun i hi => by obtain ⟨x, e, hx⟩ := h2.el i hi; exact ⟨x, e, OwS.mono hx hB⟩⟩⟩, OwS.mono h.own hB, Nat.le_trans hB h.le⟩
/-- What the append and the store leave. -/
theorem OfS.push {vT v' x : Value} {vs : List Value} {l : List Sg2} {w5 : World} (h1 : w.heap[O]? = some (.cells #[.slice xa n xc, .int .i64 at_, .int .i64 wd, vT, .int .i64 st, .int .i64 hd] 115 (0, 0))) (h2 : RdV B vT vs T w) (h3 : OwS w B (.slice xa n xc) L) (hle : B ≤ O) (hBw : B ≤ w.heap.size) (hx : OwS w B x l)
    (ho : w5.ownsRow B 28 1 v' (T.length + 1) (vs ++ [x])) (hg : w.grownBy w5 vT.ownBlock) :
    OfS B O L xa n xc at_ wd (T ++ [l]) st hd (w5.setCell ⟨O, 3, none⟩ v') ∧ w5.heap[O]? = some (.cells #[.slice xa n xc, .int .i64 at_, .int .i64 wd, vT, .int .i64 st, .int .i64 hd] 115 (0, 0)) ∧ Below B w (w5.setCell ⟨O, 3, none⟩ v') := by
  have hOne : vT.ownBlock ≠ some O := own_ne_kind h2.row h1 (by decide)
  have hO5 : w5.heap[O]? = some (.cells #[.slice xa n xc, .int .i64 at_, .int .i64 wd, vT, .int .i64 st, .int .i64 hd] 115 (0, 0)) := (hg.block O (blk_lt h1) (fun e => hOne e.symm)).trans h1
  have hkS : ∀ y M, OwS w B y M → OwS w5 B y M := fun y M hy => own_kept_ne hy hg ((own_ne_own hy h2.row (by decide)).symm)
  obtain ⟨⟨vs5, r5, e5⟩, _⟩ := RdK.next h2.el h2.len h2.row hx ho hg hBw
  have hv : RdV B v' (vs ++ [x]) (T ++ [l]) w5 := by
    refine ⟨by rw [List.length_append]; exact ho, by simp [h2.len], fun i hi => ?_⟩
    rw [List.length_append, List.length_singleton] at hi
    by_cases hlt : i < T.length
    · obtain ⟨y, e, hy⟩ := h2.el i hlt
      refine ⟨y, by rw [List.getElem?_append_left (by rw [h2.len]; exact hlt)]; exact e, ?_⟩
      rw [show (T ++ [l]).getD i [] = T.getD i [] by rw [List.getD, List.getElem?_append_left hlt, List.getD]]
      exact hkS _ _ hy
    · obtain rfl : i = T.length := by omega
      refine ⟨x, by rw [List.getElem?_append_right (by rw [h2.len]; omega), h2.len, Nat.sub_self]; rfl, ?_⟩
      rw [show (T ++ [l]).getD T.length [] = l by rw [List.getD, List.getElem?_append_right (Nat.le_refl _), Nat.sub_self]; rfl]
      exact hkS _ _ hx
  refine ⟨⟨⟨v', vs ++ [x], blk_set hO5 3 _, hv.set hO5 3 _⟩, ?_, hle⟩, hO5, hg.os, hg.tape, hg.output, by have := hg.size; simpa [World.setCell] using this, fun k hk => ?_⟩
  · have := hkS _ _ h3
    unfold OwS at this ⊢
    exact own_set this (own_ne_kind this hO5 (by decide)) _
  · rw [Below.heap_setCell w5 ⟨O, 3, none⟩ v' k (by show k ≠ O; omega)]
    refine hg.block k (by omega) (fun e => ?_)
    have := (h2.row.lt k e.symm).1
    omega
/-- What is read of an offer that has something. -/
theorem OfS.view {t : Nat} (h : OfS B O L xa n xc at_ wd T st hd w) (hT : T.length = t) (h0 : 0 < t) : ∃ gg cap a0 n0 c0, w.heap[O]? = some (.cells #[.slice xa n xc, .int .i64 at_, .int .i64 wd, .slice (some ⟨gg, 0, none⟩) t cap, .int .i64 st, .int .i64 hd] 115 (0, 0)) ∧ w.cell? ⟨gg, 0, none⟩ = some (.slice a0 n0 c0) ∧ (T.getD 0 []).length = n0 ∧ OwS w B (.slice a0 n0 c0) (T.getD 0 []) ∧ gg < w.heap.size := by
  obtain ⟨vT, vs, h1, h2⟩ := h.ex
  obtain ⟨gg, cap, rfl⟩ := ownsRow_pos h2.row (by omega)
  obtain ⟨x, e, hx⟩ := h2.el 0 (by omega)
  obtain ⟨a0, c0, rfl⟩ := hx.form rfl
  have c := h2.row.cellAt 0 (by omega)
  rw [e] at c
  refine ⟨gg, cap, a0, _, c0, by rw [h1, ← hT], c, rfl, hx, (h2.row.lt gg rfl).2⟩
end
theorem KpB.gr {b : Nat} {w w' : World} (h : KpB b w w') : w.grownBy w' (some b) := ⟨h.os, h.tape, h.output, h.size, fun k hk hb => h.block k hk (by simpa using hb)⟩
/-- The picker's blocks lie below B. -/
structure PkB (B : Nat) (w : World) (Q R b : Nat) (a : Option Addr) (m c : Nat) (W : List (Int × Int)) (U : List (List UInt8)) : Prop where
  p : PkS w Q R b a m c W U
  lt : Q < B ∧ R < B ∧ b < B
  s : ∀ ad, a = some ad → W ≠ [] → ad.block < B
theorem PkB.below {B : Nat} {w w' : World} {Q R b : Nat} {a : Option Addr} {m c : Nat} {W : List (Int × Int)} {U : List (List UInt8)} (h : PkB B w Q R b a m c W U) (hb : Below w.heap.size w w') : PkB B w' Q R b a m c W U := ⟨h.p.below hb, h.lt, h.s⟩
theorem PkB.stay {B : Nat} {w w' : World} {Q R b : Nat} {a : Option Addr} {m c : Nat} {W : List (Int × Int)} {U : List (List UInt8)} (h : PkB B w Q R b a m c W U) (hz : w.heap.size ≤ w'.heap.size) (hk : ∀ k, k < B → w'.heap[k]? = w.heap[k]?) : PkB B w' Q R b a m c W U := by
  refine ⟨⟨(hk Q h.lt.1).trans h.p.q, (hk R h.lt.2.1).trans h.p.r, h.p.m.blk (hk b h.lt.2.2), ?_, h.p.nq, h.p.nr, h.p.ns⟩, h.lt, h.s⟩
  intro i hi
  obtain ⟨g, off, e, hlt, c1, c2⟩ := h.p.s i hi
  have hg : g < B := h.s _ e (fun e => by rw [e] at hi; exact absurd hi (Nat.not_lt_zero _))
  refine ⟨g, off, e, Nat.lt_of_lt_of_le hlt hz, ?_, ?_⟩
  · unfold World.cell? at c1 ⊢; rw [hk g hg]; exact c1
  · unfold World.cell? at c2 ⊢; rw [hk g hg]; exact c2
theorem PkB.set {B O : Nat} {w : World} {Q R b : Nat} {a : Option Addr} {m c : Nat} {W : List (Int × Int)} {U : List (List UInt8)} (h : PkB B w Q R b a m c W U) (hO : B ≤ O) (i : Nat) (u : Value) : PkB B (w.setCell ⟨O, i, none⟩ u) Q R b a m c W U :=
  h.stay (by simp [World.setCell]) (fun k hk => Below.heap_setCell w ⟨O, i, none⟩ u k (by show k ≠ O; omega))
end Go.Proofs.YtgpcflpeddnfcaaDoor
set_option linter.unusedVariables false
set_option linter.unusedSimpArgs false
namespace Go.Proofs.YtgpcflpeddnfcaaDoor
open Go.RowKit Go.Sort
def nxJ (t j : Nat) : Nat := if j = t then 0 else j + 1
def pvJ (t j : Nat) : Nat := if j = 0 then t else j - 1
theorem KpB.set (b : Nat) (w : World) (i : Nat) (u : Value) : KpB b w (w.setCell ⟨b, i, none⟩ u) := ⟨rfl, rfl, rfl, by simp [World.setCell], fun k _ hk => Below.heap_setCell w ⟨b, i, none⟩ u k hk⟩
/-- What lies in other blocks stays. -/
theorem ows_kpO {B O : Nat} {v : Value} {l : List Sg2} {w w' : World} {cs : Array Value} {fr : Nat × Nat} (h : OwS w B v l) (hO : w.heap[O]? = some (.cells cs 115 fr)) (k : KpB O w w') : OwS w' B v l := own_kept_ne h k.gr (Or.inl (own_ne_kind h hO (by decide)))
section
variable {B O : Nat} {L : List Sg2} {xa : Option Addr} {n xc at_ wd : Nat} {T : List (List Sg2)} {st : Nat} {hd : Int} {w w' : World}
theorem of_hand (h : OfS B O L xa n xc at_ wd T st hd w) : Calls Tryd.prog 38 #[.pointer (some ⟨O, 0, none⟩)] w fun e w' => e = .returned (.int .i64 hd) ∧ w = w' := by
  obtain ⟨vT, vs, h1, _⟩ := h.ex
  have y5 := cell_of_row _ _ 5 _ _ _ h1
  dsimp at y5
  clear h1
  go_enter Tryd.func38, Tryd.ntmps38
  go_wp2
  go_ret
  exact ⟨rfl, rfl⟩
theorem of_len (h : OfS B O L xa n xc at_ wd T st hd w) : Calls Tryd.prog 37 #[.pointer (some ⟨O, 0, none⟩)] w fun e w' => e = .returned (.int .i64 (T.length : Nat)) ∧ w = w' := by
  obtain ⟨vT, vs, h1, h2⟩ := h.ex
  have hf : ∃ a c, vT = .slice a T.length c := by
    rcases h2.row.2 with ⟨rfl, h0⟩ | ⟨g, cap, cur, rfl, _⟩
    · exact ⟨none, 0, by rw [h0]⟩
    · exact ⟨_, cap, rfl⟩
  obtain ⟨ta, tc, rfl⟩ := hf
  have y5 := cell_of_row _ _ 3 _ _ _ h1
  dsimp at y5
  clear h1 h2
  go_enter Tryd.func37, Tryd.ntmps37
  go_wp2
  go_ret
  exact ⟨rfl, rfl⟩
theorem of_hand0 (w : World) : Calls Tryd.prog 38 #[.pointer none] w fun e w' => e = .returned (.int .i64 (-1)) ∧ w = w' := by
  go_enter Tryd.func38, Tryd.ntmps38
  go_wp2
  go_ret
  exact ⟨rfl, rfl⟩
theorem of_len0 (w : World) : Calls Tryd.prog 37 #[.pointer none] w fun e w' => e = .returned (.int .i64 0) ∧ w = w' := by
  go_enter Tryd.func37, Tryd.ntmps37
  go_wp2
  go_ret
  exact ⟨rfl, rfl⟩
theorem of_next0 (w : World) : Calls Tryd.prog 41 #[.pointer none] w fun e w' => e = .returned (.bool false) ∧ w = w' := by
  go_enter Tryd.func41, Tryd.ntmps41
  go_wp2
  go_ret
  exact ⟨rfl, rfl⟩
theorem of_prev0 (w : World) : Calls Tryd.prog 42 #[.pointer none] w fun e w' => e = .returned (.bool false) ∧ w = w' := by
  go_enter Tryd.func42, Tryd.ntmps42
  go_wp2
  go_ret
  exact ⟨rfl, rfl⟩
theorem of_all0 (w : World) : Calls Tryd.prog 36 #[.pointer none] w fun e w' => e = .returned (.slice none 0 0) ∧ w = w' := by
  go_enter Tryd.func36, Tryd.ntmps36
  go_wp2
  go_ret
  exact ⟨rfl, rfl⟩
theorem of_line0 (w : World) : Calls Tryd.prog 39 #[.pointer none] w fun e w' => e = .returned (.agg #[.slice none 0 0, .int .i64 0]) ∧ Below w.heap.size w w' := by
  have BB := Lib.hid (((Below.refl w.heap.size w).alloc (Nat.le_refl _) (.cells #[.slice none 0 0, .int .i64 0] 30)))
  go_enter Tryd.func39, Tryd.ntmps39
  go_wp2
  refine bodyPost_ret (v := .agg #[.slice none 0 0, .int .i64 0]) (by simp [results, Tryd.results39, go_sem]) rfl ?_
  exact ⟨rfl, BB.out⟩
theorem of_nextA {t j : Nat} (h : OfS B O L xa n xc at_ wd T st hd w) (hB : B ≤ w.heap.size) (hT : T.length = t) (h0 : 0 < t) (hj : hd + 1 = (j : Int)) (hjt : j = t) (ht : t ≤ 1000) :
    Calls Tryd.prog 41 #[.pointer (some ⟨O, 0, none⟩)] w fun e w' => e = .returned (.bool true) ∧ OfS B O L xa n xc at_ wd T st (-1) w' ∧ KpB O w w' := by
  obtain ⟨gg, cap, _, _, _, hblk, _, _, _, _⟩ := h.view hT h0
  have y5 := cell_of_row _ _ 5 _ _ _ hblk
  have yf := frozen_of_row _ O 5 _ _ hblk
  have hblk2 := blk_set hblk 5 (.int .i64 (j : Int))
  have z3 := cell_of_row _ _ 3 _ _ _ hblk2
  have z5 := cell_of_row _ _ 5 _ _ _ hblk2
  have zf := frozen_of_row _ O 5 _ _ hblk2
  dsimp at y5 z3 z5
  have H := Lib.hid h
  have HBO := Lib.hid h.le
  subst hjt
  clear h hblk hT
  go_enter Tryd.func41, Tryd.ntmps41
  go_upto_region 4 with fail
  go_quiet (fail)
  obtain ⟨W, hW⟩ : ∃ W, (w.setCell ⟨O, 5, none⟩ (.int .i64 (j : Int))).drewN nq = W := ⟨_, rfl⟩
  have BD : Below (w.setCell ⟨O, 5, none⟩ (.int .i64 (j : Int))).heap.size (w.setCell ⟨O, 5, none⟩ (.int .i64 (j : Int))) W := by rw [← hW]; exact ⟨rfl, rfl, rfl, Nat.le_refl _, fun _ _ => rfl⟩
  have H2 := Lib.hid (((H.out.hand (j : Int)).below BD).hand (-1))
  have K2 := Lib.hid (((KpB.set O w 5 (.int .i64 (j : Int))).trans (KpB.of BD)).trans (KpB.set O W 5 (.int .i64 (-1))))
  have hb3 := blk_below hblk2 BD
  have u5 := cell_of_row _ _ 5 _ _ _ hb3
  have uf := frozen_of_row _ O 5 _ _ hb3
  replace u5 : W.cell? ⟨O, 5, none⟩ = some (.int .i64 (j : Int)) := u5
  rw [hW]
  clear hW BD hb3 hblk2 y5 yf z3 z5 zf H
  go_wp2
  go_ret
  exact ⟨rfl, H2.out, K2.out⟩
theorem of_nextB {t j : Nat} (h : OfS B O L xa n xc at_ wd T st hd w) (hB : B ≤ w.heap.size) (hT : T.length = t) (h0 : 0 < t) (hj : hd + 1 = (j : Int)) (hjt : j < t) (ht : t ≤ 1000) :
    Calls Tryd.prog 41 #[.pointer (some ⟨O, 0, none⟩)] w fun e w' => e = .returned (.bool true) ∧ OfS B O L xa n xc at_ wd T st (j : Int) w' ∧ KpB O w w' := by
  obtain ⟨gg, cap, _, _, _, hblk, _, _, _, _⟩ := h.view hT h0
  have y5 := cell_of_row _ _ 5 _ _ _ hblk
  have yf := frozen_of_row _ O 5 _ _ hblk
  have hblk2 := blk_set hblk 5 (.int .i64 (j : Int))
  have z3 := cell_of_row _ _ 3 _ _ _ hblk2
  have z5 := cell_of_row _ _ 5 _ _ _ hblk2
  dsimp at y5 z3 z5
  have H := Lib.hid h
  have HBO := Lib.hid h.le
  have hne : ¬ j = t := by omega
  have hneb : ((j : Int) == (t : Int)) = false := beq_eq_false_iff_ne.2 (by omega)
  clear h hblk hT hblk2
  go_enter Tryd.func41, Tryd.ntmps41
  go_upto_region 4 with fail
  go_quiet (fail)
  have BD : Below (w.setCell ⟨O, 5, none⟩ (.int .i64 (j : Int))).heap.size (w.setCell ⟨O, 5, none⟩ (.int .i64 (j : Int))) ((w.setCell ⟨O, 5, none⟩ (.int .i64 (j : Int))).drewN nq) := ⟨rfl, rfl, rfl, Nat.le_refl _, fun _ _ => rfl⟩
  have H2 := Lib.hid ((H.out.hand (j : Int)).below BD)
  have K2 := Lib.hid ((KpB.set O w 5 (.int .i64 (j : Int))).trans (KpB.of BD))
  clear BD
  go_wp2
  go_ret
  exact ⟨rfl, H2.out, K2.out⟩
theorem of_next {t j : Nat} (h : OfS B O L xa n xc at_ wd T st hd w) (hB : B ≤ w.heap.size) (hT : T.length = t) (h0 : 0 < t) (hj : hd + 1 = (j : Int)) (hjt : j ≤ t) (ht : t ≤ 1000) :
    Calls Tryd.prog 41 #[.pointer (some ⟨O, 0, none⟩)] w fun e w' => e = .returned (.bool true) ∧ (∃ hd', hd' + 1 = (nxJ t j : Int) ∧ OfS B O L xa n xc at_ wd T st hd' w') ∧ KpB O w w' := by
  by_cases e : j = t
  · exact (of_nextA h hB hT h0 hj e ht).mono fun _ _ ⟨a, b, c⟩ => ⟨a, ⟨-1, by unfold nxJ; rw [if_pos e]; rfl, b⟩, c⟩
  · exact (of_nextB h hB hT h0 hj (by omega) ht).mono fun _ _ ⟨a, b, c⟩ => ⟨a, ⟨j, by unfold nxJ; rw [if_neg e]; omega, b⟩, c⟩
theorem of_prev {t j : Nat} (h : OfS B O L xa n xc at_ wd T st hd w) (hB : B ≤ w.heap.size) (hT : T.length = t) (h0 : 0 < t) (hj : hd + 1 = (j : Int)) (hjt : j ≤ t) (ht : t ≤ 1000) :
    Calls Tryd.prog 42 #[.pointer (some ⟨O, 0, none⟩)] w fun e w' => e = .returned (.bool true) ∧ (∃ hd', hd' + 1 = (pvJ t j : Int) ∧ OfS B O L xa n xc at_ wd T st hd' w') ∧ KpB O w w' := by
  obtain ⟨gg, cap, _, _, _, hblk, _, _, _, _⟩ := h.view hT h0
  have y3 := cell_of_row _ _ 3 _ _ _ hblk
  have y5 := cell_of_row _ _ 5 _ _ _ hblk
  have yf := frozen_of_row _ O 5 _ _ hblk
  have hblk2 := blk_set hblk 5 (.int .i64 (t : Int))
  have z5 := cell_of_row _ _ 5 _ _ _ hblk2
  have zf := frozen_of_row _ O 5 _ _ hblk2
  dsimp at y3 y5 z5
  have H := Lib.hid h
  have HBO := Lib.hid h.le
  by_cases e : j = 0
  · obtain rfl : hd = -1 := by omega
    have H2 := Lib.hid ((h.hand (t : Int)).hand ((t : Int) - 1))
    have K2 := Lib.hid ((KpB.set O w 5 (.int .i64 (t : Int))).trans (KpB.set O _ 5 (.int .i64 ((t : Int) - 1))))
    have hp : Hid (((t : Int) - 1) + 1 = (pvJ t j : Int)) := Lib.hid (by unfold pvJ; rw [if_pos e]; omega)
    clear h hblk hT hblk2 hj e
    go_enter Tryd.func42, Tryd.ntmps42
    go_wp2
    go_ret
    exact ⟨rfl, ⟨_, hp.out, H2.out⟩, K2.out⟩
  · have H2 := Lib.hid (h.hand (hd - 1))
    have K2 := Lib.hid (KpB.set O w 5 (.int .i64 (hd - 1)))
    have hp : Hid ((hd - 1) + 1 = (pvJ t j : Int)) := Lib.hid (by unfold pvJ; rw [if_neg e]; omega)
    have hne : ¬ hd = -1 := by omega
    have hneb : (hd == -1) = false := beq_eq_false_iff_ne.2 hne
    have hb1 : -1 ≤ hd := by omega
    have hb2 : hd ≤ 1000 := by omega
    clear h hblk hT hblk2 hj e z5 zf
    go_enter Tryd.func42, Tryd.ntmps42
    go_wp2
    go_ret
    exact ⟨rfl, ⟨_, hp.out, H2.out⟩, K2.out⟩
end
end Go.Proofs.YtgpcflpeddnfcaaDoor
set_option linter.unusedVariables false
set_option linter.unusedSimpArgs false
namespace Go.Proofs.YtgpcflpeddnfcaaDoor
open Go.RowKit Go.Sort
/-- What an offer's line has behind the word. -/
def ofIns (T : List (List Sg2)) (wd st j : Nat) : List Sg2 := if j = 0 then ((T.getD 0 []).drop wd).take (st - wd) else (T.getD (j - 1) []).drop wd
section
variable {B O : Nat} {L : List Sg2} {xa : Option Addr} {n xc at_ wd : Nat} {T : List (List Sg2)} {st : Nat} {hd : Int} {w w' : World}
theorem OfS.at (h : OfS B O L xa n xc at_ wd T st hd w) {t i : Nat} (hT : T.length = t) (hi : i < t) : ∃ gg cap a0 n0 c0, w.heap[O]? = some (.cells #[.slice xa n xc, .int .i64 at_, .int .i64 wd, .slice (some ⟨gg, 0, none⟩) t cap, .int .i64 st, .int .i64 hd] 115 (0, 0)) ∧ w.cell? ⟨gg, i, none⟩ = some (.slice a0 n0 c0) ∧ (T.getD i []).length = n0 ∧ OwS w B (.slice a0 n0 c0) (T.getD i []) ∧ gg < w.heap.size := by
  obtain ⟨vT, vs, h1, h2⟩ := h.ex
  obtain ⟨gg, cap, rfl⟩ := ownsRow_pos h2.row (by omega)
  obtain ⟨x, e, hx⟩ := h2.el i (by omega)
  obtain ⟨a0, c0, rfl⟩ := hx.form rfl
  have c := h2.row.cellAt i (by omega)
  rw [e] at c
  refine ⟨gg, cap, a0, _, c0, by rw [h1, ← hT], c, rfl, hx, (h2.row.lt gg rfl).2⟩
theorem ows_slS {w : World} {B n c : Nat} {a : Option Addr} {l : List Sg2} (h : OwS w B (.slice a n c) l) : SlS (fun _ => True) w a l c := by
  obtain ⟨a', c', e, hs⟩ := h.sl
  injection e with e1 e2 e3
  subst e1; subst e3
  exact hs.mono (fun _ _ => trivial)
set_option maxHeartbeats 4000000 in
theorem of_lineA {t : Nat} (h : OfS B O L xa n xc at_ wd T st (-1) w) (hT : T.length = t) (h0 : 0 < t) (hn : L.length = n) (hat : at_ ≤ n) (hl : n ≤ 10000) (hw : wd ≤ st) (hs : st ≤ (T.getD 0 []).length) (hz : (T.getD 0 []).length ≤ 4096) :
    Calls Tryd.prog 39 #[.pointer (some ⟨O, 0, none⟩)] w fun e w' => ∃ ad d', e = .returned (.agg #[.slice ad (at_ + (st - wd) + (n - at_)) d', .int .i64 ((at_ : Int) + ((st - wd : Nat) : Int))]) ∧ OwS w' w.heap.size (.slice ad (at_ + (st - wd) + (n - at_)) d') (L.take at_ ++ ofIns T wd st 0 ++ L.drop at_) ∧ Below w.heap.size w w' := by
  obtain ⟨gg, cap, a0, n0, c0, hblk, yg, hn0, hO0, hgl⟩ := h.at hT h0
  have B0 := below_alloc w (.cells #[.slice none 0 0, .int .i64 0] 30)
  have r0 := heap_alloc_new w (.cells #[.slice none 0 0, .int .i64 0] 30)
  obtain ⟨W, hW⟩ : ∃ W, w.alloc (.cells #[.slice none 0 0, .int .i64 0] 30) = W := ⟨_, rfl⟩
  rw [hW] at B0 r0
  obtain ⟨RR, hRR⟩ : ∃ R, w.heap.size = R := ⟨_, rfl⟩
  have HR := Lib.hid hRR
  have BW : Below w.heap.size w W.drew := B0.drew
  have hsz : Hid (W.heap.size = w.heap.size + 1) := Lib.hid (by rw [← hW]; simp)
  have s1 := ows_slS (ows_keep h.own BW)
  have s2 := ows_slS (ows_keep hO0 BW)
  have hs3 := s2.sub wd st hw (by omega)
  have hin : ofIns T wd st 0 = ((T.getD 0 []).drop wd).take (st - wd) := by unfold ofIns; rw [if_pos rfl]
  rw [← hin] at hs3
  obtain ⟨aW, haW⟩ : ∃ x, (if c0 = wd then a0 else a0.map (·.add (wd * 2))) = x := ⟨_, rfl⟩
  rw [haW] at hs3
  have hc0 := s2.le
  have hcut := fun w' => (run_cutLH w' a0 n0 c0 wd st hw (by omega)).trans (by rw [haW])
  have IN := Lib.hid (lw_ins _ L (ofIns T wd st 0) xa aW n xc (st - wd) (c0 - wd) at_ W.drew hn hs3.2 (by omega) hat s1 hs3.1)
  have hb1 := blk_below hblk B0
  have y0 := cell_of_row _ _ 0 _ _ _ hb1; have y1 := cell_of_row _ _ 1 _ _ _ hb1; have y2 := cell_of_row _ _ 2 _ _ _ hb1; have y3 := cell_of_row _ _ 3 _ _ _ hb1; have y4 := cell_of_row _ _ 4 _ _ _ hb1; have y5 := cell_of_row _ _ 5 _ _ _ hb1
  have yg1 := (B0.cell (p := ⟨gg, 0, none⟩) hgl).trans yg
  have yf := fun i => frozen_of_row _ RR i _ _ (hRR ▸ r0)
  dsimp at y0 y1 y2 y3 y4 y5
  rw [hRR] at r0
  have R0 := Lib.hid r0
  have N0 := Lib.hid B0
  have h0i : (0 : Int) < (t : Int) := by omega
  have hRW : Hid (RR < W.heap.size) := Lib.hid (by rw [hsz.out, hRR]; omega)
  have hbO := Lib.hid (blk_lt hblk)
  have hgW := Lib.hid hgl
  clear h hblk yg hO0 s1 s2 hs3 hin haW B0 BW hb1 hn0 hn hz hs hRR r0 hgl hc0 hT
  go_enter Tryd.func39, Tryd.ntmps39
  go_upto_region 3 with fail
  rw [HR.out]
  clear hW
  go_upto_region 4 with fail
  have hbW : Hid (O < W.heap.size ∧ gg < W.heap.size) := Lib.hid (by have := N0.out.size; have := hbO.out; have := hgW.out; omega)
  have hne : Hid (RR ≠ O ∧ RR ≠ gg) := Lib.hid (by have := hbO.out; have := hgW.out; have := HR.out; omega)
  go_region_held3 (fun w' => w'.cell? ⟨O, 0, none⟩ = some (.slice xa n xc) ∧ w'.cell? ⟨O, 1, none⟩ = some (.int .i64 at_) ∧ w'.cell? ⟨O, 2, none⟩ = some (.int .i64 wd) ∧ w'.cell? ⟨O, 3, none⟩ = some (.slice (some ⟨gg, 0, none⟩) t cap) ∧ w'.cell? ⟨O, 4, none⟩ = some (.int .i64 st) ∧ w'.cell? ⟨gg, 0, none⟩ = some (.slice a0 n0 c0)) (first | exact ⟨y0, y1, y2, y3, y4, yg1⟩ | exact ⟨v0, v1, v2, v3, v4, vg⟩ | exact ⟨(farL hne.out.1).trans v0, (farL hne.out.1).trans v1, (farL hne.out.1).trans v2, (farL hne.out.1).trans v3, (farL hne.out.1).trans v4, (farL hne.out.2).trans vg⟩ | go_keep)
    (first | (go_at_call 87; refine IN.out.mono ?_; rintro e w2 ⟨ad, d', rfl, ho, hb⟩; have O2 := Lib.hid ho; have D2 : Below W.heap.size W w2 := (Below.refl _ W).drew.trans hb; have v0 := (D2.cell (p := ⟨O, 0, none⟩) hbW.out.1).trans y0; have v1 := (D2.cell (p := ⟨O, 1, none⟩) hbW.out.1).trans y1; have v2 := (D2.cell (p := ⟨O, 2, none⟩) hbW.out.1).trans y2; have v3 := (D2.cell (p := ⟨O, 3, none⟩) hbW.out.1).trans y3; have v4 := (D2.cell (p := ⟨O, 4, none⟩) hbW.out.1).trans y4; have vg := (D2.cell (p := ⟨gg, 0, none⟩) hbW.out.2).trans yg1; have N2 := Lib.hid (seqB N0.out D2); have R2 := Lib.hid (blk_below R0.out D2); have yf2 := fun i => frozen_of_row _ RR i _ _ R2.out; have yy := fun i => cell_of_row _ _ i _ _ _ R2.out; have x0 := yy 0; have x1 := yy 1; dsimp at x0 x1; clear ho hb yy D2))
  go_wp2
  clear y0 y1 y2 y3 y4 y5 yg1 yf yf2 x0 x1 v0 v1 v2 v3 v4 vg
  generalize hWF : World.setCell _ _ _ = WF
  obtain ⟨_, g0, g1, gO, gB⟩ := ln_fin R2.out O2.out N2.out (by rw [← HR.out]; exact Nat.le_refl _) hWF
  refine bodyPost_ret (v := .agg #[.slice ad (at_ + (st - wd) + (n - at_)) d', .int .i64 ((at_ : Int) + ((st - wd : Nat) : Int))]) (by simp [results, Tryd.results39, go_sem, g0, g1]) rfl ?_
  exact ⟨ad, d', rfl, gO.mono (by have := hsz.out; show _ ≤ W.heap.size; omega), gB⟩
set_option maxHeartbeats 4000000 in
theorem of_lineB {t i : Nat} (h : OfS B O L xa n xc at_ wd T st (i : Int) w) (hT : T.length = t) (hi : i < t) (hn : L.length = n) (hat : at_ ≤ n) (hl : n ≤ 10000) {ln : Nat} (hln : (T.getD i []).length = ln) (hw : wd ≤ ln) (hz : ln ≤ 4096) :
    Calls Tryd.prog 39 #[.pointer (some ⟨O, 0, none⟩)] w fun e w' => ∃ ad d', e = .returned (.agg #[.slice ad (at_ + (ln - wd) + (n - at_)) d', .int .i64 ((at_ : Int) + ((ln - wd : Nat) : Int))]) ∧ OwS w' w.heap.size (.slice ad (at_ + (ln - wd) + (n - at_)) d') (L.take at_ ++ ofIns T wd st (i + 1) ++ L.drop at_) ∧ Below w.heap.size w w' := by
  obtain ⟨gg, cap, a0, n0, c0, hblk, yg, hn0, hO0, hgl⟩ := h.at hT hi
  have B0 := below_alloc w (.cells #[.slice none 0 0, .int .i64 0] 30)
  have r0 := heap_alloc_new w (.cells #[.slice none 0 0, .int .i64 0] 30)
  obtain ⟨W, hW⟩ : ∃ W, w.alloc (.cells #[.slice none 0 0, .int .i64 0] 30) = W := ⟨_, rfl⟩
  rw [hW] at B0 r0
  obtain ⟨RR, hRR⟩ : ∃ R, w.heap.size = R := ⟨_, rfl⟩
  have HR := Lib.hid hRR
  have BW : Below w.heap.size w W.drew := B0.drew
  have hsz : Hid (W.heap.size = w.heap.size + 1) := Lib.hid (by rw [← hW]; simp)
  have s1 := ows_slS (ows_keep h.own BW)
  have s2 := ows_slS (ows_keep hO0 BW)
  have hs3 := s2.sub wd ln hw (by omega)
  have hin : ofIns T wd st (i + 1) = ((T.getD i []).drop wd).take (ln - wd) := by unfold ofIns; rw [if_neg (by omega), Nat.add_sub_cancel, List.take_of_length_le (by rw [List.length_drop]; omega)]
  rw [← hin] at hs3
  obtain ⟨aW, haW⟩ : ∃ x, (if c0 = wd then a0 else a0.map (·.add (wd * 2))) = x := ⟨_, rfl⟩
  rw [haW] at hs3
  have hc0 := s2.le
  obtain rfl : ln = n0 := hln.symm.trans hn0
  have hcut := fun w' => (run_cutL w' a0 ln c0 wd hw).trans (by rw [haW])
  have IN := Lib.hid (lw_ins _ L (ofIns T wd st (i + 1)) xa aW n xc (ln - wd) (c0 - wd) at_ W.drew hn hs3.2 (by omega) hat s1 hs3.1)
  have hb1 := blk_below hblk B0
  have y0 := cell_of_row _ _ 0 _ _ _ hb1; have y1 := cell_of_row _ _ 1 _ _ _ hb1; have y2 := cell_of_row _ _ 2 _ _ _ hb1; have y3 := cell_of_row _ _ 3 _ _ _ hb1; have y4 := cell_of_row _ _ 4 _ _ _ hb1; have y5 := cell_of_row _ _ 5 _ _ _ hb1
  have yg1 := (B0.cell (p := ⟨gg, i, none⟩) hgl).trans yg
  have yf := fun i => frozen_of_row _ RR i _ _ (hRR ▸ r0)
  dsimp at y0 y1 y2 y3 y4 y5
  rw [hRR] at r0
  have R0 := Lib.hid r0
  have N0 := Lib.hid B0
  have h0i : (i : Int) < (t : Int) := by omega
  have h0j : (0 : Int) ≤ (i : Int) := by omega
  have hneb : ((i : Int) == -1) = false := beq_eq_false_iff_ne.2 (by omega)
  have hnei : ¬ (i : Int) = -1 := by omega
  have hRW : Hid (RR < W.heap.size) := Lib.hid (by rw [hsz.out, hRR]; omega)
  have hbO := Lib.hid (blk_lt hblk)
  have hgW := Lib.hid hgl
  clear h hblk yg hO0 s1 s2 hs3 hin haW B0 BW hb1 hln hn hRR r0 hgl hc0 hT
  go_enter Tryd.func39, Tryd.ntmps39
  go_upto_region 3 with fail
  rw [HR.out]
  clear hW
  go_upto_region 5 with fail
  have hbW : Hid (O < W.heap.size ∧ gg < W.heap.size) := Lib.hid (by have := N0.out.size; have := hbO.out; have := hgW.out; omega)
  have hne : Hid (RR ≠ O ∧ RR ≠ gg) := Lib.hid (by have := hbO.out; have := hgW.out; have := HR.out; omega)
  go_region_held3 (fun w' => w'.cell? ⟨O, 0, none⟩ = some (.slice xa n xc) ∧ w'.cell? ⟨O, 1, none⟩ = some (.int .i64 at_) ∧ w'.cell? ⟨O, 2, none⟩ = some (.int .i64 wd) ∧ w'.cell? ⟨O, 3, none⟩ = some (.slice (some ⟨gg, 0, none⟩) t cap) ∧ w'.cell? ⟨O, 5, none⟩ = some (.int .i64 (i : Int)) ∧ w'.cell? ⟨gg, i, none⟩ = some (.slice a0 ln c0)) (first | exact ⟨y0, y1, y2, y3, y5, yg1⟩ | exact ⟨v0, v1, v2, v3, v4, vg⟩ | exact ⟨(farL hne.out.1).trans v0, (farL hne.out.1).trans v1, (farL hne.out.1).trans v2, (farL hne.out.1).trans v3, (farL hne.out.1).trans v4, (farL hne.out.2).trans vg⟩ | go_keep)
    (first | (go_at_call 87; refine IN.out.mono ?_; rintro e w2 ⟨ad, d', rfl, ho, hb⟩; have O2 := Lib.hid ho; have D2 : Below W.heap.size W w2 := (Below.refl _ W).drew.trans hb; have v0 := (D2.cell (p := ⟨O, 0, none⟩) hbW.out.1).trans y0; have v1 := (D2.cell (p := ⟨O, 1, none⟩) hbW.out.1).trans y1; have v2 := (D2.cell (p := ⟨O, 2, none⟩) hbW.out.1).trans y2; have v3 := (D2.cell (p := ⟨O, 3, none⟩) hbW.out.1).trans y3; have v4 := (D2.cell (p := ⟨O, 5, none⟩) hbW.out.1).trans y5; have vg := (D2.cell (p := ⟨gg, i, none⟩) hbW.out.2).trans yg1; have N2 := Lib.hid (seqB N0.out D2); have R2 := Lib.hid (blk_below R0.out D2); have yf2 := fun i => frozen_of_row _ RR i _ _ R2.out; have yy := fun i => cell_of_row _ _ i _ _ _ R2.out; have x0 := yy 0; have x1 := yy 1; dsimp at x0 x1; clear ho hb yy D2))
  go_wp2
  clear y0 y1 y2 y3 y4 y5 yg1 yf yf2 x0 x1 v0 v1 v2 v3 v4 vg
  generalize hWF : World.setCell _ _ _ = WF
  obtain ⟨_, g0, g1, gO, gB⟩ := ln_fin R2.out O2.out N2.out (by rw [← HR.out]; exact Nat.le_refl _) hWF
  refine bodyPost_ret (v := .agg #[.slice ad (at_ + (ln - wd) + (n - at_)) d', .int .i64 ((at_ : Int) + ((ln - wd : Nat) : Int))]) (by simp [results, Tryd.results39, go_sem, g0, g1]) rfl ?_
  exact ⟨ad, d', rfl, gO.mono (by have := hsz.out; show _ ≤ W.heap.size; omega), gB⟩
/-- A row of slices, filled up with none. -/
def slR2 (xs : List Value) (t : Nat) : Array Value := (xs ++ List.replicate (t - xs.length) (Value.slice none 0 0)).toArray
theorem made_sls (n : Nat) : madeCells #[.slice none 0 0] (n * 1) = slR2 [] n := by
  apply Array.ext'
  rw [toList_madeCells_one]; simp [slR2]
theorem slR2_set (xs : List Value) (t : Nat) (v : Value) (h : xs.length < t) : (slR2 xs t).setIfInBounds xs.length v = slR2 (xs ++ [v]) t := by
  apply Array.ext'
  obtain ⟨d, rfl⟩ : ∃ d, t = xs.length + 1 + d := ⟨t - xs.length - 1, by omega⟩
  have e1 : xs.length + 1 + d - xs.length = d + 1 := by omega
  simp [slR2, e1, List.replicate_succ]
theorem slR2_at (xs : List Value) (t j : Nat) (h : j < xs.length) : (slR2 xs t)[j]? = xs[j]? := by
  unfold slR2
  rw [List.getElem?_toArray, List.getElem?_append_left h]
theorem slR2_in (xs : List Value) (t : Nat) (h : xs.length < t) : (slR2 xs t)[xs.length]? = some (.slice none 0 0) := by
  unfold slR2
  rw [List.getElem?_toArray, List.getElem?_append_right (Nat.le_refl _), Nat.sub_self, List.getElem?_replicate]
  simp; omega
set_option maxHeartbeats 4000000 in
theorem of_all {t : Nat} (h : OfS B O L xa n xc at_ wd T st hd w) (hT : T.length = t) (h0 : 0 < t) (ht : t ≤ 1000) (hz : ∀ x ∈ T, x.length ≤ 4096) :
    Calls Tryd.prog 36 #[.pointer (some ⟨O, 0, none⟩)] w fun e w' => ∃ b, e = .returned (.slice b t t) ∧ SgsK (fun k => w.heap.size ≤ k ∧ k < w'.heap.size) w' b T ∧ Below w.heap.size w w' := by
  obtain ⟨i1, hj, hy0, hy1, hy2⟩ := info_parts infoSl
  have hmk := make_rowN (P := Tryd.prog) 44 28 i1 _ Tryd.underlying44 hj hy0 t (by rw [hy2]; omega) (by omega)
  rw [hy1] at hmk
  have hmade : madeCells (Value.slice none 0 0).cells (t * 1) = (slR2 [] t) := by rw [show (Value.slice none 0 0).cells = #[.slice none 0 0] from rfl, made_sls]
  rw [hmade] at hmk
  obtain ⟨gg, cap, _, _, _, hblk, _, _, _, _⟩ := h.at hT h0
  have y3 := cell_of_row _ _ 3 _ _ _ hblk
  dsimp at y3
  obtain ⟨A, hA⟩ : ∃ A, w.heap.size = A := ⟨_, rfl⟩
  have HA := Lib.hid hA
  have B0 := below_alloc w (.cells (slR2 [] t) 28)
  have r0 := heap_alloc_new w (.cells (slR2 [] t) 28)
  have z3 := (B0.cell (p := ⟨O, 3, none⟩) (blk_lt hblk)).trans y3
  have H := Lib.hid h
  have HT := Lib.hid hT
  have HZ := Lib.hid hz
  have GG := Lib.hid hblk
  obtain ⟨W, hW⟩ : ∃ W, w.alloc (.cells (slR2 [] t) 28) = W := ⟨_, rfl⟩
  rw [hW] at B0 r0 z3
  rw [hA] at r0
  clear h hT hz hblk hmade
  go_enter Tryd.func36, Tryd.ntmps36
  go_upto_region 5 with fail
  clear hW hA
  have N0 := Lib.hid B0
  have R0 := Lib.hid r0
  clear y3 z3 r0 B0 hmk
  go_loopw [19] (fun iv wr => ∃ (k : Nat) (xs : List Value), k ≤ t ∧ iv = .int .i64 (k : Int) ∧ Hid (xs.length = k) ∧ Hid (wr.heap[A]? = some (.cells (slR2 xs t) 28 (0, 0))) ∧ Hid (∀ i, i < k → ∃ ai ci, xs[i]? = some (.slice ai (T.getD i []).length ci) ∧ SlS (fun q => A < q ∧ q < wr.heap.size) wr ai (T.getD i []) ci) ∧ Hid (Below w.heap.size w wr)) (fun iv _ => t - (intOf iv).toNat)
  case atStart => exact ⟨0, [], Nat.zero_le _, rfl, Lib.hid rfl, R0, Lib.hid (fun i hi => absurd hi (Nat.not_lt_zero i)), N0⟩
  case round =>
    clear R0 N0
    obtain ⟨k, xs, hk, rfl, HX, HR, HE, HB⟩ := hrel
    by_cases hlt : k < t
    · have hk1 : (k : Int) < t := by omega
      have hk0 : (0 : Int) ≤ k := by omega
      obtain ⟨g2, cap2, a0, n0, c0, hb2, yg, hn0, hO0, hgl⟩ := (H.out.below HB.out).at HT.out hlt
      obtain ⟨rfl, rfl⟩ : gg = g2 ∧ cap = cap2 := by
        have e := hb2.symm.trans (blk_below GG.out HB.out)
        simp at e
        exact ⟨e.1.symm, e.2.symm⟩
      have CL := Lib.hid (clone_sg (T.getD k []) a0 n0 c0 _ wr hn0 (by have := HZ.out _ (getD_memT (show k < T.length by rw [HT.out]; exact hlt)); omega) (ows_slS hO0))
      have hAlt : Hid (A < wr.heap.size) := Lib.hid (blk_lt HR.out)
      have HN0 := Lib.hid hn0
      clear hb2 hn0 hO0 hgl
      go_wp2_with (go_at_call 65; refine CL.out.mono ?_; rintro e w5 ⟨b5, d5, rfl, ho, hb⟩; have O5 := Lib.hid ho; have D5 := Lib.hid hb; have R5 := Lib.hid (blk_below HR.out hb); have x5 : w5.cell? ⟨A, k, none⟩ = some (.slice none 0 0) := (by rw [cell_of_row _ _ k _ _ _ R5.out, ← HX.out]; exact slR2_in xs t (by rw [HX.out]; exact hlt)); have f5 := frozen_of_row _ A k _ _ R5.out; clear ho hb CL yg)
      go_roundw
      case rel =>
        have hkeep : ∀ q, A < q → (w5.setCell ⟨A, k, none⟩ (.slice b5 n0 d5)).heap[q]? = w5.heap[q]? := fun q hq => Below.heap_setCell w5 ⟨A, k, none⟩ _ q (by show q ≠ A; omega)
        have hsz : (w5.setCell ⟨A, k, none⟩ (.slice b5 n0 d5)).heap.size = w5.heap.size := by simp [World.setCell]
        refine ⟨k + 1, xs ++ [.slice b5 n0 d5], by omega, by go_num, Lib.hid (by rw [List.length_append, HX.out]; rfl), Lib.hid ?_, Lib.hid (fun i hi => ?_), Lib.hid ?_⟩
        · have h9 := blk_set R5.out k (.slice b5 n0 d5)
          rw [← HX.out, slR2_set xs t _ (by rw [HX.out]; exact hlt)] at h9
          rw [← HX.out]; exact h9
        · by_cases hik : i < k
          · obtain ⟨ai, ci, e, hs⟩ := HE.out i hik
            refine ⟨ai, ci, by rw [List.getElem?_append_left (by rw [HX.out]; exact hik)]; exact e, ?_⟩
            exact ((hs.below D5.out).keep (by rw [hsz]; exact Nat.le_refl _) (fun q hq => hkeep q hq.1)).mono (fun q hq => ⟨hq.1, by rw [hsz]; exact Nat.lt_of_lt_of_le hq.2 D5.out.size⟩)
          · obtain rfl : i = k := by omega
            obtain ⟨a9, c9, e9, hs9⟩ := O5.out.sl
            injection e9 with e1 e2 e3
            subst e1; subst e3
            refine ⟨b5, d5, by rw [List.getElem?_append_right (by rw [HX.out]; omega), HX.out, Nat.sub_self, HN0.out]; rfl, ?_⟩
            exact (hs9.keep (by rw [hsz]; exact Nat.le_refl _) (fun q hq => hkeep q (by have := hAlt.out; omega))).mono (fun q hq => ⟨by have := hAlt.out; omega, by rw [hsz]; exact hq.2⟩)
        · exact (seqB HB.out D5.out).setCell (p := ⟨A, k, none⟩) (by rw [HA.out]; exact Nat.le_refl _) _
      case measure => (simp [intOf]; try omega)
    · obtain rfl : k = t := by omega
      have hk1 : ¬ (k : Int) < k := by omega
      go_wp2_with fail
      go_ret
      refine ⟨_, rfl, fun i hi => ?_, HB.out⟩
      obtain ⟨ai, ci, e, hs⟩ := HE.out i (by rw [← HT.out]; exact hi)
      refine ⟨A, 0, ai, ci, rfl, ⟨by rw [HA.out]; exact Nat.le_refl _, blk_lt HR.out⟩, blk_lt HR.out, ?_, hs.mono (fun q hq => ⟨by rw [HA.out]; omega, hq.2⟩)⟩
      rw [Nat.zero_add, cell_of_row _ _ i _ _ _ HR.out, slR2_at _ _ _ (by rw [HX.out, ← HT.out]; exact hi), e]
end
end Go.Proofs.YtgpcflpeddnfcaaDoor
