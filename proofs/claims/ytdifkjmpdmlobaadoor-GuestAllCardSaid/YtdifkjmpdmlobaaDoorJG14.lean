/-
  Joined: Ln12 Of1 Gu11 Gu12 Gu13 Gu14.
-/
import Derived.Test.YtdifkjmpdmlobaaDoorJG04
import Derived.Test.YtdifkjmpdmlobaaDoorJG06
import Derived.Test.YtdifkjmpdmlobaaDoorJG08
import Derived.Test.YtdifkjmpdmlobaaDoorJG11
import Derived.Test.YtdifkjmpdmlobaaDoorJG13
import Derived.Deep.RegionHeld3
import Derived.Deep.CutRange
set_option linter.unusedVariables false
set_option linter.unusedSimpArgs false
set_option maxRecDepth 100000
set_option linter.unusedVariables false
set_option linter.unusedSimpArgs false
namespace Go.Proofs.YtdifkjmpdmlobaaDoor
open Go.RowKit Go.Sort
def lnA : List (Int × Int) := [(97, 0), (98, 0), (32, 0), (99, 0), (100, 0)]
theorem lnA_facts : sOf 0 ⟨#[97, 98, 32, 99, 100]⟩ = lnA ∧ (valsS ⟨#[97, 98, 32, 99, 100]⟩).length = 5 ∧ sOf 0 ⟨#[97, 98]⟩ = [(97, 0), (98, 0)] ∧ (valsS ⟨#[97, 98]⟩).length = 2 ∧ sgC lnA = true := by decide +kernel
theorem lnA_wds : nextM lnA ((2 : Nat) : Int) = ((5 : Nat) : Int) ∧ backM lnA ((5 : Nat) : Int) = ((3 : Nat) : Int) ∧ nextM lnA ((3 : Nat) : Int) = ((5 : Nat) : Int) ∧ backM lnA ((3 : Nat) : Int) = ((0 : Nat) : Int) ∧ nextM lnA ((0 : Nat) : Int) = ((2 : Nat) : Int) ∧ (kAt lnA false ((0 : Nat) : Int) == 1) = true ∧ (kAt lnA false ((3 : Nat) : Int) == 1) = true := by decide +kernel
theorem lnA_txt : sTxt (swpM lnA 0 2 3 5) = ⟨#[99, 100, 32, 97, 98]⟩ ∧ sTxt (lnA.take 1 ++ lnA.drop 3) = ⟨#[97, 99, 100]⟩ ∧ sTxt ((lnA.drop 1).take (3 - 1)) = ⟨#[98, 32]⟩ ∧ sTxt (csL lnA 2 2 5) = ⟨#[97, 98, 32, 67, 100]⟩ ∧ sTxt (lnA.take 2 ++ (lnA.drop 1).take (3 - 1) ++ lnA.drop 2) = ⟨#[97, 98, 98, 32, 32, 99, 100]⟩ ∧ sTxt (lnA.take 0 ++ (lnA.drop 1).take (3 - 1) ++ lnA.drop 2) = ⟨#[98, 32, 32, 99, 100]⟩ := by decide +kernel
theorem lnA_bt : btF 5 1 3 = 1 ∧ btT 5 1 3 = 3 ∧ btF 5 ((2 : Nat) : Int) 5 = 2 ∧ btT 5 ((2 : Nat) : Int) 5 = 5 ∧ btF 5 0 2 = 0 ∧ btT 5 0 2 = 2 ∧ cutAt 1 3 2 = 1 := by decide +kernel
theorem lw_right (L : List (Int × Int)) (a : Option Addr) (n c p : Nat) (w : World) (hn : L.length = n) (hl : n ≤ 90000) (hp : p ≤ n) (hok : sgC L = true) (hs : Signs w a L) :
    Calls Tryd.prog 76 #[.agg #[.slice a n c, .int .i64 (p : Int)]] w fun e w' => e = .returned (.bool true) ∧ Below w.heap.size w w' := by
  have B0 := below_alloc w (.cells #[.slice a n c, .int .i64 (p : Int)] 42)
  have CK := scheck_any L a c (w.alloc (.cells #[.slice a n c, .int .i64 (p : Int)] 42)) (by omega) (hs.below B0)
  rw [hn, sgE_yes hok] at CK
  replace CK := Lib.hid CK
  have h1 : (0 : Int) ≤ p := by omega
  have h2 : (p : Int) ≤ n := by omega
  clear hs
  go_enter Tryd.func76, Tryd.ntmps76
  go_wp2_with (go_at_call 48; refine CK.out.mono ?_; rintro e w1 ⟨rfl, b1⟩)
  go_ret
  exact ⟨rfl, seqB B0 b1⟩
theorem text_n (L : List (Int × Int)) (a : Option Addr) (n c : Nat) (s : ByteArray) (w : World) (hn : L.length = n) (hl : n ≤ 90000) (ht : sTxt L = s) (hs : Signs w a L) :
    Calls Tryd.prog 46 #[.slice a n c] w fun e w' => e = .returned (.string s) ∧ Below w.heap.size w w' := by
  subst hn; subst ht; exact stext_any L a c w (by omega) hs
theorem ows_sg {w : World} {B n d : Nat} {b : Option Addr} {L : List (Int × Int)} (h : OwS w B (.slice b n d) L) : Signs w b L := by
  obtain ⟨a, c, e, hs⟩ := h.sl
  injection e with e1 e2 e3
  subst e1
  exact hs.s
theorem ows_slA {w : World} {B n d : Nat} {b : Option Addr} {L : List (Int × Int)} (h : OwS w B (.slice b n d) L) : SlS (fun _ => True) w b L d := by
  obtain ⟨a, c, e, hs⟩ := h.sl
  injection e with e1 e2 e3
  subst e1; subst e3
  exact hs.mono (fun _ _ => trivial)
/-- A slice of signs that a call made. -/
def SgA (w : World) (b : Option Addr) (d : Nat) (L : List (Int × Int)) : Prop := SlS (fun _ => True) w b L d
theorem lna_of (w : World) (hT : UT w) : Calls Tryd.prog 40 #[.int .i64 0, .string ⟨#[97, 98, 32, 99, 100]⟩] w fun e w' => ∃ b, e = .returned (.slice b 5 5) ∧ SgA w' b 5 lnA ∧ Below w.heap.size w w' := by
  have h := sof_any 0 ⟨#[97, 98, 32, 99, 100]⟩ w hT (by decide) (by rw [lnA_facts.2.1]; omega)
  rw [lnA_facts.1] at h
  refine h.mono ?_
  rintro e w' ⟨g, rfl, hg, hb, hB⟩
  exact ⟨_, rfl, ⟨signs_of_blk hb, Nat.le_refl _, fun e => (by cases e), fun _ _ _ => trivial⟩, hB⟩
theorem lnb_of (w : World) (hT : UT w) : Calls Tryd.prog 40 #[.int .i64 0, .string ⟨#[97, 98]⟩] w fun e w' => ∃ b, e = .returned (.slice b 2 2) ∧ SgA w' b 2 [(97, 0), (98, 0)] ∧ Below w.heap.size w w' := by
  have h := sof_any 0 ⟨#[97, 98]⟩ w hT (by decide) (by rw [lnA_facts.2.2.2.1]; omega)
  rw [lnA_facts.2.2.1] at h
  refine h.mono ?_
  rintro e w' ⟨g, rfl, hg, hb, hB⟩
  exact ⟨_, rfl, ⟨signs_of_blk hb, Nat.le_refl _, fun e => (by cases e), fun _ _ _ => trivial⟩, hB⟩
end Go.Proofs.YtdifkjmpdmlobaaDoor
set_option linter.unusedVariables false
set_option linter.unusedSimpArgs false
namespace Go.Proofs.YtdifkjmpdmlobaaDoor
open Go.RowKit
def mayL (L : List (Int × Int)) (x : Int) : Bool := decide (0 ≤ x) && (decide (x ≤ L.length) && sgC L)
theorem mayL_out {L : List (Int × Int)} {x : Int} (h : mayL L x = true) : 0 ≤ x ∧ x ≤ L.length ∧ sgC L = true := by
  simp only [mayL, Bool.and_eq_true, decide_eq_true_eq] at h; exact h
theorem lw_rt (L : List (Int × Int)) (a : Option Addr) (n c : Nat) (x : Int) (w : World) (hn : L.length = n) (hl : n ≤ 90000) (hs : Signs w a L) :
    Calls Tryd.prog 76 #[.agg #[.slice a n c, .int .i64 x]] w fun e w' => e = .returned (.bool (mayL L x)) ∧ Below w.heap.size w w' := by
  have B0 := below_alloc w (.cells #[.slice a n c, .int .i64 x] 42)
  have CK := scheck_any L a c (w.alloc (.cells #[.slice a n c, .int .i64 x] 42)) (by omega) (hs.below B0)
  rw [hn] at CK
  clear hs
  have hmy : Hid (mayL L x = (decide (0 ≤ x) && (decide (x ≤ n) && sgC L))) := Lib.hid (by rw [mayL, hn])
  clear hn
  cases hc : sgC L with
  | true =>
    rw [hc] at hmy
    rw [sgE_yes hc] at CK
    replace CK := Lib.hid CK
    clear hc
    by_cases h1 : 0 ≤ x
    · by_cases h2 : x ≤ n
      · rw [decide_eq_true h1, decide_eq_true h2] at hmy
        go_enter Tryd.func76, Tryd.ntmps76
        go_wp2_with (go_at_call 48; refine CK.out.mono ?_; rintro e w1 ⟨rfl, b1⟩)
        go_ret
        exact ⟨by rw [hmy.out] <;> rfl, seqB B0 b1⟩
      · rw [decide_eq_true h1, decide_eq_false h2] at hmy
        go_enter Tryd.func76, Tryd.ntmps76
        go_wp2_with fail
        go_ret
        exact ⟨by rw [hmy.out] <;> rfl, B0⟩
    · rw [decide_eq_false h1] at hmy
      go_enter Tryd.func76, Tryd.ntmps76
      go_wp2_with fail
      go_ret
      exact ⟨by rw [hmy.out] <;> rfl, B0⟩
  | false =>
    rw [hc] at hmy
    rw [sgE_no hc] at CK
    replace CK := Lib.hid CK
    have hm2 : Hid (mayL L x = false) := Lib.hid (by rw [hmy.out]; simp)
    clear hc hmy
    by_cases h1 : 0 ≤ x
    · by_cases h2 : x ≤ n
      · go_enter Tryd.func76, Tryd.ntmps76
        go_wp2_with (go_at_call 48; refine CK.out.mono ?_; rintro e w1 ⟨rfl, b1⟩)
        go_ret
        exact ⟨by rw [hm2.out] <;> rfl, seqB B0 b1⟩
      · go_enter Tryd.func76, Tryd.ntmps76
        go_wp2_with fail
        go_ret
        exact ⟨by rw [hm2.out] <;> rfl, B0⟩
    · go_enter Tryd.func76, Tryd.ntmps76
      go_wp2_with fail
      go_ret
      exact ⟨by rw [hm2.out] <;> rfl, B0⟩
/-- Where the word that ends at a place begins. -/
def wdB (L : List (Int × Int)) : Nat → Nat
  | 0 => 0
  | k + 1 => if knd (L.getD k (0, 0)).1 = 0 then k + 1 else wdB L k
theorem wdB_le (L : List (Int × Int)) : ∀ k, wdB L k ≤ k
  | 0 => Nat.le_refl _
  | k + 1 => by
    have := wdB_le L k
    unfold wdB
    split <;> omega
end Go.Proofs.YtdifkjmpdmlobaaDoor
set_option linter.unusedVariables false
set_option linter.unusedSimpArgs false
namespace Go.Proofs.YtdifkjmpdmlobaaDoor
open Go.RowKit
section
variable {n : Int} {l : List ByteArray} {a : Option Addr} {t c Qn Ql : Nat} {L : List (Int × Int)} {xa : Option Addr} {m xc : Nat} {x : Int} {w : World}
set_option maxHeartbeats 4000000 in
theorem ask_every (hT : UT w) (hz : ∀ i, i < l.length → (l.getD i ⟨#[]⟩).size ≤ 4096) (hM : MdB w Qn Ql n a t c l) (hL : L.length = m) (hl : m ≤ 90000) (ht : t ≤ 1000) (hs : SlS (fun _ => True) w xa L xc) (hok : mayL L x = true) :
    Calls Tryd.prog 63 #[.iface 67 (.func (.func 65) #[] #[.pointer (some ⟨Qn, 0, none⟩), .pointer (some ⟨Ql, 0, none⟩)]), .agg #[.slice xa m xc, .int .i64 x], .func (.func 64) #[] #[]] w (RsPost (tdT n l false) (tdE n false) w) := by
  have hgn : ∀ (v : Value) (w : World), (binOp .eql 112 (.iface 67 v) .nilIface).run Tryd.prog w = .ok (.bool false) w := fun v w => by kernel_rfl
  have b1 := below_alloc w (.cells #[.slice xa m xc, .int .i64 x] 42)
  have r1 := heap_alloc_new w (.cells #[.slice xa m xc, .int .i64 x] 42)
  obtain ⟨w1, hw1⟩ : ∃ W, w.alloc (.cells #[.slice xa m xc, .int .i64 x] 42) = W := ⟨_, rfl⟩
  rw [hw1] at b1 r1
  obtain ⟨Qx, hQx⟩ : ∃ Q, w.heap.size = Q := ⟨_, rfl⟩
  rw [hQx] at r1
  have RT := Lib.hid (lw_rt L xa m xc x w1 hL hl (hs.below b1).s)
  have x0 := cell_of_row _ _ 0 _ _ _ r1
  have x1 := cell_of_row _ _ 1 _ _ _ r1
  dsimp at x0 x1
  rw [hok] at RT
  have HT := Lib.hid hT
  have HZ := Lib.hid hz
  have HM := Lib.hid hM
  have HL := Lib.hid hL
  have HS := Lib.hid hs
  have RX := Lib.hid r1
  have N1 := Lib.hid b1
  clear hT hz hM hL hs hok b1 r1
  go_enter Tryd.func63, Tryd.ntmps63
  go_upto_region 5 with (go_at_call 76; refine RT.out.mono ?_; rintro e w2 ⟨rfl, hb⟩; have R2 := Lib.hid (blk_below RX.out hb); have N2 := Lib.hid (seqB N1.out hb); clear hb RT x0 x1)
  clear hw1 hQx N1 RX
  have CE : Hid (∀ wx, Below w2.heap.size w2 wx → wx.cell? ⟨Qx, 0, none⟩ = some (.slice xa m xc) ∧ wx.cell? ⟨Qx, 1, none⟩ = some (.int .i64 x)) := Lib.hid fun wx b => by
    have h2 := blk_below R2.out b
    exact ⟨cell_of_row _ _ 0 _ _ _ h2, cell_of_row _ _ 1 _ _ _ h2⟩
  have e0 := CE.out _ (Below.refl _ w2)
  have D0 : Hid (Below w2.heap.size w2 w2.drew) := Lib.hid (Below.refl _ _).drew
  have AK := Lib.hid (asker_any (Qn := Qn) (Ql := Ql) 64 w2.drew)
  go_region_held3 (fun w' => w'.cell? ⟨Qx, 0, none⟩ = some (.slice xa m xc) ∧ w'.cell? ⟨Qx, 1, none⟩ = some (.int .i64 x)) (first | exact e0 | exact e3 | exact e4 | go_keep)
    (first
      | (go_at_call 86; refine AK.out.mono ?_; rintro e w3 ⟨Qr, Qg, rfl, hk, hb⟩; have D3 : Below w2.heap.size w2 w3 := D0.out.trans hb; have K3 := Lib.hid hk; have e3 := CE.out _ D3; have W3 := Lib.hid (N2.out.trans (D3.mono N2.out.size)); have D3 := Lib.hid D3; clear hk hb AK)
      | (go_at_call 107; refine (ask1_every (HT.out.below W3.out) HZ.out K3.out (HM.out.below W3.out) HL.out (by omega) ht (HS.out.below W3.out)).mono ?_; rintro e w4 ⟨b4, m4, d4, rfl, hm4, hs4, hb⟩; have D4 : Below w2.heap.size w2 w4 := D3.out.trans (hb.mono D3.out.size); have e4 := CE.out _ D4; have W4 := Lib.hid (seqB W3.out hb); have M4 := Lib.hid hm4; have S4 := Lib.hid (hs4.mono (Q := fun k => w.heap.size ≤ k ∧ k < w4.heap.size) (fun k hk => ⟨Nat.le_trans W3.out.size hk.1, hk.2⟩)); clear hm4 hs4 hb))
  all_goals go_wp2
  all_goals refine bodyPost_ret (results_tmp2 rfl _ _ _) rfl ?_
  all_goals exact ⟨b4, m4, d4, rfl, M4.out, S4.out, W4.out⟩
theorem ask_every_bad (hL : L.length = m) (hl : m ≤ 90000) (hs : SlS (fun _ => True) w xa L xc) (hok : mayL L x = false) :
    Calls Tryd.prog 63 #[.iface 67 (.func (.func 65) #[] #[.pointer (some ⟨Qn, 0, none⟩), .pointer (some ⟨Ql, 0, none⟩)]), .agg #[.slice xa m xc, .int .i64 x], .func (.func 64) #[] #[]] w (RsPost [] 2 w) := by
  have hgn : ∀ (v : Value) (w : World), (binOp .eql 112 (.iface 67 v) .nilIface).run Tryd.prog w = .ok (.bool false) w := fun v w => by kernel_rfl
  have b1 := below_alloc w (.cells #[.slice xa m xc, .int .i64 x] 42)
  have RT := Lib.hid (lw_rt L xa m xc x (w.alloc (.cells #[.slice xa m xc, .int .i64 x] 42)) hL hl (hs.below b1).s)
  rw [hok] at RT
  have N1 := Lib.hid b1
  clear hL hs hok b1
  go_enter Tryd.func63, Tryd.ntmps63
  go_wp2_with (go_at_call 76; refine RT.out.mono ?_; rintro e w2 ⟨rfl, hb⟩; have N2 := Lib.hid (seqB N1.out hb); clear hb RT)
  refine bodyPost_ret (results_tmp2 rfl _ _ _) rfl ?_
  exact ⟨none, 0, 0, rfl, rfl, sgs_nil _ _ _, N2.out⟩
theorem ask_every_nil (v : Value) :
    Calls Tryd.prog 63 #[.nilIface, .agg #[.slice xa m xc, .int .i64 x], .func (.func 64) #[] #[]] w (RsPost [] 1 w) := by
  have hgn : ∀ (w : World), (binOp .eql 112 .nilIface .nilIface).run Tryd.prog w = .ok (.bool true) w := fun w => by kernel_rfl
  have N1 := Lib.hid (below_alloc w (.cells #[.slice xa m xc, .int .i64 x] 42))
  go_enter Tryd.func63, Tryd.ntmps63
  go_wp2
  refine bodyPost_ret (results_tmp2 rfl _ _ _) rfl ?_
  exact ⟨none, 0, 0, rfl, rfl, sgs_nil _ _ _, N1.out⟩
theorem ask_call (G : Value) (T : List ByteArray) (er : Int) (h : ∀ w1, Below w.heap.size w w1 → Calls Tryd.prog 63 #[G, .agg #[.slice xa m xc, .int .i64 x], .func (.func 64) #[] #[]] w1 (RsPost T er w1)) :
    Calls Tryd.prog 32 #[G, .agg #[.slice xa m xc, .int .i64 x]] w (RsPost T er w) := by
  have b1 := below_alloc w (.cells #[.slice xa m xc, .int .i64 x] 42)
  have AS := Lib.hid (h _ b1)
  have N1 := Lib.hid b1
  clear b1 h
  go_enter Tryd.func32, Tryd.ntmps32
  go_wp2_with (go_at_call 63; refine AS.out.mono ?_; rintro e w2 ⟨b4, m4, d4, rfl, hm4, hs4, hb⟩; have W4 := Lib.hid (seqB N1.out hb); have M4 := Lib.hid hm4; have S4 := Lib.hid (hs4.mono (Q := fun k => w.heap.size ≤ k ∧ k < w2.heap.size) (fun k hk => ⟨Nat.le_trans N1.out.size hk.1, hk.2⟩)); clear hm4 hs4 hb AS)
  refine bodyPost_ret (results_tmp2 rfl _ _ _) rfl ?_
  exact ⟨b4, m4, d4, rfl, M4.out, S4.out, W4.out⟩
set_option maxHeartbeats 4000000 in
theorem ask_list (hT : UT w) (hz : ∀ i, i < l.length → (l.getD i ⟨#[]⟩).size ≤ 4096) (hM : MdB w Qn Ql n a t c l) (hL : L.length = m) (hl : m ≤ 90000) (ht : t ≤ 1000) (hs : SlS (fun _ => True) w xa L xc) (hok : mayL L x = true) :
    Calls Tryd.prog 63 #[.iface 67 (.func (.func 65) #[] #[.pointer (some ⟨Qn, 0, none⟩), .pointer (some ⟨Ql, 0, none⟩)]), .agg #[.slice xa m xc, .int .i64 x], .func (.func 68) #[] #[]] w (RsPost (tdT n l true) (tdE n true) w) := by
  have hgn : ∀ (v : Value) (w : World), (binOp .eql 112 (.iface 67 v) .nilIface).run Tryd.prog w = .ok (.bool false) w := fun v w => by kernel_rfl
  have b1 := below_alloc w (.cells #[.slice xa m xc, .int .i64 x] 42)
  have r1 := heap_alloc_new w (.cells #[.slice xa m xc, .int .i64 x] 42)
  obtain ⟨w1, hw1⟩ : ∃ W, w.alloc (.cells #[.slice xa m xc, .int .i64 x] 42) = W := ⟨_, rfl⟩
  rw [hw1] at b1 r1
  obtain ⟨Qx, hQx⟩ : ∃ Q, w.heap.size = Q := ⟨_, rfl⟩
  rw [hQx] at r1
  have RT := Lib.hid (lw_rt L xa m xc x w1 hL hl (hs.below b1).s)
  have x0 := cell_of_row _ _ 0 _ _ _ r1
  have x1 := cell_of_row _ _ 1 _ _ _ r1
  dsimp at x0 x1
  rw [hok] at RT
  have HT := Lib.hid hT
  have HZ := Lib.hid hz
  have HM := Lib.hid hM
  have HL := Lib.hid hL
  have HS := Lib.hid hs
  have RX := Lib.hid r1
  have N1 := Lib.hid b1
  clear hT hz hM hL hs hok b1 r1
  go_enter Tryd.func63, Tryd.ntmps63
  go_upto_region 5 with (go_at_call 76; refine RT.out.mono ?_; rintro e w2 ⟨rfl, hb⟩; have R2 := Lib.hid (blk_below RX.out hb); have N2 := Lib.hid (seqB N1.out hb); clear hb RT x0 x1)
  clear hw1 hQx N1 RX
  have CE : Hid (∀ wx, Below w2.heap.size w2 wx → wx.cell? ⟨Qx, 0, none⟩ = some (.slice xa m xc) ∧ wx.cell? ⟨Qx, 1, none⟩ = some (.int .i64 x)) := Lib.hid fun wx b => by
    have h2 := blk_below R2.out b
    exact ⟨cell_of_row _ _ 0 _ _ _ h2, cell_of_row _ _ 1 _ _ _ h2⟩
  have e0 := CE.out _ (Below.refl _ w2)
  have D0 : Hid (Below w2.heap.size w2 w2.drew) := Lib.hid (Below.refl _ _).drew
  have AK := Lib.hid (asker_any (Qn := Qn) (Ql := Ql) 68 w2.drew)
  go_region_held3 (fun w' => w'.cell? ⟨Qx, 0, none⟩ = some (.slice xa m xc) ∧ w'.cell? ⟨Qx, 1, none⟩ = some (.int .i64 x)) (first | exact e0 | exact e3 | exact e4 | go_keep)
    (first
      | (go_at_call 86; refine AK.out.mono ?_; rintro e w3 ⟨Qr, Qg, rfl, hk, hb⟩; have D3 : Below w2.heap.size w2 w3 := D0.out.trans hb; have K3 := Lib.hid hk; have e3 := CE.out _ D3; have W3 := Lib.hid (N2.out.trans (D3.mono N2.out.size)); have D3 := Lib.hid D3; clear hk hb AK)
      | (go_at_call 107; refine (ask1_list (HT.out.below W3.out) HZ.out K3.out (HM.out.below W3.out) HL.out (by omega) ht (HS.out.below W3.out)).mono ?_; rintro e w4 ⟨b4, m4, d4, rfl, hm4, hs4, hb⟩; have D4 : Below w2.heap.size w2 w4 := D3.out.trans (hb.mono D3.out.size); have e4 := CE.out _ D4; have W4 := Lib.hid (seqB W3.out hb); have M4 := Lib.hid hm4; have S4 := Lib.hid (hs4.mono (Q := fun k => w.heap.size ≤ k ∧ k < w4.heap.size) (fun k hk => ⟨Nat.le_trans W3.out.size hk.1, hk.2⟩)); clear hm4 hs4 hb))
  all_goals go_wp2
  all_goals refine bodyPost_ret (results_tmp2 rfl _ _ _) rfl ?_
  all_goals exact ⟨b4, m4, d4, rfl, M4.out, S4.out, W4.out⟩
theorem ask_list_bad (hL : L.length = m) (hl : m ≤ 90000) (hs : SlS (fun _ => True) w xa L xc) (hok : mayL L x = false) :
    Calls Tryd.prog 63 #[.iface 67 (.func (.func 65) #[] #[.pointer (some ⟨Qn, 0, none⟩), .pointer (some ⟨Ql, 0, none⟩)]), .agg #[.slice xa m xc, .int .i64 x], .func (.func 68) #[] #[]] w (RsPost [] 2 w) := by
  have hgn : ∀ (v : Value) (w : World), (binOp .eql 112 (.iface 67 v) .nilIface).run Tryd.prog w = .ok (.bool false) w := fun v w => by kernel_rfl
  have b1 := below_alloc w (.cells #[.slice xa m xc, .int .i64 x] 42)
  have RT := Lib.hid (lw_rt L xa m xc x (w.alloc (.cells #[.slice xa m xc, .int .i64 x] 42)) hL hl (hs.below b1).s)
  rw [hok] at RT
  have N1 := Lib.hid b1
  clear hL hs hok b1
  go_enter Tryd.func63, Tryd.ntmps63
  go_wp2_with (go_at_call 76; refine RT.out.mono ?_; rintro e w2 ⟨rfl, hb⟩; have N2 := Lib.hid (seqB N1.out hb); clear hb RT)
  refine bodyPost_ret (results_tmp2 rfl _ _ _) rfl ?_
  exact ⟨none, 0, 0, rfl, rfl, sgs_nil _ _ _, N2.out⟩
theorem ask_list_nil (v : Value) :
    Calls Tryd.prog 63 #[.nilIface, .agg #[.slice xa m xc, .int .i64 x], .func (.func 68) #[] #[]] w (RsPost [] 1 w) := by
  have hgn : ∀ (w : World), (binOp .eql 112 .nilIface .nilIface).run Tryd.prog w = .ok (.bool true) w := fun w => by kernel_rfl
  have N1 := Lib.hid (below_alloc w (.cells #[.slice xa m xc, .int .i64 x] 42))
  go_enter Tryd.func63, Tryd.ntmps63
  go_wp2
  refine bodyPost_ret (results_tmp2 rfl _ _ _) rfl ?_
  exact ⟨none, 0, 0, rfl, rfl, sgs_nil _ _ _, N1.out⟩
theorem list_call (G : Value) (T : List ByteArray) (er : Int) (h : ∀ w1, Below w.heap.size w w1 → Calls Tryd.prog 63 #[G, .agg #[.slice xa m xc, .int .i64 x], .func (.func 68) #[] #[]] w1 (RsPost T er w1)) :
    Calls Tryd.prog 38 #[G, .agg #[.slice xa m xc, .int .i64 x]] w (RsPost T er w) := by
  have b1 := below_alloc w (.cells #[.slice xa m xc, .int .i64 x] 42)
  have AS := Lib.hid (h _ b1)
  have N1 := Lib.hid b1
  clear b1 h
  go_enter Tryd.func38, Tryd.ntmps38
  go_wp2_with (go_at_call 63; refine AS.out.mono ?_; rintro e w2 ⟨b4, m4, d4, rfl, hm4, hs4, hb⟩; have W4 := Lib.hid (seqB N1.out hb); have M4 := Lib.hid hm4; have S4 := Lib.hid (hs4.mono (Q := fun k => w.heap.size ≤ k ∧ k < w2.heap.size) (fun k hk => ⟨Nat.le_trans N1.out.size hk.1, hk.2⟩)); clear hm4 hs4 hb AS)
  refine bodyPost_ret (results_tmp2 rfl _ _ _) rfl ?_
  exact ⟨b4, m4, d4, rfl, M4.out, S4.out, W4.out⟩
end
end Go.Proofs.YtdifkjmpdmlobaaDoor
set_option linter.unusedVariables false
set_option linter.unusedSimpArgs false
namespace Go.Proofs.YtdifkjmpdmlobaaDoor
open Go.RowKit
section
variable {n : Int} {l : List ByteArray} {a : Option Addr} {t c Qn Ql : Nat} {w : World}
theorem sl_none (w : World) : SlS (fun _ => True) w none ([] : List (Int × Int)) 0 := ⟨fun i hi => absurd hi (Nat.not_lt_zero i), Nat.le_refl _, fun _ => rfl, fun ad e => by cases e⟩
def ab2 : List ByteArray := [⟨#[97, 98]⟩]
theorem ab2_sg : tL ab2 = [[(97, 4), (98, 4)]] := by decide +kernel
theorem ab2_td : tdT 0 ab2 false = ab2 ∧ tdT 1 ab2 false = ab2 ∧ tdT 1 ab2 true = [] := ⟨rfl, rfl, rfl⟩
theorem ab2_z : ∀ i, i < ab2.length → (ab2.getD i ⟨#[]⟩).size ≤ 4096 := fun i hi => by
  have e : i = 0 := (by simpa [ab2] using hi)
  subst e
  decide
theorem gaw_ask (T : List ByteArray) (er : Int) (k : Nat) (hU : UT w) (hz : ∀ i, i < l.length → (l.getD i ⟨#[]⟩).size ≤ 4096) (hM : MdB w Qn Ql n a t c l) (ht : t ≤ 1000) (hT : tdT n l false = T) (hE : tdE n false = er) (hk : T.length = k) :
    Calls Tryd.prog 32 #[.iface 67 (.func (.func 65) #[] #[.pointer (some ⟨Qn, 0, none⟩), .pointer (some ⟨Ql, 0, none⟩)]), .agg #[.slice none 0 0, .int .i64 0]] w fun e w' => ∃ b d, e = .returned (.tuple #[.slice b k d, .int .i64 er]) ∧ SgsK (fun _ => True) w' b (tL T) ∧ Below w.heap.size w w' := by
  refine (ask_call (x := 0) (m := 0) (xc := 0) (xa := none) _ T er (fun w1 hb => ?_)).mono ?_
  · rw [← hT, ← hE]
    exact ask_every (L := []) (hU.below hb) hz (hM.below hb) rfl (by omega) ht (sl_none w1) rfl
  · rintro e w' ⟨b, m, d, rfl, hm, hs, hb⟩
    obtain rfl : m = k := by omega
    exact ⟨b, d, rfl, hs.mono (fun _ _ => trivial), hb⟩
theorem gaw_list (T : List ByteArray) (er : Int) (k : Nat) (hU : UT w) (hz : ∀ i, i < l.length → (l.getD i ⟨#[]⟩).size ≤ 4096) (hM : MdB w Qn Ql n a t c l) (ht : t ≤ 1000) (hT : tdT n l true = T) (hE : tdE n true = er) (hk : T.length = k) :
    Calls Tryd.prog 38 #[.iface 67 (.func (.func 65) #[] #[.pointer (some ⟨Qn, 0, none⟩), .pointer (some ⟨Ql, 0, none⟩)]), .agg #[.slice none 0 0, .int .i64 0]] w fun e w' => ∃ b d, e = .returned (.tuple #[.slice b k d, .int .i64 er]) ∧ Below w.heap.size w w' := by
  refine (list_call (x := 0) (m := 0) (xc := 0) (xa := none) _ T er (fun w1 hb => ?_)).mono ?_
  · rw [← hT, ← hE]
    exact ask_list (L := []) (hU.below hb) hz (hM.below hb) rfl (by omega) ht (sl_none w1) rfl
  · rintro e w' ⟨b, m, d, rfl, hm, hs, hb⟩
    obtain rfl : m = k := by omega
    exact ⟨b, d, rfl, hb⟩
theorem gaw_none : Calls Tryd.prog 32 #[.nilIface, .agg #[.slice none 0 0, .int .i64 0]] w fun e w' => ∃ b d, e = .returned (.tuple #[.slice b 0 d, .int .i64 1]) ∧ Below w.heap.size w w' := by
  refine (ask_call (x := 0) (m := 0) (xc := 0) (xa := none) _ [] 1 (fun w1 hb => ask_every_nil .nilIface)).mono ?_
  rintro e w' ⟨b, m, d, rfl, hm, hs, hb⟩
  obtain rfl : m = 0 := by simpa using hm.symm
  exact ⟨b, d, rfl, hb⟩
end
theorem gmade0 (n : Int) (w : World) : Calls Tryd.prog 33 #[.int .i64 n, .slice none 0 0] w fun e w' => ∃ Qn Ql, e = .returned (.func (.func 65) #[] #[.pointer (some ⟨Qn, 0, none⟩), .pointer (some ⟨Ql, 0, none⟩)]) ∧ MdB w' Qn Ql n none 0 0 [] ∧ Below w.heap.size w w' :=
  made_any n [] none 0 0 w rfl (Nat.le_refl _) (strs_nil w none)
theorem gmade1 (n : Int) (w : World) : Calls Tryd.prog 33 #[.int .i64 n, .slice (some ⟨w.heap.size, 0, none⟩) 1 1] (w.alloc (.cells #[.string ⟨#[97, 98]⟩] 9)) fun e w' => ∃ Qn Ql, e = .returned (.func (.func 65) #[] #[.pointer (some ⟨Qn, 0, none⟩), .pointer (some ⟨Ql, 0, none⟩)]) ∧ MdB w' Qn Ql n (some ⟨w.heap.size, 0, none⟩) 1 1 ab2 ∧ Below w.heap.size w w' :=
  (made_any n ab2 (some ⟨w.heap.size, 0, none⟩) 1 1 _ rfl (Nat.le_refl _) (strs_one w _ _)).mono fun e w' ⟨Qn, Ql, h1, h2, h3⟩ => ⟨Qn, Ql, h1, h2, seqB (below_alloc w _) h3⟩
theorem nil_z : ∀ i, i < ([] : List ByteArray).length → (([] : List ByteArray).getD i ⟨#[]⟩).size ≤ 4096 := fun i hi => absurd hi (Nat.not_lt_zero i)
set_option maxHeartbeats 8000000 in
theorem gawake_any (w : World) (hT : UT w) : Calls Tryd.prog 30 #[] w fun e w' => e = .returned (.bool true) ∧ Below w.heap.size w w' := by
  have HU := Lib.hid fun w' (hb : Below w.heap.size w w') => hT.below hb
  have M0 := Lib.hid fun n w => gmade0 n w
  have M1 := Lib.hid fun n w => gmade1 n w
  have NN := Lib.hid fun w => gaw_none (w := w)
  clear hT
  go_enter Tryd.func30, Tryd.ntmps30
  go_upto_region 2 with (first
    | (go_at_call 33; refine (M1.out _ _).mono ?_; rintro e w1 ⟨Qn, Ql, rfl, hm, hb⟩; have HM := Lib.hid hm; have N1 := Lib.hid hb; clear hm hb)
    | (go_at_call 32; refine (gaw_ask ab2 0 1 (HU.out _ N1.out) ab2_z HM.out (by omega) rfl rfl rfl).mono ?_; rintro e w2 ⟨b2, d2, rfl, hs, hb⟩; have S2 := Lib.hid hs; have N2 := Lib.hid (seqB N1.out hb); clear hs hb N1 HM))
  go_upto_region 3 with (first
    | (go_at_call 33; refine (M0.out _ _).mono ?_; rintro e w1 ⟨Qn3, Ql3, rfl, hm, hb⟩; have HM := Lib.hid hm; have N1 := Lib.hid (seqB N2.out hb); have S1 := Lib.hid (S2.out.below hb); clear hm hb N2 S2)
    | (go_at_call 32; refine (gaw_ask [] 11 0 (HU.out _ N1.out) nil_z HM.out (by omega) rfl rfl rfl).mono ?_; rintro e w3 ⟨b3, d3, rfl, hs, hb⟩; have S3 := Lib.hid (S1.out.below hb); have N3 := Lib.hid (seqB N1.out hb); clear hs hb N1 HM S1))
  go_upto_region 4 with (go_at_call 32; refine (NN.out _).mono ?_; rintro e w4 ⟨b4, d4, rfl, hb⟩; have S4 := Lib.hid (S3.out.below hb); have N4 := Lib.hid (seqB N3.out hb); clear hb N3 S3 NN)
  go_upto_region 5 with (first
    | (go_at_call 33; refine (M0.out _ _).mono ?_; rintro e w1 ⟨Qn5, Ql5, rfl, hm, hb⟩; have HM := Lib.hid hm; have N1 := Lib.hid (seqB N4.out hb); have S1 := Lib.hid (S4.out.below hb); clear hm hb N4 S4)
    | (go_at_call 32; refine (gaw_ask [] 2 0 (HU.out _ N1.out) nil_z HM.out (by omega) rfl rfl rfl).mono ?_; rintro e w5 ⟨b5, d5, rfl, hs, hb⟩; have S5 := Lib.hid (S1.out.below hb); have N5 := Lib.hid (seqB N1.out hb); clear hs hb N1 HM S1))
  go_upto_region 6 with (first
    | (go_at_call 33; refine (M1.out _ _).mono ?_; rintro e w1 ⟨Qn6, Ql6, rfl, hm, hb⟩; have HM := Lib.hid hm; have N1 := Lib.hid (seqB N5.out hb); have S1 := Lib.hid (S5.out.below hb); clear hm hb N5 S5)
    | (go_at_call 32; refine (gaw_ask ab2 0 1 (HU.out _ N1.out) ab2_z HM.out (by omega) rfl rfl rfl).mono ?_; rintro e w6 ⟨b6, d6, rfl, hs, hb⟩; have S6 := Lib.hid (S1.out.below hb); have N6 := Lib.hid (seqB N1.out hb); clear hs hb N1 HM S1))
  go_upto_region 7 with (first
    | (go_at_call 33; refine (M1.out _ _).mono ?_; rintro e w1 ⟨Qn7, Ql7, rfl, hm, hb⟩; have HM := Lib.hid hm; have N1 := Lib.hid (seqB N6.out hb); have S1 := Lib.hid (S6.out.below hb); clear hm hb N6 S6)
    | (go_at_call 38; refine (gaw_list [] 11 0 (HU.out _ N1.out) ab2_z HM.out (by omega) rfl rfl rfl).mono ?_; rintro e w7 ⟨b7, d7, rfl, hb⟩; have S7 := Lib.hid (S1.out.below hb); have N7 := Lib.hid (seqB N1.out hb); clear hb N1 HM S1))
  have hS := S7.out
  rw [ab2_sg] at hS
  obtain ⟨bb, off, ai, ci, rfl, _, hbl, yc, hsl⟩ := hS 0 (by decide)
  obtain ⟨gy, oy, rfl, _, _, yy⟩ := hsl.s 0 (by decide)
  replace yc : w7.cell? ⟨bb, off, none⟩ = some (.slice (some ⟨gy, oy, none⟩) 2 ci) := yc
  replace yy : w7.cell? ⟨gy, oy + 1, none⟩ = some (.int .i64 4) := yy
  clear hS hsl hbl S7
  go_wp2
  go_ret
  exact ⟨rfl, N7.out⟩
end Go.Proofs.YtdifkjmpdmlobaaDoor
set_option linter.unusedVariables false
set_option linter.unusedSimpArgs false
namespace Go.Proofs.YtdifkjmpdmlobaaDoor
open Go.RowKit
/-- A line behind a variable. -/
def LnG (w : World) (X : Nat) (b : Option Addr) (n d : Nat) (x : Int) : Prop := w.heap[X]? = some (.cells #[.slice b n d, .int .i64 x] 42 (0, 0))
theorem LnG.below {w w' : World} {X : Nat} {b : Option Addr} {n d : Nat} {x : Int} (h : LnG w X b n d x) (hb : Below w.heap.size w w') : LnG w' X b n d x := blk_below h hb
theorem LnG.cells {w : World} {X : Nat} {b : Option Addr} {n d : Nat} {x : Int} (h : LnG w X b n d x) : w.cell? ⟨X, 0, none⟩ = some (.slice b n d) ∧ w.cell? ⟨X, 1, none⟩ = some (.int .i64 x) := ⟨cell_of_row _ _ 0 _ _ _ h, cell_of_row _ _ 1 _ _ _ h⟩
theorem lg_z {l : List ByteArray} (h : lgT l = true) : l.length ≤ 20 ∧ ∀ i, i < l.length → (l.getD i ⟨#[]⟩).size ≤ 60 := by
  unfold lgT at h
  rw [Bool.and_eq_true, decide_eq_true_eq, List.all_eq_true] at h
  refine ⟨h.2, fun i hi => ?_⟩
  rw [List.getD, List.getElem?_eq_getElem hi]
  simpa using h.1 _ (List.getElem_mem hi)
theorem tdT_z {n : Int} {l : List ByteArray} {b : Bool} (h : lgT l = true) : (tdT n l b).length ≤ 20 ∧ ∀ i, i < (tdT n l b).length → ((tdT n l b).getD i ⟨#[]⟩).size ≤ 60 := by
  obtain ⟨h1, h2⟩ := lg_z h
  have one : ∀ s : ByteArray, s.size ≤ 60 → [s].length ≤ 20 ∧ ∀ i, i < [s].length → ([s].getD i ⟨#[]⟩).size ≤ 60 := fun s hs => ⟨by simp, fun i hi => by
    have e : i = 0 := (by simpa using hi)
    subst e
    exact hs⟩
  have nil : ([] : List ByteArray).length ≤ 20 ∧ ∀ i, i < ([] : List ByteArray).length → (([] : List ByteArray).getD i ⟨#[]⟩).size ≤ 60 := ⟨by simp, fun i hi => absurd hi (Nat.not_lt_zero i)⟩
  unfold tdT
  by_cases h0 : n = 0
  · rw [if_pos h0]; exact ⟨h1, h2⟩
  · rw [if_neg h0]
    cases b with
    | true => rw [if_pos rfl]; exact nil
    | false =>
      rw [if_neg (by decide)]
      by_cases hn : n = 1
      · rw [if_pos hn]
        by_cases hl : l = []
        · rw [if_pos hl]; exact one _ (by decide)
        · rw [if_neg hl]; exact one _ (h2 0 (List.length_pos_iff.2 hl))
      · rw [if_neg hn]; exact nil
theorem tL_z {T : List ByteArray} (h : ∀ i, i < T.length → (T.getD i ⟨#[]⟩).size ≤ 60) : ∀ t ∈ tL T, t.length ≤ 65536 := fun t ht => by
  obtain ⟨i, hi, rfl⟩ := List.getElem_of_mem ht
  rw [tL_len] at hi
  have := tL_at T i hi
  rw [List.getD, List.getElem?_eq_getElem (by rw [tL_len]; exact hi)] at this
  have h3 := sOf_len (T.getD i ⟨#[]⟩)
  have h4 := h i hi
  have e : (tL T)[i]'(by rw [tL_len]; exact hi) = sOf 4 (T.getD i ⟨#[]⟩) := this
  rw [e]; omega
/-- The guest's value. -/
def gV (Qn Ql : Nat) : Value := .iface 67 (.func (.func 65) #[] #[.pointer (some ⟨Qn, 0, none⟩), .pointer (some ⟨Ql, 0, none⟩)])
section
variable {n : Int} {l : List ByteArray} {a : Option Addr} {t c : Nat} {L : List (Int × Int)} {xa : Option Addr} {m xc : Nat} {x : Int} {w : World}
theorem guestask_far (hU : UT w) (h60 : 60 < m) (hl : m ≤ 9223372036854775807) (v1 v2 : Value) :
    Calls Tryd.prog 7 #[.agg #[.slice xa m xc, .int .i64 x], v1, v2] w fun e w' => e = .returned (.bool true) ∧ Below w.heap.size w w' := by
  have b1 := below_alloc w (.cells #[.slice xa m xc, .int .i64 x] 42)
  have AW := Lib.hid (gawake_any (w.alloc (.cells #[.slice xa m xc, .int .i64 x] 42)) (hU.below b1))
  have N1 := Lib.hid b1
  have h60i : (60 : Int) < m := by omega
  clear hU b1
  go_enter Tryd.func7, Tryd.ntmps7
  go_wp2_with (go_at_call 30; refine AW.out.mono ?_; rintro e w2 ⟨rfl, hb⟩; have N2 := Lib.hid (seqB N1.out hb); clear hb AW)
  go_ret
  exact ⟨rfl, N2.out⟩
theorem guestask_dark (hU : UT w) (h60 : ¬ 60 < m) (hT : l.length = t) (ht : t ≤ 9223372036854775807) (hz : ∀ i, i < l.length → (l.getD i ⟨#[]⟩).size ≤ 9223372036854775807) (hs : StrsIn w a l) (hlg : lgT l = false) (v1 : Value) :
    Calls Tryd.prog 7 #[.agg #[.slice xa m xc, .int .i64 x], v1, .slice a t c] w fun e w' => e = .returned (.bool true) ∧ Below w.heap.size w w' := by
  have b1 := below_alloc w (.cells #[.slice xa m xc, .int .i64 x] 42)
  have LI := glight_any l a t c (w.alloc (.cells #[.slice xa m xc, .int .i64 x] 42)) hT ht hz (hs.below b1)
  rw [hlg] at LI
  have LI := Lib.hid LI
  have HU := Lib.hid fun w' (hb : Below w.heap.size w w') => gawake_any w' (hU.below hb)
  have N1 := Lib.hid b1
  have h60i : ¬ (60 : Int) < m := by omega
  clear hU b1 hs hz
  go_enter Tryd.func7, Tryd.ntmps7
  go_wp2_with (first
    | (go_at_call 29; refine LI.out.mono ?_; rintro e w2 ⟨rfl, hb⟩; have N2 := Lib.hid (seqB N1.out hb); clear hb LI)
    | (go_at_call 30; refine (HU.out _ N2.out).mono ?_; rintro e w3 ⟨rfl, hb⟩; have N3 := Lib.hid (seqB N2.out hb); clear hb HU))
  go_ret
  exact ⟨rfl, N3.out⟩
set_option maxHeartbeats 32000000 in
theorem guestask_yes (T : List ByteArray) (er : Int) (hU : UT w) (h60 : ¬ 60 < m) (hL : L.length = m) (hT : l.length = t) (hc : t ≤ c) (hs : StrsIn w a l) (hlg : lgT l = true) (hsx : SlS (fun _ => True) w xa L xc)
    (hTE : (mayL L x = true ∧ T = tdT n l false ∧ er = tdE n false) ∨ (mayL L x = false ∧ T = [] ∧ er = 2))
    (hAsk : ∀ Qn Ql w1, Below w.heap.size w w1 → MdB w1 Qn Ql n a t c l → Calls Tryd.prog 32 #[gV Qn Ql, .agg #[.slice xa m xc, .int .i64 x]] w1 (RsPost T er w1)) :
    Calls Tryd.prog 7 #[.agg #[.slice xa m xc, .int .i64 x], .int .i64 n, .slice a t c] w fun e w' => e = .returned (.bool true) ∧ Below w.heap.size w w' := by
  obtain ⟨ht20, hz60⟩ := lg_z hlg
  obtain ⟨Qx, hQ⟩ : ∃ Q, w.heap.size = Q := ⟨_, rfl⟩
  have b1 := below_alloc w (.cells #[.slice xa m xc, .int .i64 x] 42)
  have r1 := heap_alloc_new w (.cells #[.slice xa m xc, .int .i64 x] 42)
  obtain ⟨W, hW⟩ : ∃ W, w.alloc (.cells #[.slice xa m xc, .int .i64 x] 42) = W := ⟨_, rfl⟩
  rw [hW] at b1 r1
  rw [hQ] at r1
  have LI := glight_any l a t c W hT (by omega) (fun i hi => by have := hz60 i hi; omega) (hs.below b1)
  rw [hlg] at LI
  replace LI := Lib.hid LI
  have HU := Lib.hid fun w' (hb : Below w.heap.size w w') => gawake_any w' (hU.below hb)
  have HL := Lib.hid hL
  have HT := Lib.hid hT
  have HS := Lib.hid hs
  have HLG := Lib.hid hlg
  have HX := Lib.hid hsx
  have HTE := Lib.hid hTE
  have HA := Lib.hid hAsk
  have X0 : Hid (LnG W Qx xa m xc x) := Lib.hid r1
  have M0 := Lib.hid b1
  have z0 := X0.out.cells.1
  have z1 := X0.out.cells.2
  have h60i : ¬ (60 : Int) < m := by omega
  have ht : t ≤ 20 := by omega
  have JN := Lib.hid fun (w' : World) (hb : Below w.heap.size w w') => joinS_ref (fun _ => True) L [] xa none xc 0 m 0 w' hL rfl (by omega) (by omega) (hsx.below hb) ⟨fun j hj => absurd hj (Nat.not_lt_zero j), Nat.le_refl _, fun _ => rfl, fun ad e => by cases e⟩
  clear hU hL hT hs hlg hsx hTE hAsk b1 r1 ht20 hz60
  go_enter Tryd.func7, Tryd.ntmps7
  go_upto_region 3 with (go_at_call 29; refine LI.out.mono ?_; rintro e w2 ⟨rfl, hb⟩; have M2 := Lib.hid (seqB M0.out hb); have X2 := Lib.hid (X0.out.below hb); have z02 := X2.out.cells.1; have z12 := X2.out.cells.2; clear hb LI z0 z1)
  have HQ := Lib.hid hQ
  clear hW hQ X0 M0
  go_cut [7] from 22 to 28 (fun s7 wx => ∃ (X : Nat) (b : Option Addr) (d : Nat), s7 = .pointer (some ⟨X, 0, none⟩) ∧ Hid (LnG wx X b m d x) ∧ Hid (OwS wx w.heap.size (.slice b m d) L) ∧ Hid (Below w.heap.size w wx) ∧ Hid (LnG wx Qx xa m xc x))
  case first =>
    have JN2 := Lib.hid (JN.out w2.drew M2.out.drew)
    have JN3 := Lib.hid fun o => JN.out (w2.alloc o).drew (seqB M2.out (below_alloc w2 o)).drew
    have hH2 : Hid (Qx < w2.drew.heap.size) := Lib.hid (blk_lt X2.out)
    have hH2o : Hid (∀ o, Qx < (w2.alloc o).drew.heap.size) := Lib.hid (fun o => Nat.lt_of_lt_of_le (blk_lt X2.out) (below_alloc w2 o).size)
    have neX : Hid (w2.heap.size ≠ Qx) := Lib.hid (by have := blk_lt X2.out; omega)
    clear JN
    go_region_held3 (fun w' => w'.cell? ⟨Qx, 0, none⟩ = some (.slice xa m xc) ∧ w'.cell? ⟨Qx, 1, none⟩ = some (.int .i64 x)) (first | exact ⟨z02, z12⟩ | exact ⟨z03, z13⟩ | exact ⟨(World.cell?_alloc_lt _ _ _ hH2.out).trans z02, (World.cell?_alloc_lt _ _ _ hH2.out).trans z12⟩ | exact ⟨(World.cell?_alloc_lt _ _ _ hH3.out).trans z03, (World.cell?_alloc_lt _ _ _ hH3.out).trans z13⟩ | exact ⟨(farL neX.out).trans z03, (farL neX.out).trans z13⟩ | go_keep)
      (first
        | (go_at_call 31; (with_reducible refine JN2.out.mono ?_); rintro e w3 ⟨b3, d3, rfl, ho, hb⟩; have Y3 := Lib.hid ho; have D3 := Lib.hid ((Below.refl w2.heap.size w2).drew.trans hb); have z03 := (hb.cell (p := ⟨Qx, 0, none⟩) hH2.out).trans z02; have z13 := (hb.cell (p := ⟨Qx, 1, none⟩) hH2.out).trans z12; have hH3 := Lib.hid (Nat.lt_of_lt_of_le hH2.out hb.size); have WAY1 := True.intro; clear ho hb)
        | (go_at_call 31; (with_reducible refine (JN3.out _).mono ?_); rintro e w3 ⟨b3, d3, rfl, ho, hb⟩; have Y3 := Lib.hid ho; have F3 := Lib.hid (blk_below (show (w2.alloc (.cells #[.slice none 0 0, .int .i64 0] 42)).drew.heap[w2.heap.size]? = _ from heap_alloc_new w2 (.cells #[.slice none 0 0, .int .i64 0] 42)) hb); have yf3 := fun i => frozen_of_row _ w2.heap.size i _ _ F3.out; have y03 := cell_of_row _ _ 0 _ _ _ F3.out; have y13 := cell_of_row _ _ 1 _ _ _ F3.out; dsimp at y03 y13; have D3 := Lib.hid (seqB (below_alloc w2 (.cells #[.slice none 0 0, .int .i64 0] 42)) ((Below.refl _ _).drew.trans hb)); have z03 := (hb.cell (p := ⟨Qx, 0, none⟩) (hH2o.out _)).trans ((World.cell?_alloc_lt _ _ _ hH2.out).trans z02); have z13 := (hb.cell (p := ⟨Qx, 1, none⟩) (hH2o.out _)).trans ((World.cell?_alloc_lt _ _ _ hH2.out).trans z12); have hH3 := Lib.hid (Nat.lt_of_lt_of_le (hH2o.out _) hb.size); clear ho hb))
    · go_wp2_with fail
      go_meet
      have ba := below_alloc w3 (.cells #[.slice b3 m d3, .int .i64 x] 42)
      have D4 := seqB D3.out ba
      have Y4 : OwS w3 w.heap.size (.slice b3 m d3) L := by have h := Y3.out; rw [List.append_nil] at h; exact h.mono (show w.heap.size ≤ w2.drew.heap.size from M2.out.size)
      exact ⟨w3.heap.size, b3, d3, rfl, Lib.hid (heap_alloc_new _ _), Lib.hid (ows_keep Y4 ba), Lib.hid (seqB M2.out D4), Lib.hid (X2.out.below D4)⟩
    · go_wp2_with fail
      go_meet
      have hM := seqB M2.out D3.out
      have hO : OwS w3 (w2.heap.size + 1) (.slice b3 m d3) L := by
        have h := Y3.out
        rw [List.append_nil] at h
        exact h.mono (by show _ ≤ (w2.alloc _).heap.size; simp)
      obtain ⟨f1, _, _, f4, f5⟩ := ln_fin (w := w) F3.out hO hM M2.out.size rfl
      have hX : LnG w3 Qx xa m xc x := X2.out.below D3.out
      refine ⟨w2.heap.size, b3, d3, rfl, Lib.hid f1, Lib.hid (f4.mono (by have := M2.out.size; omega)), Lib.hid f5, Lib.hid ?_⟩
      unfold LnG
      rw [Below.heap_setCell _ _ _ _ (Ne.symm neX.out), Below.heap_setCell _ _ _ _ (Ne.symm neX.out)]
      exact hX
  case rest =>
    obtain ⟨X5, b5, d5, rfl, P5, Y5, M5, E5⟩ := hcut
    clear z02 z12 M2 X2 JN
    go_upto_region 4 with fail
    have D0 : Hid (Below wc.heap.size wc wc.drew) := Lib.hid (Below.refl _ _).drew
    have MD := Lib.hid (made_any n l a t c wc.drew HT.out hc (HS.out.below (seqB M5.out D0.out)))
    have e0 := E5.out.cells
    go_region_held3 (fun w' => w'.cell? ⟨Qx, 0, none⟩ = some (.slice xa m xc) ∧ w'.cell? ⟨Qx, 1, none⟩ = some (.int .i64 x)) (first | exact e0 | exact e6 | exact e7 | go_keep)
      (first
        | (go_at_call 33; refine MD.out.mono ?_; rintro e w6 ⟨Qn, Ql, rfl, hm, hb⟩; have D6 : Below wc.heap.size wc w6 := D0.out.trans hb; have G6 := Lib.hid hm; have e6 := (E5.out.below D6).cells; have D6 := Lib.hid D6; clear hm hb MD)
        | (go_at_call 32; refine (HA.out Qn Ql _ (seqB M5.out D6.out) G6.out).mono ?_; rintro e w7 ⟨b7, k7, d7, rfl, hk7, hs7, hb⟩; have D7 : Below wc.heap.size wc w7 := D6.out.trans (hb.mono D6.out.size); have e7 := (E5.out.below D7).cells; have K7 := Lib.hid hk7; have S7 := Lib.hid (hs7.mono (Q := fun _ => True) (fun _ _ => trivial)); have D7 := Lib.hid D7; clear hk7 hs7 hb HA))
    all_goals
      have M7 := Lib.hid (seqB M5.out D7.out)
      have E7 := Lib.hid (E5.out.below D7.out)
      have P7 := Lib.hid (P5.out.below D7.out)
      have Y7 := Lib.hid (ows_keep Y5.out D7.out)
      have TD := Lib.hid (told_ref n l false a t c w7 HT.out hc (HS.out.below M7.out))
      clear e0 e6 e7 M5 E5 P5 Y5 D0 D6 G6
      go_upto_region 6 with (go_at_call 34; refine TD.out.mono ?_; rintro e w8 ⟨a8, m8, c8, rfl, hm8, hs8, hc8, hb⟩; have H8 := Lib.hid hm8; have S8 := Lib.hid hs8; have M8 := Lib.hid (seqB M7.out hb); have E8 := Lib.hid (E7.out.below hb); have P8 := Lib.hid (P7.out.below hb); have Y8 := Lib.hid (ows_keep Y7.out hb); have R8 := Lib.hid (S7.out.below hb); clear hm8 hs8 hc8 hb TD S7)
      have e8 := E8.out.cells
      obtain ⟨e80, e81⟩ := e8
      have MY := r17_may L xa m xc x w8 HL.out (by omega) (HX.out.below M8.out).s
      rw [show (decide (0 ≤ x) && decide (x ≤ m) && sgC L) = mayL L x by rw [mayL, HL.out, Bool.and_assoc]] at MY
      have MY := Lib.hid MY
      have hTz : T.length ≤ 20 ∧ ∀ i, i < T.length → (T.getD i ⟨#[]⟩).size ≤ 60 := by
        rcases HTE.out with ⟨_, rfl, _⟩ | ⟨_, rfl, _⟩
        · exact tdT_z HLG.out
        · exact ⟨by simp, fun i hi => absurd hi (Nat.not_lt_zero i)⟩
      have HTZ := Lib.hid hTz
      have hk20 : k7 ≤ 20 := by have := K7.out; have := hTz.1; omega
      have SG : Hid (∀ (a' : Option Addr) (c' : Nat) (w' : World), StrsIn w' a' T → Calls Tryd.prog 37 #[.slice a' k7 c'] w' fun e w1 => ∃ b d, e = .returned (.slice b k7 d) ∧ SgsK (fun k => w'.heap.size ≤ k ∧ k < w1.heap.size) w1 b (tL T) ∧ Below w'.heap.size w' w1) := Lib.hid fun a' c' w' h => rsigns_ref T a' k7 c' w' K7.out (by omega) (fun i hi => by have := HTZ.out.2 i hi; omega) h
      have LS : Hid (∀ (a' b' : Option Addr) (c' d' : Nat) (S1 S2 : Nat → Prop) (w' : World), SgsK S1 w' a' (tL T) → SgsK S2 w' b' (tL T) → Calls Tryd.prog 36 #[.slice a' k7 c', .slice b' k7 d'] w' fun e w1 => e = .returned (.bool true) ∧ Below w'.heap.size w' w1) := Lib.hid fun a' b' c' d' S1 S2 w' h1 h2 => rk_lists S1 S2 (tL T) a' b' k7 c' d' w' (by rw [tL_len, K7.out]) (by omega) (tL_z HTZ.out.2) h1 h2
      have SM : Hid (∀ (b' : Option Addr) (d' : Nat) (w' : World), Signs w' xa L → Signs w' b' L → Calls Tryd.prog 22 #[.agg #[.slice xa m xc, .int .i64 x], .agg #[.slice b' m d', .int .i64 x]] w' fun e w1 => e = .returned (.bool true) ∧ Below w'.heap.size w' w1) := Lib.hid fun b' d' w' h1 h2 => r16_same L L xa b' m m xc d' x x w' HL.out HL.out (by omega) (by omega) h1 h2 rfl rfl
      clear hTz
      rcases HTE.out with ⟨hok, hT1, hE1⟩ | ⟨hok, hT1, hE1⟩
      · rw [hok] at MY
        have hm8 : m8 = k7 := by have h1 := H8.out; have h2 := K7.out; rw [hT1] at h2; omega
        subst hm8
        have S8' : Hid (StrsIn w8 a8 T) := Lib.hid (by rw [hT1]; exact S8.out)
        rw [← hE1]
        clear hT1 hE1 S8 H8 HTE hok
        go_upto_region 9 with (go_at_call 35; refine MY.out.mono ?_; rintro e w9 ⟨rfl, hb⟩; have M9 := Lib.hid (seqB M8.out hb); have E9 := Lib.hid (E8.out.below hb); have P9 := Lib.hid (P8.out.below hb); have Y9 := Lib.hid (ows_keep Y8.out hb); have R9 := Lib.hid (R8.out.below hb); have S9 := Lib.hid (S8'.out.below hb); clear hb MY e80 e81 S8')
        go_wp2_with (first
          | (go_at_call 30; refine (HU.out _ M9.out).mono ?_; rintro e wA ⟨rfl, hb⟩; have MA := Lib.hid (seqB M9.out hb); have EA := Lib.hid (E9.out.below hb); have PA := Lib.hid (P9.out.below hb); have YA := Lib.hid (ows_keep Y9.out hb); have RA := Lib.hid (R9.out.below hb); have SA := Lib.hid (S9.out.below hb); clear hb HU M9 E9 P9 Y9 R9 S9)
          | (go_at_call 37; refine (SG.out _ _ _ SA.out).mono ?_; rintro e wB ⟨bB, dB, rfl, hs, hb⟩; have MB := Lib.hid (seqB MA.out hb); have EB := Lib.hid (EA.out.below hb); have PB := Lib.hid (PA.out.below hb); have YB := Lib.hid (ows_keep YA.out hb); have RB := Lib.hid (RA.out.below hb); have TB := Lib.hid (hs.mono (Q := fun _ => True) (fun _ _ => trivial)); clear hs hb SG MA EA PA YA RA SA)
          | (go_at_call 36; refine (LS.out _ _ _ _ _ _ _ RB.out TB.out).mono ?_; rintro e wC ⟨rfl, hb⟩; have MC := Lib.hid (seqB MB.out hb); have eC := (EB.out.below hb).cells; have pC := (PB.out.below hb).cells; obtain ⟨eC0, eC1⟩ := eC; obtain ⟨pC0, pC1⟩ := pC; have YC := Lib.hid (ows_keep YB.out hb); clear hb LS MB EB PB YB RB TB)
          | (go_at_call 22; refine (SM.out _ _ _ (HX.out.below MC.out).s (ows_slS YC.out).s).mono ?_; rintro e wD ⟨rfl, hb⟩; have MD := Lib.hid (seqB MC.out hb); clear hb SM))
        go_ret
        exact ⟨rfl, MD.out⟩
      · rw [hok] at MY
        subst hT1
        subst hE1
        obtain rfl : k7 = 0 := by simpa using K7.out.symm
        have S8' : Hid (StrsIn w8 none ([] : List ByteArray)) := Lib.hid (strs_nil _ _)
        clear S8 H8 HTE hok
        go_upto_region 9 with (go_at_call 35; refine MY.out.mono ?_; rintro e w9 ⟨rfl, hb⟩; have M9 := Lib.hid (seqB M8.out hb); have E9 := Lib.hid (E8.out.below hb); have P9 := Lib.hid (P8.out.below hb); have Y9 := Lib.hid (ows_keep Y8.out hb); have R9 := Lib.hid (R8.out.below hb); have S9 := Lib.hid (S8'.out.below hb); clear hb MY e80 e81 S8')
        go_wp2_with (first
          | (go_at_call 30; refine (HU.out _ M9.out).mono ?_; rintro e wA ⟨rfl, hb⟩; have MA := Lib.hid (seqB M9.out hb); have EA := Lib.hid (E9.out.below hb); have PA := Lib.hid (P9.out.below hb); have YA := Lib.hid (ows_keep Y9.out hb); have RA := Lib.hid (R9.out.below hb); have SA := Lib.hid (S9.out.below hb); clear hb HU M9 E9 P9 Y9 R9 S9)
          | (go_at_call 37; refine (SG.out _ _ _ SA.out).mono ?_; rintro e wB ⟨bB, dB, rfl, hs, hb⟩; have MB := Lib.hid (seqB MA.out hb); have EB := Lib.hid (EA.out.below hb); have PB := Lib.hid (PA.out.below hb); have YB := Lib.hid (ows_keep YA.out hb); have RB := Lib.hid (RA.out.below hb); have TB := Lib.hid (hs.mono (Q := fun _ => True) (fun _ _ => trivial)); clear hs hb SG MA EA PA YA RA SA)
          | (go_at_call 36; refine (LS.out _ _ _ _ _ _ _ RB.out TB.out).mono ?_; rintro e wC ⟨rfl, hb⟩; have MC := Lib.hid (seqB MB.out hb); have eC := (EB.out.below hb).cells; have pC := (PB.out.below hb).cells; obtain ⟨eC0, eC1⟩ := eC; obtain ⟨pC0, pC1⟩ := pC; have YC := Lib.hid (ows_keep YB.out hb); clear hb LS MB EB PB YB RB TB)
          | (go_at_call 22; refine (SM.out _ _ _ (HX.out.below MC.out).s (ows_slS YC.out).s).mono ?_; rintro e wD ⟨rfl, hb⟩; have MD := Lib.hid (seqB MC.out hb); clear hb SM))
        go_ret
        exact ⟨rfl, MD.out⟩
/-- Of any line, number and texts. -/
theorem guestask_any (hU : UT w) (hL : L.length = m) (hm : m ≤ 9223372036854775807) (hT : l.length = t) (ht : t ≤ 9223372036854775807) (hz : ∀ i, i < l.length → (l.getD i ⟨#[]⟩).size ≤ 9223372036854775807) (hc : t ≤ c) (hs : StrsIn w a l) (hsx : SlS (fun _ => True) w xa L xc) :
    Calls Tryd.prog 7 #[.agg #[.slice xa m xc, .int .i64 x], .int .i64 n, .slice a t c] w fun e w' => e = .returned (.bool true) ∧ Below w.heap.size w w' := by
  by_cases h60 : 60 < m
  · exact guestask_far hU h60 hm _ _
  by_cases hlg : lgT l = true
  · obtain ⟨h20, hz2⟩ := lg_z hlg
    by_cases hok : mayL L x = true
    · exact guestask_yes (tdT n l false) (tdE n false) hU h60 hL hT hc hs hlg hsx (Or.inl ⟨hok, rfl, rfl⟩) (fun Qn Ql w1 hb hM => ask_call _ _ _ fun w2 hb2 => ask_every (hU.below (seqB hb hb2)) (fun i hi => by have := hz2 i hi; omega) (hM.below hb2) hL (by omega) (by omega) (hsx.below (seqB hb hb2)) hok)
    · exact guestask_yes [] 2 hU h60 hL hT hc hs hlg hsx (Or.inr ⟨by simpa using hok, rfl, rfl⟩) (fun Qn Ql w1 hb hM => ask_call _ _ _ fun w2 hb2 => ask_every_bad hL (by omega) (hsx.below (seqB hb hb2)) (by simpa using hok))
  · exact guestask_dark hU h60 hT ht hz hs (by simpa using hlg) _
end
end Go.Proofs.YtdifkjmpdmlobaaDoor
set_option linter.unusedVariables false
set_option linter.unusedSimpArgs false
namespace Go.Proofs.YtdifkjmpdmlobaaDoor
open Go.RowKit
section
variable {n : Int} {l : List ByteArray} {a : Option Addr} {t c : Nat} {L : List (Int × Int)} {xa : Option Addr} {m xc : Nat} {x : Int} {w : World}
theorem guestlist_far (hU : UT w) (h60 : 60 < m) (hl : m ≤ 9223372036854775807) (v1 v2 : Value) :
    Calls Tryd.prog 8 #[.agg #[.slice xa m xc, .int .i64 x], v1, v2] w fun e w' => e = .returned (.bool true) ∧ Below w.heap.size w w' := by
  have b1 := below_alloc w (.cells #[.slice xa m xc, .int .i64 x] 42)
  have AW := Lib.hid (gawake_any (w.alloc (.cells #[.slice xa m xc, .int .i64 x] 42)) (hU.below b1))
  have N1 := Lib.hid b1
  have h60i : (60 : Int) < m := by omega
  clear hU b1
  go_enter Tryd.func8, Tryd.ntmps8
  go_wp2_with (go_at_call 30; refine AW.out.mono ?_; rintro e w2 ⟨rfl, hb⟩; have N2 := Lib.hid (seqB N1.out hb); clear hb AW)
  go_ret
  exact ⟨rfl, N2.out⟩
theorem guestlist_dark (hU : UT w) (h60 : ¬ 60 < m) (hT : l.length = t) (ht : t ≤ 9223372036854775807) (hz : ∀ i, i < l.length → (l.getD i ⟨#[]⟩).size ≤ 9223372036854775807) (hs : StrsIn w a l) (hlg : lgT l = false) (v1 : Value) :
    Calls Tryd.prog 8 #[.agg #[.slice xa m xc, .int .i64 x], v1, .slice a t c] w fun e w' => e = .returned (.bool true) ∧ Below w.heap.size w w' := by
  have b1 := below_alloc w (.cells #[.slice xa m xc, .int .i64 x] 42)
  have LI := glight_any l a t c (w.alloc (.cells #[.slice xa m xc, .int .i64 x] 42)) hT ht hz (hs.below b1)
  rw [hlg] at LI
  have LI := Lib.hid LI
  have HU := Lib.hid fun w' (hb : Below w.heap.size w w') => gawake_any w' (hU.below hb)
  have N1 := Lib.hid b1
  have h60i : ¬ (60 : Int) < m := by omega
  clear hU b1 hs hz
  go_enter Tryd.func8, Tryd.ntmps8
  go_wp2_with (first
    | (go_at_call 29; refine LI.out.mono ?_; rintro e w2 ⟨rfl, hb⟩; have N2 := Lib.hid (seqB N1.out hb); clear hb LI)
    | (go_at_call 30; refine (HU.out _ N2.out).mono ?_; rintro e w3 ⟨rfl, hb⟩; have N3 := Lib.hid (seqB N2.out hb); clear hb HU))
  go_ret
  exact ⟨rfl, N3.out⟩
set_option maxHeartbeats 32000000 in
theorem guestlist_yes (T : List ByteArray) (er : Int) (hU : UT w) (h60 : ¬ 60 < m) (hL : L.length = m) (hT : l.length = t) (hc : t ≤ c) (hs : StrsIn w a l) (hlg : lgT l = true) (hsx : SlS (fun _ => True) w xa L xc)
    (hTE : (mayL L x = true ∧ T = tdT n l true ∧ er = tdE n true) ∨ (mayL L x = false ∧ T = [] ∧ er = 2))
    (hAsk : ∀ Qn Ql w1, Below w.heap.size w w1 → MdB w1 Qn Ql n a t c l → Calls Tryd.prog 38 #[gV Qn Ql, .agg #[.slice xa m xc, .int .i64 x]] w1 (RsPost T er w1)) :
    Calls Tryd.prog 8 #[.agg #[.slice xa m xc, .int .i64 x], .int .i64 n, .slice a t c] w fun e w' => e = .returned (.bool true) ∧ Below w.heap.size w w' := by
  obtain ⟨ht20, hz60⟩ := lg_z hlg
  obtain ⟨Qx, hQ⟩ : ∃ Q, w.heap.size = Q := ⟨_, rfl⟩
  have b1 := below_alloc w (.cells #[.slice xa m xc, .int .i64 x] 42)
  have r1 := heap_alloc_new w (.cells #[.slice xa m xc, .int .i64 x] 42)
  obtain ⟨W, hW⟩ : ∃ W, w.alloc (.cells #[.slice xa m xc, .int .i64 x] 42) = W := ⟨_, rfl⟩
  rw [hW] at b1 r1
  rw [hQ] at r1
  have LI := glight_any l a t c W hT (by omega) (fun i hi => by have := hz60 i hi; omega) (hs.below b1)
  rw [hlg] at LI
  replace LI := Lib.hid LI
  have HU := Lib.hid fun w' (hb : Below w.heap.size w w') => gawake_any w' (hU.below hb)
  have HL := Lib.hid hL
  have HT := Lib.hid hT
  have HS := Lib.hid hs
  have HLG := Lib.hid hlg
  have HX := Lib.hid hsx
  have HTE := Lib.hid hTE
  have HA := Lib.hid hAsk
  have X0 : Hid (LnG W Qx xa m xc x) := Lib.hid r1
  have M0 := Lib.hid b1
  have z0 := X0.out.cells.1
  have z1 := X0.out.cells.2
  have h60i : ¬ (60 : Int) < m := by omega
  have ht : t ≤ 20 := by omega
  have JN := Lib.hid fun (w' : World) (hb : Below w.heap.size w w') => joinS_ref (fun _ => True) L [] xa none xc 0 m 0 w' hL rfl (by omega) (by omega) (hsx.below hb) ⟨fun j hj => absurd hj (Nat.not_lt_zero j), Nat.le_refl _, fun _ => rfl, fun ad e => by cases e⟩
  clear hU hL hT hs hlg hsx hTE hAsk b1 r1 ht20 hz60
  go_enter Tryd.func8, Tryd.ntmps8
  go_upto_region 3 with (go_at_call 29; refine LI.out.mono ?_; rintro e w2 ⟨rfl, hb⟩; have M2 := Lib.hid (seqB M0.out hb); have X2 := Lib.hid (X0.out.below hb); have z02 := X2.out.cells.1; have z12 := X2.out.cells.2; clear hb LI z0 z1)
  have HQ := Lib.hid hQ
  clear hW hQ X0 M0
  go_cut [7] from 24 to 30 (fun s7 wx => ∃ (X : Nat) (b : Option Addr) (d : Nat), s7 = .pointer (some ⟨X, 0, none⟩) ∧ Hid (LnG wx X b m d x) ∧ Hid (OwS wx w.heap.size (.slice b m d) L) ∧ Hid (Below w.heap.size w wx) ∧ Hid (LnG wx Qx xa m xc x))
  case first =>
    have JN2 := Lib.hid (JN.out w2.drew M2.out.drew)
    have JN3 := Lib.hid fun o => JN.out (w2.alloc o).drew (seqB M2.out (below_alloc w2 o)).drew
    have hH2 : Hid (Qx < w2.drew.heap.size) := Lib.hid (blk_lt X2.out)
    have hH2o : Hid (∀ o, Qx < (w2.alloc o).drew.heap.size) := Lib.hid (fun o => Nat.lt_of_lt_of_le (blk_lt X2.out) (below_alloc w2 o).size)
    have neX : Hid (w2.heap.size ≠ Qx) := Lib.hid (by have := blk_lt X2.out; omega)
    clear JN
    go_region_held3 (fun w' => w'.cell? ⟨Qx, 0, none⟩ = some (.slice xa m xc) ∧ w'.cell? ⟨Qx, 1, none⟩ = some (.int .i64 x)) (first | exact ⟨z02, z12⟩ | exact ⟨z03, z13⟩ | exact ⟨(World.cell?_alloc_lt _ _ _ hH2.out).trans z02, (World.cell?_alloc_lt _ _ _ hH2.out).trans z12⟩ | exact ⟨(World.cell?_alloc_lt _ _ _ hH3.out).trans z03, (World.cell?_alloc_lt _ _ _ hH3.out).trans z13⟩ | exact ⟨(farL neX.out).trans z03, (farL neX.out).trans z13⟩ | go_keep)
      (first
        | (go_at_call 31; (with_reducible refine JN2.out.mono ?_); rintro e w3 ⟨b3, d3, rfl, ho, hb⟩; have Y3 := Lib.hid ho; have D3 := Lib.hid ((Below.refl w2.heap.size w2).drew.trans hb); have z03 := (hb.cell (p := ⟨Qx, 0, none⟩) hH2.out).trans z02; have z13 := (hb.cell (p := ⟨Qx, 1, none⟩) hH2.out).trans z12; have hH3 := Lib.hid (Nat.lt_of_lt_of_le hH2.out hb.size); have WAY1 := True.intro; clear ho hb)
        | (go_at_call 31; (with_reducible refine (JN3.out _).mono ?_); rintro e w3 ⟨b3, d3, rfl, ho, hb⟩; have Y3 := Lib.hid ho; have F3 := Lib.hid (blk_below (show (w2.alloc (.cells #[.slice none 0 0, .int .i64 0] 42)).drew.heap[w2.heap.size]? = _ from heap_alloc_new w2 (.cells #[.slice none 0 0, .int .i64 0] 42)) hb); have yf3 := fun i => frozen_of_row _ w2.heap.size i _ _ F3.out; have y03 := cell_of_row _ _ 0 _ _ _ F3.out; have y13 := cell_of_row _ _ 1 _ _ _ F3.out; dsimp at y03 y13; have D3 := Lib.hid (seqB (below_alloc w2 (.cells #[.slice none 0 0, .int .i64 0] 42)) ((Below.refl _ _).drew.trans hb)); have z03 := (hb.cell (p := ⟨Qx, 0, none⟩) (hH2o.out _)).trans ((World.cell?_alloc_lt _ _ _ hH2.out).trans z02); have z13 := (hb.cell (p := ⟨Qx, 1, none⟩) (hH2o.out _)).trans ((World.cell?_alloc_lt _ _ _ hH2.out).trans z12); have hH3 := Lib.hid (Nat.lt_of_lt_of_le (hH2o.out _) hb.size); clear ho hb))
    · go_wp2_with fail
      go_meet
      have ba := below_alloc w3 (.cells #[.slice b3 m d3, .int .i64 x] 42)
      have D4 := seqB D3.out ba
      have Y4 : OwS w3 w.heap.size (.slice b3 m d3) L := by have h := Y3.out; rw [List.append_nil] at h; exact h.mono (show w.heap.size ≤ w2.drew.heap.size from M2.out.size)
      exact ⟨w3.heap.size, b3, d3, rfl, Lib.hid (heap_alloc_new _ _), Lib.hid (ows_keep Y4 ba), Lib.hid (seqB M2.out D4), Lib.hid (X2.out.below D4)⟩
    · go_wp2_with fail
      go_meet
      have hM := seqB M2.out D3.out
      have hO : OwS w3 (w2.heap.size + 1) (.slice b3 m d3) L := by
        have h := Y3.out
        rw [List.append_nil] at h
        exact h.mono (by show _ ≤ (w2.alloc _).heap.size; simp)
      obtain ⟨f1, _, _, f4, f5⟩ := ln_fin (w := w) F3.out hO hM M2.out.size rfl
      have hX : LnG w3 Qx xa m xc x := X2.out.below D3.out
      refine ⟨w2.heap.size, b3, d3, rfl, Lib.hid f1, Lib.hid (f4.mono (by have := M2.out.size; omega)), Lib.hid f5, Lib.hid ?_⟩
      unfold LnG
      rw [Below.heap_setCell _ _ _ _ (Ne.symm neX.out), Below.heap_setCell _ _ _ _ (Ne.symm neX.out)]
      exact hX
  case rest =>
    obtain ⟨X5, b5, d5, rfl, P5, Y5, M5, E5⟩ := hcut
    clear z02 z12 M2 X2 JN
    go_upto_region 4 with fail
    have D0 : Hid (Below wc.heap.size wc wc.drew) := Lib.hid (Below.refl _ _).drew
    have MD := Lib.hid (made_any n l a t c wc.drew HT.out hc (HS.out.below (seqB M5.out D0.out)))
    have e0 := E5.out.cells
    go_region_held3 (fun w' => w'.cell? ⟨Qx, 0, none⟩ = some (.slice xa m xc) ∧ w'.cell? ⟨Qx, 1, none⟩ = some (.int .i64 x)) (first | exact e0 | exact e6 | exact e7 | go_keep)
      (first
        | (go_at_call 33; refine MD.out.mono ?_; rintro e w6 ⟨Qn, Ql, rfl, hm, hb⟩; have D6 : Below wc.heap.size wc w6 := D0.out.trans hb; have G6 := Lib.hid hm; have e6 := (E5.out.below D6).cells; have D6 := Lib.hid D6; clear hm hb MD)
        | (go_at_call 38; refine (HA.out Qn Ql _ (seqB M5.out D6.out) G6.out).mono ?_; rintro e w7 ⟨b7, k7, d7, rfl, hk7, hs7, hb⟩; have D7 : Below wc.heap.size wc w7 := D6.out.trans (hb.mono D6.out.size); have e7 := (E5.out.below D7).cells; have K7 := Lib.hid hk7; have S7 := Lib.hid (hs7.mono (Q := fun _ => True) (fun _ _ => trivial)); have D7 := Lib.hid D7; clear hk7 hs7 hb HA))
    all_goals
      have M7 := Lib.hid (seqB M5.out D7.out)
      have E7 := Lib.hid (E5.out.below D7.out)
      have P7 := Lib.hid (P5.out.below D7.out)
      have Y7 := Lib.hid (ows_keep Y5.out D7.out)
      have TD := Lib.hid (told_ref n l true a t c w7 HT.out hc (HS.out.below M7.out))
      clear e0 e6 e7 M5 E5 P5 Y5 D0 D6 G6
      go_upto_region 6 with (go_at_call 34; refine TD.out.mono ?_; rintro e w8 ⟨a8, m8, c8, rfl, hm8, hs8, hc8, hb⟩; have H8 := Lib.hid hm8; have S8 := Lib.hid hs8; have M8 := Lib.hid (seqB M7.out hb); have E8 := Lib.hid (E7.out.below hb); have P8 := Lib.hid (P7.out.below hb); have Y8 := Lib.hid (ows_keep Y7.out hb); have R8 := Lib.hid (S7.out.below hb); clear hm8 hs8 hc8 hb TD S7)
      have e8 := E8.out.cells
      obtain ⟨e80, e81⟩ := e8
      have MY := r17_may L xa m xc x w8 HL.out (by omega) (HX.out.below M8.out).s
      rw [show (decide (0 ≤ x) && decide (x ≤ m) && sgC L) = mayL L x by rw [mayL, HL.out, Bool.and_assoc]] at MY
      have MY := Lib.hid MY
      have hTz : T.length ≤ 20 ∧ ∀ i, i < T.length → (T.getD i ⟨#[]⟩).size ≤ 60 := by
        rcases HTE.out with ⟨_, rfl, _⟩ | ⟨_, rfl, _⟩
        · exact tdT_z HLG.out
        · exact ⟨by simp, fun i hi => absurd hi (Nat.not_lt_zero i)⟩
      have HTZ := Lib.hid hTz
      have hk20 : k7 ≤ 20 := by have := K7.out; have := hTz.1; omega
      have SG : Hid (∀ (a' : Option Addr) (c' : Nat) (w' : World), StrsIn w' a' T → Calls Tryd.prog 37 #[.slice a' k7 c'] w' fun e w1 => ∃ b d, e = .returned (.slice b k7 d) ∧ SgsK (fun k => w'.heap.size ≤ k ∧ k < w1.heap.size) w1 b (tL T) ∧ Below w'.heap.size w' w1) := Lib.hid fun a' c' w' h => rsigns_ref T a' k7 c' w' K7.out (by omega) (fun i hi => by have := HTZ.out.2 i hi; omega) h
      have LS : Hid (∀ (a' b' : Option Addr) (c' d' : Nat) (S1 S2 : Nat → Prop) (w' : World), SgsK S1 w' a' (tL T) → SgsK S2 w' b' (tL T) → Calls Tryd.prog 36 #[.slice a' k7 c', .slice b' k7 d'] w' fun e w1 => e = .returned (.bool true) ∧ Below w'.heap.size w' w1) := Lib.hid fun a' b' c' d' S1 S2 w' h1 h2 => rk_lists S1 S2 (tL T) a' b' k7 c' d' w' (by rw [tL_len, K7.out]) (by omega) (tL_z HTZ.out.2) h1 h2
      have SM : Hid (∀ (b' : Option Addr) (d' : Nat) (w' : World), Signs w' xa L → Signs w' b' L → Calls Tryd.prog 22 #[.agg #[.slice xa m xc, .int .i64 x], .agg #[.slice b' m d', .int .i64 x]] w' fun e w1 => e = .returned (.bool true) ∧ Below w'.heap.size w' w1) := Lib.hid fun b' d' w' h1 h2 => r16_same L L xa b' m m xc d' x x w' HL.out HL.out (by omega) (by omega) h1 h2 rfl rfl
      clear hTz
      rcases HTE.out with ⟨hok, hT1, hE1⟩ | ⟨hok, hT1, hE1⟩
      · rw [hok] at MY
        have hm8 : m8 = k7 := by have h1 := H8.out; have h2 := K7.out; rw [hT1] at h2; omega
        subst hm8
        have S8' : Hid (StrsIn w8 a8 T) := Lib.hid (by rw [hT1]; exact S8.out)
        rw [← hE1]
        clear hT1 hE1 S8 H8 HTE hok
        go_upto_region 9 with (go_at_call 35; refine MY.out.mono ?_; rintro e w9 ⟨rfl, hb⟩; have M9 := Lib.hid (seqB M8.out hb); have E9 := Lib.hid (E8.out.below hb); have P9 := Lib.hid (P8.out.below hb); have Y9 := Lib.hid (ows_keep Y8.out hb); have R9 := Lib.hid (R8.out.below hb); have S9 := Lib.hid (S8'.out.below hb); clear hb MY e80 e81 S8')
        have e9 := E9.out.cells
        obtain ⟨e90, e91⟩ := e9
        have LN := Lib.hid (list_call (x := x) (m := m) (xc := xc) (xa := xa) (w := w9) .nilIface [] 1 (fun w1 hb => ask_list_nil .nilIface))
        go_upto_region 10 with (go_at_call 38; refine LN.out.mono ?_; rintro e wN ⟨bN, mN, dN, rfl, _, _, hb⟩; have MN := Lib.hid (seqB M9.out hb); have EN := Lib.hid (E9.out.below hb); have PN := Lib.hid (P9.out.below hb); have YN := Lib.hid (ows_keep Y9.out hb); have RN := Lib.hid (R9.out.below hb); have SN := Lib.hid (S9.out.below hb); clear hb LN e90 e91 M9 E9 P9 Y9 R9 S9)
        go_wp2_with (first
          | (go_at_call 30; refine (HU.out _ MN.out).mono ?_; rintro e wA ⟨rfl, hb⟩; have MA := Lib.hid (seqB MN.out hb); have EA := Lib.hid (EN.out.below hb); have PA := Lib.hid (PN.out.below hb); have YA := Lib.hid (ows_keep YN.out hb); have RA := Lib.hid (RN.out.below hb); have SA := Lib.hid (SN.out.below hb); clear hb HU MN EN PN YN RN SN)
          | (go_at_call 37; refine (SG.out _ _ _ SA.out).mono ?_; rintro e wB ⟨bB, dB, rfl, hs, hb⟩; have MB := Lib.hid (seqB MA.out hb); have EB := Lib.hid (EA.out.below hb); have PB := Lib.hid (PA.out.below hb); have YB := Lib.hid (ows_keep YA.out hb); have RB := Lib.hid (RA.out.below hb); have TB := Lib.hid (hs.mono (Q := fun _ => True) (fun _ _ => trivial)); clear hs hb SG MA EA PA YA RA SA)
          | (go_at_call 36; refine (LS.out _ _ _ _ _ _ _ RB.out TB.out).mono ?_; rintro e wC ⟨rfl, hb⟩; have MC := Lib.hid (seqB MB.out hb); have eC := (EB.out.below hb).cells; have pC := (PB.out.below hb).cells; obtain ⟨eC0, eC1⟩ := eC; obtain ⟨pC0, pC1⟩ := pC; have YC := Lib.hid (ows_keep YB.out hb); clear hb LS MB EB PB YB RB TB)
          | (go_at_call 22; refine (SM.out _ _ _ (HX.out.below MC.out).s (ows_slS YC.out).s).mono ?_; rintro e wD ⟨rfl, hb⟩; have MD := Lib.hid (seqB MC.out hb); clear hb SM))
        go_ret
        exact ⟨rfl, MD.out⟩
      · rw [hok] at MY
        subst hT1
        subst hE1
        obtain rfl : k7 = 0 := by simpa using K7.out.symm
        have S8' : Hid (StrsIn w8 none ([] : List ByteArray)) := Lib.hid (strs_nil _ _)
        clear S8 H8 HTE hok
        go_upto_region 9 with (go_at_call 35; refine MY.out.mono ?_; rintro e w9 ⟨rfl, hb⟩; have M9 := Lib.hid (seqB M8.out hb); have E9 := Lib.hid (E8.out.below hb); have P9 := Lib.hid (P8.out.below hb); have Y9 := Lib.hid (ows_keep Y8.out hb); have R9 := Lib.hid (R8.out.below hb); have S9 := Lib.hid (S8'.out.below hb); clear hb MY e80 e81 S8')
        have e9 := E9.out.cells
        obtain ⟨e90, e91⟩ := e9
        have LN := Lib.hid (list_call (x := x) (m := m) (xc := xc) (xa := xa) (w := w9) .nilIface [] 1 (fun w1 hb => ask_list_nil .nilIface))
        go_upto_region 10 with (go_at_call 38; refine LN.out.mono ?_; rintro e wN ⟨bN, mN, dN, rfl, _, _, hb⟩; have MN := Lib.hid (seqB M9.out hb); have EN := Lib.hid (E9.out.below hb); have PN := Lib.hid (P9.out.below hb); have YN := Lib.hid (ows_keep Y9.out hb); have RN := Lib.hid (R9.out.below hb); have SN := Lib.hid (S9.out.below hb); clear hb LN e90 e91 M9 E9 P9 Y9 R9 S9)
        go_wp2_with (first
          | (go_at_call 30; refine (HU.out _ MN.out).mono ?_; rintro e wA ⟨rfl, hb⟩; have MA := Lib.hid (seqB MN.out hb); have EA := Lib.hid (EN.out.below hb); have PA := Lib.hid (PN.out.below hb); have YA := Lib.hid (ows_keep YN.out hb); have RA := Lib.hid (RN.out.below hb); have SA := Lib.hid (SN.out.below hb); clear hb HU MN EN PN YN RN SN)
          | (go_at_call 37; refine (SG.out _ _ _ SA.out).mono ?_; rintro e wB ⟨bB, dB, rfl, hs, hb⟩; have MB := Lib.hid (seqB MA.out hb); have EB := Lib.hid (EA.out.below hb); have PB := Lib.hid (PA.out.below hb); have YB := Lib.hid (ows_keep YA.out hb); have RB := Lib.hid (RA.out.below hb); have TB := Lib.hid (hs.mono (Q := fun _ => True) (fun _ _ => trivial)); clear hs hb SG MA EA PA YA RA SA)
          | (go_at_call 36; refine (LS.out _ _ _ _ _ _ _ RB.out TB.out).mono ?_; rintro e wC ⟨rfl, hb⟩; have MC := Lib.hid (seqB MB.out hb); have eC := (EB.out.below hb).cells; have pC := (PB.out.below hb).cells; obtain ⟨eC0, eC1⟩ := eC; obtain ⟨pC0, pC1⟩ := pC; have YC := Lib.hid (ows_keep YB.out hb); clear hb LS MB EB PB YB RB TB)
          | (go_at_call 22; refine (SM.out _ _ _ (HX.out.below MC.out).s (ows_slS YC.out).s).mono ?_; rintro e wD ⟨rfl, hb⟩; have MD := Lib.hid (seqB MC.out hb); clear hb SM))
        go_ret
        exact ⟨rfl, MD.out⟩
/-- Of any line, number and texts. -/
theorem guestlist_any (hU : UT w) (hL : L.length = m) (hm : m ≤ 9223372036854775807) (hT : l.length = t) (ht : t ≤ 9223372036854775807) (hz : ∀ i, i < l.length → (l.getD i ⟨#[]⟩).size ≤ 9223372036854775807) (hc : t ≤ c) (hs : StrsIn w a l) (hsx : SlS (fun _ => True) w xa L xc) :
    Calls Tryd.prog 8 #[.agg #[.slice xa m xc, .int .i64 x], .int .i64 n, .slice a t c] w fun e w' => e = .returned (.bool true) ∧ Below w.heap.size w w' := by
  by_cases h60 : 60 < m
  · exact guestlist_far hU h60 hm _ _
  by_cases hlg : lgT l = true
  · obtain ⟨h20, hz2⟩ := lg_z hlg
    by_cases hok : mayL L x = true
    · exact guestlist_yes (tdT n l true) (tdE n true) hU h60 hL hT hc hs hlg hsx (Or.inl ⟨hok, rfl, rfl⟩) (fun Qn Ql w1 hb hM => list_call _ _ _ fun w2 hb2 => ask_list (hU.below (seqB hb hb2)) (fun i hi => by have := hz2 i hi; omega) (hM.below hb2) hL (by omega) (by omega) (hsx.below (seqB hb hb2)) hok)
    · exact guestlist_yes [] 2 hU h60 hL hT hc hs hlg hsx (Or.inr ⟨by simpa using hok, rfl, rfl⟩) (fun Qn Ql w1 hb hM => list_call _ _ _ fun w2 hb2 => ask_list_bad hL (by omega) (hsx.below (seqB hb hb2)) (by simpa using hok))
  · exact guestlist_dark hU h60 hT ht hz hs (by simpa using hlg) _
end
end Go.Proofs.YtdifkjmpdmlobaaDoor
