/-
  Joined: Ln6 Ln12 Of1 Ud12 Ud13 Ud24 Ud14 Ud15 Ud16 Ud17 Ud18.
-/
import Derived.Test.YtjgffedcbdnddaaDoorJU03
import Derived.Test.YtjgffedcbdnddaaDoorJU04
import Derived.Test.YtjgffedcbdnddaaDoorJU05
import Derived.Test.YtjgffedcbdnddaaDoorJU06
import Derived.Test.YtjgffedcbdnddaaDoorJU09
import Derived.Deep.RegionHeld3
import Derived.Laws.AppendOwnNone
import Derived.BigQuiet
set_option linter.unusedVariables false
set_option linter.unusedSimpArgs false
set_option maxRecDepth 100000
set_option linter.unusedVariables false
set_option linter.unusedSimpArgs false
namespace Go.Proofs.YtjgffedcbdnddaaDoor
open Go.RowKit Go.Sort
theorem r17_may (L : List (Int × Int)) (a : Option Addr) (n c : Nat) (x : Int) (w : World) (hn : L.length = n) (hl : n ≤ 1000000) (hs : Signs w a L) :
    Calls Tryd.prog 16 #[.agg #[.slice a n c, .int .i64 x]] w fun e w' => e = .returned (.bool (decide (0 ≤ x) && decide (x ≤ n) && sgC L)) ∧ Below w.heap.size w w' := by
  have B0 := below_alloc w (.cells #[.slice a n c, .int .i64 x] 30)
  have AL := sgall_ref L a c (w.alloc (.cells #[.slice a n c, .int .i64 x] 30)) (by omega) (hs.below B0)
  rw [hn] at AL
  replace AL := Lib.hid AL
  clear hs
  by_cases h1 : 0 ≤ x
  · by_cases h2 : x ≤ n
    · rw [decide_eq_true h1, decide_eq_true h2]
      go_enter Tryd.func16, Tryd.ntmps16
      go_wp2_with (go_at_call 31; refine AL.out.mono ?_; rintro e w1 ⟨rfl, b1⟩)
      go_ret
      exact ⟨by simp, seqB B0 b1⟩
    · rw [decide_eq_false h2]
      go_enter Tryd.func16, Tryd.ntmps16
      go_wp2_with fail
      go_ret
      exact ⟨by simp, B0⟩
  · rw [decide_eq_false h1]
    go_enter Tryd.func16, Tryd.ntmps16
    go_wp2_with fail
    go_ret
    exact ⟨by simp, B0⟩
theorem r16_same (L M : List (Int × Int)) (a b : Option Addr) (n m c d : Nat) (x y : Int) (w : World) (hn : L.length = n) (hm : M.length = m) (hl : n ≤ 1000000) (hl2 : m ≤ 1000000) (hs : Signs w a L) (ht : Signs w b M) (hx : x = y) (hL : L = M) :
    Calls Tryd.prog 9 #[.agg #[.slice a n c, .int .i64 x], .agg #[.slice b m d, .int .i64 y]] w fun e w' => e = .returned (.bool true) ∧ Below w.heap.size w w' := by
  subst hx
  have B0 := seqB (below_alloc w (.cells #[.slice a n c, .int .i64 x] 30)) (below_alloc _ (.cells #[.slice b m d, .int .i64 x] 30))
  have SM := sgsame_ref L M a b c d ((w.alloc (.cells #[.slice a n c, .int .i64 x] 30)).alloc (.cells #[.slice b m d, .int .i64 x] 30)) (by omega) (by omega) (hs.below B0) (ht.below B0)
  rw [hn, hm, decide_eq_true hL] at SM
  replace SM := Lib.hid SM
  clear hs ht hL
  go_enter Tryd.func9, Tryd.ntmps9
  go_wp2_with (go_at_call 20; refine SM.out.mono ?_; rintro e w1 ⟨rfl, b1⟩)
  go_ret
  exact ⟨rfl, seqB B0 b1⟩
end Go.Proofs.YtjgffedcbdnddaaDoor
set_option linter.unusedVariables false
set_option linter.unusedSimpArgs false
namespace Go.Proofs.YtjgffedcbdnddaaDoor
open Go.RowKit Go.Sort
def lnA : List (Int × Int) := [(97, 0), (98, 0), (32, 0), (99, 0), (100, 0)]
theorem lnA_facts : sOf 0 ⟨#[97, 98, 32, 99, 100]⟩ = lnA ∧ (valsS ⟨#[97, 98, 32, 99, 100]⟩).length = 5 ∧ sOf 0 ⟨#[97, 98]⟩ = [(97, 0), (98, 0)] ∧ (valsS ⟨#[97, 98]⟩).length = 2 ∧ sgC lnA = true := by decide +kernel
theorem lnA_wds : nextM lnA ((2 : Nat) : Int) = ((5 : Nat) : Int) ∧ backM lnA ((5 : Nat) : Int) = ((3 : Nat) : Int) ∧ nextM lnA ((3 : Nat) : Int) = ((5 : Nat) : Int) ∧ backM lnA ((3 : Nat) : Int) = ((0 : Nat) : Int) ∧ nextM lnA ((0 : Nat) : Int) = ((2 : Nat) : Int) ∧ (kAt lnA false ((0 : Nat) : Int) == 1) = true ∧ (kAt lnA false ((3 : Nat) : Int) == 1) = true := by decide +kernel
theorem lnA_txt : sTxt (swpM lnA 0 2 3 5) = ⟨#[99, 100, 32, 97, 98]⟩ ∧ sTxt (lnA.take 1 ++ lnA.drop 3) = ⟨#[97, 99, 100]⟩ ∧ sTxt ((lnA.drop 1).take (3 - 1)) = ⟨#[98, 32]⟩ ∧ sTxt (csL lnA 2 2 5) = ⟨#[97, 98, 32, 67, 100]⟩ ∧ sTxt (lnA.take 2 ++ (lnA.drop 1).take (3 - 1) ++ lnA.drop 2) = ⟨#[97, 98, 98, 32, 32, 99, 100]⟩ ∧ sTxt (lnA.take 0 ++ (lnA.drop 1).take (3 - 1) ++ lnA.drop 2) = ⟨#[98, 32, 32, 99, 100]⟩ := by decide +kernel
theorem lnA_bt : btF 5 1 3 = 1 ∧ btT 5 1 3 = 3 ∧ btF 5 ((2 : Nat) : Int) 5 = 2 ∧ btT 5 ((2 : Nat) : Int) 5 = 5 ∧ btF 5 0 2 = 0 ∧ btT 5 0 2 = 2 ∧ cutAt 1 3 2 = 1 := by decide +kernel
theorem lw_right (L : List (Int × Int)) (a : Option Addr) (n c p : Nat) (w : World) (hn : L.length = n) (hl : n ≤ 90000) (hp : p ≤ n) (hok : sgC L = true) (hs : Signs w a L) :
    Calls Tryd.prog 23 #[.agg #[.slice a n c, .int .i64 (p : Int)]] w fun e w' => e = .returned (.bool true) ∧ Below w.heap.size w w' := by
  have B0 := below_alloc w (.cells #[.slice a n c, .int .i64 (p : Int)] 30)
  have CK := scheck_any L a c (w.alloc (.cells #[.slice a n c, .int .i64 (p : Int)] 30)) (by omega) (hs.below B0)
  rw [hn, sgE_yes hok] at CK
  replace CK := Lib.hid CK
  have h1 : (0 : Int) ≤ p := by omega
  have h2 : (p : Int) ≤ n := by omega
  clear hs
  go_enter Tryd.func23, Tryd.ntmps23
  go_wp2_with (go_at_call 33; refine CK.out.mono ?_; rintro e w1 ⟨rfl, b1⟩)
  go_ret
  exact ⟨rfl, seqB B0 b1⟩
theorem text_n (L : List (Int × Int)) (a : Option Addr) (n c : Nat) (s : ByteArray) (w : World) (hn : L.length = n) (hl : n ≤ 90000) (ht : sTxt L = s) (hs : Signs w a L) :
    Calls Tryd.prog 15 #[.slice a n c] w fun e w' => e = .returned (.string s) ∧ Below w.heap.size w w' := by
  subst hn; subst ht; exact stext_any L a c w (by omega) hs
theorem ows_sg {w : World} {B n d : Nat} {b : Option Addr} {L : List (Int × Int)} (h : OwS w B (.slice b n d) L) : Signs w b L := by
  obtain ⟨a, c, e, hs⟩ := h.sl
  injection e with e1 e2 e3
  subst e1
  exact hs.s
theorem ows_slA {w : World} {B n d : Nat} {b : Option Addr} {L : List (Int × Int)} (h : OwS w B (.slice b n d) L) : SlS (fun _ => True) w b L d := by
  obtain ⟨a, c, e, hs⟩ := h.sl
  injection e with e1 e2 e3
  subst e1; subst e3
  exact hs.mono (fun _ _ => trivial)
/-- A slice of signs that a call made. -/
def SgA (w : World) (b : Option Addr) (d : Nat) (L : List (Int × Int)) : Prop := SlS (fun _ => True) w b L d
theorem lna_of (w : World) (hT : UT w) : Calls Tryd.prog 14 #[.int .i64 0, .string ⟨#[97, 98, 32, 99, 100]⟩] w fun e w' => ∃ b, e = .returned (.slice b 5 5) ∧ SgA w' b 5 lnA ∧ Below w.heap.size w w' := by
  have h := sof_any 0 ⟨#[97, 98, 32, 99, 100]⟩ w hT (by decide) (by rw [lnA_facts.2.1]; omega)
  rw [lnA_facts.1] at h
  refine h.mono ?_
  rintro e w' ⟨g, rfl, hg, hb, hB⟩
  exact ⟨_, rfl, ⟨signs_of_blk hb, Nat.le_refl _, fun e => (by cases e), fun _ _ _ => trivial⟩, hB⟩
theorem lnb_of (w : World) (hT : UT w) : Calls Tryd.prog 14 #[.int .i64 0, .string ⟨#[97, 98]⟩] w fun e w' => ∃ b, e = .returned (.slice b 2 2) ∧ SgA w' b 2 [(97, 0), (98, 0)] ∧ Below w.heap.size w w' := by
  have h := sof_any 0 ⟨#[97, 98]⟩ w hT (by decide) (by rw [lnA_facts.2.2.2.1]; omega)
  rw [lnA_facts.2.2.1] at h
  refine h.mono ?_
  rintro e w' ⟨g, rfl, hg, hb, hB⟩
  exact ⟨_, rfl, ⟨signs_of_blk hb, Nat.le_refl _, fun e => (by cases e), fun _ _ _ => trivial⟩, hB⟩
end Go.Proofs.YtjgffedcbdnddaaDoor
set_option linter.unusedVariables false
set_option linter.unusedSimpArgs false
namespace Go.Proofs.YtjgffedcbdnddaaDoor
open Go.RowKit
def mayL (L : List (Int × Int)) (x : Int) : Bool := decide (0 ≤ x) && (decide (x ≤ L.length) && sgC L)
theorem mayL_out {L : List (Int × Int)} {x : Int} (h : mayL L x = true) : 0 ≤ x ∧ x ≤ L.length ∧ sgC L = true := by
  simp only [mayL, Bool.and_eq_true, decide_eq_true_eq] at h; exact h
theorem lw_rt (L : List (Int × Int)) (a : Option Addr) (n c : Nat) (x : Int) (w : World) (hn : L.length = n) (hl : n ≤ 90000) (hs : Signs w a L) :
    Calls Tryd.prog 23 #[.agg #[.slice a n c, .int .i64 x]] w fun e w' => e = .returned (.bool (mayL L x)) ∧ Below w.heap.size w w' := by
  have B0 := below_alloc w (.cells #[.slice a n c, .int .i64 x] 30)
  have CK := scheck_any L a c (w.alloc (.cells #[.slice a n c, .int .i64 x] 30)) (by omega) (hs.below B0)
  rw [hn] at CK
  clear hs
  have hmy : Hid (mayL L x = (decide (0 ≤ x) && (decide (x ≤ n) && sgC L))) := Lib.hid (by rw [mayL, hn])
  clear hn
  cases hc : sgC L with
  | true =>
    rw [hc] at hmy
    rw [sgE_yes hc] at CK
    replace CK := Lib.hid CK
    clear hc
    by_cases h1 : 0 ≤ x
    · by_cases h2 : x ≤ n
      · rw [decide_eq_true h1, decide_eq_true h2] at hmy
        go_enter Tryd.func23, Tryd.ntmps23
        go_wp2_with (go_at_call 33; refine CK.out.mono ?_; rintro e w1 ⟨rfl, b1⟩)
        go_ret
        exact ⟨by rw [hmy.out] <;> rfl, seqB B0 b1⟩
      · rw [decide_eq_true h1, decide_eq_false h2] at hmy
        go_enter Tryd.func23, Tryd.ntmps23
        go_wp2_with fail
        go_ret
        exact ⟨by rw [hmy.out] <;> rfl, B0⟩
    · rw [decide_eq_false h1] at hmy
      go_enter Tryd.func23, Tryd.ntmps23
      go_wp2_with fail
      go_ret
      exact ⟨by rw [hmy.out] <;> rfl, B0⟩
  | false =>
    rw [hc] at hmy
    rw [sgE_no hc] at CK
    replace CK := Lib.hid CK
    have hm2 : Hid (mayL L x = false) := Lib.hid (by rw [hmy.out]; simp)
    clear hc hmy
    by_cases h1 : 0 ≤ x
    · by_cases h2 : x ≤ n
      · go_enter Tryd.func23, Tryd.ntmps23
        go_wp2_with (go_at_call 33; refine CK.out.mono ?_; rintro e w1 ⟨rfl, b1⟩)
        go_ret
        exact ⟨by rw [hm2.out] <;> rfl, seqB B0 b1⟩
      · go_enter Tryd.func23, Tryd.ntmps23
        go_wp2_with fail
        go_ret
        exact ⟨by rw [hm2.out] <;> rfl, B0⟩
    · go_enter Tryd.func23, Tryd.ntmps23
      go_wp2_with fail
      go_ret
      exact ⟨by rw [hm2.out] <;> rfl, B0⟩
/-- Where the word that ends at a place begins. -/
def wdB (L : List (Int × Int)) : Nat → Nat
  | 0 => 0
  | k + 1 => if knd (L.getD k (0, 0)).1 = 0 then k + 1 else wdB L k
theorem wdB_le (L : List (Int × Int)) : ∀ k, wdB L k ≤ k
  | 0 => Nat.le_refl _
  | k + 1 => by
    have := wdB_le L k
    unfold wdB
    split <;> omega
end Go.Proofs.YtjgffedcbdnddaaDoor
set_option linter.unusedVariables false
set_option linter.unusedSimpArgs false
namespace Go.Proofs.YtjgffedcbdnddaaDoor
open Go.RowKit
/-- Where the signs of a trail's steps lie. -/
def FrS (B P : Nat) (vs rw rt : Value) (w : World) (k : Nat) : Prop := B ≤ k ∧ k < w.heap.size ∧ k ≠ P ∧ vs.ownBlock ≠ some k ∧ rw.ownBlock ≠ some k ∧ rt.ownBlock ≠ some k
/-- A trail in block P. -/
structure TrS (Fo : Nat → Obj → Prop) (B P : Nat) (most : Int) (x : ULn) (W T : List StR) (vs rw rt : Value) (w : World) : Prop where
  blk : w.heap[P]? = some (.cells #[.int .i64 most, vs, .int .i64 x.2, rw, rt] 49 (0, 0))
  now : RmS w B vs x.1
  were : OwT w B rw W
  taken : OwT w B rt T
  ap : ∀ k, rw.ownBlock = some k → rt.ownBlock ≠ some k
  stW : ∀ q ∈ W, StIn (FrS B P vs rw rt w) w q
  stT : ∀ q ∈ T, StIn (FrS B P vs rw rt w) w q
  le : B ≤ P
  fo : ∀ k o, Fo k o → FrS B P vs rw rt w k ∧ w.heap[k]? = some o
theorem TrS.other {Fo Fo' : Nat → Obj → Prop} {B P : Nat} {most : Int} {x : ULn} {W T : List StR} {vs rw rt : Value} {w : World} (h : TrS Fo B P most x W T vs rw rt w) (hf : ∀ k o, Fo' k o → FrS B P vs rw rt w k ∧ w.heap[k]? = some o) : TrS Fo' B P most x W T vs rw rt w := ⟨h.blk, h.now, h.were, h.taken, h.ap, h.stW, h.stT, h.le, hf⟩
theorem FrS.up {B P : Nat} {vs rw rt : Value} {w w' : World} (hs : w.heap.size ≤ w'.heap.size) (k : Nat) (h : FrS B P vs rw rt w k) : FrS B P vs rw rt w' k := ⟨h.1, Nat.lt_of_lt_of_le h.2.1 hs, h.2.2⟩
section
variable {Fo : Nat → Obj → Prop} {B P : Nat} {most : Int} {x : ULn} {W T : List StR} {vs rw rt : Value} {w w' : World}
theorem TrS.below (h : TrS Fo B P most x W T vs rw rt w) (hb : Below w.heap.size w w') : TrS Fo B P most x W T vs rw rt w' :=
  ⟨blk_below h.blk hb, h.now.below hb, h.were.below hb, h.taken.below hb, h.ap, fun q hq => ((h.stW q hq).keep hb.size (fun k hk => hb.block k hk.2.1)).mono (FrS.up hb.size), fun q hq => ((h.stT q hq).keep hb.size (fun k hk => hb.block k hk.2.1)).mono (FrS.up hb.size), h.le, fun k o hk => ⟨FrS.up hb.size k (h.fo k o hk).1, (hb.block k (h.fo k o hk).1.2.1).trans (h.fo k o hk).2⟩⟩
theorem TrS.lt (h : TrS Fo B P most x W T vs rw rt w) : B ≤ P ∧ P < w.heap.size := ⟨h.le, blk_lt h.blk⟩
/-- The trail the other way round: what was taken back, and what was. -/
theorem TrS.ap' (h : TrS Fo B P most x W T vs rw rt w) : ∀ k, rt.ownBlock = some k → rw.ownBlock ≠ some k := fun k hk hk' => h.ap k hk' hk
end
theorem udoer_any (P : Nat) (w : World) : Calls Tryd.prog 25 #[.pointer (some ⟨P, 1, none⟩)] w fun e w' => e = .returned (.func (.func 36) #[] #[.pointer (some ⟨w.heap.size, 0, none⟩)]) ∧ w.alloc (.cells #[.pointer (some ⟨P, 1, none⟩)] 61) = w' := by
  have hmf : ∀ (fn : Fn) (first cap : Array Value) (w : World), (Instr.makeFunc fn first cap).run Tryd.prog w = .ok (.func fn first cap) w := fun _ _ _ _ => rfl
  go_enter Tryd.func25, Tryd.ntmps25
  go_wp2
  go_ret
  exact ⟨rfl, rfl⟩
theorem unew_bad (M : Int) (w : World) (h : M < 1 ∨ 1000 < M) : Calls Tryd.prog 6 #[.int .i64 M] w fun e w' => e = .returned (.tuple #[.pointer none, .int .i64 3]) ∧ w = w' := by
  by_cases k1 : M < 1
  · clear h
    go_enter Tryd.func6, Tryd.ntmps6
    go_wp2
    refine bodyPost_ret (results_tmp2 rfl _ _ _) rfl ?_
    exact ⟨rfl, rfl⟩
  · have k2 : 1000 < M := by omega
    clear h
    go_enter Tryd.func6, Tryd.ntmps6
    go_wp2
    refine bodyPost_ret (results_tmp2 rfl _ _ _) rfl ?_
    exact ⟨rfl, rfl⟩
theorem unew_any (M : Int) (w : World) (h1 : 1 ≤ M) (h2 : M ≤ 1000) : Calls Tryd.prog 6 #[.int .i64 M] w fun e w' => ∃ P, e = .returned (.tuple #[.pointer (some ⟨P, 0, none⟩), .int .i64 0]) ∧ TrS (fun _ _ => False) w.heap.size P M ([], 0) [] [] (.slice none 0 0) (.slice none 0 0) (.slice none 0 0) w' ∧ Below w.heap.size w w' := by
  have hb := below_alloc w (.cells #[.int .i64 M, .slice none 0 0, .int .i64 0, .slice none 0 0, .slice none 0 0] 49)
  have hr := heap_alloc_new w (.cells #[.int .i64 M, .slice none 0 0, .int .i64 0, .slice none 0 0, .slice none 0 0] 49)
  have HF : Hid (TrS (fun _ _ => False) w.heap.size w.heap.size M ([], 0) [] [] (.slice none 0 0) (.slice none 0 0) (.slice none 0 0) (w.alloc (.cells #[.int .i64 M, .slice none 0 0, .int .i64 0, .slice none 0 0, .slice none 0 0] 49))) := Lib.hid ⟨hr, rms_nil _ _, owt_nil _ _, owt_nil _ _, (fun k hk => by cases hk), (fun q hq => by cases hq), (fun q hq => by cases hq), Nat.le_refl _, fun k o hk => hk.elim⟩
  have HB := Lib.hid hb
  have k1 : ¬ M < 1 := by omega
  have k2 : ¬ 1000 < M := by omega
  clear hb hr
  go_enter Tryd.func6, Tryd.ntmps6
  go_wp2
  refine bodyPost_ret (results_tmp2 rfl _ _ _) rfl ?_
  exact ⟨_, rfl, HF.out, HB.out⟩
theorem usteps_nil (w : World) : Calls Tryd.prog 8 #[.pointer none] w fun e w' => e = .returned (.tuple #[.int .i64 0, .int .i64 0]) ∧ w = w' := by
  go_enter Tryd.func8, Tryd.ntmps8
  go_wp2
  refine bodyPost_ret (results_tmp2 rfl _ _ _) rfl ?_
  exact ⟨rfl, rfl⟩
theorem uback_nil (w : World) : Calls Tryd.prog 11 #[.pointer none] w fun e w' => e = .returned (.bool false) ∧ w = w' := by
  go_enter Tryd.func11, Tryd.ntmps11
  go_wp2
  go_ret
  exact ⟨rfl, rfl⟩
theorem uforth_nil (w : World) : Calls Tryd.prog 12 #[.pointer none] w fun e w' => e = .returned (.bool false) ∧ w = w' := by
  go_enter Tryd.func12, Tryd.ntmps12
  go_wp2
  go_ret
  exact ⟨rfl, rfl⟩
theorem usteps_any {Fo : Nat → Obj → Prop} {B P : Nat} {most : Int} {x : ULn} {W T : List StR} {vs rw rt : Value} {w : World} {m n : Nat} (h : TrS Fo B P most x W T vs rw rt w) (hm : W.length = m) (hn : T.length = n) :
    Calls Tryd.prog 8 #[.pointer (some ⟨P, 0, none⟩)] w fun e w' => e = .returned (.tuple #[.int .i64 m, .int .i64 n]) ∧ Below w.heap.size w w' := by
  obtain ⟨a, c, rfl⟩ := h.were.form hm
  obtain ⟨b, d, rfl⟩ := h.taken.form hn
  have y3 := cell_of_row _ _ 3 _ _ _ h.blk
  have y4 := cell_of_row _ _ 4 _ _ _ h.blk
  dsimp at y3 y4
  clear h hm hn
  go_enter Tryd.func8, Tryd.ntmps8
  go_wp2_with fail
  go_quiet (fail)
  go_wp2
  refine bodyPost_ret (results_tmp2 rfl _ _ _) rfl ?_
  exact ⟨rfl, (Below.refl _ w).trans ⟨rfl, rfl, rfl, Nat.le_refl _, fun _ _ => rfl⟩⟩
set_option maxHeartbeats 2000000 in
theorem unow_nil (w : World) : Calls Tryd.prog 10 #[.pointer none] w fun e w' => e = .returned (.agg #[.slice none 0 0, .int .i64 0]) ∧ Below w.heap.size w w' := by
  have b0 := below_alloc w (.cells #[.slice none 0 0, .int .i64 0] 30)
  have r0 := heap_alloc_new w (.cells #[.slice none 0 0, .int .i64 0] 30)
  obtain ⟨R, hR⟩ : ∃ R, w.heap.size = R := ⟨_, rfl⟩
  obtain ⟨W, hW⟩ : ∃ W, w.alloc (.cells #[.slice none 0 0, .int .i64 0] 30) = W := ⟨_, rfl⟩
  rw [hW] at b0 r0
  rw [hR] at r0
  have y0 := cell_of_row _ _ 0 _ _ _ r0
  have y1 := cell_of_row _ _ 1 _ _ _ r0
  have yf := fun i => frozen_of_row _ R i _ _ r0
  dsimp at y0 y1
  have HB := Lib.hid b0
  have HR := Lib.hid hR
  have R0 := Lib.hid r0
  clear b0 r0
  go_enter Tryd.func10, Tryd.ntmps10
  go_wp2_with fail
  generalize hWF : World.setCell _ _ _ = WF
  obtain ⟨_, g0, g1, _, gB⟩ := ln_fin (B := 0) R0.out (show OwS W 0 (.slice none 0 0) [] from World.ownsRow_nil _ _ _ _) HB.out (by have := HR.out; omega) hWF
  refine bodyPost_ret (v := .agg #[.slice none 0 0, .int .i64 0]) (by simp [results, Tryd.results10, go_sem, g0, g1]) rfl ?_
  exact ⟨rfl, HR.out ▸ gB⟩
set_option maxHeartbeats 4000000 in
theorem unow_any {Fo : Nat → Obj → Prop} {B P : Nat} {most : Int} {x : ULn} {W0 T : List StR} {vs rw rt : Value} {w : World} {n : Nat} (h : TrS Fo B P most x W0 T vs rw rt w) (hn : x.1.length = n) (hl : n ≤ 100000) :
    Calls Tryd.prog 10 #[.pointer (some ⟨P, 0, none⟩)] w fun e w' => ∃ b d, e = .returned (.agg #[.slice b n d, .int .i64 x.2]) ∧ OwS w' w.heap.size (.slice b n d) x.1 ∧ Below w.heap.size w w' := by
  obtain ⟨a, c, rfl, hs⟩ := h.now.sl
  obtain ⟨X, xi⟩ := x
  dsimp only at *
  rw [hn] at h hs
  have B0 := below_alloc w (.cells #[.slice none 0 0, .int .i64 0] 30)
  have r0 := heap_alloc_new w (.cells #[.slice none 0 0, .int .i64 0] 30)
  obtain ⟨Q, hQ⟩ : ∃ Q, w.heap.size = Q := ⟨_, rfl⟩
  obtain ⟨W, hW⟩ : ∃ W, w.alloc (.cells #[.slice none 0 0, .int .i64 0] 30) = W := ⟨_, rfl⟩
  rw [hW] at B0 r0
  have hsW := Lib.hid (show W.heap.size = Q + 1 by rw [← hW, ← hQ]; simp)
  rw [hQ] at r0
  have hP := h.lt.2
  have hb1 := blk_below h.blk B0
  have y1 := cell_of_row _ _ 1 _ _ _ hb1; have y2 := cell_of_row _ _ 2 _ _ _ hb1
  have x0 := cell_of_row _ _ 0 _ _ _ r0; have x1 := cell_of_row _ _ 1 _ _ _ r0
  have yf := fun i => frozen_of_row _ Q i _ _ r0
  dsimp at y1 y2 x0 x1
  have CL := Lib.hid (clone_sg X a n c _ W.drew hn hl (hs.below B0.drew))
  have R0 := Lib.hid r0
  have N0 := Lib.hid B0
  have HQ := Lib.hid hQ
  have hPW := Lib.hid (show P < W.heap.size by have := B0.size; omega)
  have hPQ := Lib.hid (show Q ≠ P by omega)
  clear h hs hb1 r0 B0 hn hl hP
  go_enter Tryd.func10, Tryd.ntmps10
  go_upto_region 3 with fail
  try rw [HQ.out]
  clear hW hQ
  go_region_held3 (fun w' => w'.cell? ⟨P, 1, none⟩ = some (.slice a n c) ∧ w'.cell? ⟨P, 2, none⟩ = some (.int .i64 xi)) (first | exact ⟨y1, y2⟩ | exact ⟨v1, v2⟩ | exact ⟨(farL hPQ.out).trans v1, (farL hPQ.out).trans v2⟩ | go_keep)
    (first | (go_at_call 21; refine CL.out.mono ?_; rintro e w2 ⟨ad, d', rfl, ho, hb⟩; have O2 := Lib.hid ho; have D2 : Below W.heap.size W w2 := (Below.refl _ W).drew.trans hb; have v1 := (D2.cell (p := ⟨P, 1, none⟩) hPW.out).trans y1; have v2 := (D2.cell (p := ⟨P, 2, none⟩) hPW.out).trans y2; have N2 := Lib.hid (seqB N0.out D2); have R2 := Lib.hid (blk_below R0.out D2); have yf2 := fun i => frozen_of_row _ Q i _ _ R2.out; have yy := fun i => cell_of_row _ _ i _ _ _ R2.out; have z0 := yy 0; have z1 := yy 1; dsimp at z0 z1; clear ho hb yy D2))
  go_wp2
  clear y1 y2 x0 x1 yf yf2 z0 z1 v1 v2
  generalize hWF : World.setCell _ _ _ = WF
  obtain ⟨_, g0, g1, gO, gB⟩ := ln_fin R2.out O2.out N2.out (by have := HQ.out; omega) hWF
  refine bodyPost_ret (v := .agg #[.slice ad n d', .int .i64 xi]) (by simp [results, Tryd.results10, go_sem, g0, g1]) rfl ?_
  exact ⟨ad, d', rfl, gO.mono (by have := hsW.out; have := HQ.out; show _ ≤ W.heap.size; omega), gB⟩
end Go.Proofs.YtjgffedcbdnddaaDoor
set_option linter.unusedVariables false
set_option linter.unusedSimpArgs false
namespace Go.Proofs.YtjgffedcbdnddaaDoor
open Go.RowKit
/-- A trail in block P whose fields of rows may be behind. -/
structure TrG (Fo : Nat → Obj → Prop) (B P : Nat) (most : Int) (x : ULn) (W T : List StR) (vs rw rt f3 f4 : Value) (w : World) : Prop where
  blk : w.heap[P]? = some (.cells #[.int .i64 most, vs, .int .i64 x.2, f3, f4] 49 (0, 0))
  now : RmS w B vs x.1
  were : OwT w B rw W
  taken : OwT w B rt T
  ap : ∀ k, rw.ownBlock = some k → rt.ownBlock ≠ some k
  stW : ∀ q ∈ W, StIn (FrS B P vs rw rt w) w q
  stT : ∀ q ∈ T, StIn (FrS B P vs rw rt w) w q
  le : B ≤ P
  fo : ∀ k o, Fo k o → FrS B P vs rw rt w k ∧ w.heap[k]? = some o
theorem TrS.g {Fo : Nat → Obj → Prop} {B P : Nat} {most : Int} {x : ULn} {W T : List StR} {vs rw rt : Value} {w : World} (h : TrS Fo B P most x W T vs rw rt w) : TrG Fo B P most x W T vs rw rt rw rt w := ⟨h.blk, h.now, h.were, h.taken, h.ap, h.stW, h.stT, h.le, h.fo⟩
theorem TrG.s {Fo : Nat → Obj → Prop} {B P : Nat} {most : Int} {x : ULn} {W T : List StR} {vs rw rt : Value} {w : World} (h : TrG Fo B P most x W T vs rw rt rw rt w) : TrS Fo B P most x W T vs rw rt w := ⟨h.blk, h.now, h.were, h.taken, h.ap, h.stW, h.stT, h.le, h.fo⟩
section
variable {Fo : Nat → Obj → Prop} {B P : Nat} {most : Int} {x y : ULn} {W T : List StR} {vs rw rt f3 f4 : Value} {w w' : World}
theorem TrG.lt (h : TrG Fo B P most x W T vs rw rt f3 f4 w) : B ≤ P ∧ P < w.heap.size := ⟨h.le, blk_lt h.blk⟩
theorem TrG.swap (h : TrG Fo B P most x W T vs rw rt f3 f4 w) : TrG Fo B P most x T W vs rt rw f3 f4 w :=
  ⟨h.blk, h.now, h.taken, h.were, fun k hk hk' => h.ap k hk' hk, fun q hq => (h.stT q hq).mono fun k hk => ⟨hk.1, hk.2.1, hk.2.2.1, hk.2.2.2.1, hk.2.2.2.2.2, hk.2.2.2.2.1⟩, fun q hq => (h.stW q hq).mono fun k hk => ⟨hk.1, hk.2.1, hk.2.2.1, hk.2.2.2.1, hk.2.2.2.2.2, hk.2.2.2.2.1⟩, h.le, fun k o hk => ⟨⟨(h.fo k o hk).1.1, (h.fo k o hk).1.2.1, (h.fo k o hk).1.2.2.1, (h.fo k o hk).1.2.2.2.1, (h.fo k o hk).1.2.2.2.2.2, (h.fo k o hk).1.2.2.2.2.1⟩, (h.fo k o hk).2⟩⟩
theorem TrG.below (h : TrG Fo B P most x W T vs rw rt f3 f4 w) (hb : Below w.heap.size w w') : TrG Fo B P most x W T vs rw rt f3 f4 w' :=
  ⟨blk_below h.blk hb, h.now.below hb, h.were.below hb, h.taken.below hb, h.ap, fun q hq => ((h.stW q hq).keep hb.size (fun k hk => hb.block k hk.2.1)).mono (FrS.up hb.size), fun q hq => ((h.stT q hq).keep hb.size (fun k hk => hb.block k hk.2.1)).mono (FrS.up hb.size), h.le, fun k o hk => ⟨FrS.up hb.size k (h.fo k o hk).1, (hb.block k (h.fo k o hk).1.2.1).trans (h.fo k o hk).2⟩⟩
theorem typTs : 49 ≠ 63 := by decide
theorem typSs : 56 ≠ 63 := by decide
theorem own_ts {v u : Value} {L : List Sn} {R : List StR} {B B' : Nat} (h : RmS w B v L) (h2 : OwT w B' u R) : ∀ k, v.ownBlock = some k → u.ownBlock ≠ some k := fun k hk hk' => by
  rcases h with ⟨rfl, _⟩ | ⟨g, D, rfl, _, h3, _⟩
  · cases hk
  · have e2 : g = k := Option.some.inj hk
    subst e2
    exact own_typT h2 h3 typSs hk'
theorem RmS.re {v : Value} {L : List Sn} {B B' : Nat} (h : RmS w B v L) (hk : ∀ k, v.ownBlock = some k → B' ≤ k) : RmS w B' v L := by
  rcases h with h | ⟨g, D, rfl, h2, h3⟩
  · exact .inl h
  · exact .inr ⟨g, D, rfl, hk g rfl, h3⟩
/-- A step has been done. -/
theorem TrG.does {q : StR} (h : TrG Fo B P most x (W ++ [q]) T vs rw rt f3 f4 w) (hB : B ≤ w.heap.size) (hd : DoP P most vs f3 f4 y w w') :
    ∃ vs', TrG Fo B P most y (W ++ [q]) T vs' rw rt f3 f4 w' ∧ Below B w w' := by
  obtain ⟨vs', e1, e2, e3⟩ := hd.ex
  have hvP : vs.ownBlock ≠ some P := own_typS h.now h.blk typTr
  have hF : ∀ k, FrS B P vs rw rt w k → w'.heap[k]? = w.heap[k]? := fun k hk => hd.oth k hk.2.1 hk.2.2.1 hk.2.2.2.1
  have hU : ∀ k, FrS B P vs rw rt w k → FrS B P vs' rw rt w' k := fun k hk => ⟨hk.1, Nat.lt_of_lt_of_le hk.2.1 hd.size, hk.2.2.1, fun e => by
    rcases e3 k e with e | e
    · exact hk.2.2.2.1 e
    · have := hk.2.1; omega, hk.2.2.2.2⟩
  have hb' : ∀ k, vs'.ownBlock = some k → B ≤ k := fun k hk => by
    rcases e3 k hk with e | e
    · exact (h.now.lt k e).1
    · omega
  have hrow : ∀ {u : Value} {R : List StR}, OwT w B u R → OwT w' B u R := fun {u R} hu => hu.keep fun k hk =>
    hd.oth k (hu.lt k hk).2 (fun e => own_typT hu h.blk typTs (e ▸ hk)) (fun e => own_ts h.now hu k e hk)
  refine ⟨vs', ⟨e1, e2.re hb', hrow h.were, hrow h.taken, h.ap, fun s hs => ((h.stW s hs).keep hd.size hF).mono hU, fun s hs => ((h.stT s hs).keep hd.size hF).mono hU, h.le, fun k o hk => ⟨hU k (h.fo k o hk).1, (hF k (h.fo k o hk).1).trans (h.fo k o hk).2⟩⟩, ⟨hd.os, hd.tape, hd.output, hd.size, fun k hk => ?_⟩⟩
  have hle := h.le
  exact hd.oth k (by omega) (by omega) (fun e => by have := (h.now.lt k e).1; omega)
/-- The last step goes over to the other row. -/
theorem TrG.over {q : StR} {z : ULn} {n m : Nat} {a b : Option Addr} {c d : Nat} {rt : Value} (h : TrG Fo B P most y (W ++ [q]) T vs (.slice a (n + 1) c) rt f3 f4 w) (hn : W.length = n) (hB : B ≤ w.heap.size)
    (ho : OwT w' B (.slice b (m + 1) d) (T ++ [bkR q z])) (hg : w.grownBy w' rt.ownBlock) (hk : ∀ k, (Value.slice b (m + 1) d).ownBlock = some k → rt.ownBlock = some k ∨ w.heap.size ≤ k) :
    TrG Fo B P most y W (T ++ [bkR q z]) vs (.slice a n c) (.slice b (m + 1) d) f3 f4 w' ∧ Below B w w' := by
  have hPk : rt.ownBlock ≠ some P := own_typT h.taken h.blk typTs
  have hF : ∀ k, FrS B P vs (.slice a (n + 1) c) rt w k → w'.heap[k]? = w.heap[k]? := fun k hk => hg.block k hk.2.1 (fun e => hk.2.2.2.2.2 e.symm)
  have hown : (Value.slice a n c).ownBlock = (Value.slice a (n + 1) c).ownBlock := by cases a <;> rfl
  have hU : ∀ k, FrS B P vs (.slice a (n + 1) c) rt w k → FrS B P vs (.slice a n c) (.slice b (m + 1) d) w' k := fun k h1 => ⟨h1.1, Nat.lt_of_lt_of_le h1.2.1 hg.size, h1.2.2.1, h1.2.2.2.1, by rw [hown]; exact h1.2.2.2.2.1, fun e => by
    rcases hk k e with e | e
    · exact h1.2.2.2.2.2 e
    · have := h1.2.1; omega⟩
  have hw := h.were.pop hn
  refine ⟨⟨(hg.block P (blk_lt h.blk) (fun e => hPk e.symm)).trans h.blk, h.now.keep fun k e => hg.block k (h.now.lt k e).2 (fun e2 => own_ts h.now h.taken k e e2.symm),
    hw.keep fun k e => hg.block k (hw.lt k e).2 (fun e2 => h.ap k (hown ▸ e) e2.symm), ho, fun k e e2 => ?_, fun s hs => ((h.stW s (List.mem_append_left _ hs)).keep hg.size hF).mono hU, fun s hs => ?_, h.le, fun k o hk => ⟨hU k (h.fo k o hk).1, (hF k (h.fo k o hk).1).trans (h.fo k o hk).2⟩⟩,
    ⟨hg.os, hg.tape, hg.output, hg.size, fun k hk2 => hg.block k (by omega) (fun e => by have := (h.taken.lt k e.symm).1; omega)⟩⟩
  · rcases hk k e2 with e3 | e3
    · exact h.ap k (hown ▸ e) e3
    · have := (hw.lt k e).2; omega
  · rw [List.mem_append, List.mem_singleton] at hs
    rcases hs with hs | rfl
    · exact ((h.stT s hs).keep hg.size hF).mono hU
    · exact (((h.stW q (List.mem_append_right _ (List.mem_singleton_self q))).keep hg.size hF).mono hU).back z
end
end Go.Proofs.YtjgffedcbdnddaaDoor
set_option linter.unusedVariables false
set_option linter.unusedSimpArgs false
namespace Go.Proofs.YtjgffedcbdnddaaDoor
open Go.RowKit
/-- A line, and where its signs lie. -/
abbrev LnR := ULn × (Option Addr × Nat)
def lC (L : List LnR) : List Value := L.flatMap fun q => [Value.slice q.2.1 q.1.1.length q.2.2, Value.int .i64 q.1.2]
def l0 : LnR := (([], 0), (none, 0))
def lA (q : LnR) : Array Value := #[.slice q.2.1 q.1.1.length q.2.2, .int .i64 q.1.2]
theorem lC_len (L : List LnR) : (lC L).length = L.length * 2 := by
  unfold lC
  induction L with
  | nil => rfl
  | cons x L ih => simp only [List.flatMap_cons, List.length_append, List.length_cons, List.length_nil, ih]; omega
theorem lC_app (a b : List LnR) : lC (a ++ b) = lC a ++ lC b := by simp [lC]
theorem lC_cons (q : LnR) (b : List LnR) : lC (q :: b) = lC [q] ++ lC b := lC_app [q] b
theorem lC_one (l : List LnR) : ∀ u ∈ lC l, u.oneCell' = true := by
  intro u hu
  unfold lC at hu
  rw [List.mem_flatMap] at hu
  obtain ⟨p, _, hp⟩ := hu
  simp at hp
  rcases hp with rfl | rfl <;> rfl
/-- A row of lines that lies in S, with its room. -/
structure LnsR (S : Nat → Prop) (w : World) (a : Option Addr) (c : Nat) (R : List LnR) : Prop where
  le : R.length ≤ c
  nl : a = none → c = 0
  cells : ∀ ad, a = some ad → ∃ b off, ad = ⟨b, off, none⟩ ∧ (R ≠ [] → S b ∧ b < w.heap.size) ∧ ∀ j u, (lC R)[j]? = some u → w.cell? ⟨b, off + j, none⟩ = some u
  sg : ∀ r ∈ R, SlS S w r.2.1 r.1.1 r.2.2
theorem LnsR.nil (S : Nat → Prop) (w : World) : LnsR S w none 0 [] := ⟨Nat.le_refl _, fun _ => rfl, fun _ e => (by cases e), fun _ h => (by cases h)⟩
theorem lnsr_blk {S : Nat → Prop} {w w' : World} {a : Option Addr} {c : Nat} {R : List LnR} (h : LnsR S w a c R) (hs : w.heap.size ≤ w'.heap.size) (hk : ∀ k, S k → k < w.heap.size → w'.heap[k]? = w.heap[k]?) (hsg : ∀ r ∈ R, SlS S w' r.2.1 r.1.1 r.2.2) : LnsR S w' a c R := by
  refine ⟨h.le, h.nl, fun ad e => ?_, hsg⟩
  obtain ⟨b, off, e2, h1, h2⟩ := h.cells ad e
  refine ⟨b, off, e2, fun hR => ⟨(h1 hR).1, Nat.lt_of_lt_of_le (h1 hR).2 hs⟩, fun j u hj => ?_⟩
  have hR : R ≠ [] := fun e => by rw [e] at hj; simp [lC] at hj
  rw [← h2 j u hj]
  unfold World.cell?
  rw [hk b (h1 hR).1 (h1 hR).2]
theorem LnsR.keep {S : Nat → Prop} {w w' : World} {a : Option Addr} {c : Nat} {R : List LnR} (h : LnsR S w a c R) (hs : w.heap.size ≤ w'.heap.size) (hk : ∀ k, S k → w'.heap[k]? = w.heap[k]?) : LnsR S w' a c R :=
  lnsr_blk h hs (fun k h1 _ => hk k h1) (fun r hr => (h.sg r hr).keep hs hk)
theorem LnsR.below {S : Nat → Prop} {w w' : World} {a : Option Addr} {c : Nat} {R : List LnR} (h : LnsR S w a c R) (hb : Below w.heap.size w w') : LnsR S w' a c R :=
  lnsr_blk h hb.size (fun k _ h2 => hb.block k h2) (fun r hr => (h.sg r hr).below hb)
theorem LnsR.mono {S T : Nat → Prop} {w : World} {a : Option Addr} {c : Nat} {R : List LnR} (h : LnsR S w a c R) (hT : ∀ k, S k → T k) : LnsR T w a c R :=
  ⟨h.le, h.nl, fun ad e => by
    obtain ⟨b, off, e2, h1, h2⟩ := h.cells ad e
    exact ⟨b, off, e2, fun hR => ⟨hT _ (h1 hR).1, (h1 hR).2⟩, h2⟩, fun r hr => (h.sg r hr).mono hT⟩
theorem lC_at (R : List LnR) (i : Nat) (hi : i < R.length) : (lC R)[i * 2]? = some (.slice (R.getD i l0).2.1 (R.getD i l0).1.1.length (R.getD i l0).2.2) ∧ (lC R)[i * 2 + 1]? = some (.int .i64 (R.getD i l0).1.2) := by
  induction R generalizing i with
  | nil => simp at hi
  | cons x L ih =>
    cases i with
    | zero => exact ⟨rfl, rfl⟩
    | succ i =>
      have h := ih i (by simpa using hi)
      rw [show (i + 1) * 2 = i * 2 + 1 + 1 by omega]
      exact h
/-- The last line of a row. -/
theorem LnsR.last {S : Nat → Prop} {w : World} {a : Option Addr} {c n : Nat} {R : List LnR} {r : LnR} (h : LnsR S w a c (R ++ [r])) (hn : R.length = n) : ∃ b off, a = some ⟨b, off, none⟩ ∧ S b ∧ b < w.heap.size ∧ w.cell? ⟨b, off + n * 2, none⟩ = some (.slice r.2.1 r.1.1.length r.2.2) ∧ w.cell? ⟨b, off + n * 2 + 1, none⟩ = some (.int .i64 r.1.2) := by
  have hle := h.le
  rw [List.length_append, List.length_singleton] at hle
  cases a with
  | none => have := h.nl rfl; omega
  | some ad =>
    obtain ⟨b, off, rfl, h1, h2⟩ := h.cells ad rfl
    have h3 := h1 (by simp)
    have hat := lC_at (R ++ [r]) n (by rw [List.length_append, List.length_singleton]; omega)
    have hg : (R ++ [r]).getD n l0 = r := by rw [List.getD, List.getElem?_append_right (by omega), hn, Nat.sub_self]; rfl
    rw [hg] at hat
    exact ⟨b, off, rfl, h3.1, h3.2, h2 _ _ hat.1, by rw [show off + n * 2 + 1 = off + (n * 2 + 1) by omega]; exact h2 _ _ hat.2⟩
theorem LnsR.pop {S : Nat → Prop} {w : World} {a : Option Addr} {c : Nat} {R : List LnR} {r : LnR} (h : LnsR S w a c (R ++ [r])) : LnsR S w a c R := by
  have hle := h.le
  rw [List.length_append, List.length_singleton] at hle
  refine ⟨by omega, h.nl, fun ad e => ?_, fun q hq => h.sg q (List.mem_append_left _ hq)⟩
  obtain ⟨b, off, e2, h1, h2⟩ := h.cells ad e
  refine ⟨b, off, e2, fun _ => h1 (by simp), fun j u hj => h2 j u ?_⟩
  rw [lC_app, List.getElem?_append_left (List.getElem?_eq_some_iff.1 hj).1]
  exact hj
theorem elemLn : Tryd.prog.elem 31 = 30 := by kernel_rfl
theorem sizeLn (w : World) : (sizeOf 30).run Tryd.prog w = .ok 2 w := by kernel_rfl
theorem run_popL (w : World) (b off n c : Nat) (h : n ≤ c) (hc : 0 < c) : (Instr.slice 31 (.slice (some ⟨b, off, none⟩) (n + 1) c) none (some (.int .i64 (n : Int))) none).run Tryd.prog w = .ok (.slice (some ⟨b, off, none⟩) n c) w := by
  rw [run_slice_h (P := Tryd.prog) w 31 _ (n + 1) c (by kernel_rfl) .i64 (n : Int) (by omega) (by omega), elemLn, sizeLn]
  show Result.ok (Value.slice (if c = 0 then _ else _) n c) w = _
  rw [if_neg (by omega)]
  have hadd : (⟨b, off, none⟩ : Addr).add (0 * 2) = ⟨b, off, none⟩ := by unfold Addr.add; split <;> simp_all
  rw [Option.map_some, hadd]
/-- A row without its first line. -/
theorem LnsR.cut {S : Nat → Prop} {w : World} {a : Option Addr} {c n : Nat} {r : LnR} {R : List LnR} (h : LnsR S w a c (r :: R)) (hn : R.length = n) : ∃ a', (∀ w, (Instr.slice 31 (.slice a (n + 1) c) (some (.int .i64 1)) none none).run Tryd.prog w = .ok (.slice a' n (c - 1)) w) ∧ LnsR S w a' (c - 1) R := by
  have hle := h.le
  rw [List.length_cons] at hle
  have hrun : ∀ w, (Instr.slice 31 (.slice a (n + 1) c) (some (.int .i64 1)) none none).run Tryd.prog w = .ok (.slice (if c = 1 then a else a.map (·.add (1 * 2))) n (c - 1)) w := fun w => by
    have := run_slice_l (P := Tryd.prog) w 31 a (n + 1) c (by kernel_rfl) .i64 (1 : Int) (by omega) (by omega)
    rw [elemLn, sizeLn] at this
    exact this
  refine ⟨_, hrun, ?_⟩
  refine ⟨by omega, fun e => ?_, fun ad e => ?_, fun q hq => h.sg q (List.mem_cons_of_mem _ hq)⟩
  · by_cases hc : c = 1
    · omega
    · rw [if_neg hc] at e
      cases a with
      | none => have := h.nl rfl; omega
      | some x => cases e
  · cases a with
    | none => have := h.nl rfl; omega
    | some x =>
      obtain ⟨b, off, rfl, h1, h2⟩ := h.cells x rfl
      have h3 := h1 (by simp)
      by_cases hc : c = 1
      · rw [if_pos hc] at e
        injection e with e
        obtain rfl : R = [] := List.length_eq_zero_iff.1 (by omega)
        exact ⟨b, off, e.symm, fun hR => absurd rfl hR, fun j u hj => by simp [lC] at hj⟩
      · rw [if_neg hc] at e
        have hadd : (⟨b, off, none⟩ : Addr).add (1 * 2) = ⟨b, off + 2, none⟩ := by unfold Addr.add; split <;> simp_all
        rw [Option.map_some, hadd] at e
        injection e with e
        refine ⟨b, off + 2, e.symm, fun _ => h3, fun j u hj => ?_⟩
        rw [show off + 2 + j = off + (2 + j) by omega]
        refine h2 _ _ ?_
        rw [lC_cons, List.getElem?_append_right (by show 2 ≤ 2 + j; omega)]
        rw [← hj]
        congr 1
        show 2 + j - 2 = j
        omega
/-- A row of lines of the call's own. -/
def OwL (w : World) (B : Nat) (v : Value) (L : List LnR) : Prop := w.ownsRow B 30 2 v L.length (lC L)
theorem bytesLn : ∃ b, (Tryd.prog.info? 30).map (fun i => (i.zero, i.size, i.bytes)) = some (some (.agg #[.slice none 0 0, .int .i64 0]), 2, b) ∧ 1 ≤ b ∧ b ≤ 64 := ⟨32, by kernel_rfl, by decide, by decide⟩
theorem OwL.form {w : World} {B : Nat} {v : Value} {L : List LnR} {n : Nat} (h : OwL w B v L) (hn : L.length = n) : ∃ a c, v = .slice a n c := by
  subst hn
  rcases h.2 with ⟨rfl, h0⟩ | ⟨g, cap, cur, rfl, _⟩
  · exact ⟨none, 0, by rw [h0]⟩
  · exact ⟨_, cap, rfl⟩
theorem OwL.lt {w : World} {B : Nat} {v : Value} {L : List LnR} (h : OwL w B v L) : ∀ k, v.ownBlock = some k → B ≤ k ∧ k < w.heap.size := World.ownsRow.lt h
theorem OwL.keep {w w' : World} {B : Nat} {v : Value} {L : List LnR} (h : OwL w B v L) (hk : ∀ k, v.ownBlock = some k → w'.heap[k]? = w.heap[k]?) : OwL w' B v L := by
  refine ⟨h.1, ?_⟩
  rcases h.2 with hn | ⟨g, cap, cur, rfl, hb, hg, rest⟩
  · exact .inl hn
  · exact .inr ⟨g, cap, cur, rfl, hb, (hk g rfl).trans hg, rest⟩
theorem OwL.below {w w' : World} {B : Nat} {v : Value} {L : List LnR} (h : OwL w B v L) (hb : Below w.heap.size w w') : OwL w' B v L := h.keep fun k hk => hb.block k (h.lt k hk).2
theorem owl_new (w : World) : OwL (w.alloc (.cells #[] 30)) w.heap.size (.slice (some ⟨w.heap.size, 0, none⟩) 0 0) [] :=
  ⟨rfl, .inr ⟨w.heap.size, 0, #[], rfl, Nat.le_refl _, heap_alloc_new _ _, Nat.le_refl _, by decide, rfl, rfl⟩⟩
theorem OwL.lns {S : Nat → Prop} {w : World} {B n c : Nat} {a : Option Addr} {R : List LnR} (h : OwL w B (.slice a n c) R) (hn : R.length = n) (hs : ∀ r ∈ R, SlS S w r.2.1 r.1.1 r.2.2) (hB : ∀ k, B ≤ k → k < w.heap.size → S k) : LnsR S w a c R := by
  subst hn
  rcases h.2 with ⟨e, h0⟩ | ⟨g, cap, cur, e, hb, hg, hle, _⟩
  · injection e with e1 e2 e3
    subst e1
    obtain rfl : R = [] := List.length_eq_zero_iff.1 e2
    exact ⟨by simp, fun _ => e3, fun _ e => (by cases e), hs⟩
  · injection e with e1 e2 e3
    subst e1; subst e3
    refine ⟨hle, fun e => (by cases e), fun ad e => ?_, hs⟩
    injection e with e
    refine ⟨g, 0, e.symm, fun _ => ⟨hB g hb (blk_lt hg), blk_lt hg⟩, fun j u hj => ?_⟩
    have hjl : j < R.length * 2 := by rw [← lC_len]; exact (List.getElem?_eq_some_iff.1 hj).1
    rw [Nat.zero_add, World.ownsRow.cellAt h j hjl]
    exact hj
/-- An append of lines to a row of the call's own. -/
theorem step_app_ln {w : World} {ops : Array Oper} {o : Oper} {a : Act} {K : Act → World → Prop} {Q : Exit → Act → World → Prop} {E : Prop} (hgd : Region.wanted o (yielded ops a.tmps) = true) (s x : Operand)
    (ho : o.op = .call { callee := .builtin .append, args := #[s, x], argTypes := #[31, 31] }) (base : Nat)
    (v : Value) (np : Nat) (p : List LnR) (hs : a.eval s = v) (hp : p.length = np) (hown : OwL w base v p) (ad : Option Addr) (n c : Nat) (l : List LnR) (hx : a.eval x = .slice ad n c) (hl : l.length = n) (hnews : ∀ b, ad = some b → ∀ j u, (lC l)[j]? = some u → w.cell? (b.add j) = some u) (hnl : ad = none → c = 0 ∧ n = 0)
    (hlen : np + n ≤ 1000000) (hbase : base ≤ w.heap.size)
    (h : ∀ ad' c' w', OwL w' base (.slice ad' (np + n) c') (p ++ l) → w.grownBy w' v.ownBlock → K (a.put o.dst (.slice ad' (np + n) c')) w') :
    if Region.wanted o (yielded ops a.tmps) = true then Oper.wp Tryd.prog o a w K Q else E := by
  obtain ⟨bb, hbb, hb1, hb2⟩ := bytesLn
  obtain ⟨i0, hi, hz0, hz1, hz2⟩ := info_parts hbb
  subst hl; subst hp
  rw [if_pos hgd]
  have hfin : ∀ v' w', OwL w' base v' (p ++ l) → w.grownBy w' v.ownBlock → K (a.put o.dst v') w' := by
    intro v' w' h1 h2
    obtain ⟨ad', c', rfl⟩ := h1.form (n := p.length + l.length) (by rw [List.length_append])
    exact h ad' c' w' h1 h2
  cases ad with
  | none =>
    obtain ⟨rfl, hn0⟩ := hnl rfl
    obtain rfl : l = [] := List.length_eq_zero_iff.1 hn0
    have hrun := run_append_owned_none (P := Tryd.prog) (w := w) base 31 o.type 30 i0 2 Tryd.underlying31 hi v p.length _ hown
    have h' := hfin v w (by rw [List.append_nil]; exact hown) ⟨rfl, rfl, rfl, Nat.le_refl _, fun _ _ _ => rfl⟩
    unfold Oper.wp
    simp only [List.length_nil] at hx
    simp [execOp, ho, resolve, invoke, builtin, hs, hx, hrun, Result.andThen]
    exact h'
  | some ad =>
    refine wp_append_own w s x 31 ho base 30 i0 _ 2 bb Tryd.underlying31 hi hz0 hz1 hz2 rfl (by decide) v p.length _ hs hown ad l.length c (lC l) hx (lC_len l) (hnews ad rfl) (lC_one l) (by unfold maxLen; omega) (Nat.le_trans (Nat.mul_le_mul hlen hb2) (by decide)) hbase (fun v' w' a1 a2 _ => hfin v' w' ?_ a2)
    unfold OwL
    rw [List.length_append, lC_app]
    exact a1
theorem LnsR.news {S : Nat → Prop} {w : World} {a : Option Addr} {c n : Nat} {R : List LnR} (h : LnsR S w a c R) (hn : R.length = n) : (∀ b, a = some b → ∀ j u, (lC R)[j]? = some u → w.cell? (b.add j) = some u) ∧ (a = none → c = 0 ∧ n = 0) := by
  refine ⟨fun b e j u hj => ?_, fun e => ?_⟩
  · obtain ⟨k, off, rfl, _, h2⟩ := h.cells b e
    have hadd : (⟨k, off, none⟩ : Addr).add j = ⟨k, off + j, none⟩ := by unfold Addr.add; split <;> simp_all
    rw [hadd]; exact h2 j u hj
  · have := h.nl e; have := h.le; omega
theorem ln_news {w : World} {b : Nat} {q : LnR} {T : TypeId} {f : Nat × Nat} (h : w.heap[b]? = some (.cells (lA q) T f)) : ∀ ad, (some (⟨b, 0, none⟩ : Addr)) = some ad → ∀ j u, (lC [q])[j]? = some u → w.cell? (ad.add j) = some u := by
  intro ad e j u hj
  injection e with e
  subst e
  have hadd : (⟨b, 0, none⟩ : Addr).add j = ⟨b, j, none⟩ := by unfold Addr.add; split <;> simp_all
  rw [hadd, cell_of_row w b j _ _ _ h]
  have e3 : lC [q] = (lA q).toList := rfl
  rw [e3] at hj
  rw [← hj]; exact (Array.getElem?_toList).symm
set_option maxHeartbeats 4000000 in
theorem rlines_ref {S : Nat → Prop} {R : List LnR} {a : Option Addr} {n c xn : Nat} {w : World} (h : LnsR S w a c R) (hn : R.length = n) (hl : n ≤ 100000) (r : LnR) (hr : SlS S w r.2.1 r.1.1 r.2.2) (hx : r.1.1.length = xn) :
    Calls Tryd.prog 32 #[.slice a n c, .agg #[.slice r.2.1 xn r.2.2, .int .i64 r.1.2]] w fun e w' => ∃ b d, e = .returned (.slice b (n + 1) d) ∧ LnsR (fun k => S k ∨ (w.heap.size ≤ k ∧ k < w'.heap.size)) w' b d (R ++ [r]) ∧ Below w.heap.size w w' := by
  subst hx
  have b0 := below_alloc w (.cells (lA r) 30)
  have r0 := heap_alloc_new w (.cells (lA r) 30)
  obtain ⟨X, hX⟩ : ∃ X, w.heap.size = X := ⟨_, rfl⟩
  unfold lA at b0 r0
  obtain ⟨W, hW⟩ : ∃ W, w.alloc (.cells #[.slice r.2.1 r.1.1.length r.2.2, .int .i64 r.1.2] 30) = W := ⟨_, rfl⟩
  rw [hW] at b0 r0
  rw [hX] at r0
  have y0 := cell_of_row _ _ 0 _ _ _ r0
  have y1 := cell_of_row _ _ 1 _ _ _ r0
  dsimp at y0 y1
  have HN := Lib.hid hn
  have H := Lib.hid (h.below b0)
  have HR := Lib.hid (hr.below b0)
  have HB := Lib.hid b0
  have R0 := Lib.hid r0
  have HX := Lib.hid hX
  have ya := fun o => (below_alloc W.drew o).cell (p := ⟨X, 0, none⟩) (block_lt_of_cell (w := W.drew) y0) |>.trans y0
  have yb := fun o => (below_alloc W.drew o).cell (p := ⟨X, 1, none⟩) (block_lt_of_cell (w := W.drew) y1) |>.trans y1
  have HW := Lib.hid (show ∀ o, Below W.heap.size W (W.drew.alloc o) from fun o => (Below.refl _ W).drew.trans (below_alloc W.drew o))
  obtain ⟨c0, hc0⟩ : ∃ c0, W.alloc (.cells #[] 30) = c0 := ⟨_, rfl⟩
  obtain ⟨Y, hY⟩ : ∃ Y, c0.heap.size = Y := ⟨_, rfl⟩
  have hYW : Y = W.heap.size + 1 := by rw [← hY, ← hc0]; simp
  have HW2 : Hid (Below W.heap.size W (c0.alloc (.cells (lA r) 30)).drew) := Lib.hid (by
    have e1 := below_alloc W (.cells #[] 30)
    rw [hc0] at e1
    exact (seqB e1 (below_alloc c0 _)).drew)
  have OWB : Hid (OwL (c0.alloc (.cells (lA r) 30)).drew W.heap.size (.slice (some ⟨W.heap.size, 0, none⟩) 0 0) []) := Lib.hid (by
    have e1 := owl_new W
    rw [hc0] at e1
    exact e1.below (below_alloc c0 _).drew)
  have RB : Hid ((c0.alloc (.cells (lA r) 30)).drew.heap[Y]? = some (.cells (lA r) 30 (0, 0))) := Lib.hid (by
    rw [← hY]; exact heap_alloc_new c0 (.cells (lA r) 30))
  obtain ⟨c1, hc1⟩ : ∃ c1, W.alloc (.cells (lA r) 30) = c1 := ⟨_, rfl⟩
  have hc1s : c1.heap.size = Y := by rw [← hc1, hYW]; simp
  have HW3 : Hid (Below W.heap.size W (c1.alloc (.cells #[] 30)).drew) := Lib.hid (by
    have e1 := below_alloc W (.cells (lA r) 30)
    rw [hc1] at e1
    exact (seqB e1 (below_alloc c1 _)).drew)
  have OWC : Hid (OwL (c1.alloc (.cells #[] 30)).drew W.heap.size (.slice (some ⟨Y, 0, none⟩) 0 0) []) := Lib.hid (by
    have e1 := owl_new c1
    rw [hc1s] at e1
    exact ⟨rfl, .inr ⟨Y, 0, #[], rfl, by omega, hc1s ▸ heap_alloc_new c1 (.cells #[] 30), Nat.le_refl _, by decide, rfl, rfl⟩⟩)
  have RC : Hid ((c1.alloc (.cells #[] 30)).drew.heap[W.heap.size]? = some (.cells (lA r) 30 (0, 0))) := Lib.hid (by
    have e1 := heap_alloc_new W (.cells (lA r) 30)
    rw [hc1] at e1
    exact blk_below e1 (below_alloc c1 (.cells #[] 30)).drew)
  have x0 := (HW3.out.cell (p := ⟨X, 0, none⟩) (block_lt_of_cell y0)).trans y0
  have x1 := (HW3.out.cell (p := ⟨X, 1, none⟩) (block_lt_of_cell y1)).trans y1
  have z0 := (HW2.out.cell (p := ⟨X, 0, none⟩) (block_lt_of_cell y0)).trans y0
  have z1 := (HW2.out.cell (p := ⟨X, 1, none⟩) (block_lt_of_cell y1)).trans y1
  have HYW := Lib.hid hYW
  unfold lA at HW2 OWB RB z0 z1 hc1 RC
  have HC1 := Lib.hid hc1
  clear hc1 hc1s
  have HC0 := Lib.hid hc0
  have HY := Lib.hid hY
  clear h hr b0 r0 hn hYW hc0 hY
  go_enter Tryd.func32, Tryd.ntmps32
  go_upto_region 1 with fail
  try rw [HX.out]
  clear hW hX
  go_region_held3 (fun w' => w'.cell? ⟨X, 0, none⟩ = some (.slice r.2.1 r.1.1.length r.2.2) ∧ w'.cell? ⟨X, 1, none⟩ = some (.int .i64 r.1.2)) (first | exact ⟨y0, y1⟩ | exact ⟨ya _, yb _⟩ | (rw [HC0.out]; exact ⟨z0, z1⟩) | (rw [HC1.out]; exact ⟨x0, x1⟩) | exact ⟨z0, z1⟩ | exact ⟨v0, v1⟩ | exact ⟨va0 _, va1 _⟩ | exact ⟨u0, u1⟩ | go_keep)
    (first
      | (refine step_app_ln (by rfl) _ _ (by rfl) W.heap.size (.slice (some ⟨W.heap.size, 0, none⟩) 0 0) 0 [] (by rfl) rfl (owl_new W.drew) a n c R (by rfl) HN.out (LnsR.news (H.out.below (HW.out _)) HN.out).1 (LnsR.news H.out HN.out).2 (by omega) (HW.out _).size ?_
         intro ad5 c5 w5 o5 g5
         rw [Nat.zero_add] at o5 ⊢
         have M5 := Lib.hid ((HW.out (.cells #[] 30)).grown g5 (HW.out _).size (fun k e => by have e2 : W.heap.size = k := Option.some.inj e; omega))
         have O5 := Lib.hid (show OwL w5 W.heap.size (.slice ad5 n c5) R from o5)
         have v0 := (M5.out.cell (p := ⟨X, 0, none⟩) (block_lt_of_cell y0)).trans y0
         have v1 := (M5.out.cell (p := ⟨X, 1, none⟩) (block_lt_of_cell y1)).trans y1
         have va0 := fun o => (below_alloc w5 o).cell (p := ⟨X, 0, none⟩) (block_lt_of_cell v0) |>.trans v0
         have va1 := fun o => (below_alloc w5 o).cell (p := ⟨X, 1, none⟩) (block_lt_of_cell v1) |>.trans v1
         clear o5 g5)
      | (rw [HC0.out]
         refine step_app_ln (by rfl) _ _ (by rfl) W.heap.size (.slice (some ⟨W.heap.size, 0, none⟩) 0 0) 0 [] (by rfl) rfl OWB.out a n c R (by rfl) HN.out (LnsR.news (H.out.below HW2.out) HN.out).1 (LnsR.news H.out HN.out).2 (by omega) HW2.out.size ?_
         intro ad5 c5 w5 o5 g5
         rw [Nat.zero_add] at o5 ⊢
         have M5 := Lib.hid (HW2.out.grown g5 HW2.out.size (fun k e => by have e2 : W.heap.size = k := Option.some.inj e; omega))
         have O5 := Lib.hid (show OwL w5 W.heap.size (.slice ad5 n c5) R from o5)
         have R5 := Lib.hid ((g5.block Y (blk_lt RB.out) (fun e => by have e2 : Y = W.heap.size := Option.some.inj e; have := HYW.out; omega)).trans RB.out)
         have v0 := (M5.out.cell (p := ⟨X, 0, none⟩) (block_lt_of_cell y0)).trans y0
         have v1 := (M5.out.cell (p := ⟨X, 1, none⟩) (block_lt_of_cell y1)).trans y1
         clear o5 g5)
      | (rw [HC1.out]
         refine step_app_ln (by rfl) _ _ (by rfl) W.heap.size (.slice (some ⟨Y, 0, none⟩) 0 0) 0 [] (by rw [HYW.out]; rfl) rfl OWC.out a n c R (by rfl) HN.out (LnsR.news (H.out.below HW3.out) HN.out).1 (LnsR.news H.out HN.out).2 (by omega) HW3.out.size ?_
         intro ad5 c5 w5 o5 g5
         rw [Nat.zero_add] at o5 ⊢
         have M5 := Lib.hid (HW3.out.grown g5 HW3.out.size (fun k e => by have e2 : Y = k := Option.some.inj e; have := HYW.out; omega))
         have O5 := Lib.hid (show OwL w5 W.heap.size (.slice ad5 n c5) R from o5)
         have R5 := Lib.hid ((g5.block W.heap.size (blk_lt RC.out) (fun e => by have e2 : W.heap.size = Y := Option.some.inj e; have := HYW.out; omega)).trans RC.out)
         have v0 := (M5.out.cell (p := ⟨X, 0, none⟩) (block_lt_of_cell y0)).trans y0
         have v1 := (M5.out.cell (p := ⟨X, 1, none⟩) (block_lt_of_cell y1)).trans y1
         clear o5 g5)
      | (refine step_app_ln (by rfl) _ _ (by rfl) W.heap.size (.slice ad5 n c5) n R (by rfl) HN.out O5.out (some ⟨Y, 0, none⟩) 1 1 [r] (by rw [HYW.out]; rfl) rfl (ln_news (q := r) R5.out) (fun e => by cases e) (by omega) M5.out.size ?_
         intro ad6 c6 w6 o6 g6
         have M6 := Lib.hid (M5.out.grown g6 M5.out.size (fun k e => (O5.out.lt k e).1))
         have O6 := Lib.hid o6
         have u0 := (M6.out.cell (p := ⟨X, 0, none⟩) (block_lt_of_cell y0)).trans y0
         have u1 := (M6.out.cell (p := ⟨X, 1, none⟩) (block_lt_of_cell y1)).trans y1
         clear o6 g6)
      | (refine step_app_ln (by rfl) _ _ (by rfl) W.heap.size (.slice ad5 n c5) n R (by rfl) HN.out O5.out (some ⟨W.heap.size, 0, none⟩) 1 1 [r] (by rfl) rfl (ln_news (q := r) R5.out) (fun e => by cases e) (by omega) M5.out.size ?_
         intro ad6 c6 w6 o6 g6
         have M6 := Lib.hid (M5.out.grown g6 M5.out.size (fun k e => (O5.out.lt k e).1))
         have O6 := Lib.hid o6
         have u0 := (M6.out.cell (p := ⟨X, 0, none⟩) (block_lt_of_cell y0)).trans y0
         have u1 := (M6.out.cell (p := ⟨X, 1, none⟩) (block_lt_of_cell y1)).trans y1
         clear o6 g6)
      | (refine step_app_ln (by rfl) _ _ (by rfl) W.heap.size (.slice ad5 n c5) n R (by rfl) HN.out (O5.out.below (below_alloc _ _)) (some ⟨w5.heap.size, 0, none⟩) 1 1 [r] (by rfl) rfl (ln_news (q := r) (heap_alloc_new w5 _)) (fun e => by cases e) (by omega) (Nat.le_trans M5.out.size (below_alloc _ _).size) ?_
         intro ad6 c6 w6 o6 g6
         have M6 := Lib.hid ((M5.out.trans ((below_alloc w5 (.cells (lA r) 30)).mono M5.out.size)).grown g6 (Nat.le_trans M5.out.size (below_alloc _ _).size) (fun k e => (O5.out.lt k e).1))
         have O6 := Lib.hid o6
         have u0 := (M6.out.cell (p := ⟨X, 0, none⟩) (block_lt_of_cell y0)).trans y0
         have u1 := (M6.out.cell (p := ⟨X, 1, none⟩) (block_lt_of_cell y1)).trans y1
         clear o6 g6))
  all_goals
    go_wp2
    go_ret
    have hall := seqB HB.out M6.out
    refine ⟨_, _, rfl, O6.out.lns (by rw [List.length_append, HN.out]; rfl) (fun q hq => ?_) (fun k h1 h2 => Or.inr ⟨by have := HB.out.size; have := HX.out; omega, h2⟩), HX.out ▸ hall⟩
    rw [List.mem_append, List.mem_singleton] at hq
    rcases hq with hq | rfl
    · exact ((H.out.below M6.out).sg q hq).mono fun k hk => Or.inl hk
    · exact (HR.out.below M6.out).mono fun k hk => Or.inl hk
end Go.Proofs.YtjgffedcbdnddaaDoor
set_option linter.unusedVariables false
set_option linter.unusedSimpArgs false
namespace Go.Proofs.YtjgffedcbdnddaaDoor
open Go.RowKit
theorem udoer_b (P : Nat) (w : World) : Calls Tryd.prog 25 #[.pointer (some ⟨P, 1, none⟩)] w fun e w' => ∃ pt, e = .returned (.func (.func 36) #[] #[.pointer (some ⟨pt, 0, none⟩)]) ∧ w'.cell? ⟨pt, 0, none⟩ = some (.pointer (some ⟨P, 1, none⟩)) ∧ Below w.heap.size w w' := by
  refine (udoer_any P w).mono ?_
  rintro e w' ⟨rfl, rfl⟩
  exact ⟨_, rfl, cell_of_row _ _ 0 _ _ _ (heap_alloc_new w _), below_alloc w _⟩
theorem utake_none (p : Value) (a : Option Addr) (c : Nat) (u : Value) (w : World) : Calls Tryd.prog 22 #[p, .slice a 0 c, u] w fun e w' => e = .returned (.tuple #[.slice a 0 c, u, .bool false]) ∧ w = w' := by
  go_enter Tryd.func22, Tryd.ntmps22
  go_wp2
  refine bodyPost_ret (v := .tuple #[.slice a 0 c, u, .bool false]) (by simp [results, Tryd.results22, go_sem]) rfl ?_
  exact ⟨rfl, rfl⟩
set_option maxHeartbeats 8000000 in
theorem utake_any {Fo : Nat → Obj → Prop} {B P : Nat} {most : Int} {x y : ULn} {W T : List StR} {q : StR} {vs f3 f4 : Value} {a b : Option Addr} {c d p n m : Nat} {w : World} (h : TrG Fo B P most x (W ++ [q]) T vs (.slice a p c) (.slice b m d) f3 f4 w) (hn : W.length = n) (hp : p = n + 1) (hm : T.length = m) (hld : Ld q.1 x y)
    (hB : B ≤ w.heap.size) (hx : x.1.length ≤ 100000) (hy : y.1.length ≤ 100000) (hp1 : p ≤ 10000) (hm1 : m ≤ 10000) :
    Calls Tryd.prog 22 #[.pointer (some ⟨P, 0, none⟩), .slice a p c, .slice b m d] w fun e w' => ∃ vs' b' d', e = .returned (.tuple #[.slice a n c, .slice b' (m + 1) d', .bool true]) ∧ TrG Fo B P most y W (T ++ [bkR q x]) vs' (.slice a n c) (.slice b' (m + 1) d') f3 f4 w' ∧ Below B w w' := by
  have hLn : (W ++ [q]).length = p := by rw [List.length_append, hn, hp]; rfl
  obtain ⟨g, rfl, hgl, c0, c1, c2, c3⟩ := h.were.cell hLn n (by omega)
  have hgt : (W ++ [q]).getD n q0 = q := by rw [List.getD, List.getElem?_append_right (by omega), hn, Nat.sub_self]; rfl
  rw [hgt] at c0 c1 c2 c3
  have hroom := h.were.room hLn
  have hcut : ∀ w : World, (Instr.slice 47 (.slice (some ⟨g, 0, none⟩) p c) none (some (.int .i64 (n : Int))) none).run Tryd.prog w = .ok (.slice (some ⟨g, 0, none⟩) n c) w := fun w => run_cutSH w g p c n (by omega) hroom (by omega)
  have H := Lib.hid h
  have DR : Hid (∀ (pt : Nat) (w2 : World), Below w.heap.size w w2 → w2.cell? ⟨pt, 0, none⟩ = some (.pointer (some ⟨P, 1, none⟩)) → Calls Tryd.prog 36 #[.agg (stA q), .pointer (some ⟨pt, 0, none⟩)] w2 fun e w3 => e = .returned (.agg (stA (bkR q x))) ∧ ∃ vs', TrG Fo B P most y (W ++ [q]) T vs' (.slice (some ⟨g, 0, none⟩) p c) (.slice b m d) f3 f4 w3 ∧ Below B w w3 ∧ w3.cell? ⟨g, n * 4, none⟩ = some (.int .i64 (q.1.1 : Int)) ∧ w3.cell? ⟨g, n * 4 + 1, none⟩ = some (.slice q.2.1.1 q.1.2.1.length q.2.1.2) ∧ w3.cell? ⟨g, n * 4 + 2, none⟩ = some (.slice q.2.2.1 q.1.2.2.1.length q.2.2.2) ∧ w3.cell? ⟨g, n * 4 + 3, none⟩ = some (.int .i64 q.1.2.2.2)) := Lib.hid fun pt w2 hb hpt => by
    have h2 := h.below hb
    have hs := h2.stW q (List.mem_append_right _ (List.mem_singleton_self q))
    refine (doer_any pt P most vs f3 f4 x y q w2 hpt h2.blk (h2.now.mono (Nat.zero_le _)) hld (hs.mono fun k hk => ⟨hk.2.2.1, hk.2.2.2.1⟩) hx hy).mono ?_
    rintro e w3 ⟨rfl, hd⟩
    obtain ⟨vs', h3, hb3⟩ := h2.does (Nat.le_trans hB hb.size) hd
    obtain ⟨g', eg, _, c0', c1', c2', c3'⟩ := h3.were.cell hLn n (by omega)
    have e2 : g = g' := by injection eg with eg; injection eg
    subst e2
    rw [hgt] at c0' c1' c2' c3'
    exact ⟨rfl, vs', h3, (hb.mono hB).trans hb3, c0', c1', c2', c3'⟩
  obtain ⟨bk, hbk⟩ : ∃ bk, bkR q x = bk := ⟨_, rfl⟩
  have hsb : stA bk = #[.int .i64 (q.1.1 : Int), .slice q.2.2.1 q.1.2.2.1.length q.2.2.2, .slice q.2.1.1 q.1.2.1.length q.2.1.2, .int .i64 x.2] := by rw [← hbk]; rfl
  have hBK := Lib.hid hbk
  rw [hbk] at DR
  rw [hsb] at DR
  unfold stA at DR
  have hfin : Hid (∀ (w3 w' : World) (vs' : Value) (b' : Option Addr) (d' : Nat), TrG Fo B P most y (W ++ [q]) T vs' (.slice (some ⟨g, 0, none⟩) p c) (.slice b m d) f3 f4 w3 → Below B w w3 → OwT w' B (.slice b' (m + 1) d') (T ++ [bk]) → w3.grownBy w' (Value.slice b m d).ownBlock → (∀ k, (Value.slice b' (m + 1) d').ownBlock = some k → (Value.slice b m d).ownBlock = some k ∨ w3.heap.size ≤ k) →
      TrG Fo B P most y W (T ++ [bk]) vs' (.slice (some ⟨g, 0, none⟩) n c) (.slice b' (m + 1) d') f3 f4 w' ∧ Below B w w') := Lib.hid fun w3 w' vs' b' d' h3 hb3 ho hg hk => by
    rw [hp] at h3
    rw [← hbk] at ho ⊢
    have := h3.over hn (Nat.le_trans hB hb3.size) ho hg hk
    exact ⟨this.1, hb3.trans this.2⟩
  have hnews : Hid (∀ (w3 : World) (T : TypeId), ∀ j u, (tC [bk])[j]? = some u → (w3.alloc (.cells #[.int .i64 (q.1.1 : Int), .slice q.2.2.1 q.1.2.2.1.length q.2.2.2, .slice q.2.1.1 q.1.2.1.length q.2.1.2, .int .i64 x.2] T)).cell? ((⟨w3.heap.size, 0, none⟩ : Addr).add j) = some u) := Lib.hid fun w3 T => by
    rw [← hsb]
    exact sta_news (heap_alloc_new w3 (.cells (stA bk) T))
  obtain ⟨⟨pl, G, C, at'⟩, ⟨ga, gc⟩, ⟨ca, cc⟩⟩ := q
  dsimp only at *
  obtain ⟨gl, hgl2⟩ : ∃ gl, G.length = gl := ⟨_, rfl⟩
  obtain ⟨cl, hcl2⟩ : ∃ cl, C.length = cl := ⟨_, rfl⟩
  rw [hgl2] at c1 DR hnews
  rw [hcl2] at c2 DR hnews
  have hGL := Lib.hid hgl
  have hHM := Lib.hid hm
  have hsub : IntKind.i64.wrap ((p : Int) - 1) = (n : Int) := by rw [IntKind.wrap_i64]; omega
  have hp0 : ¬ p = 0 := by omega
  have hnp : (n : Int) < (p : Int) := by omega
  have hnp' : n < p := by omega
  have h0n : (0 : Int) ≤ (n : Int) := by omega
  have hBW := Lib.hid hB
  clear h hn hp hm hld hB hx hy hLn hgl hgt hroom hbk hsb hgl2 hcl2 hp1
  go_enter Tryd.func22, Tryd.ntmps22
  go_upto_region 4 with fail
  go_region_held3 (fun w' => w'.cell? ⟨g, n * 4, none⟩ = some (.int .i64 (pl : Int)) ∧ w'.cell? ⟨g, n * 4 + 1, none⟩ = some (.slice ga gl gc) ∧ w'.cell? ⟨g, n * 4 + 2, none⟩ = some (.slice ca cl cc) ∧ w'.cell? ⟨g, n * 4 + 3, none⟩ = some (.int .i64 at')) (first | exact ⟨c0, c1, c2, c3⟩ | exact ⟨d0, d1, d2, d3⟩ | exact ⟨e0, e1, e2, e3⟩ | exact ⟨ea0 _, ea1 _, ea2 _, ea3 _⟩ | exact ⟨k0, k1, k2, k3⟩ | go_keep)
    (first
      | (go_at_call 25
         refine (udoer_b P _).mono ?_
         rintro e w2 ⟨pt, rfl, hpt, hb2⟩
         have hb2' := (Below.refl w.heap.size w).drew.trans hb2
         have d0 := (hb2'.cell (p := ⟨g, n * 4, none⟩) hGL.out).trans c0
         have d1 := (hb2'.cell (p := ⟨g, n * 4 + 1, none⟩) hGL.out).trans c1
         have d2 := (hb2'.cell (p := ⟨g, n * 4 + 2, none⟩) hGL.out).trans c2
         have d3 := (hb2'.cell (p := ⟨g, n * 4 + 3, none⟩) hGL.out).trans c3
         have B2 := Lib.hid hb2'
         have PT := Lib.hid hpt
         clear hb2 hb2' hpt)
      | (go_at_call 36
         refine (DR.out pt w2 B2.out PT.out).mono ?_
         rintro e w3 ⟨rfl, vs3, h3', hb3, e0, e1, e2, e3⟩
         have ea0 := fun o => (below_alloc w3 o).cell (p := ⟨g, n * 4, none⟩) (block_lt_of_cell e0) |>.trans e0
         have ea1 := fun o => (below_alloc w3 o).cell (p := ⟨g, n * 4 + 1, none⟩) (block_lt_of_cell e1) |>.trans e1
         have ea2 := fun o => (below_alloc w3 o).cell (p := ⟨g, n * 4 + 2, none⟩) (block_lt_of_cell e2) |>.trans e2
         have ea3 := fun o => (below_alloc w3 o).cell (p := ⟨g, n * 4 + 3, none⟩) (block_lt_of_cell e3) |>.trans e3
         have h3 := Lib.hid h3'
         have hB3 := Lib.hid (Nat.le_trans hBW.out hb3.size)
         have HB3 := Lib.hid hb3
         clear h3' hb3)
      | (refine step_app_step (by rfl) _ _ (by rfl) B (.slice b m d) m T (by rfl) hHM.out (h3.out.taken.below (below_alloc _ _)) w3.heap.size 1 bk (by rfl) (hnews.out w3 _) (by omega) (Nat.le_trans hB3.out (below_alloc _ _).size) ?_
         intro ad5 c5 w5 o5 g5 p5
         have hap := fun e => h3.out.ap g rfl e
         have k0 := g5.cell (ea0 _) (fun e => hap e.symm)
         have k1 := g5.cell (ea1 _) (fun e => hap e.symm)
         have k2 := g5.cell (ea2 _) (fun e => hap e.symm)
         have k3 := g5.cell (ea3 _) (fun e => hap e.symm)
         have HF := Lib.hid (hfin.out _ w5 vs3 ad5 c5 (h3.out.below (below_alloc _ _)) (HB3.out.trans ((below_alloc _ _).mono hB3.out)) o5 g5 p5)
         clear o5 g5 p5 hap))
  go_wp2
  refine bodyPost_ret (results_tmp3 rfl _ _ _) rfl ?_
  rw [hBK.out]
  exact ⟨vs3, ad5, c5, rfl, HF.out⟩
end Go.Proofs.YtjgffedcbdnddaaDoor
set_option linter.unusedVariables false
set_option linter.unusedSimpArgs false
namespace Go.Proofs.YtjgffedcbdnddaaDoor
open Go.RowKit
section
variable {Fo : Nat → Obj → Prop} {B P : Nat} {most : Int} {x y : ULn} {W T : List StR} {vs rw rt f3 f4 : Value} {w w' : World}
theorem own_typV {v : Value} {R : List StR} (h : OwT w B v R) (hP : w.heap[P]? = some (.cells #[.int .i64 most, vs, .int .i64 x.2, f3, f4] 49 (0, 0))) : v.ownBlock ≠ some P := own_typT h hP typTs
theorem TrG.put (h : TrG Fo B P most x W T vs rw rt f3 f4 w) (i : Nat) (u g3 g4 : Value) (hc : (#[Value.int .i64 most, vs, .int .i64 x.2, f3, f4] : Array Value).setIfInBounds i u = #[.int .i64 most, vs, .int .i64 x.2, g3, g4]) : TrG Fo B P most x W T vs rw rt g3 g4 (w.setCell ⟨P, i, none⟩ u) := by
  have hs : (w.setCell ⟨P, i, none⟩ u).heap.size = w.heap.size := by simp
  have hF : ∀ k, k ≠ P → (w.setCell ⟨P, i, none⟩ u).heap[k]? = w.heap[k]? := fun k hk => Below.heap_setCell w ⟨P, i, none⟩ u k hk
  have hv : vs.ownBlock ≠ some P := own_typS h.now h.blk typTr
  have hw : rw.ownBlock ≠ some P := own_typT h.were h.blk typTs
  have ht : rt.ownBlock ≠ some P := own_typT h.taken h.blk typTs
  have b1 := blk_set h.blk i u
  rw [hc] at b1
  refine ⟨b1, h.now.keep fun k hk => hF k (fun e => hv (e ▸ hk)), h.were.keep fun k hk => hF k (fun e => hw (e ▸ hk)), h.taken.keep fun k hk => hF k (fun e => ht (e ▸ hk)), h.ap, fun q hq => ?_, fun q hq => ?_, h.le, fun k o hk => ⟨FrS.up (Nat.le_of_eq hs.symm) k (h.fo k o hk).1, (hF k (h.fo k o hk).1.2.2.1).trans (h.fo k o hk).2⟩⟩
  · exact ((h.stW q hq).keep (Nat.le_of_eq hs.symm) (fun k hk => hF k hk.2.2.1)).mono (FrS.up (Nat.le_of_eq hs.symm))
  · exact ((h.stT q hq).keep (Nat.le_of_eq hs.symm) (fun k hk => hF k hk.2.2.1)).mono (FrS.up (Nat.le_of_eq hs.symm))
theorem TrG.two (h : TrG Fo B P most x W T vs rw rt f3 f4 w) (g3 g4 : Value) : TrG Fo B P most x W T vs rw rt g3 g4 ((w.setCell ⟨P, 3, none⟩ g3).setCell ⟨P, 4, none⟩ g4) ∧ TrG Fo B P most x W T vs rw rt g3 g4 ((w.setCell ⟨P, 4, none⟩ g4).setCell ⟨P, 3, none⟩ g3) :=
  ⟨(h.put 3 g3 g3 f4 rfl).put 4 g4 g3 g4 rfl, (h.put 4 g4 f3 g4 rfl).put 3 g3 g3 g4 rfl⟩
end
set_option maxHeartbeats 4000000 in
theorem uback_walk {Fo : Nat → Obj → Prop} {B P : Nat} {most : Int} {x y : ULn} {W T W' T' : List StR} {vs rw rt : Value} {ok : Bool} {w : World} (h : TrS Fo B P most x W T vs rw rt w)
    (TK : ∀ w1, Below w.heap.size w w1 → Calls Tryd.prog 22 #[.pointer (some ⟨P, 0, none⟩), rw, rt] w1 fun e w' => ∃ vs' ra rn rc ta tn tc, e = .returned (.tuple #[.slice ra rn rc, .slice ta tn tc, .bool ok]) ∧ TrG Fo B P most y W' T' vs' (.slice ra rn rc) (.slice ta tn tc) rw rt w' ∧ Below B w w') :
    Calls Tryd.prog 11 #[.pointer (some ⟨P, 0, none⟩)] w fun e w' => e = .returned (.bool ok) ∧ ∃ vs' r t, TrS Fo B P most y W' T' vs' r t w' ∧ Below B w w' := by
  have y3 := cell_of_row _ _ 3 _ _ _ h.blk
  have y4 := cell_of_row _ _ 4 _ _ _ h.blk
  dsimp at y3 y4
  have TKh := Lib.hid TK
  have hle := h.le
  have HL := Lib.hid hle
  clear h TK hle
  go_enter Tryd.func11, Tryd.ntmps11
  go_upto_region 4 with fail
  go_region_law
    (first | (go_simp
              go_at_call 22
              refine (TKh.out _ (Below.refl _ w).drew).mono ?_
              rintro e w5 ⟨vs5, ra, rn, rc, ta, tn, tc, rfl, h5', hb5⟩
              have H5 := Lib.hid h5'
              have D5 := Lib.hid hb5
              have z3 := cell_of_row _ _ 3 _ _ _ h5'.blk
              have z4 := cell_of_row _ _ 4 _ _ _ h5'.blk
              have zf := fun i => frozen_of_row _ P i _ _ h5'.blk
              have ba := blk_set h5'.blk 3 (.slice ra rn rc)
              have bb := blk_set h5'.blk 4 (.slice ta tn tc)
              have a4 := cell_of_row _ _ 4 _ _ _ ba
              have af := fun i => frozen_of_row _ P i _ _ ba
              have b3 := cell_of_row _ _ 3 _ _ _ bb
              have bf := fun i => frozen_of_row _ P i _ _ bb
              dsimp at z3 z4 a4 b3
              clear h5' hb5 ba bb))
  all_goals
    go_wp2
    go_ret
    refine ⟨rfl, vs5, .slice ra rn rc, .slice ta tn tc, ?_⟩
    first
      | exact ⟨(H5.out.two (.slice ra rn rc) (.slice ta tn tc)).1.s, Below.setCell (p := ⟨P, 4, none⟩) (Below.setCell (p := ⟨P, 3, none⟩) D5.out HL.out (.slice ra rn rc)) HL.out (.slice ta tn tc)⟩
      | exact ⟨(H5.out.two (.slice ra rn rc) (.slice ta tn tc)).2.s, Below.setCell (p := ⟨P, 3, none⟩) (Below.setCell (p := ⟨P, 4, none⟩) D5.out HL.out (.slice ta tn tc)) HL.out (.slice ra rn rc)⟩
end Go.Proofs.YtjgffedcbdnddaaDoor
set_option linter.unusedVariables false
set_option linter.unusedSimpArgs false
namespace Go.Proofs.YtjgffedcbdnddaaDoor
open Go.RowKit
set_option maxHeartbeats 4000000 in
theorem uforth_walk {Fo : Nat → Obj → Prop} {B P : Nat} {most : Int} {x y : ULn} {W T W' T' : List StR} {vs rw rt : Value} {ok : Bool} {w : World} (h : TrS Fo B P most x W T vs rw rt w)
    (TK : ∀ w1, Below w.heap.size w w1 → Calls Tryd.prog 22 #[.pointer (some ⟨P, 0, none⟩), rt, rw] w1 fun e w' => ∃ vs' ra rn rc ta tn tc, e = .returned (.tuple #[.slice ra rn rc, .slice ta tn tc, .bool ok]) ∧ TrG Fo B P most y T' W' vs' (.slice ra rn rc) (.slice ta tn tc) rw rt w' ∧ Below B w w') :
    Calls Tryd.prog 12 #[.pointer (some ⟨P, 0, none⟩)] w fun e w' => e = .returned (.bool ok) ∧ ∃ vs' r t, TrS Fo B P most y W' T' vs' r t w' ∧ Below B w w' := by
  have y3 := cell_of_row _ _ 3 _ _ _ h.blk
  have y4 := cell_of_row _ _ 4 _ _ _ h.blk
  dsimp at y3 y4
  have TKh := Lib.hid TK
  have hle := h.le
  have HL := Lib.hid hle
  clear h TK hle
  go_enter Tryd.func12, Tryd.ntmps12
  go_upto_region 4 with fail
  go_region_law
    (first | (go_simp
              go_at_call 22
              refine (TKh.out _ (Below.refl _ w).drew).mono ?_
              rintro e w5 ⟨vs5, ra, rn, rc, ta, tn, tc, rfl, h5', hb5⟩
              have H5 := Lib.hid h5'
              have D5 := Lib.hid hb5
              have z3 := cell_of_row _ _ 3 _ _ _ h5'.blk
              have z4 := cell_of_row _ _ 4 _ _ _ h5'.blk
              have zf := fun i => frozen_of_row _ P i _ _ h5'.blk
              have ba := blk_set h5'.blk 3 (.slice ta tn tc)
              have bb := blk_set h5'.blk 4 (.slice ra rn rc)
              have a4 := cell_of_row _ _ 4 _ _ _ ba
              have af := fun i => frozen_of_row _ P i _ _ ba
              have b3 := cell_of_row _ _ 3 _ _ _ bb
              have bf := fun i => frozen_of_row _ P i _ _ bb
              dsimp at z3 z4 a4 b3
              clear h5' hb5 ba bb))
  all_goals
    go_wp2
    go_ret
    refine ⟨rfl, vs5, .slice ta tn tc, .slice ra rn rc, ?_⟩
    first
      | exact ⟨(H5.out.swap.two (.slice ta tn tc) (.slice ra rn rc)).1.s, Below.setCell (p := ⟨P, 4, none⟩) (Below.setCell (p := ⟨P, 3, none⟩) D5.out HL.out (.slice ta tn tc)) HL.out (.slice ra rn rc)⟩
      | exact ⟨(H5.out.swap.two (.slice ta tn tc) (.slice ra rn rc)).2.s, Below.setCell (p := ⟨P, 3, none⟩) (Below.setCell (p := ⟨P, 4, none⟩) D5.out HL.out (.slice ra rn rc)) HL.out (.slice ta tn tc)⟩
section
variable {Fo : Nat → Obj → Prop} {B P : Nat} {most : Int} {x y : ULn} {W T : List StR} {q : StR} {vs rw rt : Value} {w : World}
theorem uback_no (h : TrS Fo B P most x [] T vs rw rt w) (hB : B ≤ w.heap.size) :
    Calls Tryd.prog 11 #[.pointer (some ⟨P, 0, none⟩)] w fun e w' => e = .returned (.bool false) ∧ ∃ vs' r t, TrS Fo B P most x [] T vs' r t w' ∧ Below B w w' := by
  obtain ⟨a, c, rfl⟩ := h.were.form (n := 0) rfl
  obtain ⟨b, d, rfl⟩ := h.taken.form rfl
  refine uback_walk h (fun w1 hb => (utake_none (.pointer (some ⟨P, 0, none⟩)) a c (.slice b T.length d) w1).mono ?_)
  rintro e w' ⟨rfl, rfl⟩
  exact ⟨vs, a, 0, c, b, T.length, d, rfl, h.g.below hb, hb.mono hB⟩
theorem uforth_no (h : TrS Fo B P most x W [] vs rw rt w) (hB : B ≤ w.heap.size) :
    Calls Tryd.prog 12 #[.pointer (some ⟨P, 0, none⟩)] w fun e w' => e = .returned (.bool false) ∧ ∃ vs' r t, TrS Fo B P most x W [] vs' r t w' ∧ Below B w w' := by
  obtain ⟨a, c, rfl⟩ := h.taken.form (n := 0) rfl
  obtain ⟨b, d, rfl⟩ := h.were.form rfl
  refine uforth_walk h (fun w1 hb => (utake_none (.pointer (some ⟨P, 0, none⟩)) a c (.slice b W.length d) w1).mono ?_)
  rintro e w' ⟨rfl, rfl⟩
  exact ⟨vs, a, 0, c, b, W.length, d, rfl, h.g.swap.below hb, hb.mono hB⟩
theorem uback_yes (h : TrS Fo B P most x (W ++ [q]) T vs rw rt w) (hl : Ld q.1 x y) (hB : B ≤ w.heap.size) (hx : x.1.length ≤ 100000) (hy : y.1.length ≤ 100000) (hW : W.length + 1 ≤ 10000) (hT : T.length ≤ 10000) :
    Calls Tryd.prog 11 #[.pointer (some ⟨P, 0, none⟩)] w fun e w' => e = .returned (.bool true) ∧ ∃ vs' r t, TrS Fo B P most y W (T ++ [bkR q x]) vs' r t w' ∧ Below B w w' := by
  obtain ⟨a, c, rfl⟩ := h.were.form (n := W.length + 1) (by rw [List.length_append]; rfl)
  obtain ⟨b, d, rfl⟩ := h.taken.form rfl
  refine uback_walk h (fun w1 hb => (utake_any (h.g.below hb) rfl rfl rfl hl (Nat.le_trans hB hb.size) hx hy hW hT).mono ?_)
  rintro e w' ⟨vs', b', d', rfl, h', hb'⟩
  exact ⟨vs', a, W.length, c, b', T.length + 1, d', rfl, h', (hb.mono hB).trans hb'⟩
theorem uforth_yes (h : TrS Fo B P most x W (T ++ [q]) vs rw rt w) (hl : Ld q.1 x y) (hB : B ≤ w.heap.size) (hx : x.1.length ≤ 100000) (hy : y.1.length ≤ 100000) (hW : W.length ≤ 10000) (hT : T.length + 1 ≤ 10000) :
    Calls Tryd.prog 12 #[.pointer (some ⟨P, 0, none⟩)] w fun e w' => e = .returned (.bool true) ∧ ∃ vs' r t, TrS Fo B P most y (W ++ [bkR q x]) T vs' r t w' ∧ Below B w w' := by
  obtain ⟨a, c, rfl⟩ := h.taken.form (n := T.length + 1) (by rw [List.length_append]; rfl)
  obtain ⟨b, d, rfl⟩ := h.were.form rfl
  refine uforth_walk h (fun w1 hb => (utake_any (h.g.swap.below hb) rfl rfl rfl hl (Nat.le_trans hB hb.size) hx hy hT hW).mono ?_)
  rintro e w' ⟨vs', b', d', rfl, h', hb'⟩
  exact ⟨vs', a, T.length, c, b', W.length + 1, d', rfl, h', (hb.mono hB).trans hb'⟩
end
end Go.Proofs.YtjgffedcbdnddaaDoor
set_option linter.unusedVariables false
set_option linter.unusedSimpArgs false
namespace Go.Proofs.YtjgffedcbdnddaaDoor
open Go.RowKit
theorem TrS.at {Fo : Nat → Obj → Prop} {B P : Nat} {most : Int} {x : ULn} {W T : List StR} {vs rw rt : Value} {w : World} (h : TrS Fo B P most x W T vs rw rt w) (k : Int) : TrS Fo B P most (x.1, k) W T vs rw rt (w.setCell ⟨P, 2, none⟩ (.int .i64 k)) := by
  have hs : (w.setCell ⟨P, 2, none⟩ (.int .i64 k)).heap.size = w.heap.size := by simp
  have hF : ∀ j, j ≠ P → (w.setCell ⟨P, 2, none⟩ (.int .i64 k)).heap[j]? = w.heap[j]? := fun j hj => Below.heap_setCell w ⟨P, 2, none⟩ _ j hj
  have hv : vs.ownBlock ≠ some P := own_typS h.now h.blk typTr
  have hw : rw.ownBlock ≠ some P := own_typT h.were h.blk typTs
  have ht : rt.ownBlock ≠ some P := own_typT h.taken h.blk typTs
  refine ⟨blk_set h.blk 2 _, h.now.keep fun j hj => hF j (fun e => hv (e ▸ hj)), h.were.keep fun j hj => hF j (fun e => hw (e ▸ hj)), h.taken.keep fun j hj => hF j (fun e => ht (e ▸ hj)), h.ap, fun q hq => ?_, fun q hq => ?_, h.le, fun k o hk => ⟨FrS.up (Nat.le_of_eq hs.symm) k (h.fo k o hk).1, (hF k (h.fo k o hk).1.2.2.1).trans (h.fo k o hk).2⟩⟩
  · exact ((h.stW q hq).keep (Nat.le_of_eq hs.symm) (fun j hj => hF j hj.2.2.1)).mono (FrS.up (Nat.le_of_eq hs.symm))
  · exact ((h.stT q hq).keep (Nat.le_of_eq hs.symm) (fun j hj => hF j hj.2.2.1)).mono (FrS.up (Nat.le_of_eq hs.symm))
theorem uset_nil (a : Option Addr) (n c : Nat) (xi : Int) (j : Bool) (w : World) : Calls Tryd.prog 13 #[.pointer none, .agg #[.slice a n c, .int .i64 xi], .bool j] w fun e w' => e = .returned (.int .i64 1) ∧ Below w.heap.size w w' := by
  have HB := Lib.hid (below_alloc w (.cells #[.slice a n c, .int .i64 xi] 30))
  go_enter Tryd.func13, Tryd.ntmps13
  go_wp2
  go_ret
  exact ⟨rfl, HB.out⟩
set_option maxHeartbeats 2000000 in
theorem uset_arg (P : Nat) (L : List Sn) (a : Option Addr) (n c : Nat) (xi : Int) (j : Bool) (w : World) (hn : L.length = n) (hl : n ≤ 90000) (hs : Signs w a L) (hr : mayL L xi = false) :
    Calls Tryd.prog 13 #[.pointer (some ⟨P, 0, none⟩), .agg #[.slice a n c, .int .i64 xi], .bool j] w fun e w' => e = .returned (.int .i64 2) ∧ Below w.heap.size w w' := by
  have hb := below_alloc w (.cells #[.slice a n c, .int .i64 xi] 30)
  have hr0 := heap_alloc_new w (.cells #[.slice a n c, .int .i64 xi] 30)
  have RT := lw_rt L a n c xi (w.alloc (.cells #[.slice a n c, .int .i64 xi] 30)) hn hl (hs.below hb)
  rw [hr] at RT
  have RTh := Lib.hid RT
  have HB := Lib.hid hb
  have y0 := cell_of_row _ _ 0 _ _ _ hr0
  have y1 := cell_of_row _ _ 1 _ _ _ hr0
  dsimp at y0 y1
  clear hb hr0 RT hs hr
  go_enter Tryd.func13, Tryd.ntmps13
  go_wp2_with (go_at_call 23; refine RTh.out.mono ?_; rintro e w2 ⟨rfl, hb2⟩)
  go_ret
  exact ⟨rfl, seqB HB.out hb2⟩
set_option maxHeartbeats 4000000 in
theorem uset_same {Fo : Nat → Obj → Prop} {B P : Nat} {most : Int} {x : ULn} {W T : List StR} {vs rw rt : Value} {w : World} (h : TrS Fo B P most x W T vs rw rt w) (L : List Sn) (a : Option Addr) (n c : Nat) (xi : Int) (j : Bool) (hn : L.length = n) (hl : n ≤ 90000) (hs : Signs w a L) (hr : mayL L xi = true) (he : sgS L x.1 = true) (hx : x.1.length ≤ 90000) (hB : B ≤ w.heap.size) :
    Calls Tryd.prog 13 #[.pointer (some ⟨P, 0, none⟩), .agg #[.slice a n c, .int .i64 xi], .bool j] w fun e w' => e = .returned (.int .i64 0) ∧ TrS Fo B P most (x.1, xi) W T vs rw rt w' ∧ Below B w w' := by
  obtain ⟨va, vc, rfl, vsl⟩ := h.now.sl
  obtain ⟨vn, hvn⟩ : ∃ vn, x.1.length = vn := ⟨_, rfl⟩
  have hb := below_alloc w (.cells #[.slice a n c, .int .i64 xi] 30)
  have hr0 := heap_alloc_new w (.cells #[.slice a n c, .int .i64 xi] 30)
  obtain ⟨R, hR⟩ : ∃ R, w.heap.size = R := ⟨_, rfl⟩
  obtain ⟨W1, hW1⟩ : ∃ W1, w.alloc (.cells #[.slice a n c, .int .i64 xi] 30) = W1 := ⟨_, rfl⟩
  rw [hW1] at hb hr0
  rw [hR] at hr0
  have RT := lw_rt L a n c xi W1 hn hl (hs.below hb)
  rw [hr] at RT
  have RTh := Lib.hid RT
  have SM : Hid (∀ w2, Below w.heap.size w w2 → Calls Tryd.prog 24 #[.slice a n c, .slice va vn vc] w2 fun e w3 => e = .returned (.bool true) ∧ Below w2.heap.size w2 w3) := Lib.hid fun w2 hb2 => by
    have := ssame_any L x.1 a va c vc w2 (by omega) (by omega) (hs.below hb2) (vsl.s.below hb2)
    rw [hn, hvn, he] at this
    exact this
  rw [hvn] at h
  have HVN := Lib.hid hvn
  have H := Lib.hid h
  have HB := Lib.hid hb
  have HR := Lib.hid hR
  have R1 := Lib.hid hr0
  have y0 := cell_of_row _ _ 0 _ _ _ hr0
  have y1 := cell_of_row _ _ 1 _ _ _ hr0
  dsimp at y0 y1
  have hle := Lib.hid (show B ≤ P from h.le)
  have hBW := Lib.hid hB
  clear hb hr0 RT hs hr h he hx hvn vsl hB hn hl
  go_enter Tryd.func13, Tryd.ntmps13
  go_upto_region 5 with (go_at_call 23; refine RTh.out.mono ?_; rintro e w2 ⟨rfl, hb2⟩; have B2 := Lib.hid (seqB HB.out hb2); have R2 := Lib.hid (blk_below R1.out hb2); have H2 := Lib.hid (H.out.below B2.out); have z0 := cell_of_row _ _ 0 _ _ _ R2.out; have z1 := cell_of_row _ _ 1 _ _ _ R2.out; have p1 := cell_of_row _ _ 1 _ _ _ H2.out.blk; dsimp at z0 z1 p1; clear hb2)
  clear y0 y1
  go_region_held3 (fun w' => w'.cell? ⟨R, 0, none⟩ = some (.slice a n c) ∧ w'.cell? ⟨P, 1, none⟩ = some (.slice va vn vc)) (first | exact ⟨z0, p1⟩ | exact ⟨x0, q1⟩ | go_keep)
    (first | (go_at_call 24; refine (SM.out _ B2.out.drew).mono ?_; rintro e w3 ⟨rfl, hb3⟩; have B3 := Lib.hid (B2.out.drew.trans (hb3.mono B2.out.drew.size)); have R3 := Lib.hid (blk_below (w := w2.drew) R2.out hb3); have H3 := Lib.hid (H.out.below B3.out); have x0 := cell_of_row _ _ 0 _ _ _ R3.out; have x1 := cell_of_row _ _ 1 _ _ _ R3.out; have q1 := cell_of_row _ _ 1 _ _ _ H3.out.blk; have q2 := cell_of_row _ _ 2 _ _ _ H3.out.blk; have qf := fun i => frozen_of_row _ P i _ _ H3.out.blk; dsimp at x0 x1 q1 q2; clear hb3))
  all_goals
    go_wp2
    go_ret
    rw [HVN.out]
    exact ⟨rfl, H3.out.at xi, Below.setCell (p := ⟨P, 2, none⟩) (B3.out.mono hBW.out) hle.out (.int .i64 xi)⟩
end Go.Proofs.YtjgffedcbdnddaaDoor
set_option linter.unusedVariables false
set_option linter.unusedSimpArgs false
namespace Go.Proofs.YtjgffedcbdnddaaDoor
open Go.RowKit
section
variable {Fo : Nat → Obj → Prop} {B P : Nat} {most : Int} {x y : ULn} {W T : List StR} {vs rw rt f3 f4 : Value} {w w' : World}
/-- A step has been done that no row need hold. -/
theorem TrG.done (h : TrG Fo B P most x W T vs rw rt f3 f4 w) (hB : B ≤ w.heap.size) (hd : DoP P most vs f3 f4 y w w') :
    ∃ vs', TrG Fo B P most y W T vs' rw rt f3 f4 w' ∧ Below B w w' ∧ (∀ k, vs'.ownBlock = some k → vs.ownBlock = some k ∨ w.heap.size ≤ k) ∧ ∀ k, k < w.heap.size → k ≠ P → vs.ownBlock ≠ some k → w'.heap[k]? = w.heap[k]? := by
  obtain ⟨vs', e1, e2, e3⟩ := hd.ex
  have hF : ∀ k, FrS B P vs rw rt w k → w'.heap[k]? = w.heap[k]? := fun k hk => hd.oth k hk.2.1 hk.2.2.1 hk.2.2.2.1
  have hU : ∀ k, FrS B P vs rw rt w k → FrS B P vs' rw rt w' k := fun k hk => ⟨hk.1, Nat.lt_of_lt_of_le hk.2.1 hd.size, hk.2.2.1, fun e => by
    rcases e3 k e with e | e
    · exact hk.2.2.2.1 e
    · have := hk.2.1; omega, hk.2.2.2.2⟩
  have hb' : ∀ k, vs'.ownBlock = some k → B ≤ k := fun k hk => by
    rcases e3 k hk with e | e
    · exact (h.now.lt k e).1
    · omega
  have hrow : ∀ {u : Value} {R : List StR}, OwT w B u R → OwT w' B u R := fun {u R} hu => hu.keep fun k hk =>
    hd.oth k (hu.lt k hk).2 (fun e => own_typT hu h.blk typTs (e ▸ hk)) (fun e => own_ts h.now hu k e hk)
  refine ⟨vs', ⟨e1, e2.re hb', hrow h.were, hrow h.taken, h.ap, fun s hs => ((h.stW s hs).keep hd.size hF).mono hU, fun s hs => ((h.stT s hs).keep hd.size hF).mono hU, h.le, fun k o hk => ⟨hU k (h.fo k o hk).1, (hF k (h.fo k o hk).1).trans (h.fo k o hk).2⟩⟩, ⟨hd.os, hd.tape, hd.output, hd.size, fun k hk => ?_⟩, e3, hd.oth⟩
  have hle := h.le
  exact hd.oth k (by omega) (by omega) (fun e => by have := (h.now.lt k e).1; omega)
/-- A step is laid behind the row of those that were. -/
theorem TrG.add {s : StR} {rw' : Value} (h : TrG Fo B P most y W T vs rw rt f3 f4 w) (hB : B ≤ w.heap.size) (hs : StIn (FrS B P vs rw rt w) w s)
    (ho : OwT w' B rw' (W ++ [s])) (hg : w.grownBy w' rw.ownBlock) (hk : ∀ k, rw'.ownBlock = some k → rw.ownBlock = some k ∨ w.heap.size ≤ k) :
    TrG Fo B P most y (W ++ [s]) T vs rw' rt f3 f4 w' ∧ Below B w w' := by
  have hPk : rw.ownBlock ≠ some P := own_typT h.were h.blk typTs
  have hF : ∀ k, FrS B P vs rw rt w k → w'.heap[k]? = w.heap[k]? := fun k hk => hg.block k hk.2.1 (fun e => hk.2.2.2.2.1 e.symm)
  have hU : ∀ k, FrS B P vs rw rt w k → FrS B P vs rw' rt w' k := fun k h1 => ⟨h1.1, Nat.lt_of_lt_of_le h1.2.1 hg.size, h1.2.2.1, h1.2.2.2.1, fun e => by
    rcases hk k e with e | e
    · exact h1.2.2.2.2.1 e
    · have := h1.2.1; omega, h1.2.2.2.2.2⟩
  refine ⟨⟨(hg.block P (blk_lt h.blk) (fun e => hPk e.symm)).trans h.blk, h.now.keep fun k e => hg.block k (h.now.lt k e).2 (fun e2 => own_ts h.now h.were k e e2.symm), ho,
    h.taken.keep fun k e => hg.block k (h.taken.lt k e).2 (fun e2 => h.ap k e2.symm e), fun k e e2 => ?_, fun t ht => ?_, fun t ht => ((h.stT t ht).keep hg.size hF).mono hU, h.le, fun k o hk => ⟨hU k (h.fo k o hk).1, (hF k (h.fo k o hk).1).trans (h.fo k o hk).2⟩⟩,
    ⟨hg.os, hg.tape, hg.output, hg.size, fun k hk2 => hg.block k (by omega) (fun e => by have := (h.were.lt k e.symm).1; omega)⟩⟩
  · rcases hk k e with e3 | e3
    · exact h.ap k e3 e2
    · have := (h.taken.lt k e2).2; omega
  · rw [List.mem_append, List.mem_singleton] at ht
    rcases ht with ht | rfl
    · exact ((h.stW t ht).keep hg.size hF).mono hU
    · exact (hs.keep hg.size hF).mono hU
/-- What was taken back is forgotten. -/
theorem TrG.forget (h : TrG Fo B P most x W T vs rw rt f3 f4 w) : TrG Fo B P most x W [] vs rw (.slice none 0 0) f3 f4 w :=
  ⟨h.blk, h.now, h.were, owt_nil _ _, fun k _ e => (by cases e), fun q hq => (h.stW q hq).mono fun k hk => ⟨hk.1, hk.2.1, hk.2.2.1, hk.2.2.2.1, hk.2.2.2.2.1, fun e => (by cases e)⟩, fun q hq => (by cases hq), h.le, fun k o hk => ⟨⟨(h.fo k o hk).1.1, (h.fo k o hk).1.2.1, (h.fo k o hk).1.2.2.1, (h.fo k o hk).1.2.2.2.1, (h.fo k o hk).1.2.2.2.2.1, fun e => (by cases e)⟩, (h.fo k o hk).2⟩⟩
/-- The oldest step goes. -/
theorem TrG.cut {rw' : Value} (h : TrG Fo B P most x W T vs rw rt f3 f4 w) (hB : B ≤ w.heap.size) (ho : OwT w' B rw' W.tail) (hg : w.grownBy w' rw.ownBlock) (hk : rw'.ownBlock = rw.ownBlock) :
    TrG Fo B P most x W.tail T vs rw' rt f3 f4 w' ∧ Below B w w' := by
  have hPk : rw.ownBlock ≠ some P := own_typT h.were h.blk typTs
  have hF : ∀ k, FrS B P vs rw rt w k → w'.heap[k]? = w.heap[k]? := fun k hk => hg.block k hk.2.1 (fun e => hk.2.2.2.2.1 e.symm)
  have hU : ∀ k, FrS B P vs rw rt w k → FrS B P vs rw' rt w' k := fun k h1 => ⟨h1.1, Nat.lt_of_lt_of_le h1.2.1 hg.size, h1.2.2.1, h1.2.2.2.1, by rw [hk]; exact h1.2.2.2.2.1, h1.2.2.2.2.2⟩
  refine ⟨⟨(hg.block P (blk_lt h.blk) (fun e => hPk e.symm)).trans h.blk, h.now.keep fun k e => hg.block k (h.now.lt k e).2 (fun e2 => own_ts h.now h.were k e e2.symm), ho,
    h.taken.keep fun k e => hg.block k (h.taken.lt k e).2 (fun e2 => h.ap k e2.symm e), fun k e e2 => h.ap k (hk ▸ e) e2, fun t ht => ((h.stW t (List.mem_of_mem_tail ht)).keep hg.size hF).mono hU, fun t ht => ((h.stT t ht).keep hg.size hF).mono hU, h.le, fun k o hk => ⟨hU k (h.fo k o hk).1, (hF k (h.fo k o hk).1).trans (h.fo k o hk).2⟩⟩,
    ⟨hg.os, hg.tape, hg.output, hg.size, fun k hk2 => hg.block k (by omega) (fun e => by have := (h.were.lt k e.symm).1; omega)⟩⟩
/-- The last step goes. -/
theorem TrG.last {q : StR} {n : Nat} {a : Option Addr} {c : Nat} (h : TrG Fo B P most x (W ++ [q]) T vs (.slice a (n + 1) c) rt f3 f4 w) (hn : W.length = n) : TrG Fo B P most x W T vs (.slice a n c) rt f3 f4 w := by
  have hown : (Value.slice a n c).ownBlock = (Value.slice a (n + 1) c).ownBlock := by cases a <;> rfl
  have hU : ∀ k, FrS B P vs (.slice a (n + 1) c) rt w k → FrS B P vs (.slice a n c) rt w k := fun k h1 => ⟨h1.1, h1.2.1, h1.2.2.1, h1.2.2.2.1, by rw [hown]; exact h1.2.2.2.2.1, h1.2.2.2.2.2⟩
  exact ⟨h.blk, h.now, h.were.pop hn, h.taken, fun k e => h.ap k (hown ▸ e), fun s hs => (h.stW s (List.mem_append_left _ hs)).mono hU, fun s hs => (h.stT s hs).mono hU, h.le, fun k o hk => ⟨hU k (h.fo k o hk).1, (h.fo k o hk).2⟩⟩
end
end Go.Proofs.YtjgffedcbdnddaaDoor
