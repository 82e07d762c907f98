/-
  view: awake.
-/
import Derived.Test.YtfhcfamjlhmgiaaDoorV2
import Derived.Test.YtfhcfamjlhmgiaaDoorV4
import Derived.Test.YtfhcfamjlhmgiaaDoorV5
set_option linter.unusedVariables false
set_option linter.unusedSimpArgs false
namespace Go.Proofs.YtfhcfamjlhmgiaaDoor
set_option maxRecDepth 100000
open Go.RowKit
def aw7p : List (Int × Int) := [(62, 5)]
def aw7l : List (Int × Int) := [(97, 0), (27, 0), (98, 0)]
def aw7C : List Cl := vwOf aw7p aw7l
theorem aw7_facts : sgC aw7p = true ∧ sgC aw7l = true ∧ sgC [((-1 : Int), (0 : Int))] = false ∧ aw7C.length = 5 ∧ fstM aw7C 2 = 4 ∧ ownM aw7C 3 = 1 ∧ ownM aw7C 5 = 3 ∧ encS (txV aw7C) = ⟨#[62, 97, 94, 91, 98]⟩ ∧ colM aw7p 1 = 1 ∧ (∀ j, j < 5 → -9223372036854775808 ≤ (aw7C.getD j cl0).2.2.1 ∧ (aw7C.getD j cl0).2.2.1 < 9223372036854775807) := by decide +kernel
/-- What awake holds: the tables, its prompt, its cells. -/
structure A7 (w : World) (p : Nat) (a : Option Addr) : Prop where
  t : Tabs w
  s : Signs w (some ⟨p, 0, none⟩) aw7p
  c : CellsIn w a aw7C
theorem A7.below {w w' : World} {p : Nat} {a : Option Addr} (h : A7 w p a) (hb : Below w.heap.size w w') : A7 w' p a := ⟨h.t.below hb, h.s.below hb, h.c.below hb⟩
set_option maxHeartbeats 4000000 in
theorem vawake_any (w : World) (hT : Tabs w) : Calls Tryd.prog 28 #[] w fun e w' => e = .returned (.bool true) ∧ Below w.heap.size w w' := by
  have ⟨f1, f2, f3, f4, f5, f6, f7, f8, f9, f10⟩ := aw7_facts
  have V := fun w1 a b c d (ha : Signs w1 a aw7p) (hb : Signs w1 b aw7l) (hT : Tabs w1) => (by
    refine (vof_yes aw7p aw7l a b c d w1 (by decide) (by decide) ha hb hT f1 f2).mono ?_
    rintro e w' ⟨x, rfl, hown, hb⟩
    obtain ⟨ca, cc, rfl, hci⟩ := cells_of_own hown
    exact ⟨ca, cc, by rw [show (vwOf aw7p aw7l).length = 5 from f4], hci, hb⟩ : Calls Tryd.prog 29 #[.slice a 1 c, .slice b 3 d] w1 fun e w' => ∃ ca cc, e = .returned (.tuple #[.slice ca 5 cc, .int .i64 0]) ∧ CellsIn w' ca aw7C ∧ Below w1.heap.size w1 w')
  have V2 := fun w1 a b c d (ha : Signs w1 a aw7p) (hb : Signs w1 b [(-1, 0)]) => vof_no aw7p [(-1, 0)] a b c d w1 (by decide) (by decide) ha hb (by rw [f3, Bool.and_false])
  have F := fun w1 a c (h : CellsIn w1 a aw7C) => first_any aw7C 2 a c w1 (by rw [f4]; decide) h
  have O1 := fun w1 a c (h : CellsIn w1 a aw7C) => own_any aw7C 3 a c w1 (by rw [f4]; decide) h (by rw [f4]; exact f10)
  have O2 := fun w1 a c (h : CellsIn w1 a aw7C) => own_any aw7C 5 a c w1 (by rw [f4]; decide) h (by rw [f4]; exact f10)
  have T := fun w1 a c (h : CellsIn w1 a aw7C) => vtext_any aw7C a c w1 (by rw [f4]; decide) h
  have K := fun w1 a c (h : Signs w1 a aw7p) hT => vcols_any aw7p a c w1 (by decide) h hT
  have hL : aw7p.length = 1 := rfl
  rw [f4, f5] at F; rw [f4, f6] at O1; rw [f4, f7] at O2; rw [f4, f8] at T; rw [hL, f9] at K; rw [hL] at V2
  replace V := Lib.hid V; replace V2 := Lib.hid V2; replace F := Lib.hid F; replace O1 := Lib.hid O1; replace O2 := Lib.hid O2; replace T := Lib.hid T; replace K := Lib.hid K
  have b1 := below_alloc w (.cells (sRow aw7p) 23)
  have b2 := below_alloc (w.alloc (.cells (sRow aw7p) 23)) (.cells (sRow aw7l) 23)
  have HS := Lib.hid ((signs_new w aw7p 23).below b2)
  have HL := Lib.hid (signs_new (w.alloc (.cells (sRow aw7p) 23)) aw7l 23)
  have hsz : (w.alloc (.cells (sRow aw7p) 23)).heap.size = w.heap.size + 1 := by simp
  rw [hsz] at HL
  have B12 := seqB b1 b2
  have HT := Lib.hid (hT.below B12)
  have HB := fun w1 => Lib.hid (signs_new w1 [((-1 : Int), (0 : Int))] 23)
  rw [show sRow aw7p = #[.int .i64 62, .int .i64 5] from rfl, show sRow aw7l = #[.int .i64 97, .int .i64 0, .int .i64 27, .int .i64 0, .int .i64 98, .int .i64 0] from rfl] at *
  replace HB := Lib.hid HB
  clear f1 f2 f3 f4 f5 f6 f7 f8 f9 f10 hT hL b1 b2 hsz
  go_enter Tryd.func28, Tryd.ntmps28
  go_wp2_with (first
    | (go_at_call 29; (with_reducible refine (V.out _ _ _ _ _ HS.out HL.out HT.out).mono ?_); rintro e w1 ⟨ca, cc, rfl, hci, hb1⟩; have K1 := Lib.hid (⟨HT.out.below hb1, HS.out.below hb1, hci⟩ : A7 w1 w.heap.size ca); clear hci)
    | (go_at_call 29; refine (V2.out _ _ _ _ _ (K1.out.below (below_alloc w1 (.cells #[.int .i64 (-1), .int .i64 0] 23))).s (HB.out w1).out).mono ?_; rintro e w2 ⟨rfl, hb2⟩; have K2 := Lib.hid ((K1.out.below (below_alloc w1 (.cells #[.int .i64 (-1), .int .i64 0] 23))).below hb2))
    | (go_at_call 33; refine (F.out _ _ _ K2.out.c).mono ?_; rintro e w3 ⟨rfl, hb3⟩; have K3 := Lib.hid (K2.out.below hb3))
    | (go_at_call 34; (with_reducible refine (O1.out _ _ _ K3.out.c).mono ?_); rintro e w4 ⟨rfl, hb4⟩; have K4 := Lib.hid (K3.out.below hb4))
    | (go_at_call 34; (with_reducible refine (O2.out _ _ _ K4.out.c).mono ?_); rintro e w5 ⟨rfl, hb5⟩; have K5 := Lib.hid (K4.out.below hb5))
    | (go_at_call 39; refine (T.out _ _ _ K5.out.c).mono ?_; rintro e w6 ⟨rfl, hb6⟩; have K6 := Lib.hid (K5.out.below hb6))
    | (go_at_call 32; refine (K.out _ _ _ K6.out.s K6.out.t).mono ?_; rintro e w7 ⟨rfl, hb7⟩))
  go_ret
  exact ⟨rfl, seqB (seqB (seqB (seqB (seqB (seqB (seqB (seqB B12 hb1) (below_alloc _ _)) hb2) hb3) hb4) hb5) hb6) hb7⟩
end Go.Proofs.YtfhcfamjlhmgiaaDoor
