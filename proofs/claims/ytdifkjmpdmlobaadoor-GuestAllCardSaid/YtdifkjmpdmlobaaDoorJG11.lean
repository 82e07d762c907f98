/-
  Joined: Gu10 UCom.
-/
import Derived.Test.YtdifkjmpdmlobaaDoorJG01
import Derived.Test.YtdifkjmpdmlobaaDoorJG03
import Derived.Test.YtdifkjmpdmlobaaDoorJG10
import Derived.Test.YtdifkjmpdmlobaaDoorCards
import Derived.Test.YtdifkjmpdmlobaaDoorTie
import Derived.Deep.DeepHandedRow
import Derived.Lib.LaidTab
import Derived.Lib.LaidU8
import Derived.Stop.LaidErr
set_option linter.unusedVariables false
set_option linter.unusedSimpArgs false
set_option maxRecDepth 100000
set_option linter.unusedVariables false
set_option linter.unusedSimpArgs false
namespace Go.Proofs.YtdifkjmpdmlobaaDoor
open Go.RowKit
section
variable {n : Int} {l : List ByteArray} {a : Option Addr} {t c Qn Ql Qr Qg : Nat} {L : List (Int × Int)} {xa : Option Addr} {m xc : Nat} {x : Int} {w : World}
theorem td_pan (hp : panN n) (b : Bool) : tdT n l b = [] ∧ tdE n b = 11 := by
  unfold panN at hp
  have h0 : ¬ n = 0 := by omega
  have h1 : ¬ n = 1 := by omega
  have h2 : ¬ (n = 2 ∨ n = 7) := by omega
  have h3 : ¬ (8 ≤ n ∧ n ≤ 20) := by omega
  unfold tdT tdE
  rw [if_neg h0, if_neg h0]
  cases b with
  | true => exact ⟨if_pos rfl, if_pos rfl⟩
  | false => exact ⟨by rw [if_neg (by decide), if_neg h1], by rw [if_neg (by decide), if_neg h1, if_neg h2, if_neg h3]⟩
theorem ask1_every (hU : UT w) (hz : ∀ i, i < l.length → (l.getD i ⟨#[]⟩).size ≤ 4096) (hK : AkB w Qr Qg (.func 64) Qn Ql) (hM : MdB w Qn Ql n a t c l) (hL : L.length = m) (hl : m ≤ 100000) (ht : t ≤ 1000) (hs : SlS (fun _ => True) w xa L xc) :
    Calls Tryd.prog 107 #[.agg #[.slice xa m xc, .int .i64 x], .pointer (some ⟨Qr, 0, none⟩), .pointer (some ⟨Qg, 0, none⟩)] w (RsPost (tdT n l false) (tdE n false) w) := by
  by_cases hp : panN n
  · obtain ⟨e1, e2⟩ := td_pan (l := l) hp false
    rw [e1, e2]
    exact ask1_pan hp hK hM hL hl (by omega) hs
  · refine ask1_ev _ _ hp hK hM hL hl (by omega) hs fun v w1 hv hb => ?_
    have hU1 := hU.below hb
    have hS1 := hM.s.below hb
    rcases hv with ⟨rfl, rfl⟩ | ⟨rfl, h0, rfl⟩ | ⟨rfl, h0, rfl⟩ | ⟨rfl, rfl⟩ | ⟨h7, h20, rfl⟩
    · exact every_texts l a t c w1 hU1 hM.len ht hz hS1
    · have hne : l ≠ [] := fun e => by have := hM.len; rw [e] at this; simp at this; omega
      have e1 : tdT 1 l false = [l.getD 0 ⟨#[]⟩] := by unfold tdT; rw [if_neg (by decide), if_neg (by decide), if_pos rfl, if_neg hne]
      rw [e1]
      exact every_one _ w1 hU1 (hz 0 (by rw [hM.len]; exact h0))
    · have hne : l = [] := List.eq_nil_of_length_eq_zero (by rw [hM.len]; exact h0)
      have e1 : tdT 1 l false = [⟨#[]⟩] := by unfold tdT; rw [if_neg (by decide), if_neg (by decide), if_pos rfl, if_pos hne]
      rw [e1]
      exact every_one _ w1 hU1 (by decide)
    · exact every_nil w1
    · have e1 : tdT n l false = [] := by unfold tdT; rw [if_neg (by omega), if_neg (by decide), if_neg (by omega)]
      rw [e1]
      by_cases h : n = 7
      · subst h
        exact every_zero w1
      · have e2 : tdE n false = n - 7 := by unfold tdE; rw [if_neg (by omega), if_neg (by decide), if_neg (by omega), if_neg (by omega), if_pos (by omega)]
        rw [e2]
        exact every_fail (n - 7) w1 (by omega)
theorem ask1_list (hU : UT w) (hz : ∀ i, i < l.length → (l.getD i ⟨#[]⟩).size ≤ 4096) (hK : AkB w Qr Qg (.func 68) Qn Ql) (hM : MdB w Qn Ql n a t c l) (hL : L.length = m) (hl : m ≤ 100000) (ht : t ≤ 1000) (hs : SlS (fun _ => True) w xa L xc) :
    Calls Tryd.prog 107 #[.agg #[.slice xa m xc, .int .i64 x], .pointer (some ⟨Qr, 0, none⟩), .pointer (some ⟨Qg, 0, none⟩)] w (RsPost (tdT n l true) (tdE n true) w) := by
  by_cases hp : panN n
  · obtain ⟨e1, e2⟩ := td_pan (l := l) hp true
    rw [e1, e2]
    exact ask1_pan hp hK hM hL hl (by omega) hs
  · by_cases h0 : n = 0
    · subst h0
      refine ask1_li _ _ hp hK hM hL hl (by omega) hs fun v w1 hv hb => ?_
      rcases hv with ⟨_, rfl⟩ | ⟨h, _⟩ | ⟨h, _⟩ | ⟨h, _⟩ | ⟨h, _⟩
      · exact list_texts l a t c w1 (hU.below hb) hM.len ht hz (hM.s.below hb)
      all_goals omega
    · have e1 : tdT n l true = [] := by unfold tdT; rw [if_neg h0, if_pos rfl]
      have e2 : tdE n true = 11 := by unfold tdE; rw [if_neg h0, if_pos rfl]
      rw [e1, e2]
      refine ask1_pan2 hp hK hM hL hl (by omega) hs fun v w1 hv => ?_
      rcases hv with ⟨h, rfl⟩ | ⟨_, _, rfl⟩ | ⟨_, _, rfl⟩ | ⟨_, rfl⟩ | ⟨_, _, rfl⟩
      · exact absurd h h0
      · exact list_one _ w1
      · exact list_one _ w1
      · exact list_nil w1
      · exact list_fail _ w1
theorem asker_any (RF : FuncId) (w : World) :
    Calls Tryd.prog 86 #[.iface 67 (.func (.func 65) #[] #[.pointer (some ⟨Qn, 0, none⟩), .pointer (some ⟨Ql, 0, none⟩)]), .func (.func RF) #[] #[]] w fun e w' => ∃ Qr Qg, e = .returned (.func (.func 107) #[] #[.pointer (some ⟨Qr, 0, none⟩), .pointer (some ⟨Qg, 0, none⟩)]) ∧ AkB w' Qr Qg (.func RF) Qn Ql ∧ Below w.heap.size w w' := by
  have hmf : ∀ (fn : Fn) (first cap : Array Value) (w : World), (Instr.makeFunc fn first cap).run Tryd.prog w = .ok (.func fn first cap) w := fun _ _ _ _ => rfl
  obtain ⟨G, hG⟩ : ∃ G, Value.iface 67 (.func (.func 65) #[] #[.pointer (some ⟨Qn, 0, none⟩), .pointer (some ⟨Ql, 0, none⟩)]) = G := ⟨_, rfl⟩
  have b1 := below_alloc w (.cells #[G] 112)
  have r1 := heap_alloc_new w (.cells #[G] 112)
  have b2 := below_alloc (w.alloc (.cells #[G] 112)) (.cells #[.func (.func RF) #[] #[]] 114)
  have r2 := heap_alloc_new (w.alloc (.cells #[G] 112)) (.cells #[.func (.func RF) #[] #[]] 114)
  rw [show (w.alloc (.cells #[G] 112)).heap.size = w.heap.size + 1 by simp] at r2
  subst hG
  have HK := Lib.hid (AkB.mk (Qn := Qn) (Ql := Ql) r2 (blk_below r1 b2))
  have HB := Lib.hid (seqB b1 b2)
  clear b1 r1 b2 r2
  go_enter Tryd.func86, Tryd.ntmps86
  go_wp2
  go_ret
  exact ⟨_, _, rfl, HK.out, HB.out⟩
end
end Go.Proofs.YtdifkjmpdmlobaaDoor
namespace Go.Proofs.YtdifkjmpdmlobaaDoor
open Go.ChangeShapes Go.WideShapes Go.ChangeAt Go.RowKit
namespace utfU
theorem own : ownKnob Tryd.prog.godebug = none := by kernel_rfl
theorem laidOut : laidOutB Tryd.prog = true := by kernel_rfl
theorem eFirst : (Rows.laid_unicode_utf8_first : DataW Unit) = Lib.firstData := by kernel_rfl
theorem eAcc : (Rows.laid_unicode_utf8_acceptRanges : DataW Unit) = Lib.acceptData := by kernel_rfl
def laid : List (String × DataW Unit) := [("unicode/utf8.acceptRanges", Rows.laid_unicode_utf8_acceptRanges), ("unicode/utf8.first", Rows.laid_unicode_utf8_first)]
theorem extra : U8Extra Tryd.prog Tryd.lays260_ren := ⟨by kernel_rfl, by kernel_rfl, by kernel_rfl, by kernel_rfl, by kernel_rfl, by kernel_rfl, by kernel_rfl⟩
theorem tables {W : World} (h : laidMetH Tryd.prog laid W) : UT W := by
  have h1 : Lib.VarReads Tryd.prog W "unicode/utf8.acceptRanges" Lib.acceptData := by rw [← eAcc]; exact Lib.laidMet.reads h (.head _)
  have h2 : Lib.VarReads Tryd.prog W "unicode/utf8.first" Lib.firstData := by rw [← eFirst]; exact Lib.laidMet.reads h (.tail _ (.head _))
  have ht : Lib.Utf8Tabs 2 3 W := utf8Tabs_of_reads Tryd.lays260 extra h2 h1
  exact ⟨ht, block_lt_of_cell (ht.1 0 (by decide)), block_lt_of_cell (ht.2 0 (by decide)).1⟩
/-- A world for the witness: the settled one, the tables as their initialisers lay them. -/
def lay (cs : Array Value) : Obj → Obj
  | .cells _ t frozen => .cells cs t frozen
  | o => o
noncomputable def laidWorld (os : Os) : World :=
  { World.holding Tryd.prog os ⟨#[], #[], []⟩ with heap := ((World.holding Tryd.prog os ⟨#[], #[], []⟩).heap.modify 2 (lay (Lib.firstTab.map fun z => Value.int .u8 z).toArray)).modify 3 (lay ((List.range 16).flatMap fun i => [Value.int .u8 (Lib.accLo i), Value.int .u8 (Lib.accHi i)]).toArray) }
theorem laid_met (os : Os) (args : Array Value) : laidMet Tryd.prog laid ((laidWorld os).forCall (fun _ _ => 0) ⟨#[], args, []⟩).memory :=
  laidMet_of_run' 8 (by kernel_rfl) (by kernel_rfl)
end utfU
end Go.Proofs.YtdifkjmpdmlobaaDoor
