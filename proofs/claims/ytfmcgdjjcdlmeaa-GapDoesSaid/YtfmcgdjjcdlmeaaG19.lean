/-
  The document's lines: the same ones.
-/
import Derived.Test.YtfmcgdjjcdlmeaaG18
set_option linter.unusedVariables false
set_option linter.unusedSimpArgs false
namespace Go.Proofs.Ytfmcgdjjcdlmeaa
set_option maxRecDepth 100000
open Go.RowKit
set_option maxHeartbeats 1000000 in
theorem lsame_ref (l : List Sn) (i : Int) (a b : Option Addr) (c d : Nat) (w : World) (hl : l.length ≤ 9223372036854775807) (hs : Signs w a l) (ht : Signs w b l) :
    Calls Try.prog 23 #[.agg #[.slice a l.length c, .int .i64 i], .agg #[.slice b l.length d, .int .i64 i]] w fun e w' => e = .returned (.bool true) ∧ Below w.heap.size w w' := by
  have SM : Hid (∀ w1, Below w.heap.size w w1 → Calls Try.prog 14 #[.slice a l.length c, .slice b l.length d] w1 fun e w' => e = .returned (.bool true) ∧ Below w1.heap.size w1 w') := Lib.hid fun w1 hb => by
    have := sgsame_ref l l a b c d w1 hl hl (hs.below hb) (ht.below hb)
    rw [decide_eq_true (rfl : l = l)] at this
    exact this
  have N := seqB (below_alloc w (.cells #[.slice a l.length c, .int .i64 i] 30)) (below_alloc (w.alloc (.cells #[.slice a l.length c, .int .i64 i] 30)) (.cells #[.slice b l.length d, .int .i64 i] 30))
  have HN := Lib.hid N
  clear hs ht N
  go_enter Try.func23, Try.ntmps23
  go_wp2_with (go_at_call 14; have N2 := HN.out; generalize hW1 : (w.alloc (.cells #[.slice a l.length c, .int .i64 i] 30)).alloc (.cells #[.slice b l.length d, .int .i64 i] 30) = W1; rw [hW1] at N2; clear hW1; refine (SM.out _ N2).mono ?_; rintro x w2 ⟨rfl, b2⟩)
  go_ret
  exact ⟨rfl, seqB N2 b2⟩
end Go.Proofs.Ytfmcgdjjcdlmeaa
