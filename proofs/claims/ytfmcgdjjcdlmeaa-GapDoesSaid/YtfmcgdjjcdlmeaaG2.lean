/-
  Gap buffers: the error of signs that are to come; the widener.
-/
import Derived.Test.YtfmcgdjjcdlmeaaG1
set_option linter.unusedVariables false
set_option linter.unusedSimpArgs false
namespace Go.Proofs.Ytfmcgdjjcdlmeaa
set_option maxRecDepth 100000
open Go.RowKit
def gmE (l : List Sn) (M stay : Int) : Int := if sgC l = true then (if M - stay < l.length then 8 else 0) else 2
theorem gmay_nil (s : Value) (stay : Int) (w : World) : Calls Try.prog 26 #[.pointer none, s, .int .i64 stay] w fun e w' => e = .returned (.int .i64 1) ∧ w = w' := by
  go_enter Try.func26, Try.ntmps26
  go_wp2
  go_ret
  exact ⟨rfl, rfl⟩
set_option maxHeartbeats 2000000 in
theorem gmay_any (p : Nat) (M : Int) (v : Value) (R : List Sn) (a e : Nat) (l : List Sn) (b : Option Addr) (c : Nat) (stay : Int) (w : World) (h : GapAt p M v R a e w) (hl : l.length ≤ 9223372036854775807) (hs : Signs w b l) (hs0 : 0 ≤ stay) (hs1 : stay ≤ 65536) :
    Calls Try.prog 26 #[.pointer (some ⟨p, 0, none⟩), .slice b l.length c, .int .i64 stay] w fun x w' => x = .returned (.int .i64 (gmE l M stay)) ∧ Below w.heap.size w w' := by
  have hm1 := h.m1; have hm2 := h.m2
  have C := scheck_any l b c w hl hs
  have HG := Lib.hid h
  clear h hs
  unfold gmE
  cases hc : sgC l with
  | false =>
    rw [sgE_no hc] at C
    rw [if_neg (by decide)]
    replace C := Lib.hid C
    go_enter Try.func26, Try.ntmps26
    go_wp2_with (go_at_call 30; refine C.out.mono ?_; rintro x w1 ⟨rfl, hb1⟩)
    go_ret
    exact ⟨rfl, hb1⟩
  | true =>
    rw [sgE_yes hc] at C
    rw [if_pos rfl]
    replace C := Lib.hid C
    by_cases hb : M - stay < l.length
    · rw [if_pos hb]
      go_enter Try.func26, Try.ntmps26
      go_wp2_with (go_at_call 30; refine C.out.mono ?_; rintro x w1 ⟨rfl, hb1⟩; obtain ⟨c0, c1, c2, c3⟩ := (HG.out.below hb1).cells)
      go_ret
      exact ⟨rfl, hb1⟩
    · rw [if_neg hb]
      go_enter Try.func26, Try.ntmps26
      go_wp2_with (go_at_call 30; refine C.out.mono ?_; rintro x w1 ⟨rfl, hb1⟩; obtain ⟨c0, c1, c2, c3⟩ := (HG.out.below hb1).cells)
      go_ret
      exact ⟨rfl, hb1⟩
theorem gwidener_any (p : Nat) (w : World) : Calls Try.prog 27 #[.pointer (some ⟨p, 0, none⟩)] w fun e w' => e = .returned (.func (.func 31) #[] #[.pointer (some ⟨w.heap.size, 0, none⟩)]) ∧ w.alloc (.cells #[.pointer (some ⟨p, 0, none⟩)] 24) = w' := by
  have hmf : ∀ (fn : Fn) (first cap : Array Value) (w : World), (Instr.makeFunc fn first cap).run Try.prog w = .ok (.func fn first cap) w := fun _ _ _ _ => rfl
  go_enter Try.func27, Try.ntmps27
  go_wp2
  go_ret
  exact ⟨rfl, rfl⟩
end Go.Proofs.Ytfmcgdjjcdlmeaa
