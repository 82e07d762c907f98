/-
  emacs: who finds a key's row.
-/
import Derived.Test.YtdifkjmpdmlobaaDoorEm3
import Derived.Test.YtdifkjmpdmlobaaDoorKy15
set_option linter.unusedVariables false
set_option linter.unusedSimpArgs false
namespace Go.Proofs.YtdifkjmpdmlobaaDoor
set_option maxRecDepth 100000
open Go.RowKit
set_option maxRecDepth 100000 in
theorem efind_any (s nm : ByteArray) (v : Int) (p : Nat) (w : World) (hp : w.cell? ⟨p, 0, none⟩ = some (.string nm)) :
    Calls Tryd.prog 102 #[.agg #[.string s, .int .i64 v], .pointer (some ⟨p, 0, none⟩)] w fun e w' => e = .returned (.bool (decide (s = nm))) ∧ w' = w.alloc (.cells #[.string s, .int .i64 v] 142) := by
  have hp1 := (World.cell?_alloc_lt w (.cells #[.string s, .int .i64 v] 142) ⟨p, 0, none⟩ (block_lt_of_cell hp)).trans hp
  have hd : (s.toList == nm.toList) = decide (s = nm) := by
    by_cases h : s = nm
    · subst h; simp
    · rw [(kstr_ne h).1, decide_eq_false h]
  have HD := Lib.hid hd
  clear hp hd
  go_enter Tryd.func102, Tryd.ntmps102
  go_wp2
  go_ret
  exact ⟨by rw [← HD.out]; rfl, rfl⟩
set_option maxRecDepth 100000 in
theorem efinder_t (k : Ky) (w : World) (hK : KT w) (nm : ByteArray) (h1 : mkS (nmR k) = nm) (h2 : ckE k = 0) :
    Calls Tryd.prog 83 #[.agg #[.int .i64 k.1, .int .i64 k.2.1, .string k.2.2.1, .bool k.2.2.2]] w fun e w' => ∃ q, e = .returned (.tuple #[.func (.func 102) #[] #[.pointer (some ⟨q, 0, none⟩)], .bool true]) ∧ w'.heap[q]? = some (.cells #[.string nm] 9 (0, 0)) ∧ Below w.heap.size w w' := by
  have hmf : ∀ (fn : Fn) (first cap : Array Value) (w : World), (Instr.makeFunc fn first cap).run Tryd.prog w = .ok (.func fn first cap) w := fun _ _ _ _ => rfl
  have B0 := below_alloc w (.cells #[.int .i64 k.1, .int .i64 k.2.1, .string k.2.2.1, .bool k.2.2.2] 107)
  have NM := Lib.hid (kname_t k (w.alloc (.cells #[.int .i64 k.1, .int .i64 k.2.1, .string k.2.2.1, .bool k.2.2.2] 107)) (hK.below B0) nm 0 h1 h2)
  have HB0 := Lib.hid B0
  clear B0 hK h1 h2
  go_enter Tryd.func83, Tryd.ntmps83
  go_wp2_with (go_at_call 101; refine NM.out.mono ?_; rintro e w2 ⟨rfl, hb⟩; have N2 := Lib.hid (seqB HB0.out hb); have N3 := Lib.hid (seqB N2.out (below_alloc w2 (.cells #[.string nm] 9))); have R3 := Lib.hid (heap_alloc_new w2 (.cells #[.string nm] 9)); clear hb NM)
  refine bodyPost_ret (results_tmp2 rfl _ _ _) rfl ?_
  exact ⟨w2.heap.size, rfl, R3.out, N3.out⟩
end Go.Proofs.YtdifkjmpdmlobaaDoor
