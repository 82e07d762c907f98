/-
  KeyParses: the law.
-/
import Derived.Test.YteolfbamcehcpaaDoorKy16
set_option linter.unusedVariables false
set_option linter.unusedSimpArgs false
namespace Go.Proofs.YteolfbamcehcpaaDoor
set_option maxRecDepth 100000
open Go.RowKit
theorem kparse_t (s : ByteArray) (w : World) (hK : KT w) (hs : s.size ≤ 900000) (k : Ky) (er : Int) (h1 : prK s.data.toList = k) (h2 : prE s.data.toList = er) : Calls Tryd.prog 16 #[.string s] w fun e w' => e = .returned (.tuple #[.agg #[.int .i64 k.1, .int .i64 k.2.1, .string k.2.2.1, .bool k.2.2.2], .int .i64 er]) ∧ Below w.heap.size w w' := by
  subst h1; subst h2; exact kparse_any s w hK hs
theorem rname_t (k : Ky) (w : World) (h : keyB k = true) (s : ByteArray) (hs : mkS (nmN k) = s) : Calls Tryd.prog 18 #[.agg #[.int .i64 k.1, .int .i64 k.2.1, .string k.2.2.1, .bool k.2.2.2]] w fun e w' => e = .returned (.string s) ∧ Below w.heap.size w w' := by
  subst hs; exact rname_ref k w h
theorem rmay_t (k : Ky) (w : World) (b : Bool) (h : keyB k = b) : Calls Tryd.prog 13 #[.agg #[.int .i64 k.1, .int .i64 k.2.1, .string k.2.2.1, .bool k.2.2.2]] w fun e w' => e = .returned (.bool b) ∧ Below w.heap.size w w' := by
  subst h; exact rmay_ref k w
set_option maxHeartbeats 4000000 in
set_option maxRecDepth 100000 in
theorem keyparses_any (s : ByteArray) (w : World) (hK : KT w) : Calls Tryd.prog 4 #[.string s] w fun e w' => e = .returned (.bool true) ∧ Below w.heap.size w w' := by
  have AW := Lib.hid fun w hK => kawake_any w hK
  by_cases h500 : (500 : Int) < s.size
  · have HK := Lib.hid hK
    clear hK
    go_enter Tryd.func4, Tryd.ntmps4
    go_wp2_with (go_at_call 10; refine (AW.out _ HK.out).mono ?_; rintro e w1 ⟨rfl, hb1⟩)
    go_ret
    exact ⟨rfl, hb1⟩
  · rcases parse_cases s.data.toList with ⟨h0, h1, h2⟩ | ⟨h0, h1⟩
    · obtain ⟨k, hk⟩ : ∃ k, prK s.data.toList = k := ⟨_, rfl⟩
      rw [hk] at h1 h2
      have P := Lib.hid (kparse_t s w hK (by omega) k 0 hk h0)
      have N := Lib.hid fun w => rname_t k w h1 s (by rw [h2, mkS_of])
      have M := Lib.hid fun w => rmay_t k w true h1
      have HK := Lib.hid hK
      clear hK h0 h1 h2 hk
      go_enter Tryd.func4, Tryd.ntmps4
      go_wp2_with (first
        | (go_at_call 16; refine P.out.mono ?_; rintro e w1 ⟨rfl, hb1⟩; have B1 := below_alloc w1 (.cells #[.int .i64 k.1, .int .i64 k.2.1, .string k.2.2.1, .bool k.2.2.2] 23); have q1 := Lib.hid (heap_alloc_new w1 (.cells #[.int .i64 k.1, .int .i64 k.2.1, .string k.2.2.1, .bool k.2.2.2] 23)); have K1 := Lib.hid ((HK.out.below hb1).below B1))
        | (go_at_call 10; refine (AW.out _ K1.out).mono ?_; rintro e w2 ⟨rfl, hb2⟩; have q2 := Lib.hid (blk_below q1.out hb2); have yy := fun i => cell_of_row _ _ i _ _ _ q2.out; have y0 := yy 0; have y1 := yy 1; have y2 := yy 2; have y3 := yy 3; dsimp at y0 y1 y2 y3; clear yy)
        | (go_at_call 13; refine (M.out _).mono ?_; rintro e w3 ⟨rfl, hb3⟩; have q3 := blk_below q2.out hb3; have yy := fun i => cell_of_row _ _ i _ _ _ q3; have z0 := yy 0; have z1 := yy 1; have z2 := yy 2; have z3 := yy 3; dsimp at z0 z1 z2 z3; clear yy)
        | (go_at_call 18; refine (N.out _).mono ?_; rintro e w4 ⟨rfl, hb4⟩))
      go_ret
      exact ⟨by simp, seqB (seqB (seqB (seqB hb1 B1) hb2) hb3) hb4⟩
    · have P := Lib.hid (kparse_t s w hK (by omega) k0 6 h1 h0)
      have HK := Lib.hid hK
      have EQ := eqKey_same 0 0 ⟨#[]⟩ false
      clear hK h0 h1
      go_enter Tryd.func4, Tryd.ntmps4
      go_wp2_with (first
        | (go_at_call 16; refine P.out.mono ?_; rintro e w1 ⟨rfl, hb1⟩; dsimp only [k0]; have B1 := below_alloc w1 (.cells #[.int .i64 0, .int .i64 0, .string ⟨#[]⟩, .bool false] 23); have q1 := Lib.hid (heap_alloc_new w1 (.cells #[.int .i64 0, .int .i64 0, .string ⟨#[]⟩, .bool false] 23)); have K1 := Lib.hid ((HK.out.below hb1).below B1))
        | (go_at_call 10; refine (AW.out _ K1.out).mono ?_; rintro e w2 ⟨rfl, hb2⟩; have q2 := Lib.hid (blk_below q1.out hb2); have yy := fun i => cell_of_row _ _ i _ _ _ q2.out; have y0 := yy 0; have y1 := yy 1; have y2 := yy 2; have y3 := yy 3; dsimp at y0 y1 y2 y3; clear yy))
      go_ret
      exact ⟨rfl, seqB (seqB hb1 B1) hb2⟩
end Go.Proofs.YteolfbamcehcpaaDoor
