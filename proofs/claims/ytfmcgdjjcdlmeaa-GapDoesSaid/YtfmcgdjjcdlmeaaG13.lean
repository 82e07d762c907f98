/-
  Gap buffers: what must come at any rate.
-/
import Derived.Test.YtfmcgdjjcdlmeaaG12
set_option linter.unusedVariables false
set_option linter.unusedSimpArgs false
namespace Go.Proofs.Ytfmcgdjjcdlmeaa
set_option maxRecDepth 100000
open Go.RowKit
theorem is_insert_lit {w0 : World} {N p : Nat} {M : Int} {L : List Sn} {a : Nat} {w : World} (l : List Sn) (c : Nat) (h : GapIs w0 N p M L a w) (hN : N ≤ w.heap.size) (hok : sgC l = true) (hM : (l.length : Int) + (L.length : Int) ≤ M) (L' : List Sn) (a' : Nat) (hL : L.take a ++ l ++ L.drop a = L') (ha : a + l.length = a') :
    Calls Try.prog 9 #[.pointer (some ⟨p, 0, none⟩), .slice (some ⟨w.heap.size, 0, none⟩) l.length c] (w.alloc (.cells (sRow l) 43)) fun x w' => x = .returned (.int .i64 0) ∧ GapIs w0 w'.heap.size p M L' a' w' := by
  subst hL; subst ha
  exact is_insert c (h.below (below_alloc _ _)) (signs_of_blk (heap_alloc_new _ _)) (fun _ ad he => by cases he; exact Or.inr hN) hok hM
theorem is_insert_lit_err {w0 : World} {N p : Nat} {M : Int} {L : List Sn} {a : Nat} {w : World} (l : List Sn) (c : Nat) (er : Int) (h : GapIs w0 N p M L a w) (hl : l.length ≤ 9223372036854775807) (her : gmE l M (L.length : Int) = er) (hne : er ≠ 0) :
    Calls Try.prog 9 #[.pointer (some ⟨p, 0, none⟩), .slice (some ⟨w.heap.size, 0, none⟩) l.length c] (w.alloc (.cells (sRow l) 43)) fun x w' => x = .returned (.int .i64 er) ∧ Below w.heap.size w w' := by
  refine (is_insert_err c er (h.below (below_alloc w (.cells (sRow l) 43))) (signs_of_blk (heap_alloc_new _ _)) hl her hne).mono ?_
  rintro x w' ⟨rfl, hb⟩
  exact ⟨rfl, seqB (below_alloc _ _) hb⟩
theorem aw_facts : sgC [(97, 0), (98, 0)] = true ∧ sgC [(99, 2)] = true ∧ gmE [(100, 0)] 3 3 = 8 ∧ mvT 2 1 = 1 := by decide +kernel
theorem aw_facts2 : cutF 2 (-5) = 0 ∧ cutT 3 2 (-5) = 2 := by decide +kernel
section
variable (w : World) (N p : Nat) (w1 : World)
theorem aw1 (h : GapIs w N p 3 [] 0 w1) (hN : N ≤ w1.heap.size) : Calls Try.prog 9 #[.pointer (some ⟨p, 0, none⟩), .slice (some ⟨w1.heap.size, 0, none⟩) 2 2] (w1.alloc (.cells #[.int .i64 97, .int .i64 0, .int .i64 98, .int .i64 0] 43)) fun x w2 => x = .returned (.int .i64 0) ∧ GapIs w w2.heap.size p 3 [(97, 0), (98, 0)] 2 w2 :=
  is_insert_lit (L := []) (a := 0) [(97, 0), (98, 0)] 2 h hN aw_facts.1 (by show (2 : Int) + 0 ≤ 3; omega) [(97, 0), (98, 0)] 2 rfl rfl
theorem aw2 (h : GapIs w N p 3 [(97, 0), (98, 0)] 1 w1) (hN : N ≤ w1.heap.size) : Calls Try.prog 9 #[.pointer (some ⟨p, 0, none⟩), .slice (some ⟨w1.heap.size, 0, none⟩) 1 1] (w1.alloc (.cells #[.int .i64 99, .int .i64 2] 43)) fun x w2 => x = .returned (.int .i64 0) ∧ GapIs w w2.heap.size p 3 [(97, 0), (99, 2), (98, 0)] 2 w2 :=
  is_insert_lit [(99, 2)] 1 h hN aw_facts.2.1 (by show (1 : Int) + 2 ≤ 3; omega) [(97, 0), (99, 2), (98, 0)] 2 rfl rfl
theorem aw3 (h : GapIs w N p 3 [(97, 0), (99, 2), (98, 0)] 2 w1) : Calls Try.prog 9 #[.pointer (some ⟨p, 0, none⟩), .slice (some ⟨w1.heap.size, 0, none⟩) 1 1] (w1.alloc (.cells #[.int .i64 100, .int .i64 0] 43)) fun x w2 => x = .returned (.int .i64 8) ∧ Below w1.heap.size w1 w2 :=
  is_insert_lit_err [(100, 0)] 1 8 h (by show 1 ≤ 9223372036854775807; omega) aw_facts.2.2.1 (by omega)
theorem aw4 (h : GapIs w N p 3 [(97, 0), (98, 0)] 2 w1) : Calls Try.prog 17 #[.pointer (some ⟨p, 0, none⟩), .int .i64 1] w1 fun x w2 => x = .returned (.tuple #[]) ∧ GapIs w w2.heap.size p 3 [(97, 0), (98, 0)] 1 w2 := by
  have := is_move 1 h (by omega)
  rw [show mvT [((97 : Int), (0 : Int)), (98, 0)].length 1 = 1 from aw_facts.2.2.2] at this
  exact this
theorem aw5 (h : GapIs w N p 3 [(97, 0), (99, 2), (98, 0)] 2 w1) : Calls Try.prog 19 #[.pointer (some ⟨p, 0, none⟩), .int .i64 1] w1 fun x w2 => x = .returned (.tuple #[.agg #[.int .i64 99, .int .i64 2], .bool true]) ∧ Below w1.heap.size w1 w2 := is_get 1 h
theorem aw6 (h : GapIs w N p 3 [(97, 0), (99, 2), (98, 0)] 2 w1) : Calls Try.prog 24 #[.pointer (some ⟨p, 0, none⟩)] w1 fun x w2 => ∃ ad, x = .returned (.agg #[.slice ad 3 3, .int .i64 2]) ∧ OwnSn w1.heap.size (.slice ad 3 3) [(97, 0), (99, 2), (98, 0)] w2 ∧ Below w1.heap.size w1 w2 := is_line h
theorem aw7 (h : GapIs w N p 3 [(97, 0), (99, 2), (98, 0)] 2 w1) : Calls Try.prog 20 #[.pointer (some ⟨p, 0, none⟩)] w1 fun x w2 => x = .returned (.int .i64 3) ∧ Below w1.heap.size w1 w2 := is_len h
theorem aw8 (h : GapIs w N p 3 [(97, 0), (99, 2), (98, 0)] 2 w1) : Calls Try.prog 15 #[.pointer (some ⟨p, 0, none⟩), .int .i64 (-5)] w1 fun x w2 => ∃ ad, x = .returned (.slice ad 2 2) ∧ GapIs w w2.heap.size p 3 [(98, 0)] 0 w2 := by
  refine (is_cut (-5) h (by omega) (by omega) 0 2 aw_facts2.1 aw_facts2.2).mono ?_
  rintro x w2 ⟨ad, rfl, _, _, hg⟩
  exact ⟨ad, rfl, hg⟩
theorem aw9 (h : GapIs w N p 3 [(98, 0)] 0 w1) : Calls Try.prog 22 #[.pointer (some ⟨p, 0, none⟩)] w1 fun x w2 => ∃ ad, x = .returned (.slice ad 1 1) ∧ OwnSn w1.heap.size (.slice ad 1 1) [(98, 0)] w2 ∧ Below w1.heap.size w1 w2 := is_all h
end
set_option maxHeartbeats 1000000 in
theorem awake_any (w : World) : Calls Try.prog 6 #[] w fun x w' => x = .returned (.bool true) ∧ Below w.heap.size w w' := by
  have NW := Lib.hid fun w => gnew_any 3 w (by omega) (by omega)
  have C1 := Lib.hid (aw1 w)
  have C2 := Lib.hid (aw2 w)
  have C3 := Lib.hid (aw3 w)
  have C4 := Lib.hid (aw4 w)
  have C5 := Lib.hid (aw5 w)
  have C6 := Lib.hid (aw6 w)
  have C7 := Lib.hid (aw7 w)
  have C8 := Lib.hid (aw8 w)
  have C9 := Lib.hid (aw9 w)
  go_enter Try.func6, Try.ntmps6
  go_wp2_with (first
    | (go_at_call 7; refine (NW.out _).mono ?_; rintro x w1 ⟨rfl, hw1⟩; have I1 := Lib.hid (GapIs.new (w0 := w) (Below.refl _ _) (by omega) (by omega) hw1); clear hw1 NW)
    | (go_at_call 9; refine (C1.out _ _ _ I1.out (Nat.le_refl _)).mono ?_; rintro x w2 ⟨rfl, i2⟩; have I2 := Lib.hid i2; clear i2 C1)
    | (go_at_call 17; refine (C4.out _ _ _ I2.out).mono ?_; rintro x w3 ⟨rfl, i3⟩; have I3 := Lib.hid i3; clear i3 C4)
    | (go_at_call 9; refine (C2.out _ _ _ I3.out (Nat.le_refl _)).mono ?_; rintro x w4 ⟨rfl, i4⟩; have I4 := Lib.hid i4; clear i4 C2)
    | (go_at_call 9; refine (C3.out _ _ _ I4.out).mono ?_; rintro x w5 ⟨rfl, b5⟩; have I5 := Lib.hid (I4.out.below b5); clear b5 C3)
    | (go_at_call 19; refine (C5.out _ _ _ I5.out).mono ?_; rintro x w6 ⟨rfl, b6⟩; have I6 := Lib.hid (I5.out.below b6); clear b6 C5)
    | (go_at_call 24
       have q6 := heap_alloc_new w6 (.cells #[.int .i64 99, .int .i64 2] 43)
       have J6 := Lib.hid (I6.out.below (below_alloc w6 (.cells #[.int .i64 99, .int .i64 2] 43)))
       generalize hW6 : w6.alloc (.cells #[.int .i64 99, .int .i64 2] 43) = W6
       rw [hW6] at q6 J6
       clear hW6
       refine (C6.out _ _ _ J6.out).mono ?_
       rintro x w7 ⟨ad7, rfl, u7, b7⟩
       have I7 := Lib.hid (J6.out.below b7)
       have q7 := blk_below q6 b7
       have zz := fun i => cell_of_row _ _ i _ _ _ (blk_below q7 (below_alloc w7 (.cells #[.slice ad7 3 3, .int .i64 2] 30)))
       have z0 := zz 0; have z1 := zz 1
       dsimp at z0 z1
       clear b7 u7 C6 q6 zz q7)
    | (go_at_call 20; refine (C7.out _ _ _ (I7.out.below (below_alloc _ _))).mono ?_; rintro x w8 ⟨rfl, b8⟩; have I8 := Lib.hid ((I7.out.below (below_alloc _ _)).below b8); clear b8 C7)
    | (go_at_call 15; refine (C8.out _ _ _ I8.out).mono ?_; rintro x w9 ⟨ad9, rfl, i9⟩; have I9 := Lib.hid i9; clear i9 C8)
    | (go_at_call 22; refine (C9.out _ _ _ I9.out).mono ?_; rintro x wA ⟨adA, rfl, uA, bA⟩; have IA := Lib.hid (I9.out.below bA); clear bA C9 uA))
  go_ret
  exact ⟨rfl, IA.out.bel⟩
end Go.Proofs.Ytfmcgdjjcdlmeaa
