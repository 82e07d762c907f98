import Derived.Test.YtecffaidpiadoaaDoorU1
namespace Go.Proofs.YtecffaidpiadoaaDoor
open Go.RowKit
theorem dec_pos (s : ByteArray) (i : Nat) (h : i < s.size) : 1 ≤ (Utf8.decode s i).2 ∧ (Utf8.decode s i).2 ≤ 4 ∧ i + (Utf8.decode s i).2 ≤ s.size := by
  rw [Lib.decode_at]
  unfold Lib.decodeN
  repeat' split
  all_goals (simp only; omega)
theorem vAt_size (s : ByteArray) (i : Nat) (h : i < s.size) : (vAt s i).2 = (Utf8.decode s i).2 := by
  have hp := dec_pos s i h
  unfold vAt
  split
  · rename_i h2
    have := dec_cases s i
    rcases this with h3 | h3
    · rw [h3]
    · rcases h3 with h3 | h3 | h3 | h3 <;> omega
  · rfl
/-- A text's first value. -/
def oneS (s : ByteArray) : Nat × Nat := if s.size = 0 then (0, 0) else vAt s 0
set_option maxRecDepth 100000 in
set_option maxHeartbeats 1000000 in
theorem one_any (s : ByteArray) (w : World) (hT : UT w) (hs : s.size ≤ 1000000) :
    Calls Tryd.prog 20 #[.string s] w fun e w' => e = .returned (.tuple #[.int .i64 ((oneS s).1 : Int), .int .i64 ((oneS s).2 : Int)]) ∧ Below w.heap.size w w' := by
  have hit := World.iter_heap w s 0
  have Hit := Lib.hid hit; clear hit
  have HT := Lib.hid hT; clear hT
  by_cases h : s.size = 0
  · have Ho : Hid (oneS s = (0, 0)) := Lib.hid (by unfold oneS; rw [if_pos h])
    have hnx : ∀ ty, (Instr.next (.pointer (some ⟨w.heap.size, 0, none⟩)) true ty).run Tryd.prog (w.iter s 0) = _ := fun ty => Lib.run_next_end_at (w.iter s 0) w.heap.size s 0 ty Hit.out (by omega)
    have hb : Below w.heap.size w (w.iter s 0) := below_alloc _ _
    clear h
    go_enter Tryd.func20, Tryd.ntmps20
    go_wp2
    refine wp_loop_rounds 1 ?_
    rw [rounds_succ]
    go_wp2
    go_ret2
    rw [Ho.out]
    exact ⟨rfl, hb⟩
  · have Ho : Hid (oneS s = vAt s 0) := Lib.hid (by unfold oneS; rw [if_neg h])
    have hb : Below w.heap.size w ((w.iter s 0).iterAt w.heap.size s (0 + (Utf8.decode s 0).2)) := Lib.below_iterAt (below_alloc _ _) (Nat.le_refl _) s _
    have hv := value_any s 0 _ (HT.out.below hb) hs (by omega)
    have hnx : ∀ ty, (Instr.next (.pointer (some ⟨w.heap.size, 0, none⟩)) true ty).run Tryd.prog (w.iter s 0) = _ := fun ty => Lib.run_next_any_at (w.iter s 0) w.heap.size s 0 ty Hit.out (by omega)
    clear h
    generalize (w.iter s 0).iterAt w.heap.size s (0 + (Utf8.decode s 0).2) = W1 at *
    have Hv := Lib.hid hv; clear hv
    go_enter Tryd.func20, Tryd.ntmps20
    go_wp2
    refine wp_loop_rounds 1 ?_
    rw [rounds_succ]
    go_wp2_with (go_at_call 39; refine Hv.out.mono ?_; rintro e w1 ⟨rfl, hb1⟩)
    go_ret2
    rw [Ho.out]
    exact ⟨rfl, hb.trans (hb1.mono hb.size)⟩
/-- A text's values, from a place on, at most so many. -/
def valsF (s : ByteArray) : Nat → Nat → List Int
  | 0, _ => []
  | f + 1, i => if i < s.size then ((vAt s i).1 : Int) :: valsF s f (i + (Utf8.decode s i).2) else []
def valsS (s : ByteArray) : List Int := valsF s s.size 0
theorem valsF_end (s : ByteArray) (f i : Nat) (h : ¬ i < s.size) : valsF s f i = [] := by
  cases f with
  | zero => rfl
  | succ f => rw [valsF, if_neg h]
theorem valsF_step (s : ByteArray) (f i : Nat) (h : i < s.size) : valsF s (f + 1) i = ((vAt s i).1 : Int) :: valsF s f (i + (Utf8.decode s i).2) := by rw [valsF, if_pos h]
theorem valsF_len (s : ByteArray) : ∀ f i, (valsF s f i).length + i ≤ s.size ∨ valsF s f i = [] := by
  intro f
  induction f with
  | zero => intro i; right; rfl
  | succ f ih =>
    intro i
    by_cases h : i < s.size
    · rw [valsF_step s f i h]
      have hp := dec_pos s i h
      left
      rcases ih (i + (Utf8.decode s i).2) with h2 | h2
      · simp; omega
      · rw [h2]; simp; omega
    · right; exact valsF_end s _ i h
end Go.Proofs.YtecffaidpiadoaaDoor
