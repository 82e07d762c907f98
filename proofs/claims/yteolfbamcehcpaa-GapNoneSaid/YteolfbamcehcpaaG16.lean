/-
  Gap buffers: none.
-/
import Derived.Test.YteolfbamcehcpaaG13
import Derived.Test.YteolfbamcehcpaaG14
set_option linter.unusedVariables false
set_option linter.unusedSimpArgs false
namespace Go.Proofs.Yteolfbamcehcpaa
set_option maxRecDepth 100000
open Go.RowKit
theorem gline_nil (w : World) : Calls Try.prog 24 #[.pointer none] w fun x w' => x = .returned (.agg #[.slice none 0 0, .int .i64 0]) ∧ Below w.heap.size w w' := by
  have B0 := below_alloc w (.cells #[.slice none 0 0, .int .i64 0] 30)
  have q0 := heap_alloc_new w (.cells #[.slice none 0 0, .int .i64 0] 30)
  obtain ⟨W0, hW0⟩ : ∃ W0, w.alloc (.cells #[.slice none 0 0, .int .i64 0] 30) = W0 := ⟨_, rfl⟩
  rw [hW0] at B0 q0
  have zf := fun i => frozen_of_row _ w.heap.size i _ _ q0
  have zz := fun i => cell_of_row _ _ i _ _ _ q0
  have z0 := zz 0; have z1 := zz 1
  dsimp at z0 z1
  clear zz
  have AL := Lib.hid fun w => gall_nil w
  have AT := Lib.hid fun w => gat_nil w
  have hfin := Lib.hid (two_set q0 (.slice none 0 0) (.int .i64 0))
  have NB := Lib.hid (two_below _ w w.heap.size (.slice none 0 0) (.int .i64 0) (Nat.le_refl _) B0)
  clear q0 B0
  go_enter Try.func24, Try.ntmps24
  go_upto_region 1 with fail
  clear hW0
  go_wp2_with (first
    | (go_at_call 22; refine (AL.out _).mono ?_; rintro x w1 ⟨rfl, rfl⟩)
    | (go_at_call 21; refine (AT.out _).mono ?_; rintro x w2 ⟨rfl, rfl⟩))
  generalize hWF : World.setCell _ _ _ = WF
  have hqf : WF.heap[w.heap.size]? = some (.cells #[.slice none 0 0, .int .i64 0] 30 (0, 0)) := by rw [← hWF]; exact hfin.out
  have hN : Below w.heap.size w WF := by rw [← hWF]; exact NB.out
  have y := fun i => cell_of_row _ _ i _ _ _ hqf
  have y0 := y 0; have y1 := y 1
  dsimp at y0 y1
  clear y hqf hWF
  refine bodyPost_ret (v := .agg #[.slice none 0 0, .int .i64 0]) (by simp [results, Try.results24, go_sem, y0, y1]) rfl ?_
  exact ⟨rfl, hN⟩
/-- What is left behind the stores into a row of one's own. -/
theorem is_stored {w0 : World} {N p : Nat} {M : Int} {L : List Sn} {a : Nat} {w : World} (h : GapIs w0 N p M L a w) {g i : Nat} {cs : Array Value} {T : TypeId} (hg : w.heap[g]? = some (.cells cs T (0, 0))) (hN : N ≤ g) (u v : Value) :
    GapIs w0 N p M L a ((w.setCell ⟨g, i, none⟩ u).setCell ⟨g, i + 1, none⟩ v) ∧ ∃ cs', ((w.setCell ⟨g, i, none⟩ u).setCell ⟨g, i + 1, none⟩ v).heap[g]? = some (.cells cs' T (0, 0)) ∧ cs'.size = cs.size :=
  ⟨(h.setCell g i u hN).setCell g (i + 1) v hN, _, blk_set (blk_set hg i u) (i + 1) v, by simp⟩
set_option maxHeartbeats 8000000 in
theorem none_any (l : List Sn) (a : Option Addr) (c : Nat) (n : Int) (w : World) (hl : l.length ≤ 9223372036854775807) (hs : Signs w a l) (hn1 : -9223372036854775808 ≤ n) (hn2 : n ≤ 9223372036854775807) : Calls Try.prog 4 #[.slice a l.length c, .int .i64 n] w fun x w' => x = .returned (.bool true) ∧ Below w.heap.size w w' := by
  have AW := Lib.hid awake_any
  have HS := Lib.hid hs
  clear hs
  by_cases h60 : 60 < l.length
  · have h60i : (60 : Int) < (l.length : Int) := by omega
    go_enter Try.func4, Try.ntmps4
    go_wp2_with (go_at_call 6; refine (AW.out _).mono ?_; rintro x w2 ⟨rfl, b2⟩)
    go_ret
    exact ⟨rfl, b2⟩
  have h60i : ¬ (60 : Int) < (l.length : Int) := by omega
  have AL := sgall_ref l a c w (by omega) HS.out
  cases hok : sgC l
  · rw [hok] at AL
    replace AL := Lib.hid AL
    clear hok
    go_enter Try.func4, Try.ntmps4
    go_wp2_with (first
      | (go_at_call 8; refine AL.out.mono ?_; rintro x w1 ⟨rfl, b1⟩)
      | (go_at_call 6; refine (AW.out _).mono ?_; rintro x w2 ⟨rfl, b2⟩))
    go_ret
    exact ⟨rfl, seqB b1 b2⟩
  rw [hok] at AL
  replace AL := Lib.hid AL
  have HOK := Lib.hid hok
  clear hok
  have NW := Lib.hid fun w => gnew_any 60 w (by omega) (by omega)
  have MN := Lib.hid fun w => gmove_nil n w
  have GN := Lib.hid fun w => gget_nil n w
  have HA : Hid (l ≠ [] → ∀ ad, a = some ad → ad.block < w.heap.size) := Lib.hid fun hne ad he => by
    obtain ⟨b, off, e, hb, _⟩ := HS.out 0 (List.length_pos_iff.2 hne)
    rw [he] at e; cases e; exact hb
  go_enter Try.func4, Try.ntmps4
  go_wp2_with (first
    | (go_at_call 8; refine AL.out.mono ?_; rintro x w1 ⟨rfl, b1⟩; have J1 := Lib.hid b1; clear b1 AL)
    | (go_at_call 6; refine (AW.out _).mono ?_; rintro x w2 ⟨rfl, b2⟩; have J2 := Lib.hid (seqB J1.out b2); clear b2 AW)
    | (go_at_call 17; refine (MN.out _).mono ?_; rintro x w3 ⟨rfl, hw3⟩; subst hw3; clear MN)
    | (go_at_call 19; refine (GN.out _).mono ?_; rintro x w4 ⟨rfl, b4⟩; have J4 := Lib.hid (seqB J2.out b4); clear b4 GN)
    | (go_at_call 7
       have J5 := Lib.hid (seqB J4.out (below_alloc w4 (.cells #[.int .i64 0, .int .i64 0] 43)))
       generalize hW5 : w4.alloc (.cells #[.int .i64 0, .int .i64 0] 43) = W5
       rw [hW5] at J5
       clear hW5
       refine (NW.out _).mono ?_
       rintro x w5 ⟨rfl, hw5⟩
       have I5 := Lib.hid (GapIs.new J5.out (by omega) (by omega) hw5)
       clear hw5 NW J4)
    | (go_at_call 18; refine (is_set c n I5.out (HS.out.below I5.out.bel) (fun hne ad he => Or.inl (HA.out hne ad he)) HOK.out (by omega) hn2).mono ?_; rintro x w6 ⟨rfl, i6⟩; have I6 := Lib.hid i6; clear i6 I5)
    | (go_at_call 22; refine (is_all I6.out).mono ?_; rintro x w7 ⟨ad7, rfl, u7, b7⟩; have U7 := Lib.hid u7; have I7 := Lib.hid (I6.out.below b7); clear b7 u7))
  have Q7 : l = [] ∨ ∃ g cs, ad7 = some ⟨g, 0, none⟩ ∧ w6.heap.size ≤ g ∧ w7.heap[g]? = some (.cells cs 43 (0, 0)) ∧ cs.size = l.length * 2 := by
    rcases U7.out with ⟨_, h⟩ | ⟨g, h1, h2, h3⟩
    · exact Or.inl h
    · cases h1
      exact Or.inr ⟨g, _, rfl, h2, h3, by rw [sRow_sC, List.size_toArray, sC_len]⟩
  replace Q7 := Lib.hid Q7
  clear U7
  have IN := Lib.hid fun s w => gin_nil s w
  have SN := Lib.hid fun s w => gset_nil s n w
  have CN := Lib.hid fun w => gcut_nil n w
  have LN := Lib.hid fun w => glen_nil w
  have TN := Lib.hid fun w => gat_nil w
  have ALN := Lib.hid fun w => gall_nil w
  have LIN := Lib.hid fun w => gline_nil w
  have hfd : ∀ w : World, (Instr.field 30 (.agg #[.slice none 0 0, .int .i64 0]) 0).run Try.prog w = .ok (.slice none 0 0) w := fun _ => by kernel_rfl
  obtain ⟨t, ht⟩ : ∃ t, mvT l.length n = t := ⟨_, rfl⟩
  rw [ht] at I7
  clear ht I6
  go_loopw [12] (fun iv wr => ∃ k : Nat, k ≤ l.length ∧ iv = .int .i64 (k : Int) ∧ Hid (GapIs w w6.heap.size W5.heap.size 60 l t wr) ∧ Hid (l = [] ∨ ∃ g cs, ad7 = some ⟨g, 0, none⟩ ∧ w6.heap.size ≤ g ∧ wr.heap[g]? = some (.cells cs 43 (0, 0)) ∧ cs.size = l.length * 2)) (fun iv _ => l.length - (intOf iv).toNat)
  case atStart => exact ⟨0, Nat.zero_le _, rfl, I7, Q7⟩
  case round =>
    obtain ⟨k, hk, rfl, IK, QK⟩ := hrel
    clear I7 Q7
    by_cases hlt : k < l.length
    · have hk1 : (k : Int) < l.length := by omega
      have hk0 : (0 : Int) ≤ k := by omega
      rcases QK.out with h | ⟨g, cs, hg, hge, hcs, hsz⟩
      · rw [h] at hlt; simp at hlt
      subst hg
      obtain ⟨x0, z0⟩ : ∃ x, wr.cell? ⟨g, k * 2, none⟩ = some x := ⟨_, (cell_of_row _ _ (k * 2) _ _ _ hcs).trans (Array.getElem?_eq_getElem (by omega))⟩
      obtain ⟨x1, z1⟩ : ∃ x, wr.cell? ⟨g, k * 2 + 1, none⟩ = some x := ⟨_, (cell_of_row _ _ (k * 2 + 1) _ _ _ hcs).trans (Array.getElem?_eq_getElem (by omega))⟩
      have zf := fun i => frozen_of_row _ g i _ _ hcs
      have ST := is_stored (i := k * 2) IK.out hcs hge (.int .i64 122) (.int .i64 0)
      obtain ⟨s1, cs', s2, s3⟩ := ST
      have IK2 := Lib.hid s1
      have QK2 : Hid (l = [] ∨ ∃ g' cs, some (⟨g, 0, none⟩ : Addr) = some ⟨g', 0, none⟩ ∧ w6.heap.size ≤ g' ∧ ((wr.setCell ⟨g, k * 2, none⟩ (.int .i64 122)).setCell ⟨g, k * 2 + 1, none⟩ (.int .i64 0)).heap[g']? = some (.cells cs 43 (0, 0)) ∧ cs.size = l.length * 2) := Lib.hid (Or.inr ⟨g, cs', rfl, hge, s2, s3.trans hsz⟩)
      clear s1 s2 s3 hcs hsz QK IK
      go_wp2
      go_roundw
      case rel => exact ⟨k + 1, by omega, by go_num, IK2, QK2⟩
      case measure => (simp [intOf]; try omega)
    · have hk1 : ¬ (k : Int) < l.length := by omega
      clear QK
      go_wp2_with (first
        | (go_at_call 9; refine (IN.out _ _).mono ?_; rintro x y1 ⟨rfl, hy⟩; subst hy)
        | (go_at_call 18; refine (SN.out _ _).mono ?_; rintro x y1 ⟨rfl, hy⟩; subst hy)
        | (go_at_call 15; refine (CN.out _).mono ?_; rintro x y1 ⟨rfl, hy⟩; subst hy)
        | (go_at_call 20; refine (LN.out _).mono ?_; rintro x y1 ⟨rfl, hy⟩; subst hy)
        | (go_at_call 21; refine (TN.out _).mono ?_; rintro x y1 ⟨rfl, hy⟩; subst hy)
        | (go_at_call 22; refine (ALN.out _).mono ?_; rintro x y1 ⟨rfl, hy⟩; subst hy; clear ALN)
        | (go_at_call 24; refine (LIN.out _).mono ?_; rintro x w8 ⟨rfl, b8⟩; have I8 := Lib.hid (IK.out.below b8); clear b8)
        | (go_at_call 22; refine (is_all I8.out).mono ?_; rintro x w9 ⟨ad9, rfl, u9, b9⟩; have U9 := Lib.hid u9; have I9 := Lib.hid (I8.out.below b9); clear b9 u9)
        | (go_at_call 14; obtain ⟨adx, hx, hsx, _⟩ := U9.out.signs; cases hx; have SM := sgsame_ref l l ad9 a l.length c w9 (by omega) (by omega) hsx (HS.out.below I9.out.bel); rw [decide_eq_true (rfl : l = l)] at SM; refine SM.mono ?_; rintro x wA ⟨rfl, bA⟩; have IA := Lib.hid (I9.out.below bA); clear bA))
      go_ret
      exact ⟨rfl, IA.out.bel⟩
end Go.Proofs.Yteolfbamcehcpaa
