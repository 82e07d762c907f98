import Derived.Test.YtfhcfamjlhmgiaaDoorC1
namespace Go.Proofs.YtfhcfamjlhmgiaaDoor
set_option maxRecDepth 100000
open Go.RowKit
theorem Tabs.drewN {w : World} (h : Tabs w) (n : Nat) : Tabs (w.drewN n) := ⟨h.r, h.l, h.s, h.s2⟩
set_option maxRecDepth 100000 in
set_option maxHeartbeats 800000 in
theorem told_any (v : Int) (w : World) (hT : Tabs w) : Calls Tryd.prog 98 #[.int .i64 v] w fun e w' => e = .returned (.int .i64 (told v)) ∧ Below w.heap.size w w' := by
  have HT := Lib.hid hT; clear hT
  go_enter Tryd.func98, Tryd.ntmps98
  go_wp2_with (go_at_call 120; refine (finder_any _ _).mono ?_; rintro e w' ⟨rfl, rfl⟩)
  go_loopw [4] (fun i wr => ∃ (k n : Nat), k ≤ 53 ∧ i = .int .i64 ((3 * k : Nat) : Int) ∧ Hid (∀ j, j < k → hitR v j = false) ∧ wr = (w.alloc (.cells #[.int .i64 v] 3)).drewN n) (fun i _ => 159 - (intOf i).toNat)
  case atStart => exact ⟨0, 0, by omega, rfl, Lib.hid (by intro j hj; omega), rfl⟩
  case round =>
    obtain ⟨k, n, hk, rfl, hno, rfl⟩ := hrel
    by_cases hlt : k < 53
    · have hT2 : Tabs (w.alloc (.cells #[.int .i64 v] 3)) := HT.out.alloc _
      have c0 := hT2.r (3 * k) (by omega)
      have c1 := hT2.r (3 * k + 1) (by omega)
      have c2 := hT2.r (3 * k + 2) (by omega)
      have hp : (w.alloc (.cells #[.int .i64 v] 3)).cell? ⟨w.heap.size, 0, none⟩ = some (.int .i64 v) := by rw [World.cell?_alloc_new]; rfl
      have r0 := rng_rng (3 * k)
      have r1 := rng_rng (3 * k + 1)
      have r2 := rng_rng (3 * k + 2)
      have hh : hitR v k = inb v (rng.getD (3 * k + 1) 0) (rng.getD (3 * k + 2) 0) := rfl
      have hs : hitR v k = true → told v = rng.getD (3 * k) 0 := fun h => by unfold told; rw [find_first hlt h hno.out]
      generalize rng.getD (3 * k) 0 = x at *
      generalize rng.getD (3 * k + 1) 0 = y at *
      generalize rng.getD (3 * k + 2) 0 = z at *
      rw [hh] at hs
      have Hs := Lib.hid hs; have Hh := Lib.hid hh; clear hs hh hT2
      have hin := fun n => in_any v y z w.heap.size ((w.alloc (.cells #[.int .i64 v] 3)).drewN n) hp r1.1 r1.2 r2.1 r2.2
      have Hin := Lib.hid hin; clear hin
      have hk1 : 3 * k < 157 := by omega
      have hm : 3 * (k + 1) = 3 * k + 3 := by omega
      generalize 3 * k = m at *
      have Hm := Lib.hid hm; clear hm
      cases hb : inb v y z
      · rw [hb] at Hin Hh
        clear hb
        go_wp2
        go_quiet ((go_at_call 130; exact qsame (Hin.out _)))
        go_wp2
        go_roundw
        case rel => exact ⟨k + 1, _, by omega, by rw [Hm.out]; go_num, Lib.hid (by intro j hj; rcases Nat.lt_succ_iff_lt_or_eq.1 hj with h | rfl; exact hno.out j h; exact Hh.out), rfl⟩
        case measure => simp [intOf]; omega
      · rw [hb] at Hin
        have hsk := Hs.out hb
        have Hsk := Lib.hid hsk
        clear hb hsk
        go_wp2
        go_quiet ((go_at_call 130; exact qsame (Hin.out _)))
        go_wp2
        go_ret
        rw [Hsk.out]
        exact ⟨rfl, drewN_below (below_alloc _ _) _⟩
    · obtain rfl : k = 53 := by omega
      have ht : told v = if skel v = v then 1 else 3 := by unfold told; rw [find_none hno.out]
      have hS : Tabs ((w.alloc (.cells #[.int .i64 v] 3)).drewN n) := (HT.out.alloc _).drewN _
      have hsk := skel_any v _ hS
      clear hlt
      by_cases he : skel v = v
      · have Ht : Hid (told v = 1) := Lib.hid (by rw [ht, if_pos he])
        have hb : (skel v != v) = false := by rw [he]; simp
        clear ht he hS
        generalize skel v = x at *
        have Hsk := Lib.hid hsk; clear hsk
        go_wp2_with (go_at_call 121; refine Hsk.out.mono ?_; rintro e w1 ⟨rfl, hb1⟩)
        go_ret
        rw [Ht.out]
        exact ⟨rfl, seqB (drewN_below (below_alloc _ _) _) hb1⟩
      · have Ht : Hid (told v = 3) := Lib.hid (by rw [ht, if_neg he])
        have hb : (skel v != v) = true := by simpa using he
        clear ht he hS
        generalize skel v = x at *
        have Hsk := Lib.hid hsk; clear hsk
        go_wp2_with (go_at_call 121; refine Hsk.out.mono ?_; rintro e w1 ⟨rfl, hb1⟩)
        go_ret
        rw [Ht.out]
        exact ⟨rfl, seqB (drewN_below (below_alloc _ _) _) hb1⟩
end Go.Proofs.YtfhcfamjlhmgiaaDoor
