import Derived.Test.YtfhcfamjlhmgiaaDoorRows
import Derived.Test.YtfhcfamjlhmgiaaDoorCls0
import Derived.Test.YtfhcfamjlhmgiaaDoorKit
import Derived.WalkKit
import Derived.WalkSpells
import Derived.WalkLawsBesides
import Derived.Handy
import Derived.Lib.Hide
import Derived.Deep.QuietTactic
import Derived.BigQuiet
namespace Go.Proofs.YtfhcfamjlhmgiaaDoor
set_option maxRecDepth 100000
open Go.RowKit
/-- The class tables lie in memory. -/
structure Tabs (w : World) : Prop where
  r : ∀ i, i < 159 → w.cell? ⟨1, i, none⟩ = some (.int .i32 (rng.getD i 0))
  l : ∀ i, i < 102 → w.cell? ⟨2, i, none⟩ = some (.int .i32 (lks.getD i 0))
  s : 1 < w.heap.size
  s2 : 2 < w.heap.size
theorem Tabs.below {w w' : World} (h : Tabs w) (hb : Below w.heap.size w w') : Tabs w' :=
  ⟨fun i hi => (hb.cell (p := ⟨1, i, none⟩) h.s).trans (h.r i hi), fun i hi => (hb.cell (p := ⟨2, i, none⟩) h.s2).trans (h.l i hi), Nat.lt_of_lt_of_le h.s hb.size, Nat.lt_of_lt_of_le h.s2 hb.size⟩
theorem Tabs.alloc {w : World} (h : Tabs w) (o : Obj) : Tabs (w.alloc o) := h.below ((Below.refl _ _).alloc (Nat.le_refl _) _)
theorem finder_any (v : Int) (w : World) : Calls Tryd.prog 120 #[.int .i64 v] w fun e w' => e = .returned (.func (.func 130) #[] #[.pointer (some ⟨w.heap.size, 0, none⟩)]) ∧ w.alloc (.cells #[.int .i64 v] 3) = w' := by
  have hmf : ∀ (fn : Fn) (first cap : Array Value) (w : World), (Instr.makeFunc fn first cap).run Tryd.prog w = .ok (.func fn first cap) w := fun _ _ _ _ => rfl
  go_enter Tryd.func120, Tryd.ntmps120
  go_wp2
  go_ret
  exact ⟨rfl, rfl⟩
theorem in_any (v a b : Int) (p : Nat) (w : World) (hc : w.cell? ⟨p, 0, none⟩ = some (.int .i64 v)) (ha : -2147483648 ≤ a) (ha' : a ≤ 2147483647) (hb : -2147483648 ≤ b) (hb' : b ≤ 2147483647) :
    Calls Tryd.prog 130 #[.int .i32 a, .int .i32 b, .pointer (some ⟨p, 0, none⟩)] w fun e w' => e = .returned (.bool (inb v a b)) ∧ w' = w := by
  rcases (show v < a ∨ (a ≤ v ∧ b < v) ∨ (a ≤ v ∧ v ≤ b) by omega) with h | ⟨h, h'⟩ | ⟨h, h'⟩
  · have H : Hid (inb v a b = false) := Lib.hid (by unfold inb; rw [decide_eq_false (by omega)]; rfl)
    go_enter Tryd.func130, Tryd.ntmps130
    go_wp2
    go_ret
    rw [H.out]; exact ⟨rfl, rfl⟩
  · have H : Hid (inb v a b = false) := Lib.hid (by unfold inb; rw [decide_eq_false (show ¬ v ≤ b by omega), Bool.and_false])
    have hd : decide (v ≤ b) = false := decide_eq_false (by omega)
    go_enter Tryd.func130, Tryd.ntmps130
    go_wp2
    go_ret
    rw [H.out]; exact ⟨rfl, rfl⟩
  · have H : Hid (inb v a b = true) := Lib.hid (by unfold inb; rw [decide_eq_true h, decide_eq_true h']; rfl)
    go_enter Tryd.func130, Tryd.ntmps130
    go_wp2
    go_ret
    rw [H.out]; exact ⟨rfl, rfl⟩
theorem lks_rng (i : Nat) : -2147483648 ≤ lks.getD i 0 ∧ lks.getD i 0 ≤ 2147483647 := by
  rcases Nat.lt_or_ge i 102 with h | h
  · have key : ∀ j : Fin 102, -2147483648 ≤ lks.getD j 0 ∧ lks.getD j 0 ≤ 2147483647 := by decide +kernel
    exact key ⟨i, h⟩
  · rw [List.getD, List.getElem?_eq_none (by exact h)]; exact ⟨by decide, by decide⟩
theorem rng_rng (i : Nat) : -2147483648 ≤ rng.getD i 0 ∧ rng.getD i 0 ≤ 2147483647 := by
  rcases Nat.lt_or_ge i 159 with h | h
  · have key : ∀ j : Fin 159, -2147483648 ≤ rng.getD j 0 ∧ rng.getD j 0 ≤ 2147483647 := by decide +kernel
    exact key ⟨i, h⟩
  · rw [List.getD, List.getElem?_eq_none (by exact h)]; exact ⟨by decide, by decide⟩
set_option maxHeartbeats 400000 in
theorem skel_any (v : Int) (w : World) (hT : Tabs w) : Calls Tryd.prog 121 #[.int .i64 v] w fun e w' => e = .returned (.int .i64 (skel v)) ∧ Below w.heap.size w w' := by
  have HT := Lib.hid hT; clear hT
  go_enter Tryd.func121, Tryd.ntmps121
  go_wp2_with (go_at_call 120; refine (finder_any _ _).mono ?_; rintro e w' ⟨rfl, rfl⟩)
  go_loopw [4] (fun i wr => ∃ (k n : Nat), k ≤ 51 ∧ i = .int .i64 ((2 * k : Nat) : Int) ∧ Hid (∀ j, j < k → hitL v j = false) ∧ wr = (w.alloc (.cells #[.int .i64 v] 3)).drewN n) (fun i _ => 102 - (intOf i).toNat)
  case atStart => exact ⟨0, 0, by omega, rfl, Lib.hid (by intro j hj; omega), rfl⟩
  case round =>
    obtain ⟨k, n, hk, rfl, hno, rfl⟩ := hrel
    by_cases hlt : k < 51
    · have hT2 : Tabs (w.alloc (.cells #[.int .i64 v] 3)) := HT.out.alloc _
      have c0 := hT2.l (2 * k) (by omega)
      have c1 := hT2.l (2 * k + 1) (by omega)
      have hp : (w.alloc (.cells #[.int .i64 v] 3)).cell? ⟨w.heap.size, 0, none⟩ = some (.int .i64 v) := by rw [World.cell?_alloc_new]; rfl
      have r0 := lks_rng (2 * k)
      have r1 := lks_rng (2 * k + 1)
      have hh : hitL v k = inb v (lks.getD (2 * k) 0) (lks.getD (2 * k) 0) := rfl
      have hs : hitL v k = true → skel v = lks.getD (2 * k + 1) 0 := fun h => by unfold skel; rw [find_first hlt h hno.out]
      generalize lks.getD (2 * k) 0 = x at *
      generalize lks.getD (2 * k + 1) 0 = y at *
      rw [hh] at hs
      have Hs := Lib.hid hs; have Hh := Lib.hid hh; clear hs hh hT2
      have hin := fun n => in_any v x x w.heap.size ((w.alloc (.cells #[.int .i64 v] 3)).drewN n) hp r0.1 r0.2 r0.1 r0.2
      have Hin := Lib.hid hin; clear hin
      have hk1 : 2 * k < 101 := by omega
      have hm : 2 * (k + 1) = 2 * k + 2 := by omega
      rw [show ((2 * k : Nat) : Int) = ((2 * k : Nat) : Int) from rfl]
      generalize 2 * k = m at *
      have Hm := Lib.hid hm; clear hm
      cases hb : inb v x x
      · rw [hb] at Hin Hh
        clear hb
        go_wp2
        go_quiet ((go_at_call 130; exact qsame (Hin.out _)))
        go_wp2
        go_roundw
        case rel => exact ⟨k + 1, _, by omega, by rw [Hm.out]; go_num, Lib.hid (by intro j hj; rcases Nat.lt_succ_iff_lt_or_eq.1 hj with h | rfl; exact hno.out j h; exact Hh.out), rfl⟩
        case measure => simp [intOf]; omega
      · rw [hb] at Hin
        have hsk := Hs.out hb
        have Hsk := Lib.hid hsk
        clear hb hsk
        go_wp2
        go_quiet ((go_at_call 130; exact qsame (Hin.out _)))
        go_wp2
        go_ret
        rw [Hsk.out]
        exact ⟨rfl, drewN_below (below_alloc _ _) _⟩
    · obtain rfl : k = 51 := by omega
      have Hsk : Hid (skel v = v) := Lib.hid (by unfold skel; rw [find_none hno.out])
      clear hlt
      go_wp2
      go_ret
      rw [Hsk.out]
      exact ⟨rfl, drewN_below (below_alloc _ _) _⟩
end Go.Proofs.YtfhcfamjlhmgiaaDoor
