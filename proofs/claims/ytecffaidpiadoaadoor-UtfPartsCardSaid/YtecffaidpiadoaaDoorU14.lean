import Derived.Test.YtecffaidpiadoaaDoorU13
set_option linter.unusedVariables false
set_option linter.unusedSimpArgs false
namespace Go.Proofs.YtecffaidpiadoaaDoor
open Go.RowKit
/-- Is a text that is not empty a code point's beginning? -/
def partB (s : ByteArray) : Bool := decide (begS s = s.size) && decide (s.size < sizeB (s.get! 0).toNat)
theorem partB_iff (s : ByteArray) : partB s = true ↔ (begS s = s.size ∧ s.size < sizeB (s.get! 0).toNat) := by unfold partB; rw [Bool.and_eq_true, decide_eq_true_eq, decide_eq_true_eq]
theorem part_cl (n b0 b1 b2 b3 z lo hi : Nat) (hn : 1 ≤ n) (hz : sizeB b0 = z) (h1 : 2 ≤ z) (hm : ∀ c, mayB b0 c 1 = true ↔ lo ≤ c ∧ c ≤ hi) :
    (begB n b0 b1 b2 b3 = n ∧ n < z) ↔ (n < z ∧ (1 < n → lo ≤ b1 ∧ b1 ≤ hi) ∧ (2 < n → 128 ≤ b2 ∧ b2 ≤ 191)) := by
  have h4 : z ≤ 4 := by rw [← hz]; exact sizeB_le b0
  have m1 := hm b1
  have m2 : mayB b0 b2 2 = true ↔ 128 ≤ b2 ∧ b2 ≤ 191 := by rw [mayB_iff]; omega
  subst hz
  by_cases c1 : 1 < n
  · by_cases c2 : mayB b0 b1 1 = true
    · have g1 := m1.1 c2
      by_cases c3 : 2 < n
      · by_cases c5 : 2 < sizeB b0
        · by_cases c4 : mayB b0 b2 2 = true
          · have g2 := m2.1 c4
            by_cases c6 : n < sizeB b0
            · rw [beg3 ⟨by omega, c1, c2⟩ ⟨c5, c3, c4⟩ (fun h => by have := h.1; have := h.2.1; omega)]; omega
            · omega
          · have g2 : ¬ (128 ≤ b2 ∧ b2 ≤ 191) := fun h => c4 (m2.2 h)
            rw [beg2 ⟨by omega, c1, c2⟩ (by simp [c4])]; omega
        · omega
      · by_cases c6 : n < sizeB b0
        · rw [beg2 ⟨by omega, c1, c2⟩ (fun h => by have := h.1; have := h.2.1; omega)]; omega
        · omega
    · have g1 : ¬ (lo ≤ b1 ∧ b1 ≤ hi) := fun h => c2 (m1.2 h)
      rw [beg1 (by simp [c2])]; omega
  · rw [beg1 (fun h => by have := h.2.1; omega)]; omega
theorem may_cl (b0 c : Nat) : mayB b0 c 1 = true ↔ (128 ≤ c ∧ c ≤ 191) ∧ ¬ (b0 = 224 ∧ c < 160 ∨ b0 = 237 ∧ 159 < c ∨ b0 = 240 ∧ c < 144 ∨ b0 = 244 ∧ 143 < c) := by rw [mayB_iff]; omega
theorem cl_cases (b0 : Nat) : (Lib.firstT b0 = 240 ∧ sizeB b0 = 1) ∨ (Lib.firstT b0 = 241 ∧ sizeB b0 = 0)
    ∨ (Lib.firstT b0 = 2 ∧ sizeB b0 = 2 ∧ ∀ c, mayB b0 c 1 = true ↔ 128 ≤ c ∧ c ≤ 191) ∨ (Lib.firstT b0 = 19 ∧ sizeB b0 = 3 ∧ ∀ c, mayB b0 c 1 = true ↔ 160 ≤ c ∧ c ≤ 191)
    ∨ (Lib.firstT b0 = 3 ∧ sizeB b0 = 3 ∧ ∀ c, mayB b0 c 1 = true ↔ 128 ≤ c ∧ c ≤ 191) ∨ (Lib.firstT b0 = 35 ∧ sizeB b0 = 3 ∧ ∀ c, mayB b0 c 1 = true ↔ 128 ≤ c ∧ c ≤ 159)
    ∨ (Lib.firstT b0 = 52 ∧ sizeB b0 = 4 ∧ ∀ c, mayB b0 c 1 = true ↔ 144 ≤ c ∧ c ≤ 191) ∨ (Lib.firstT b0 = 4 ∧ sizeB b0 = 4 ∧ ∀ c, mayB b0 c 1 = true ↔ 128 ≤ c ∧ c ≤ 191)
    ∨ (Lib.firstT b0 = 68 ∧ sizeB b0 = 4 ∧ ∀ c, mayB b0 c 1 = true ↔ 128 ≤ c ∧ c ≤ 143) := by
  have hm := fun c => may_cl b0 c
  rcases (by omega : b0 < 128 ∨ (128 ≤ b0 ∧ b0 < 194) ∨ (194 ≤ b0 ∧ b0 < 224) ∨ b0 = 224 ∨ (225 ≤ b0 ∧ b0 < 237) ∨ b0 = 237 ∨ (238 ≤ b0 ∧ b0 < 240) ∨ b0 = 240 ∨ (241 ≤ b0 ∧ b0 < 244) ∨ b0 = 244 ∨ 245 ≤ b0) with h | h | h | h | h | h | h | h | h | h | h
  · left; unfold Lib.firstT sizeB; rw [if_pos h, if_pos h]; exact ⟨rfl, rfl⟩
  · right; left; unfold Lib.firstT sizeB; simp only [show ¬ b0 < 128 by omega, show b0 < 194 by omega, show ¬ (194 ≤ b0 ∧ b0 ≤ 223) by omega, show ¬ (224 ≤ b0 ∧ b0 ≤ 239) by omega, show ¬ (240 ≤ b0 ∧ b0 ≤ 244) by omega, if_true, if_false]; exact ⟨trivial, trivial⟩
  · right; right; left; refine ⟨?_, ?_, fun c => by rw [hm c]; omega⟩
    · unfold Lib.firstT; simp only [show ¬ b0 < 128 by omega, show ¬ b0 < 194 by omega, show b0 < 224 by omega, if_true, if_false]
    · unfold sizeB; simp only [show ¬ b0 < 128 by omega, show (194 ≤ b0 ∧ b0 ≤ 223) by omega, and_self, if_true, if_false]
  · right; right; right; left; subst h; exact ⟨by decide, by decide, fun c => by rw [hm c]; omega⟩
  · right; right; right; right; left; refine ⟨?_, ?_, fun c => by rw [hm c]; omega⟩
    · unfold Lib.firstT; simp only [show ¬ b0 < 128 by omega, show ¬ b0 < 194 by omega, show ¬ b0 < 224 by omega, show ¬ b0 = 224 by omega, show b0 < 237 by omega, if_true, if_false]
    · unfold sizeB; rw [if_neg (by omega), if_neg (by omega), if_pos (by omega)]
  · right; right; right; right; right; left; subst h; exact ⟨by decide, by decide, fun c => by rw [hm c]; omega⟩
  · right; right; right; right; left; refine ⟨?_, ?_, fun c => by rw [hm c]; omega⟩
    · unfold Lib.firstT; simp only [show ¬ b0 < 128 by omega, show ¬ b0 < 194 by omega, show ¬ b0 < 224 by omega, show ¬ b0 = 224 by omega, show ¬ b0 < 237 by omega, show ¬ b0 = 237 by omega, show b0 < 240 by omega, if_true, if_false]
    · unfold sizeB; rw [if_neg (by omega), if_neg (by omega), if_pos (by omega)]
  · right; right; right; right; right; right; left; subst h; exact ⟨by decide, by decide, fun c => by rw [hm c]; omega⟩
  · right; right; right; right; right; right; right; left; refine ⟨?_, ?_, fun c => by rw [hm c]; omega⟩
    · unfold Lib.firstT; simp only [show ¬ b0 < 128 by omega, show ¬ b0 < 194 by omega, show ¬ b0 < 224 by omega, show ¬ b0 = 224 by omega, show ¬ b0 < 237 by omega, show ¬ b0 = 237 by omega, show ¬ b0 < 240 by omega, show ¬ b0 = 240 by omega, show b0 < 244 by omega, if_true, if_false]
    · unfold sizeB; rw [if_neg (by omega), if_neg (by omega), if_neg (by omega), if_pos (by omega)]
  · right; right; right; right; right; right; right; right; subst h; exact ⟨by decide, by decide, fun c => by rw [hm c]; omega⟩
  · right; left; unfold Lib.firstT sizeB; simp only [show ¬ b0 < 128 by omega, show ¬ b0 < 194 by omega, show ¬ b0 < 224 by omega, show ¬ b0 = 224 by omega, show ¬ b0 < 237 by omega, show ¬ b0 = 237 by omega, show ¬ b0 < 240 by omega, show ¬ b0 = 240 by omega, show ¬ b0 < 244 by omega, show ¬ b0 = 244 by omega, show ¬ (194 ≤ b0 ∧ b0 ≤ 223) by omega, show ¬ (224 ≤ b0 ∧ b0 ≤ 239) by omega, show ¬ (240 ≤ b0 ∧ b0 ≤ 244) by omega, if_true, if_false]; exact ⟨trivial, trivial⟩
theorem ret_nn {a b : Bool} (h : b = !a) : Ending.returned (.bool b) = .returned (.bool (!a)) := by rw [h]
set_option maxRecDepth 100000 in
set_option maxHeartbeats 4000000 in
theorem full_any (s : ByteArray) (w : World) (hT : UT w) (hs : 0 < s.size) (hs' : s.size ≤ 1000000) :
    Calls Tryd.prog 45 #[.string s] w fun e w' => e = .returned (.bool (!partB s)) ∧ Below w.heap.size w w' := by
  have hp := partB_iff s
  rw [begS_B] at hp
  have g0 := get_get s 0 hs
  have l0 := (s.get! 0).toNat_lt; have l1 := (s.get! 1).toNat_lt; have l2 := (s.get! 2).toNat_lt
  have hc0 := hT.1.1 (s.get! 0).toNat l0
  have hb0 : Below w.heap.size w w := Below.refl _ _
  have HT := Lib.hid hT; clear hT
  have hz0 : (0 : Int) < (s.size : Int) := by omega
  have hcl := cl_cases (s.get! 0).toNat
  have g1 := fun h => get_get s 1 h
  have g2 := fun h => get_get s 2 h
  generalize s.get! 0 = x0 at *
  generalize s.get! 1 = x1 at *
  generalize s.get! 2 = x2 at *
  generalize (s.get! 3).toNat = x3 at *
  have hs0 : s[0]'(by omega) = x0 := g0.symm
  have hfalse : ∀ (z : Nat), sizeB x0.toNat = z → ¬ s.size < z → partB s = false := by
    intro z hz hn; rw [← Bool.not_eq_true]; intro h; have := (hp.1 h).2; omega
  rcases hcl with ⟨hX, hz⟩ | ⟨hX, hz⟩ | ⟨hX, hz, hm⟩ | ⟨hX, hz, hm⟩ | ⟨hX, hz, hm⟩ | ⟨hX, hz, hm⟩ | ⟨hX, hz, hm⟩ | ⟨hX, hz, hm⟩ | ⟨hX, hz, hm⟩
  · have hf := hfalse 1 hz (by omega)
    rw [hf]
    rw [hX] at hc0
    clear hf hfalse hp hX hz g0 g1 g2 l1 l2
    go_enter Tryd.func45, Tryd.ntmps45
    go_wp2
    go_ret
    exact ⟨rfl, Below.refl _ _⟩
  · have hf := hfalse 0 hz (by omega)
    rw [hf]
    rw [hX] at hc0
    clear hf hfalse hp hX hz g0 g1 g2 l1 l2
    have hz1 : (1 : Int) ≤ (s.size : Int) := by omega
    go_enter Tryd.func45, Tryd.ntmps45
    go_wp2
    go_ret
    exact ⟨rfl, Below.refl _ _⟩
  · have hiff := (part_cl s.size x0.toNat x1.toNat x2.toNat x3 2 128 191 hs hz (by omega) hm)
    rw [hX] at hc0
    rw [hz] at hp
    by_cases hn : s.size < 2
    · have hP := hp.trans hiff
      have hf : ¬ (s.size < 2 ∧ (1 < s.size → 128 ≤ x1.toNat ∧ x1.toNat ≤ 191) ∧ (2 < s.size → 128 ≤ x2.toNat ∧ x2.toNat ≤ 191)) → partB s = false := by
        intro h; rw [← Bool.not_eq_true]; intro h2; exact h (hP.1 h2)
      have ht := hP.2
      have ha0 := (HT.out.1.2 0 (by omega)).1
      have ha1 := (HT.out.1.2 0 (by omega)).2
      simp only [Lib.accLo, Lib.accHi, Nat.reduceMul, Nat.reduceAdd, Nat.reduceEqDiff, if_true, if_false] at ha0 ha1
      have hnz : (s.size : Int) < 2 := by omega
      have Hf := Lib.hid hf; have Ht := Lib.hid ht
      clear hf ht hP hp hiff hfalse hX hz hm g0 l1 l2
      have hk : s.size = 1 := by omega
      have hq : ¬ ((1 : Int) < (s.size : Int)) := by omega
      have hq2 : ¬ ((2 : Int) < (s.size : Int)) := by omega
      replace Ht := Lib.hid (Ht.out ⟨by omega, by omega, by omega⟩)
      clear Hf g1 g2
      go_enter Tryd.func45, Tryd.ntmps45
      go_wp2
      go_quiet (fail)
      go_wp2
      go_ret
      exact ⟨ret_nn (by rw [Ht.out]; rfl), seqB (below_alloc _ _) (drewN_below (Below.refl _ _) _)⟩
    · have hf := hfalse 2 hz hn
      rw [hf]
      clear hf hfalse hp hiff hX hz hm g0 g1 g2 l1 l2
      have hz1 : (2 : Int) ≤ (s.size : Int) := by omega
      go_enter Tryd.func45, Tryd.ntmps45
      go_wp2
      go_ret
      exact ⟨rfl, Below.refl _ _⟩
  · have hiff := (part_cl s.size x0.toNat x1.toNat x2.toNat x3 3 160 191 hs hz (by omega) hm)
    rw [hX] at hc0
    rw [hz] at hp
    by_cases hn : s.size < 3
    · have hP := hp.trans hiff
      have hf : ¬ (s.size < 3 ∧ (1 < s.size → 160 ≤ x1.toNat ∧ x1.toNat ≤ 191) ∧ (2 < s.size → 128 ≤ x2.toNat ∧ x2.toNat ≤ 191)) → partB s = false := by
        intro h; rw [← Bool.not_eq_true]; intro h2; exact h (hP.1 h2)
      have ht := hP.2
      have ha0 := (HT.out.1.2 1 (by omega)).1
      have ha1 := (HT.out.1.2 1 (by omega)).2
      simp only [Lib.accLo, Lib.accHi, Nat.reduceMul, Nat.reduceAdd, Nat.reduceEqDiff, if_true, if_false] at ha0 ha1
      have hnz : (s.size : Int) < 3 := by omega
      have Hf := Lib.hid hf; have Ht := Lib.hid ht
      clear hf ht hP hp hiff hfalse hX hz hm g0 l1 l2
      rcases (by omega : s.size = 1 ∨ s.size = 2) with hk | hk
      · have hq : ¬ ((1 : Int) < (s.size : Int)) := by omega
        have hq2 : ¬ ((2 : Int) < (s.size : Int)) := by omega
        replace Ht := Lib.hid (Ht.out ⟨by omega, by omega, by omega⟩)
        clear Hf g1 g2
        go_enter Tryd.func45, Tryd.ntmps45
        go_wp2
        go_quiet (fail)
        go_wp2
        go_ret
        exact ⟨ret_nn (by rw [Ht.out]; rfl), seqB (below_alloc _ _) (drewN_below (Below.refl _ _) _)⟩
      · have hq : (1 : Int) < (s.size : Int) := by omega
        have hq2 : ¬ ((2 : Int) < (s.size : Int)) := by omega
        have hs1 : s[1]'(by omega) = x1 := (g1 (by omega)).symm
        clear g1 g2
        rcases (by omega : (x1.toNat < 160) ∨ (¬ x1.toNat < 160 ∧ 191 < x1.toNat) ∨ (160 ≤ x1.toNat ∧ x1.toNat ≤ 191)) with c1 | ⟨c1, c2⟩ | ⟨c1, c2⟩
        · have d1 : (x1.toNat : Int) < 160 := by omega
          replace Hf := Lib.hid (Hf.out (by omega))
          clear Ht c1
          go_enter Tryd.func45, Tryd.ntmps45
          go_wp2
          go_quiet (fail)
          go_wp2
          go_ret
          exact ⟨ret_nn (by rw [Hf.out]; rfl), seqB (below_alloc _ _) (drewN_below (Below.refl _ _) _)⟩
        · have d1 : (160 : Int) ≤ (x1.toNat : Int) := by omega
          have d2 : (191 : Int) < (x1.toNat : Int) := by omega
          replace Hf := Lib.hid (Hf.out (by omega))
          clear Ht c1 c2
          go_enter Tryd.func45, Tryd.ntmps45
          go_wp2
          go_quiet (fail)
          go_wp2
          go_ret
          exact ⟨ret_nn (by rw [Hf.out]; rfl), seqB (below_alloc _ _) (drewN_below (Below.refl _ _) _)⟩
        · have d1 : (160 : Int) ≤ (x1.toNat : Int) := by omega
          have d2 : (x1.toNat : Int) ≤ 191 := by omega
          replace Ht := Lib.hid (Ht.out (by omega))
          clear Hf c1 c2
          go_enter Tryd.func45, Tryd.ntmps45
          go_wp2
          go_quiet (fail)
          go_wp2
          go_ret
          exact ⟨ret_nn (by rw [Ht.out]; rfl), seqB (below_alloc _ _) (drewN_below (Below.refl _ _) _)⟩
    · have hf := hfalse 3 hz hn
      rw [hf]
      clear hf hfalse hp hiff hX hz hm g0 g1 g2 l1 l2
      have hz1 : (3 : Int) ≤ (s.size : Int) := by omega
      go_enter Tryd.func45, Tryd.ntmps45
      go_wp2
      go_ret
      exact ⟨rfl, Below.refl _ _⟩
  · have hiff := (part_cl s.size x0.toNat x1.toNat x2.toNat x3 3 128 191 hs hz (by omega) hm)
    rw [hX] at hc0
    rw [hz] at hp
    by_cases hn : s.size < 3
    · have hP := hp.trans hiff
      have hf : ¬ (s.size < 3 ∧ (1 < s.size → 128 ≤ x1.toNat ∧ x1.toNat ≤ 191) ∧ (2 < s.size → 128 ≤ x2.toNat ∧ x2.toNat ≤ 191)) → partB s = false := by
        intro h; rw [← Bool.not_eq_true]; intro h2; exact h (hP.1 h2)
      have ht := hP.2
      have ha0 := (HT.out.1.2 0 (by omega)).1
      have ha1 := (HT.out.1.2 0 (by omega)).2
      simp only [Lib.accLo, Lib.accHi, Nat.reduceMul, Nat.reduceAdd, Nat.reduceEqDiff, if_true, if_false] at ha0 ha1
      have hnz : (s.size : Int) < 3 := by omega
      have Hf := Lib.hid hf; have Ht := Lib.hid ht
      clear hf ht hP hp hiff hfalse hX hz hm g0 l1 l2
      rcases (by omega : s.size = 1 ∨ s.size = 2) with hk | hk
      · have hq : ¬ ((1 : Int) < (s.size : Int)) := by omega
        have hq2 : ¬ ((2 : Int) < (s.size : Int)) := by omega
        replace Ht := Lib.hid (Ht.out ⟨by omega, by omega, by omega⟩)
        clear Hf g1 g2
        go_enter Tryd.func45, Tryd.ntmps45
        go_wp2
        go_quiet (fail)
        go_wp2
        go_ret
        exact ⟨ret_nn (by rw [Ht.out]; rfl), seqB (below_alloc _ _) (drewN_below (Below.refl _ _) _)⟩
      · have hq : (1 : Int) < (s.size : Int) := by omega
        have hq2 : ¬ ((2 : Int) < (s.size : Int)) := by omega
        have hs1 : s[1]'(by omega) = x1 := (g1 (by omega)).symm
        clear g1 g2
        rcases (by omega : (x1.toNat < 128) ∨ (¬ x1.toNat < 128 ∧ 191 < x1.toNat) ∨ (128 ≤ x1.toNat ∧ x1.toNat ≤ 191)) with c1 | ⟨c1, c2⟩ | ⟨c1, c2⟩
        · have d1 : (x1.toNat : Int) < 128 := by omega
          replace Hf := Lib.hid (Hf.out (by omega))
          clear Ht c1
          go_enter Tryd.func45, Tryd.ntmps45
          go_wp2
          go_quiet (fail)
          go_wp2
          go_ret
          exact ⟨ret_nn (by rw [Hf.out]; rfl), seqB (below_alloc _ _) (drewN_below (Below.refl _ _) _)⟩
        · have d1 : (128 : Int) ≤ (x1.toNat : Int) := by omega
          have d2 : (191 : Int) < (x1.toNat : Int) := by omega
          replace Hf := Lib.hid (Hf.out (by omega))
          clear Ht c1 c2
          go_enter Tryd.func45, Tryd.ntmps45
          go_wp2
          go_quiet (fail)
          go_wp2
          go_ret
          exact ⟨ret_nn (by rw [Hf.out]; rfl), seqB (below_alloc _ _) (drewN_below (Below.refl _ _) _)⟩
        · have d1 : (128 : Int) ≤ (x1.toNat : Int) := by omega
          have d2 : (x1.toNat : Int) ≤ 191 := by omega
          replace Ht := Lib.hid (Ht.out (by omega))
          clear Hf c1 c2
          go_enter Tryd.func45, Tryd.ntmps45
          go_wp2
          go_quiet (fail)
          go_wp2
          go_ret
          exact ⟨ret_nn (by rw [Ht.out]; rfl), seqB (below_alloc _ _) (drewN_below (Below.refl _ _) _)⟩
    · have hf := hfalse 3 hz hn
      rw [hf]
      clear hf hfalse hp hiff hX hz hm g0 g1 g2 l1 l2
      have hz1 : (3 : Int) ≤ (s.size : Int) := by omega
      go_enter Tryd.func45, Tryd.ntmps45
      go_wp2
      go_ret
      exact ⟨rfl, Below.refl _ _⟩
  · have hiff := (part_cl s.size x0.toNat x1.toNat x2.toNat x3 3 128 159 hs hz (by omega) hm)
    rw [hX] at hc0
    rw [hz] at hp
    by_cases hn : s.size < 3
    · have hP := hp.trans hiff
      have hf : ¬ (s.size < 3 ∧ (1 < s.size → 128 ≤ x1.toNat ∧ x1.toNat ≤ 159) ∧ (2 < s.size → 128 ≤ x2.toNat ∧ x2.toNat ≤ 191)) → partB s = false := by
        intro h; rw [← Bool.not_eq_true]; intro h2; exact h (hP.1 h2)
      have ht := hP.2
      have ha0 := (HT.out.1.2 2 (by omega)).1
      have ha1 := (HT.out.1.2 2 (by omega)).2
      simp only [Lib.accLo, Lib.accHi, Nat.reduceMul, Nat.reduceAdd, Nat.reduceEqDiff, if_true, if_false] at ha0 ha1
      have hnz : (s.size : Int) < 3 := by omega
      have Hf := Lib.hid hf; have Ht := Lib.hid ht
      clear hf ht hP hp hiff hfalse hX hz hm g0 l1 l2
      rcases (by omega : s.size = 1 ∨ s.size = 2) with hk | hk
      · have hq : ¬ ((1 : Int) < (s.size : Int)) := by omega
        have hq2 : ¬ ((2 : Int) < (s.size : Int)) := by omega
        replace Ht := Lib.hid (Ht.out ⟨by omega, by omega, by omega⟩)
        clear Hf g1 g2
        go_enter Tryd.func45, Tryd.ntmps45
        go_wp2
        go_quiet (fail)
        go_wp2
        go_ret
        exact ⟨ret_nn (by rw [Ht.out]; rfl), seqB (below_alloc _ _) (drewN_below (Below.refl _ _) _)⟩
      · have hq : (1 : Int) < (s.size : Int) := by omega
        have hq2 : ¬ ((2 : Int) < (s.size : Int)) := by omega
        have hs1 : s[1]'(by omega) = x1 := (g1 (by omega)).symm
        clear g1 g2
        rcases (by omega : (x1.toNat < 128) ∨ (¬ x1.toNat < 128 ∧ 159 < x1.toNat) ∨ (128 ≤ x1.toNat ∧ x1.toNat ≤ 159)) with c1 | ⟨c1, c2⟩ | ⟨c1, c2⟩
        · have d1 : (x1.toNat : Int) < 128 := by omega
          replace Hf := Lib.hid (Hf.out (by omega))
          clear Ht c1
          go_enter Tryd.func45, Tryd.ntmps45
          go_wp2
          go_quiet (fail)
          go_wp2
          go_ret
          exact ⟨ret_nn (by rw [Hf.out]; rfl), seqB (below_alloc _ _) (drewN_below (Below.refl _ _) _)⟩
        · have d1 : (128 : Int) ≤ (x1.toNat : Int) := by omega
          have d2 : (159 : Int) < (x1.toNat : Int) := by omega
          replace Hf := Lib.hid (Hf.out (by omega))
          clear Ht c1 c2
          go_enter Tryd.func45, Tryd.ntmps45
          go_wp2
          go_quiet (fail)
          go_wp2
          go_ret
          exact ⟨ret_nn (by rw [Hf.out]; rfl), seqB (below_alloc _ _) (drewN_below (Below.refl _ _) _)⟩
        · have d1 : (128 : Int) ≤ (x1.toNat : Int) := by omega
          have d2 : (x1.toNat : Int) ≤ 159 := by omega
          replace Ht := Lib.hid (Ht.out (by omega))
          clear Hf c1 c2
          go_enter Tryd.func45, Tryd.ntmps45
          go_wp2
          go_quiet (fail)
          go_wp2
          go_ret
          exact ⟨ret_nn (by rw [Ht.out]; rfl), seqB (below_alloc _ _) (drewN_below (Below.refl _ _) _)⟩
    · have hf := hfalse 3 hz hn
      rw [hf]
      clear hf hfalse hp hiff hX hz hm g0 g1 g2 l1 l2
      have hz1 : (3 : Int) ≤ (s.size : Int) := by omega
      go_enter Tryd.func45, Tryd.ntmps45
      go_wp2
      go_ret
      exact ⟨rfl, Below.refl _ _⟩
  · have hiff := (part_cl s.size x0.toNat x1.toNat x2.toNat x3 4 144 191 hs hz (by omega) hm)
    rw [hX] at hc0
    rw [hz] at hp
    by_cases hn : s.size < 4
    · have hP := hp.trans hiff
      have hf : ¬ (s.size < 4 ∧ (1 < s.size → 144 ≤ x1.toNat ∧ x1.toNat ≤ 191) ∧ (2 < s.size → 128 ≤ x2.toNat ∧ x2.toNat ≤ 191)) → partB s = false := by
        intro h; rw [← Bool.not_eq_true]; intro h2; exact h (hP.1 h2)
      have ht := hP.2
      have ha0 := (HT.out.1.2 3 (by omega)).1
      have ha1 := (HT.out.1.2 3 (by omega)).2
      simp only [Lib.accLo, Lib.accHi, Nat.reduceMul, Nat.reduceAdd, Nat.reduceEqDiff, if_true, if_false] at ha0 ha1
      have hnz : (s.size : Int) < 4 := by omega
      have Hf := Lib.hid hf; have Ht := Lib.hid ht
      clear hf ht hP hp hiff hfalse hX hz hm g0 l1 l2
      rcases (by omega : s.size = 1 ∨ s.size = 2 ∨ s.size = 3) with hk | hk | hk
      · have hq : ¬ ((1 : Int) < (s.size : Int)) := by omega
        have hq2 : ¬ ((2 : Int) < (s.size : Int)) := by omega
        replace Ht := Lib.hid (Ht.out ⟨by omega, by omega, by omega⟩)
        clear Hf g1 g2
        go_enter Tryd.func45, Tryd.ntmps45
        go_wp2
        go_quiet (fail)
        go_wp2
        go_ret
        exact ⟨ret_nn (by rw [Ht.out]; rfl), seqB (below_alloc _ _) (drewN_below (Below.refl _ _) _)⟩
      · have hq : (1 : Int) < (s.size : Int) := by omega
        have hq2 : ¬ ((2 : Int) < (s.size : Int)) := by omega
        have hs1 : s[1]'(by omega) = x1 := (g1 (by omega)).symm
        clear g1 g2
        rcases (by omega : (x1.toNat < 144) ∨ (¬ x1.toNat < 144 ∧ 191 < x1.toNat) ∨ (144 ≤ x1.toNat ∧ x1.toNat ≤ 191)) with c1 | ⟨c1, c2⟩ | ⟨c1, c2⟩
        · have d1 : (x1.toNat : Int) < 144 := by omega
          replace Hf := Lib.hid (Hf.out (by omega))
          clear Ht c1
          go_enter Tryd.func45, Tryd.ntmps45
          go_wp2
          go_quiet (fail)
          go_wp2
          go_ret
          exact ⟨ret_nn (by rw [Hf.out]; rfl), seqB (below_alloc _ _) (drewN_below (Below.refl _ _) _)⟩
        · have d1 : (144 : Int) ≤ (x1.toNat : Int) := by omega
          have d2 : (191 : Int) < (x1.toNat : Int) := by omega
          replace Hf := Lib.hid (Hf.out (by omega))
          clear Ht c1 c2
          go_enter Tryd.func45, Tryd.ntmps45
          go_wp2
          go_quiet (fail)
          go_wp2
          go_ret
          exact ⟨ret_nn (by rw [Hf.out]; rfl), seqB (below_alloc _ _) (drewN_below (Below.refl _ _) _)⟩
        · have d1 : (144 : Int) ≤ (x1.toNat : Int) := by omega
          have d2 : (x1.toNat : Int) ≤ 191 := by omega
          replace Ht := Lib.hid (Ht.out (by omega))
          clear Hf c1 c2
          go_enter Tryd.func45, Tryd.ntmps45
          go_wp2
          go_quiet (fail)
          go_wp2
          go_ret
          exact ⟨ret_nn (by rw [Ht.out]; rfl), seqB (below_alloc _ _) (drewN_below (Below.refl _ _) _)⟩
      · have hq : (1 : Int) < (s.size : Int) := by omega
        have hq2 : (2 : Int) < (s.size : Int) := by omega
        have hs1 : s[1]'(by omega) = x1 := (g1 (by omega)).symm
        have hs2 : s[2]'(by omega) = x2 := (g2 (by omega)).symm
        clear g1 g2
        rcases (by omega : (x1.toNat < 144) ∨ (¬ x1.toNat < 144 ∧ 191 < x1.toNat) ∨ (144 ≤ x1.toNat ∧ x1.toNat ≤ 191)) with c1 | ⟨c1, c2⟩ | ⟨c1, c2⟩
        · have d1 : (x1.toNat : Int) < 144 := by omega
          replace Hf := Lib.hid (Hf.out (by omega))
          clear Ht c1
          go_enter Tryd.func45, Tryd.ntmps45
          go_wp2
          go_quiet (fail)
          go_wp2
          go_ret
          exact ⟨ret_nn (by rw [Hf.out]; rfl), seqB (below_alloc _ _) (drewN_below (Below.refl _ _) _)⟩
        · have d1 : (144 : Int) ≤ (x1.toNat : Int) := by omega
          have d2 : (191 : Int) < (x1.toNat : Int) := by omega
          replace Hf := Lib.hid (Hf.out (by omega))
          clear Ht c1 c2
          go_enter Tryd.func45, Tryd.ntmps45
          go_wp2
          go_quiet (fail)
          go_wp2
          go_ret
          exact ⟨ret_nn (by rw [Hf.out]; rfl), seqB (below_alloc _ _) (drewN_below (Below.refl _ _) _)⟩
        · have d1 : (144 : Int) ≤ (x1.toNat : Int) := by omega
          have d2 : (x1.toNat : Int) ≤ 191 := by omega
          rcases (by omega : (x2.toNat < 128) ∨ (¬ x2.toNat < 128 ∧ 191 < x2.toNat) ∨ (128 ≤ x2.toNat ∧ x2.toNat ≤ 191)) with c3 | ⟨c3, c4⟩ | ⟨c3, c4⟩
          · have d3 : (x2.toNat : Int) < 128 := by omega
            replace Hf := Lib.hid (Hf.out (by omega))
            clear Ht c1 c2 c3
            go_enter Tryd.func45, Tryd.ntmps45
            go_wp2
            go_quiet (fail)
            go_wp2
            go_ret
            exact ⟨ret_nn (by rw [Hf.out]; rfl), seqB (below_alloc _ _) (drewN_below (Below.refl _ _) _)⟩
          · have d3 : (128 : Int) ≤ (x2.toNat : Int) := by omega
            have d4 : (191 : Int) < (x2.toNat : Int) := by omega
            replace Hf := Lib.hid (Hf.out (by omega))
            clear Ht c1 c2 c3 c4
            go_enter Tryd.func45, Tryd.ntmps45
            go_wp2
            go_quiet (fail)
            go_wp2
            go_ret
            exact ⟨ret_nn (by rw [Hf.out]; rfl), seqB (below_alloc _ _) (drewN_below (Below.refl _ _) _)⟩
          · have d3 : (128 : Int) ≤ (x2.toNat : Int) := by omega
            have d4 : (x2.toNat : Int) ≤ 191 := by omega
            replace Ht := Lib.hid (Ht.out (by omega))
            clear Hf c1 c2 c3 c4
            go_enter Tryd.func45, Tryd.ntmps45
            go_wp2
            go_quiet (fail)
            go_wp2
            go_ret
            exact ⟨ret_nn (by rw [Ht.out]; rfl), seqB (below_alloc _ _) (drewN_below (Below.refl _ _) _)⟩
    · have hf := hfalse 4 hz hn
      rw [hf]
      clear hf hfalse hp hiff hX hz hm g0 g1 g2 l1 l2
      have hz1 : (4 : Int) ≤ (s.size : Int) := by omega
      go_enter Tryd.func45, Tryd.ntmps45
      go_wp2
      go_ret
      exact ⟨rfl, Below.refl _ _⟩
  · have hiff := (part_cl s.size x0.toNat x1.toNat x2.toNat x3 4 128 191 hs hz (by omega) hm)
    rw [hX] at hc0
    rw [hz] at hp
    by_cases hn : s.size < 4
    · have hP := hp.trans hiff
      have hf : ¬ (s.size < 4 ∧ (1 < s.size → 128 ≤ x1.toNat ∧ x1.toNat ≤ 191) ∧ (2 < s.size → 128 ≤ x2.toNat ∧ x2.toNat ≤ 191)) → partB s = false := by
        intro h; rw [← Bool.not_eq_true]; intro h2; exact h (hP.1 h2)
      have ht := hP.2
      have ha0 := (HT.out.1.2 0 (by omega)).1
      have ha1 := (HT.out.1.2 0 (by omega)).2
      simp only [Lib.accLo, Lib.accHi, Nat.reduceMul, Nat.reduceAdd, Nat.reduceEqDiff, if_true, if_false] at ha0 ha1
      have hnz : (s.size : Int) < 4 := by omega
      have Hf := Lib.hid hf; have Ht := Lib.hid ht
      clear hf ht hP hp hiff hfalse hX hz hm g0 l1 l2
      rcases (by omega : s.size = 1 ∨ s.size = 2 ∨ s.size = 3) with hk | hk | hk
      · have hq : ¬ ((1 : Int) < (s.size : Int)) := by omega
        have hq2 : ¬ ((2 : Int) < (s.size : Int)) := by omega
        replace Ht := Lib.hid (Ht.out ⟨by omega, by omega, by omega⟩)
        clear Hf g1 g2
        go_enter Tryd.func45, Tryd.ntmps45
        go_wp2
        go_quiet (fail)
        go_wp2
        go_ret
        exact ⟨ret_nn (by rw [Ht.out]; rfl), seqB (below_alloc _ _) (drewN_below (Below.refl _ _) _)⟩
      · have hq : (1 : Int) < (s.size : Int) := by omega
        have hq2 : ¬ ((2 : Int) < (s.size : Int)) := by omega
        have hs1 : s[1]'(by omega) = x1 := (g1 (by omega)).symm
        clear g1 g2
        rcases (by omega : (x1.toNat < 128) ∨ (¬ x1.toNat < 128 ∧ 191 < x1.toNat) ∨ (128 ≤ x1.toNat ∧ x1.toNat ≤ 191)) with c1 | ⟨c1, c2⟩ | ⟨c1, c2⟩
        · have d1 : (x1.toNat : Int) < 128 := by omega
          replace Hf := Lib.hid (Hf.out (by omega))
          clear Ht c1
          go_enter Tryd.func45, Tryd.ntmps45
          go_wp2
          go_quiet (fail)
          go_wp2
          go_ret
          exact ⟨ret_nn (by rw [Hf.out]; rfl), seqB (below_alloc _ _) (drewN_below (Below.refl _ _) _)⟩
        · have d1 : (128 : Int) ≤ (x1.toNat : Int) := by omega
          have d2 : (191 : Int) < (x1.toNat : Int) := by omega
          replace Hf := Lib.hid (Hf.out (by omega))
          clear Ht c1 c2
          go_enter Tryd.func45, Tryd.ntmps45
          go_wp2
          go_quiet (fail)
          go_wp2
          go_ret
          exact ⟨ret_nn (by rw [Hf.out]; rfl), seqB (below_alloc _ _) (drewN_below (Below.refl _ _) _)⟩
        · have d1 : (128 : Int) ≤ (x1.toNat : Int) := by omega
          have d2 : (x1.toNat : Int) ≤ 191 := by omega
          replace Ht := Lib.hid (Ht.out (by omega))
          clear Hf c1 c2
          go_enter Tryd.func45, Tryd.ntmps45
          go_wp2
          go_quiet (fail)
          go_wp2
          go_ret
          exact ⟨ret_nn (by rw [Ht.out]; rfl), seqB (below_alloc _ _) (drewN_below (Below.refl _ _) _)⟩
      · have hq : (1 : Int) < (s.size : Int) := by omega
        have hq2 : (2 : Int) < (s.size : Int) := by omega
        have hs1 : s[1]'(by omega) = x1 := (g1 (by omega)).symm
        have hs2 : s[2]'(by omega) = x2 := (g2 (by omega)).symm
        clear g1 g2
        rcases (by omega : (x1.toNat < 128) ∨ (¬ x1.toNat < 128 ∧ 191 < x1.toNat) ∨ (128 ≤ x1.toNat ∧ x1.toNat ≤ 191)) with c1 | ⟨c1, c2⟩ | ⟨c1, c2⟩
        · have d1 : (x1.toNat : Int) < 128 := by omega
          replace Hf := Lib.hid (Hf.out (by omega))
          clear Ht c1
          go_enter Tryd.func45, Tryd.ntmps45
          go_wp2
          go_quiet (fail)
          go_wp2
          go_ret
          exact ⟨ret_nn (by rw [Hf.out]; rfl), seqB (below_alloc _ _) (drewN_below (Below.refl _ _) _)⟩
        · have d1 : (128 : Int) ≤ (x1.toNat : Int) := by omega
          have d2 : (191 : Int) < (x1.toNat : Int) := by omega
          replace Hf := Lib.hid (Hf.out (by omega))
          clear Ht c1 c2
          go_enter Tryd.func45, Tryd.ntmps45
          go_wp2
          go_quiet (fail)
          go_wp2
          go_ret
          exact ⟨ret_nn (by rw [Hf.out]; rfl), seqB (below_alloc _ _) (drewN_below (Below.refl _ _) _)⟩
        · have d1 : (128 : Int) ≤ (x1.toNat : Int) := by omega
          have d2 : (x1.toNat : Int) ≤ 191 := by omega
          rcases (by omega : (x2.toNat < 128) ∨ (¬ x2.toNat < 128 ∧ 191 < x2.toNat) ∨ (128 ≤ x2.toNat ∧ x2.toNat ≤ 191)) with c3 | ⟨c3, c4⟩ | ⟨c3, c4⟩
          · have d3 : (x2.toNat : Int) < 128 := by omega
            replace Hf := Lib.hid (Hf.out (by omega))
            clear Ht c1 c2 c3
            go_enter Tryd.func45, Tryd.ntmps45
            go_wp2
            go_quiet (fail)
            go_wp2
            go_ret
            exact ⟨ret_nn (by rw [Hf.out]; rfl), seqB (below_alloc _ _) (drewN_below (Below.refl _ _) _)⟩
          · have d3 : (128 : Int) ≤ (x2.toNat : Int) := by omega
            have d4 : (191 : Int) < (x2.toNat : Int) := by omega
            replace Hf := Lib.hid (Hf.out (by omega))
            clear Ht c1 c2 c3 c4
            go_enter Tryd.func45, Tryd.ntmps45
            go_wp2
            go_quiet (fail)
            go_wp2
            go_ret
            exact ⟨ret_nn (by rw [Hf.out]; rfl), seqB (below_alloc _ _) (drewN_below (Below.refl _ _) _)⟩
          · have d3 : (128 : Int) ≤ (x2.toNat : Int) := by omega
            have d4 : (x2.toNat : Int) ≤ 191 := by omega
            replace Ht := Lib.hid (Ht.out (by omega))
            clear Hf c1 c2 c3 c4
            go_enter Tryd.func45, Tryd.ntmps45
            go_wp2
            go_quiet (fail)
            go_wp2
            go_ret
            exact ⟨ret_nn (by rw [Ht.out]; rfl), seqB (below_alloc _ _) (drewN_below (Below.refl _ _) _)⟩
    · have hf := hfalse 4 hz hn
      rw [hf]
      clear hf hfalse hp hiff hX hz hm g0 g1 g2 l1 l2
      have hz1 : (4 : Int) ≤ (s.size : Int) := by omega
      go_enter Tryd.func45, Tryd.ntmps45
      go_wp2
      go_ret
      exact ⟨rfl, Below.refl _ _⟩
  · have hiff := (part_cl s.size x0.toNat x1.toNat x2.toNat x3 4 128 143 hs hz (by omega) hm)
    rw [hX] at hc0
    rw [hz] at hp
    by_cases hn : s.size < 4
    · have hP := hp.trans hiff
      have hf : ¬ (s.size < 4 ∧ (1 < s.size → 128 ≤ x1.toNat ∧ x1.toNat ≤ 143) ∧ (2 < s.size → 128 ≤ x2.toNat ∧ x2.toNat ≤ 191)) → partB s = false := by
        intro h; rw [← Bool.not_eq_true]; intro h2; exact h (hP.1 h2)
      have ht := hP.2
      have ha0 := (HT.out.1.2 4 (by omega)).1
      have ha1 := (HT.out.1.2 4 (by omega)).2
      simp only [Lib.accLo, Lib.accHi, Nat.reduceMul, Nat.reduceAdd, Nat.reduceEqDiff, if_true, if_false] at ha0 ha1
      have hnz : (s.size : Int) < 4 := by omega
      have Hf := Lib.hid hf; have Ht := Lib.hid ht
      clear hf ht hP hp hiff hfalse hX hz hm g0 l1 l2
      rcases (by omega : s.size = 1 ∨ s.size = 2 ∨ s.size = 3) with hk | hk | hk
      · have hq : ¬ ((1 : Int) < (s.size : Int)) := by omega
        have hq2 : ¬ ((2 : Int) < (s.size : Int)) := by omega
        replace Ht := Lib.hid (Ht.out ⟨by omega, by omega, by omega⟩)
        clear Hf g1 g2
        go_enter Tryd.func45, Tryd.ntmps45
        go_wp2
        go_quiet (fail)
        go_wp2
        go_ret
        exact ⟨ret_nn (by rw [Ht.out]; rfl), seqB (below_alloc _ _) (drewN_below (Below.refl _ _) _)⟩
      · have hq : (1 : Int) < (s.size : Int) := by omega
        have hq2 : ¬ ((2 : Int) < (s.size : Int)) := by omega
        have hs1 : s[1]'(by omega) = x1 := (g1 (by omega)).symm
        clear g1 g2
        rcases (by omega : (x1.toNat < 128) ∨ (¬ x1.toNat < 128 ∧ 143 < x1.toNat) ∨ (128 ≤ x1.toNat ∧ x1.toNat ≤ 143)) with c1 | ⟨c1, c2⟩ | ⟨c1, c2⟩
        · have d1 : (x1.toNat : Int) < 128 := by omega
          replace Hf := Lib.hid (Hf.out (by omega))
          clear Ht c1
          go_enter Tryd.func45, Tryd.ntmps45
          go_wp2
          go_quiet (fail)
          go_wp2
          go_ret
          exact ⟨ret_nn (by rw [Hf.out]; rfl), seqB (below_alloc _ _) (drewN_below (Below.refl _ _) _)⟩
        · have d1 : (128 : Int) ≤ (x1.toNat : Int) := by omega
          have d2 : (143 : Int) < (x1.toNat : Int) := by omega
          replace Hf := Lib.hid (Hf.out (by omega))
          clear Ht c1 c2
          go_enter Tryd.func45, Tryd.ntmps45
          go_wp2
          go_quiet (fail)
          go_wp2
          go_ret
          exact ⟨ret_nn (by rw [Hf.out]; rfl), seqB (below_alloc _ _) (drewN_below (Below.refl _ _) _)⟩
        · have d1 : (128 : Int) ≤ (x1.toNat : Int) := by omega
          have d2 : (x1.toNat : Int) ≤ 143 := by omega
          replace Ht := Lib.hid (Ht.out (by omega))
          clear Hf c1 c2
          go_enter Tryd.func45, Tryd.ntmps45
          go_wp2
          go_quiet (fail)
          go_wp2
          go_ret
          exact ⟨ret_nn (by rw [Ht.out]; rfl), seqB (below_alloc _ _) (drewN_below (Below.refl _ _) _)⟩
      · have hq : (1 : Int) < (s.size : Int) := by omega
        have hq2 : (2 : Int) < (s.size : Int) := by omega
        have hs1 : s[1]'(by omega) = x1 := (g1 (by omega)).symm
        have hs2 : s[2]'(by omega) = x2 := (g2 (by omega)).symm
        clear g1 g2
        rcases (by omega : (x1.toNat < 128) ∨ (¬ x1.toNat < 128 ∧ 143 < x1.toNat) ∨ (128 ≤ x1.toNat ∧ x1.toNat ≤ 143)) with c1 | ⟨c1, c2⟩ | ⟨c1, c2⟩
        · have d1 : (x1.toNat : Int) < 128 := by omega
          replace Hf := Lib.hid (Hf.out (by omega))
          clear Ht c1
          go_enter Tryd.func45, Tryd.ntmps45
          go_wp2
          go_quiet (fail)
          go_wp2
          go_ret
          exact ⟨ret_nn (by rw [Hf.out]; rfl), seqB (below_alloc _ _) (drewN_below (Below.refl _ _) _)⟩
        · have d1 : (128 : Int) ≤ (x1.toNat : Int) := by omega
          have d2 : (143 : Int) < (x1.toNat : Int) := by omega
          replace Hf := Lib.hid (Hf.out (by omega))
          clear Ht c1 c2
          go_enter Tryd.func45, Tryd.ntmps45
          go_wp2
          go_quiet (fail)
          go_wp2
          go_ret
          exact ⟨ret_nn (by rw [Hf.out]; rfl), seqB (below_alloc _ _) (drewN_below (Below.refl _ _) _)⟩
        · have d1 : (128 : Int) ≤ (x1.toNat : Int) := by omega
          have d2 : (x1.toNat : Int) ≤ 143 := by omega
          rcases (by omega : (x2.toNat < 128) ∨ (¬ x2.toNat < 128 ∧ 191 < x2.toNat) ∨ (128 ≤ x2.toNat ∧ x2.toNat ≤ 191)) with c3 | ⟨c3, c4⟩ | ⟨c3, c4⟩
          · have d3 : (x2.toNat : Int) < 128 := by omega
            replace Hf := Lib.hid (Hf.out (by omega))
            clear Ht c1 c2 c3
            go_enter Tryd.func45, Tryd.ntmps45
            go_wp2
            go_quiet (fail)
            go_wp2
            go_ret
            exact ⟨ret_nn (by rw [Hf.out]; rfl), seqB (below_alloc _ _) (drewN_below (Below.refl _ _) _)⟩
          · have d3 : (128 : Int) ≤ (x2.toNat : Int) := by omega
            have d4 : (191 : Int) < (x2.toNat : Int) := by omega
            replace Hf := Lib.hid (Hf.out (by omega))
            clear Ht c1 c2 c3 c4
            go_enter Tryd.func45, Tryd.ntmps45
            go_wp2
            go_quiet (fail)
            go_wp2
            go_ret
            exact ⟨ret_nn (by rw [Hf.out]; rfl), seqB (below_alloc _ _) (drewN_below (Below.refl _ _) _)⟩
          · have d3 : (128 : Int) ≤ (x2.toNat : Int) := by omega
            have d4 : (x2.toNat : Int) ≤ 191 := by omega
            replace Ht := Lib.hid (Ht.out (by omega))
            clear Hf c1 c2 c3 c4
            go_enter Tryd.func45, Tryd.ntmps45
            go_wp2
            go_quiet (fail)
            go_wp2
            go_ret
            exact ⟨ret_nn (by rw [Ht.out]; rfl), seqB (below_alloc _ _) (drewN_below (Below.refl _ _) _)⟩
    · have hf := hfalse 4 hz hn
      rw [hf]
      clear hf hfalse hp hiff hX hz hm g0 g1 g2 l1 l2
      have hz1 : (4 : Int) ≤ (s.size : Int) := by omega
      go_enter Tryd.func45, Tryd.ntmps45
      go_wp2
      go_ret
      exact ⟨rfl, Below.refl _ _⟩
end Go.Proofs.YtecffaidpiadoaaDoor
