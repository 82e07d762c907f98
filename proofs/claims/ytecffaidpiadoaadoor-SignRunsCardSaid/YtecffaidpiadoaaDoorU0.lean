/-
  Plain facts on UTF-8: what the decoder of the language's own range tells, and what the reference's definition tells. No program.
-/
import Derived.Lib.DecodeN
set_option linter.unusedVariables false
set_option linter.unusedSimpArgs false
namespace Go.Proofs.YtecffaidpiadoaaDoor
open Go Go.Lib
/-- Of how many bytes what a byte begins is. -/
def sizeB (c : Nat) : Nat := if c < 128 then 1 else if 194 ≤ c ∧ c ≤ 223 then 2 else if 224 ≤ c ∧ c ≤ 239 then 3 else if 240 ≤ c ∧ c ≤ 244 then 4 else 0
/-- May a byte be the how manieth behind the first one? -/
def mayB (f c i : Nat) : Bool := decide (128 ≤ c ∧ c ≤ 191) && (decide (1 < i) || !(decide (f = 224 ∧ c < 160) || decide (f = 237 ∧ 159 < c) || decide (f = 240 ∧ c < 144) || decide (f = 244 ∧ 143 < c)))
/-- How many bytes belong to what the first one begins, of n. -/
def begB (n b0 b1 b2 b3 : Nat) : Nat :=
  if 1 < sizeB b0 ∧ 1 < n ∧ mayB b0 b1 1 = true then
    if 2 < sizeB b0 ∧ 2 < n ∧ mayB b0 b2 2 = true then
      if 3 < sizeB b0 ∧ 3 < n ∧ mayB b0 b3 3 = true then 4 else 3
    else 2
  else 1
/-- The first value of a text, and its size. -/
def oneB (n b0 b1 b2 b3 : Nat) : Nat × Nat :=
  if begB n b0 b1 b2 b3 ≠ sizeB b0 then (1114112 + b0, 1)
  else if sizeB b0 = 1 then (b0, 1)
  else if sizeB b0 = 2 then ((b0 - 192) * 64 + b1 - 128, 2)
  else if sizeB b0 = 3 then (((b0 - 224) * 64 + b1 - 128) * 64 + b2 - 128, 3)
  else ((((b0 - 240) * 64 + b1 - 128) * 64 + b2 - 128) * 64 + b3 - 128, 4)
/-- What the program makes of the decoder's answer. -/
def valN (n b0 b1 b2 b3 : Nat) : Nat × Nat :=
  if (decodeN n b0 b1 b2 b3).1 = 65533 ∧ (decodeN n b0 b1 b2 b3).2 < 3 then (1114112 + b0, 1) else decodeN n b0 b1 b2 b3
theorem mayB_iff (f c i : Nat) : mayB f c i = true ↔ (128 ≤ c ∧ c ≤ 191) ∧ (1 < i ∨ ¬ (f = 224 ∧ c < 160 ∨ f = 237 ∧ 159 < c ∨ f = 240 ∧ c < 144 ∨ f = 244 ∧ 143 < c)) := by
  unfold mayB
  simp only [Bool.and_eq_true, Bool.or_eq_true, decide_eq_true_eq, Bool.not_eq_true', Bool.or_eq_false_iff, decide_eq_false_iff_not]
  constructor
  · rintro ⟨h1, h2⟩; exact ⟨h1, by rcases h2 with h2 | h2; exact Or.inl h2; exact Or.inr (by omega)⟩
  · rintro ⟨h1, h2⟩; exact ⟨h1, by rcases h2 with h2 | h2; exact Or.inl h2; exact Or.inr (by omega)⟩
theorem beg1 {n b0 b1 b2 b3 : Nat} (h : ¬ (1 < sizeB b0 ∧ 1 < n ∧ mayB b0 b1 1 = true)) : begB n b0 b1 b2 b3 = 1 := by unfold begB; rw [if_neg h]
theorem beg2 {n b0 b1 b2 b3 : Nat} (h : 1 < sizeB b0 ∧ 1 < n ∧ mayB b0 b1 1 = true) (h2 : ¬ (2 < sizeB b0 ∧ 2 < n ∧ mayB b0 b2 2 = true)) : begB n b0 b1 b2 b3 = 2 := by unfold begB; rw [if_pos h, if_neg h2]
theorem beg3 {n b0 b1 b2 b3 : Nat} (h : 1 < sizeB b0 ∧ 1 < n ∧ mayB b0 b1 1 = true) (h2 : 2 < sizeB b0 ∧ 2 < n ∧ mayB b0 b2 2 = true) (h3 : ¬ (3 < sizeB b0 ∧ 3 < n ∧ mayB b0 b3 3 = true)) : begB n b0 b1 b2 b3 = 3 := by unfold begB; rw [if_pos h, if_pos h2, if_neg h3]
theorem beg4 {n b0 b1 b2 b3 : Nat} (h : 1 < sizeB b0 ∧ 1 < n ∧ mayB b0 b1 1 = true) (h2 : 2 < sizeB b0 ∧ 2 < n ∧ mayB b0 b2 2 = true) (h3 : 3 < sizeB b0 ∧ 3 < n ∧ mayB b0 b3 3 = true) : begB n b0 b1 b2 b3 = 4 := by unfold begB; rw [if_pos h, if_pos h2, if_pos h3]
theorem one_bad {n b0 b1 b2 b3 m k : Nat} (hb : begB n b0 b1 b2 b3 = m) (hs : sizeB b0 = k) (h : m ≠ k) : oneB n b0 b1 b2 b3 = (1114112 + b0, 1) := by unfold oneB; rw [hb, hs, if_pos h]
theorem one_2 {n b0 b1 b2 b3 : Nat} (hb : begB n b0 b1 b2 b3 = 2) (hs : sizeB b0 = 2) : oneB n b0 b1 b2 b3 = ((b0 - 192) * 64 + b1 - 128, 2) := by
  unfold oneB; rw [hb, hs, if_neg (by simp), if_neg (by simp), if_pos rfl]
theorem one_3 {n b0 b1 b2 b3 : Nat} (hb : begB n b0 b1 b2 b3 = 3) (hs : sizeB b0 = 3) : oneB n b0 b1 b2 b3 = (((b0 - 224) * 64 + b1 - 128) * 64 + b2 - 128, 3) := by
  unfold oneB; rw [hb, hs, if_neg (by simp), if_neg (by simp), if_neg (by simp), if_pos rfl]
theorem one_4 {n b0 b1 b2 b3 : Nat} (hb : begB n b0 b1 b2 b3 = 4) (hs : sizeB b0 = 4) : oneB n b0 b1 b2 b3 = ((((b0 - 240) * 64 + b1 - 128) * 64 + b2 - 128) * 64 + b3 - 128, 4) := by
  unfold oneB; rw [hb, hs, if_neg (by simp), if_neg (by simp), if_neg (by simp), if_neg (by simp)]
theorem one_1 {n b0 b1 b2 b3 : Nat} (hb : begB n b0 b1 b2 b3 = 1) (hs : sizeB b0 = 1) : oneB n b0 b1 b2 b3 = (b0, 1) := by
  unfold oneB; rw [hb, hs, if_neg (by simp), if_pos rfl]
theorem val_bad {n b0 b1 b2 b3 : Nat} (h : decodeN n b0 b1 b2 b3 = (65533, 1)) : valN n b0 b1 b2 b3 = (1114112 + b0, 1) := by unfold valN; rw [h, if_pos ⟨rfl, by show 1 < 3; omega⟩]
theorem val_ok {n b0 b1 b2 b3 : Nat} (x : Nat × Nat) (h : decodeN n b0 b1 b2 b3 = x) (hx : x.1 ≠ 65533 ∨ 3 ≤ x.2) : valN n b0 b1 b2 b3 = x := by unfold valN; rw [h, if_neg (by omega)]
/-- The reference's first value is what the program makes of the decoder's. -/
theorem one_val (n b0 b1 b2 b3 : Nat) (hn : 1 ≤ n) (h0 : b0 < 256) (h1 : b1 < 256) (h2 : b2 < 256) (h3 : b3 < 256) : oneB n b0 b1 b2 b3 = valN n b0 b1 b2 b3 := by
  have hs : (b0 < 128 ∧ sizeB b0 = 1) ∨ (194 ≤ b0 ∧ b0 ≤ 223 ∧ sizeB b0 = 2) ∨ (224 ≤ b0 ∧ b0 ≤ 239 ∧ sizeB b0 = 3) ∨ (240 ≤ b0 ∧ b0 ≤ 244 ∧ sizeB b0 = 4) ∨ ((128 ≤ b0 ∧ b0 < 194 ∨ 244 < b0) ∧ sizeB b0 = 0) := by
    unfold sizeB; repeat' split
    all_goals omega
  have m1 := mayB_iff b0 b1 1
  have m2 := mayB_iff b0 b2 2
  have m3 := mayB_iff b0 b3 3
  rcases hs with ⟨h, e⟩ | ⟨h, h', e⟩ | ⟨h, h', e⟩ | ⟨h, h', e⟩ | ⟨h, e⟩
  · rw [one_1 (beg1 (by omega)) e, val_ok (b0, 1) (by unfold decodeN; rw [if_pos h]) (by simp; omega)]
  · by_cases c1 : 1 < n ∧ 128 ≤ b1 ∧ b1 ≤ 191
    · have hm : mayB b0 b1 1 = true := m1.2 ⟨by omega, by omega⟩
      rw [one_2 (beg2 ⟨by omega, c1.1, hm⟩ (by omega)) e]
      rw [val_ok (b0 % 32 * 64 + b1 % 64, 2) (by unfold decodeN; rw [if_neg (by omega), if_pos (by omega), if_pos (by omega)]) (by left; show b0 % 32 * 64 + b1 % 64 ≠ 65533; omega)]
      exact congrArg (fun x => (x, 2)) (by omega)
    · have hm : ¬ (1 < sizeB b0 ∧ 1 < n ∧ mayB b0 b1 1 = true) := by rintro ⟨_, h5, h6⟩; have := m1.1 h6; omega
      rw [one_bad (beg1 hm) e (by omega)]
      rw [val_bad (by unfold decodeN; rw [if_neg (by omega), if_neg (by omega), if_neg (by omega), if_neg (by omega)])]
  · by_cases c1 : 1 < n ∧ mayB b0 b1 1 = true
    · have k1 := m1.1 c1.2
      by_cases c2 : 2 < n ∧ 128 ≤ b2 ∧ b2 ≤ 191
      · have hm2 : mayB b0 b2 2 = true := m2.2 ⟨by omega, by omega⟩
        rw [one_3 (beg3 ⟨by omega, c1.1, c1.2⟩ ⟨by omega, c2.1, hm2⟩ (by omega)) e]
        rw [val_ok (b0 % 16 * 4096 + b1 % 64 * 64 + b2 % 64, 3) (by unfold decodeN; rw [if_neg (by omega), if_neg (by omega), if_pos (by omega), if_pos (by omega)]) (by right; show 3 ≤ 3; omega)]
        exact congrArg (fun x => (x, 3)) (by omega)
      · have hm2 : ¬ (2 < sizeB b0 ∧ 2 < n ∧ mayB b0 b2 2 = true) := by rintro ⟨_, h5, h6⟩; have := m2.1 h6; omega
        rw [one_bad (beg2 ⟨by omega, c1.1, c1.2⟩ hm2) e (by omega)]
        rw [val_bad (by unfold decodeN; rw [if_neg (by omega), if_neg (by omega), if_neg (by omega), if_neg (by omega)])]
    · have hm : ¬ (1 < sizeB b0 ∧ 1 < n ∧ mayB b0 b1 1 = true) := by rintro ⟨_, h5, h6⟩; exact c1 ⟨h5, h6⟩
      rw [one_bad (beg1 hm) e (by omega)]
      have k1 : ¬ (1 < n ∧ (128 ≤ b1 ∧ b1 ≤ 191) ∧ (1 < 1 ∨ ¬ (b0 = 224 ∧ b1 < 160 ∨ b0 = 237 ∧ 159 < b1 ∨ b0 = 240 ∧ b1 < 144 ∨ b0 = 244 ∧ 143 < b1))) := fun hh => c1 ⟨hh.1, m1.2 hh.2⟩
      by_cases c3 : b0 / 16 = 14 ∧ (1 < n ∧ b1 / 64 = 2) ∧ (2 < n ∧ b2 / 64 = 2)
      · rw [val_bad (by unfold decodeN; rw [if_neg (by omega), if_neg (by omega), if_pos c3, if_neg (by omega)])]
      · rw [val_bad (by unfold decodeN; rw [if_neg (by omega), if_neg (by omega), if_neg c3, if_neg (by omega)])]
  · by_cases c1 : 1 < n ∧ mayB b0 b1 1 = true
    · have k1 := m1.1 c1.2
      by_cases c2 : 2 < n ∧ 128 ≤ b2 ∧ b2 ≤ 191
      · have hm2 : mayB b0 b2 2 = true := m2.2 ⟨by omega, by omega⟩
        by_cases c3 : 3 < n ∧ 128 ≤ b3 ∧ b3 ≤ 191
        · have hm3 : mayB b0 b3 3 = true := m3.2 ⟨by omega, by omega⟩
          rw [one_4 (beg4 ⟨by omega, c1.1, c1.2⟩ ⟨by omega, c2.1, hm2⟩ ⟨by omega, c3.1, hm3⟩) e]
          rw [val_ok (b0 % 8 * 262144 + b1 % 64 * 4096 + b2 % 64 * 64 + b3 % 64, 4) (by unfold decodeN; rw [if_neg (by omega), if_neg (by omega), if_neg (by omega), if_pos (by omega), if_pos (by omega)]) (by right; show 3 ≤ 4; omega)]
          exact congrArg (fun x => (x, 4)) (by omega)
        · have hm3 : ¬ (3 < sizeB b0 ∧ 3 < n ∧ mayB b0 b3 3 = true) := by rintro ⟨_, h5, h6⟩; have := m3.1 h6; omega
          rw [one_bad (beg3 ⟨by omega, c1.1, c1.2⟩ ⟨by omega, c2.1, hm2⟩ hm3) e (by omega)]
          rw [val_bad (by unfold decodeN; rw [if_neg (by omega), if_neg (by omega), if_neg (by omega), if_neg (by omega)])]
      · have hm2 : ¬ (2 < sizeB b0 ∧ 2 < n ∧ mayB b0 b2 2 = true) := by rintro ⟨_, h5, h6⟩; have := m2.1 h6; omega
        rw [one_bad (beg2 ⟨by omega, c1.1, c1.2⟩ hm2) e (by omega)]
        rw [val_bad (by unfold decodeN; rw [if_neg (by omega), if_neg (by omega), if_neg (by omega), if_neg (by omega)])]
    · have hm : ¬ (1 < sizeB b0 ∧ 1 < n ∧ mayB b0 b1 1 = true) := by rintro ⟨_, h5, h6⟩; exact c1 ⟨h5, h6⟩
      rw [one_bad (beg1 hm) e (by omega)]
      have k1 : ¬ (1 < n ∧ (128 ≤ b1 ∧ b1 ≤ 191) ∧ (1 < 1 ∨ ¬ (b0 = 224 ∧ b1 < 160 ∨ b0 = 237 ∧ 159 < b1 ∨ b0 = 240 ∧ b1 < 144 ∨ b0 = 244 ∧ 143 < b1))) := fun hh => c1 ⟨hh.1, m1.2 hh.2⟩
      by_cases c3 : b0 / 8 = 30 ∧ (1 < n ∧ b1 / 64 = 2) ∧ (2 < n ∧ b2 / 64 = 2) ∧ (3 < n ∧ b3 / 64 = 2)
      · rw [val_bad (by unfold decodeN; rw [if_neg (by omega), if_neg (by omega), if_neg (by omega), if_pos c3, if_neg (by omega)])]
      · rw [val_bad (by unfold decodeN; rw [if_neg (by omega), if_neg (by omega), if_neg (by omega), if_neg c3])]
  · rw [one_bad (beg1 (by omega)) e (by omega)]
    by_cases c1 : b0 / 32 = 6 ∧ (1 < n ∧ b1 / 64 = 2)
    · rw [val_bad (by unfold decodeN; rw [if_neg (by omega), if_pos c1, if_neg (by omega)])]
    · by_cases c3 : b0 / 8 = 30 ∧ (1 < n ∧ b1 / 64 = 2) ∧ (2 < n ∧ b2 / 64 = 2) ∧ (3 < n ∧ b3 / 64 = 2)
      · rw [val_bad (by unfold decodeN; rw [if_neg (by omega), if_neg c1, if_neg (by omega), if_pos c3, if_neg (by omega)])]
      · rw [val_bad (by unfold decodeN; rw [if_neg (by omega), if_neg c1, if_neg (by omega), if_neg c3])]
end Go.Proofs.YtecffaidpiadoaaDoor
