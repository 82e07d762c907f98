/-
  Joined: U0 Cls0 Fnd E0 Law Kit Sg0 Ud0 C1.
-/
import Derived.Lib.DecodeN
import Derived.RowKit
import Derived.Lib.RuneBytes
import Derived.ProofKit
import Derived.OpenShut
import Derived.Below
import Derived.Carry
import Derived.WalkKit
import Derived.Deep.QuietTactic
import Derived.BigQuiet
import Derived.Lib.Hide
import Derived.Test.YtjgffedcbdnddaaDoorProg
import Derived.Handy
import Derived.Test.YtjgffedcbdnddaaDoorRows
import Derived.WalkSpells
import Derived.WalkLawsBesides
set_option linter.unusedVariables false
set_option linter.unusedSimpArgs false
set_option maxRecDepth 100000
set_option linter.unusedVariables false
set_option linter.unusedSimpArgs false
namespace Go.Proofs.YtjgffedcbdnddaaDoor
open Go Go.Lib
/-- Of how many bytes what a byte begins is. -/
def sizeB (c : Nat) : Nat := if c < 128 then 1 else if 194 ≤ c ∧ c ≤ 223 then 2 else if 224 ≤ c ∧ c ≤ 239 then 3 else if 240 ≤ c ∧ c ≤ 244 then 4 else 0
/-- May a byte be the how manieth behind the first one? -/
def mayB (f c i : Nat) : Bool := decide (128 ≤ c ∧ c ≤ 191) && (decide (1 < i) || !(decide (f = 224 ∧ c < 160) || decide (f = 237 ∧ 159 < c) || decide (f = 240 ∧ c < 144) || decide (f = 244 ∧ 143 < c)))
/-- How many bytes belong to what the first one begins, of n. -/
def begB (n b0 b1 b2 b3 : Nat) : Nat :=
  if 1 < sizeB b0 ∧ 1 < n ∧ mayB b0 b1 1 = true then
    if 2 < sizeB b0 ∧ 2 < n ∧ mayB b0 b2 2 = true then
      if 3 < sizeB b0 ∧ 3 < n ∧ mayB b0 b3 3 = true then 4 else 3
    else 2
  else 1
/-- The first value of a text, and its size. -/
def oneB (n b0 b1 b2 b3 : Nat) : Nat × Nat :=
  if begB n b0 b1 b2 b3 ≠ sizeB b0 then (1114112 + b0, 1)
  else if sizeB b0 = 1 then (b0, 1)
  else if sizeB b0 = 2 then ((b0 - 192) * 64 + b1 - 128, 2)
  else if sizeB b0 = 3 then (((b0 - 224) * 64 + b1 - 128) * 64 + b2 - 128, 3)
  else ((((b0 - 240) * 64 + b1 - 128) * 64 + b2 - 128) * 64 + b3 - 128, 4)
/-- What the program makes of the decoder's answer. -/
def valN (n b0 b1 b2 b3 : Nat) : Nat × Nat :=
  if (decodeN n b0 b1 b2 b3).1 = 65533 ∧ (decodeN n b0 b1 b2 b3).2 < 3 then (1114112 + b0, 1) else decodeN n b0 b1 b2 b3
theorem mayB_iff (f c i : Nat) : mayB f c i = true ↔ (128 ≤ c ∧ c ≤ 191) ∧ (1 < i ∨ ¬ (f = 224 ∧ c < 160 ∨ f = 237 ∧ 159 < c ∨ f = 240 ∧ c < 144 ∨ f = 244 ∧ 143 < c)) := by
  unfold mayB
  simp only [Bool.and_eq_true, Bool.or_eq_true, decide_eq_true_eq, Bool.not_eq_true', Bool.or_eq_false_iff, decide_eq_false_iff_not]
  constructor
  · rintro ⟨h1, h2⟩; exact ⟨h1, by rcases h2 with h2 | h2; exact Or.inl h2; exact Or.inr (by omega)⟩
  · rintro ⟨h1, h2⟩; exact ⟨h1, by rcases h2 with h2 | h2; exact Or.inl h2; exact Or.inr (by omega)⟩
theorem beg1 {n b0 b1 b2 b3 : Nat} (h : ¬ (1 < sizeB b0 ∧ 1 < n ∧ mayB b0 b1 1 = true)) : begB n b0 b1 b2 b3 = 1 := by unfold begB; rw [if_neg h]
theorem beg2 {n b0 b1 b2 b3 : Nat} (h : 1 < sizeB b0 ∧ 1 < n ∧ mayB b0 b1 1 = true) (h2 : ¬ (2 < sizeB b0 ∧ 2 < n ∧ mayB b0 b2 2 = true)) : begB n b0 b1 b2 b3 = 2 := by unfold begB; rw [if_pos h, if_neg h2]
theorem beg3 {n b0 b1 b2 b3 : Nat} (h : 1 < sizeB b0 ∧ 1 < n ∧ mayB b0 b1 1 = true) (h2 : 2 < sizeB b0 ∧ 2 < n ∧ mayB b0 b2 2 = true) (h3 : ¬ (3 < sizeB b0 ∧ 3 < n ∧ mayB b0 b3 3 = true)) : begB n b0 b1 b2 b3 = 3 := by unfold begB; rw [if_pos h, if_pos h2, if_neg h3]
theorem beg4 {n b0 b1 b2 b3 : Nat} (h : 1 < sizeB b0 ∧ 1 < n ∧ mayB b0 b1 1 = true) (h2 : 2 < sizeB b0 ∧ 2 < n ∧ mayB b0 b2 2 = true) (h3 : 3 < sizeB b0 ∧ 3 < n ∧ mayB b0 b3 3 = true) : begB n b0 b1 b2 b3 = 4 := by unfold begB; rw [if_pos h, if_pos h2, if_pos h3]
theorem one_bad {n b0 b1 b2 b3 m k : Nat} (hb : begB n b0 b1 b2 b3 = m) (hs : sizeB b0 = k) (h : m ≠ k) : oneB n b0 b1 b2 b3 = (1114112 + b0, 1) := by unfold oneB; rw [hb, hs, if_pos h]
theorem one_2 {n b0 b1 b2 b3 : Nat} (hb : begB n b0 b1 b2 b3 = 2) (hs : sizeB b0 = 2) : oneB n b0 b1 b2 b3 = ((b0 - 192) * 64 + b1 - 128, 2) := by
  unfold oneB; rw [hb, hs, if_neg (by simp), if_neg (by simp), if_pos rfl]
theorem one_3 {n b0 b1 b2 b3 : Nat} (hb : begB n b0 b1 b2 b3 = 3) (hs : sizeB b0 = 3) : oneB n b0 b1 b2 b3 = (((b0 - 224) * 64 + b1 - 128) * 64 + b2 - 128, 3) := by
  unfold oneB; rw [hb, hs, if_neg (by simp), if_neg (by simp), if_neg (by simp), if_pos rfl]
theorem one_4 {n b0 b1 b2 b3 : Nat} (hb : begB n b0 b1 b2 b3 = 4) (hs : sizeB b0 = 4) : oneB n b0 b1 b2 b3 = ((((b0 - 240) * 64 + b1 - 128) * 64 + b2 - 128) * 64 + b3 - 128, 4) := by
  unfold oneB; rw [hb, hs, if_neg (by simp), if_neg (by simp), if_neg (by simp), if_neg (by simp)]
theorem one_1 {n b0 b1 b2 b3 : Nat} (hb : begB n b0 b1 b2 b3 = 1) (hs : sizeB b0 = 1) : oneB n b0 b1 b2 b3 = (b0, 1) := by
  unfold oneB; rw [hb, hs, if_neg (by simp), if_pos rfl]
theorem val_bad {n b0 b1 b2 b3 : Nat} (h : decodeN n b0 b1 b2 b3 = (65533, 1)) : valN n b0 b1 b2 b3 = (1114112 + b0, 1) := by unfold valN; rw [h, if_pos ⟨rfl, by show 1 < 3; omega⟩]
theorem val_ok {n b0 b1 b2 b3 : Nat} (x : Nat × Nat) (h : decodeN n b0 b1 b2 b3 = x) (hx : x.1 ≠ 65533 ∨ 3 ≤ x.2) : valN n b0 b1 b2 b3 = x := by unfold valN; rw [h, if_neg (by omega)]
/-- The reference's first value is what the program makes of the decoder's. -/
theorem one_val (n b0 b1 b2 b3 : Nat) (hn : 1 ≤ n) (h0 : b0 < 256) (h1 : b1 < 256) (h2 : b2 < 256) (h3 : b3 < 256) : oneB n b0 b1 b2 b3 = valN n b0 b1 b2 b3 := by
  have hs : (b0 < 128 ∧ sizeB b0 = 1) ∨ (194 ≤ b0 ∧ b0 ≤ 223 ∧ sizeB b0 = 2) ∨ (224 ≤ b0 ∧ b0 ≤ 239 ∧ sizeB b0 = 3) ∨ (240 ≤ b0 ∧ b0 ≤ 244 ∧ sizeB b0 = 4) ∨ ((128 ≤ b0 ∧ b0 < 194 ∨ 244 < b0) ∧ sizeB b0 = 0) := by
    unfold sizeB; repeat' split
    all_goals omega
  have m1 := mayB_iff b0 b1 1
  have m2 := mayB_iff b0 b2 2
  have m3 := mayB_iff b0 b3 3
  rcases hs with ⟨h, e⟩ | ⟨h, h', e⟩ | ⟨h, h', e⟩ | ⟨h, h', e⟩ | ⟨h, e⟩
  · rw [one_1 (beg1 (by omega)) e, val_ok (b0, 1) (by unfold decodeN; rw [if_pos h]) (by simp; omega)]
  · by_cases c1 : 1 < n ∧ 128 ≤ b1 ∧ b1 ≤ 191
    · have hm : mayB b0 b1 1 = true := m1.2 ⟨by omega, by omega⟩
      rw [one_2 (beg2 ⟨by omega, c1.1, hm⟩ (by omega)) e]
      rw [val_ok (b0 % 32 * 64 + b1 % 64, 2) (by unfold decodeN; rw [if_neg (by omega), if_pos (by omega), if_pos (by omega)]) (by left; show b0 % 32 * 64 + b1 % 64 ≠ 65533; omega)]
      exact congrArg (fun x => (x, 2)) (by omega)
    · have hm : ¬ (1 < sizeB b0 ∧ 1 < n ∧ mayB b0 b1 1 = true) := by rintro ⟨_, h5, h6⟩; have := m1.1 h6; omega
      rw [one_bad (beg1 hm) e (by omega)]
      rw [val_bad (by unfold decodeN; rw [if_neg (by omega), if_neg (by omega), if_neg (by omega), if_neg (by omega)])]
  · by_cases c1 : 1 < n ∧ mayB b0 b1 1 = true
    · have k1 := m1.1 c1.2
      by_cases c2 : 2 < n ∧ 128 ≤ b2 ∧ b2 ≤ 191
      · have hm2 : mayB b0 b2 2 = true := m2.2 ⟨by omega, by omega⟩
        rw [one_3 (beg3 ⟨by omega, c1.1, c1.2⟩ ⟨by omega, c2.1, hm2⟩ (by omega)) e]
        rw [val_ok (b0 % 16 * 4096 + b1 % 64 * 64 + b2 % 64, 3) (by unfold decodeN; rw [if_neg (by omega), if_neg (by omega), if_pos (by omega), if_pos (by omega)]) (by right; show 3 ≤ 3; omega)]
        exact congrArg (fun x => (x, 3)) (by omega)
      · have hm2 : ¬ (2 < sizeB b0 ∧ 2 < n ∧ mayB b0 b2 2 = true) := by rintro ⟨_, h5, h6⟩; have := m2.1 h6; omega
        rw [one_bad (beg2 ⟨by omega, c1.1, c1.2⟩ hm2) e (by omega)]
        rw [val_bad (by unfold decodeN; rw [if_neg (by omega), if_neg (by omega), if_neg (by omega), if_neg (by omega)])]
    · have hm : ¬ (1 < sizeB b0 ∧ 1 < n ∧ mayB b0 b1 1 = true) := by rintro ⟨_, h5, h6⟩; exact c1 ⟨h5, h6⟩
      rw [one_bad (beg1 hm) e (by omega)]
      have k1 : ¬ (1 < n ∧ (128 ≤ b1 ∧ b1 ≤ 191) ∧ (1 < 1 ∨ ¬ (b0 = 224 ∧ b1 < 160 ∨ b0 = 237 ∧ 159 < b1 ∨ b0 = 240 ∧ b1 < 144 ∨ b0 = 244 ∧ 143 < b1))) := fun hh => c1 ⟨hh.1, m1.2 hh.2⟩
      by_cases c3 : b0 / 16 = 14 ∧ (1 < n ∧ b1 / 64 = 2) ∧ (2 < n ∧ b2 / 64 = 2)
      · rw [val_bad (by unfold decodeN; rw [if_neg (by omega), if_neg (by omega), if_pos c3, if_neg (by omega)])]
      · rw [val_bad (by unfold decodeN; rw [if_neg (by omega), if_neg (by omega), if_neg c3, if_neg (by omega)])]
  · by_cases c1 : 1 < n ∧ mayB b0 b1 1 = true
    · have k1 := m1.1 c1.2
      by_cases c2 : 2 < n ∧ 128 ≤ b2 ∧ b2 ≤ 191
      · have hm2 : mayB b0 b2 2 = true := m2.2 ⟨by omega, by omega⟩
        by_cases c3 : 3 < n ∧ 128 ≤ b3 ∧ b3 ≤ 191
        · have hm3 : mayB b0 b3 3 = true := m3.2 ⟨by omega, by omega⟩
          rw [one_4 (beg4 ⟨by omega, c1.1, c1.2⟩ ⟨by omega, c2.1, hm2⟩ ⟨by omega, c3.1, hm3⟩) e]
          rw [val_ok (b0 % 8 * 262144 + b1 % 64 * 4096 + b2 % 64 * 64 + b3 % 64, 4) (by unfold decodeN; rw [if_neg (by omega), if_neg (by omega), if_neg (by omega), if_pos (by omega), if_pos (by omega)]) (by right; show 3 ≤ 4; omega)]
          exact congrArg (fun x => (x, 4)) (by omega)
        · have hm3 : ¬ (3 < sizeB b0 ∧ 3 < n ∧ mayB b0 b3 3 = true) := by rintro ⟨_, h5, h6⟩; have := m3.1 h6; omega
          rw [one_bad (beg3 ⟨by omega, c1.1, c1.2⟩ ⟨by omega, c2.1, hm2⟩ hm3) e (by omega)]
          rw [val_bad (by unfold decodeN; rw [if_neg (by omega), if_neg (by omega), if_neg (by omega), if_neg (by omega)])]
      · have hm2 : ¬ (2 < sizeB b0 ∧ 2 < n ∧ mayB b0 b2 2 = true) := by rintro ⟨_, h5, h6⟩; have := m2.1 h6; omega
        rw [one_bad (beg2 ⟨by omega, c1.1, c1.2⟩ hm2) e (by omega)]
        rw [val_bad (by unfold decodeN; rw [if_neg (by omega), if_neg (by omega), if_neg (by omega), if_neg (by omega)])]
    · have hm : ¬ (1 < sizeB b0 ∧ 1 < n ∧ mayB b0 b1 1 = true) := by rintro ⟨_, h5, h6⟩; exact c1 ⟨h5, h6⟩
      rw [one_bad (beg1 hm) e (by omega)]
      have k1 : ¬ (1 < n ∧ (128 ≤ b1 ∧ b1 ≤ 191) ∧ (1 < 1 ∨ ¬ (b0 = 224 ∧ b1 < 160 ∨ b0 = 237 ∧ 159 < b1 ∨ b0 = 240 ∧ b1 < 144 ∨ b0 = 244 ∧ 143 < b1))) := fun hh => c1 ⟨hh.1, m1.2 hh.2⟩
      by_cases c3 : b0 / 8 = 30 ∧ (1 < n ∧ b1 / 64 = 2) ∧ (2 < n ∧ b2 / 64 = 2) ∧ (3 < n ∧ b3 / 64 = 2)
      · rw [val_bad (by unfold decodeN; rw [if_neg (by omega), if_neg (by omega), if_neg (by omega), if_pos c3, if_neg (by omega)])]
      · rw [val_bad (by unfold decodeN; rw [if_neg (by omega), if_neg (by omega), if_neg (by omega), if_neg c3])]
  · rw [one_bad (beg1 (by omega)) e (by omega)]
    by_cases c1 : b0 / 32 = 6 ∧ (1 < n ∧ b1 / 64 = 2)
    · rw [val_bad (by unfold decodeN; rw [if_neg (by omega), if_pos c1, if_neg (by omega)])]
    · by_cases c3 : b0 / 8 = 30 ∧ (1 < n ∧ b1 / 64 = 2) ∧ (2 < n ∧ b2 / 64 = 2) ∧ (3 < n ∧ b3 / 64 = 2)
      · rw [val_bad (by unfold decodeN; rw [if_neg (by omega), if_neg c1, if_neg (by omega), if_pos c3, if_neg (by omega)])]
      · rw [val_bad (by unfold decodeN; rw [if_neg (by omega), if_neg c1, if_neg (by omega), if_neg c3])]
end Go.Proofs.YtjgffedcbdnddaaDoor
namespace Go.Proofs.YtjgffedcbdnddaaDoor
open Go

def rng : List Int := [10, 160, 160, 10, 5760, 5760, 10, 8192, 8202, 10, 8232, 8233, 10, 8239, 8239, 10, 8287, 8287, 10, 12288, 12288, 8, 173, 173, 8, 6155, 6158, 8, 8203, 8205, 8, 8288, 8292, 8, 65279, 65279, 8, 65529, 65531, 7, 1564, 1564, 7, 8206, 8207, 7, 8234, 8238, 7, 8294, 8297, 9, 768, 879, 9, 1155, 1161, 9, 1425, 1469, 9, 1552, 1562, 9, 1611, 1631, 9, 1750, 1756, 9, 6832, 6862, 9, 7616, 7679, 9, 8400, 8432, 9, 12330, 12335, 9, 12441, 12442, 9, 65024, 65039, 9, 65056, 65071, 11, 57344, 63743, 11, 64976, 65007, 11, 65520, 65528, 11, 65534, 65535, 11, 131070, 131071, 11, 262142, 1114111, 2, 4352, 4447, 2, 8986, 8987, 2, 11904, 12287, 2, 12289, 12350, 2, 12353, 13311, 2, 13312, 19903, 2, 19968, 42191, 2, 43360, 43391, 2, 44032, 55203, 2, 63744, 64255, 2, 65072, 65135, 2, 65280, 65376, 2, 65504, 65510, 2, 127744, 128591, 2, 128640, 128767, 2, 129280, 129535, 2, 131072, 262141]
def lks : List Int := [913, 65, 914, 66, 917, 69, 918, 90, 919, 72, 921, 73, 922, 75, 924, 77, 925, 78, 927, 79, 929, 80, 932, 84, 933, 89, 935, 88, 957, 118, 959, 111, 961, 112, 1029, 83, 1030, 73, 1032, 74, 1040, 65, 1042, 66, 1045, 69, 1050, 75, 1052, 77, 1053, 72, 1054, 79, 1056, 80, 1057, 67, 1058, 84, 1061, 88, 1072, 97, 1077, 101, 1086, 111, 1088, 112, 1089, 99, 1091, 121, 1093, 120, 1109, 115, 1110, 105, 1112, 106, 1281, 100, 1307, 113, 1309, 119, 894, 59, 8208, 45, 8722, 45, 8260, 47, 8725, 47, 8228, 46, 8218, 44]
/-- Is v in a range? -/
def inb (v a b : Int) : Bool := decide (a ≤ v) && decide (v ≤ b)
def hitR (v : Int) (j : Nat) : Bool := inb v (rng.getD (3 * j + 1) 0) (rng.getD (3 * j + 2) 0)
def hitL (v : Int) (j : Nat) : Bool := inb v (lks.getD (2 * j) 0) (lks.getD (2 * j) 0)
/-- What a value looks like. -/
def skel (v : Int) : Int := match (List.range 51).find? (hitL v) with | some j => lks.getD (2 * j + 1) 0 | none => v
/-- The class that the tables tell. -/
def told (v : Int) : Int := match (List.range 53).find? (hitR v) with | some j => rng.getD (3 * j) 0 | none => if skel v = v then 1 else 3

theorem find_first {p : Nat → Bool} {n k : Nat} (hk : k < n) (hp : p k = true) (h : ∀ j, j < k → p j = false) : (List.range n).find? p = some k := by
  rw [List.find?_range_eq_some]
  exact ⟨hp, by simpa using hk, fun j hj => by rw [h j hj]; rfl⟩
theorem find_none {p : Nat → Bool} {n : Nat} (h : ∀ j, j < n → p j = false) : (List.range n).find? p = none := by
  rw [List.find?_eq_none]
  intro j hj
  rw [h j (by simpa using hj)]; simp
/-- A code point. -/
def pnt (v : Int) : Bool := decide (0 ≤ v ∧ v < 55296 ∨ 57343 < v ∧ v ≤ 1114111)
/-- A stray byte. -/
def stry (v : Int) : Bool := decide (1114240 ≤ v ∧ v ≤ 1114367)
/-- A value that may be. -/
def rght (v : Int) : Bool := pnt v || stry v
/-- A value's class. -/
def cls (v : Int) : Int := if rght v = false then 0 else if 1114112 ≤ v then 12 else if v < 32 then 4 else if v = 127 then 5 else if 128 ≤ v ∧ v < 160 then 6 else if v < 160 then 1 else told v
def wid (v : Int) : Int := if cls v = 2 then 2 else if cls v = 1 ∨ cls v = 3 then 1 else 0
def dng (v : Int) : Bool := decide (3 < cls v)
theorem pnt_cases (v : Int) : (pnt v = true ∧ (0 ≤ v ∧ v < 55296 ∨ 57343 < v ∧ v ≤ 1114111)) ∨ (pnt v = false ∧ (v < 0 ∨ 55296 ≤ v ∧ v ≤ 57343 ∨ 1114111 < v)) := by
  unfold pnt
  by_cases h : 0 ≤ v ∧ v < 55296 ∨ 57343 < v ∧ v ≤ 1114111
  · left; exact ⟨decide_eq_true h, h⟩
  · right; exact ⟨decide_eq_false h, by omega⟩
theorem stry_cases (v : Int) : (stry v = true ∧ 1114240 ≤ v ∧ v ≤ 1114367) ∨ (stry v = false ∧ (v < 1114240 ∨ 1114367 < v)) := by
  unfold stry
  by_cases h : 1114240 ≤ v ∧ v ≤ 1114367
  · left; exact ⟨decide_eq_true h, h.1, h.2⟩
  · right; exact ⟨decide_eq_false h, by omega⟩
end Go.Proofs.YtjgffedcbdnddaaDoor
set_option linter.unusedVariables false
namespace Go.Proofs.YtjgffedcbdnddaaDoor
/-- The first place from p on, of f ones, that meets t; else d. -/
def upF (t : Int → Bool) (d : Int) : Nat → Int → Int
  | 0, _ => d
  | f + 1, p => if t p = true then p else upF t d f (p + 1)
/-- .. downwards. -/
def dnF (t : Int → Bool) (d : Int) : Nat → Int → Int
  | 0, _ => d
  | f + 1, p => if t p = true then p else dnF t d f (p - 1)
theorem up_hit {t : Int → Bool} {d p : Int} {f : Nat} (hf : 0 < f) (h : t p = true) : upF t d f p = p := by
  obtain ⟨g, rfl⟩ : ∃ g, f = g + 1 := ⟨f - 1, by omega⟩
  show (if t p = true then p else _) = p
  rw [if_pos h]
theorem up_miss {t : Int → Bool} {d p : Int} {f : Nat} (hf : 0 < f) (h : t p = false) : upF t d f p = upF t d (f - 1) (p + 1) := by
  obtain ⟨g, rfl⟩ : ∃ g, f = g + 1 := ⟨f - 1, by omega⟩
  show (if t p = true then p else _) = _
  rw [if_neg (by rw [h]; simp)]; rfl
theorem up_end {t : Int → Bool} {d p : Int} {f : Nat} (hf : f = 0) : upF t d f p = d := by subst hf; rfl
theorem dn_hit {t : Int → Bool} {d p : Int} {f : Nat} (hf : 0 < f) (h : t p = true) : dnF t d f p = p := by
  obtain ⟨g, rfl⟩ : ∃ g, f = g + 1 := ⟨f - 1, by omega⟩
  show (if t p = true then p else _) = p
  rw [if_pos h]
theorem dn_miss {t : Int → Bool} {d p : Int} {f : Nat} (hf : 0 < f) (h : t p = false) : dnF t d f p = dnF t d (f - 1) (p - 1) := by
  obtain ⟨g, rfl⟩ : ∃ g, f = g + 1 := ⟨f - 1, by omega⟩
  show (if t p = true then p else _) = _
  rw [if_neg (by rw [h]; simp)]; rfl
theorem dn_end {t : Int → Bool} {d p : Int} {f : Nat} (hf : f = 0) : dnF t d f p = d := by subst hf; rfl
end Go.Proofs.YtjgffedcbdnddaaDoor
set_option linter.unusedVariables false
set_option linter.unusedSimpArgs false
namespace Go.Proofs.YtjgffedcbdnddaaDoor
open Go Go.Lib
theorem get_get (s : ByteArray) (i : Nat) (h : i < s.size) : s.get! i = s[i] := by
  show s.data[i]! = s.data[i]
  exact getElem!_pos _ _ _
/-- A code point; a stray byte; a value that may be. -/
def ptB (v : Int) : Bool := decide (0 ≤ v) && decide (v ≤ 1114111) && (decide (v < 55296) || decide (57343 < v))
def stB (v : Int) : Bool := decide (1114240 ≤ v) && decide (v ≤ 1114367)
/-- The bytes of a value. -/
def bytesI (v : Int) : List Int := if v ≤ 1114111 then Lib.encodeRuneZ v else [v - 1114112]
def oneI (v : Int) : List Int := if ptB v then Lib.encodeRuneZ v else if stB v then [v - 1114112] else []
def encI (l : List Int) : List Int := l.flatMap oneI
theorem ptB_iff (v : Int) : ptB v = true ↔ (0 ≤ v ∧ v < 55296) ∨ (57343 < v ∧ v ≤ 1114111) := by unfold ptB; simp; omega
theorem stB_iff (v : Int) : stB v = true ↔ (1114240 ≤ v ∧ v ≤ 1114367) := by unfold stB; simp
theorem oneI_pt {v : Int} (h : ptB v = true) : oneI v = Lib.encodeRuneZ v := by unfold oneI; rw [if_pos h]
theorem oneI_st {v : Int} (h : stB v = true) : oneI v = [v - 1114112] := by
  have := (stB_iff v).1 h
  have h2 : ¬ ptB v = true := fun h3 => by have := (ptB_iff v).1 h3; omega
  unfold oneI; rw [if_neg h2, if_pos h]
theorem oneI_no {v : Int} (h : ptB v = false) (h2 : stB v = false) : oneI v = [] := by unfold oneI; rw [h, h2]; rfl
theorem oneI_byte (v : Int) : ∀ x ∈ oneI v, 0 ≤ x ∧ x < 256 := by
  intro x hx
  cases h : ptB v
  · cases h2 : stB v
    · rw [oneI_no h h2] at hx; cases hx
    · rw [oneI_st h2] at hx; have := (stB_iff v).1 h2; simp at hx; omega
  · rw [oneI_pt h] at hx; exact Lib.encodeRuneZ_byte v x hx
theorem encI_byte (l : List Int) : ∀ x ∈ encI l, 0 ≤ x ∧ x < 256 := by
  intro x hx
  obtain ⟨v, _, hv⟩ := List.mem_flatMap.1 hx
  exact oneI_byte v x hv
theorem oneI_len (v : Int) : (oneI v).length ≤ 4 := by
  cases h : ptB v
  · cases h2 : stB v
    · rw [oneI_no h h2]; simp
    · rw [oneI_st h2]; simp
  · rw [oneI_pt h]; exact (Lib.encodeRuneZ_length v).2
theorem encI_cons (v : Int) (l : List Int) : encI (v :: l) = oneI v ++ encI l := rfl
theorem encI_append (a b : List Int) : encI (a ++ b) = encI a ++ encI b := by unfold encI; simp
theorem encI_len (l : List Int) : (encI l).length ≤ 4 * l.length := by
  induction l with
  | nil => simp [encI]
  | cons v l ih => rw [encI_cons]; have := oneI_len v; simp; omega
/-- A text of bytes' numbers. -/
def txt (l : List Int) : ByteArray := ⟨(l.map fun x => x.toNat.toUInt8).toArray⟩
def encS (l : List Int) : ByteArray := txt (encI l)
def bytesOf (s : ByteArray) : List Int := s.data.toList.map fun b => (b.toNat : Int)
theorem u8_nat {x : Int} (h0 : 0 ≤ x) (h1 : x < 256) : (x.toNat.toUInt8).toNat = x.toNat := by
  have : x.toNat < 256 := by omega
  rw [Nat.toUInt8, UInt8.toNat_ofNat']; omega
theorem txt_size (l : List Int) : (txt l).size = l.length := by simp [txt, ByteArray.size]
theorem txt_get (l : List Int) (i : Nat) (h : i < l.length) : (txt l).get! i = (l[i]).toNat.toUInt8 := by
  rw [get_get _ i (by rw [txt_size]; exact h)]
  show ((l.map fun x => x.toNat.toUInt8).toArray)[i]'(by simpa using h) = _
  simp
theorem txt_ext (l : List Int) (n : Nat) : (txt l).extract n (txt l).size = txt (l.drop n) := by
  apply ByteArray.ext
  rw [ByteArray.data_extract, txt_size]
  simp only [txt]
  rw [List.extract_toArray]
  congr 1
  rw [List.extract_eq_take_drop]
  exact List.take_of_length_le (by simp) |>.trans (by rw [List.map_drop])
theorem txt_bytesOf (s : ByteArray) : txt (bytesOf s) = s := by
  apply ByteArray.ext
  apply Array.toList_inj.1
  simp only [txt, bytesOf, List.map_map]
  rw [show ((fun x : Int => x.toNat.toUInt8) ∘ fun b : UInt8 => (b.toNat : Int)) = id from by funext b; simp]
  simp
theorem bytesOf_size (s : ByteArray) : (bytesOf s).length = s.size := by unfold bytesOf; rw [List.length_map]; exact Array.length_toList
theorem bytesOf_byte (s : ByteArray) : ∀ x ∈ bytesOf s, 0 ≤ x ∧ x < 256 := by
  intro x hx
  obtain ⟨b, _, rfl⟩ := List.mem_map.1 hx
  have := b.toNat_lt
  omega
theorem bytesOf_txt (l : List Int) (h : ∀ x ∈ l, 0 ≤ x ∧ x < 256) : bytesOf (txt l) = l := by
  simp only [bytesOf, txt, List.map_map]
  conv => rhs; rw [← List.map_id l]
  apply List.map_congr_left
  intro x hx
  have := h x hx
  simp only [Function.comp, id]
  rw [u8_nat this.1 this.2]; omega
theorem bytesOf_get (s : ByteArray) (i : Nat) (h : i < s.size) : (bytesOf s)[i]'(by rw [bytesOf_size]; exact h) = ((s.get! i).toNat : Int) := by
  rw [get_get s i h]; simp [bytesOf]; rfl
theorem nat_of_pt {v : Int} (h : ptB v = true) : ∃ n : Nat, v = n := ⟨v.toNat, by have := (ptB_iff v).1 h; omega⟩
theorem u8n (x : Int) (n : Nat) (h : x = n) (h1 : n < 256) : (x.toNat.toUInt8).toNat = n := by rw [u8_nat (by omega) (by omega)]; omega
end Go.Proofs.YtjgffedcbdnddaaDoor
namespace Go.Proofs.YtjgffedcbdnddaaDoor
open Go.ChangeShapes Go.WideShapes Go.ChangeAt Go.RowKit
section
variable {H : Type} {enc : TypeId × Value → H} {P : Program}
theorem args_stay (hl : laidOutB P = true) {W W' : World} (hb : Below W.heap.size W W') :
    ∀ {ts : List TypeId} {vs : List Value} {ds : List (DataW H)} {ps : List MemPlace}, (ts.all fun t => P.readableRec t && decide (t < P.types.size)) = true → (∀ x ∈ ps, x.block < W.heap.size) →
      DataW.TrodAll enc P W 0 (fun _ => true) true ts vs ds ps → DataW.TrodAll enc P W' 0 (fun b => decide (b < W.heap.size)) true ts vs ds ps
  | [], _, _, _, _, _, h => by
    obtain ⟨rfl, rfl, rfl⟩ := trodAll_nil h
    exact trodAll_mk0
  | t :: ts, _, _, _, hr, hlt, h => by
    obtain ⟨v, vs1, d, ds1, a, b, rfl, rfl, rfl, h1, h2⟩ := trodAll_cons h
    simp only [List.all_cons, Bool.and_eq_true, decide_eq_true_eq] at hr
    exact trodAll_cons_mk (Below.trod hl hr.1.1 hr.1.2 h1 hb fun x hx => hlt x (List.mem_append_left _ hx)) (args_stay hl hb hr.2 (fun x hx => hlt x (List.mem_append_right _ hx)) h2)

theorem law_post {f : Func} {s : ChangeSpec} {tb : TypeId} {apart fresh handsOn : Bool} {W W' : World} {args : Array Value} {ds gs : List (DataW H)} {before : List MemPlace} (hl : laidOutB P = true) (hvars : s.vars = [])
    (hr : (f.params.toList.all fun t => P.readableRec t && decide (t < P.types.size)) = true) (hb1 : f.resultTypes = #[tb]) (ht : P.underlying tb = some .bool)
    (hW : DataW.Whole enc P f.params.toList s.vars apart W args.toList ds gs before) (hfn : gs = [] → s.fn H (ds ++ gs) = { results := [.lit (.bool true)], args := ds }) (hb : Below W.heap.size W W') :
    s.post enc P f apart fresh handsOn false W args (.bool true) W' := by
  have hlt : ∀ p ∈ before, p.block < W.heap.size := fun p hp => hW.lt p hp
  have hW' := hW
  obtain ⟨p, q, hA, hV, rfl, _, _⟩ := hW
  rw [hvars] at hV
  obtain ⟨rfl, rfl⟩ := trodVars_none hV
  rw [List.append_nil] at hlt
  have hf := hfn rfl
  refine ⟨ds, [], _, [], p, [], hW', ?_, ?_, ?_, hb.frame _, fun h => by cases h⟩
  · rw [hf, hb1]; exact trodAll_mk1 (shut_bool ht true)
  · rw [hf]; exact args_stay hl hb hr hlt hA
  · rw [hf, hvars]; rfl
end
end Go.Proofs.YtjgffedcbdnddaaDoor
namespace Go.Proofs.YtjgffedcbdnddaaDoor
open Go.RowKit
/-- A callee that leaves its world alone, called where draws have been made. -/
theorem qsame {P : Program} {f : FuncId} {args : Array Value} {w : World} {a n : Nat} {v : Value}
    (h : Calls P f args (w.drewN (a + n)) fun e w' => e = .returned v ∧ w' = w.drewN (a + n)) :
    Calls P f args (w.drewN (a + n)) fun e w'' => e = .returned v ∧ ∃ m, w'' = w.drewN (a + m) :=
  h.mono fun _ _ h => ⟨h.1, n, h.2⟩
/-- .. and one that draws. -/
theorem qdraw {P : Program} {f : FuncId} {args : Array Value} {w : World} {a n : Nat} {v : Value}
    (h : Calls P f args (w.drewN (a + n)) fun e w' => e = .returned v ∧ ∃ m, w' = (w.drewN (a + n)).drewN m) :
    Calls P f args (w.drewN (a + n)) fun e w'' => e = .returned v ∧ ∃ m, w'' = w.drewN (a + m) :=
  h.mono fun _ _ ⟨h1, m, h2⟩ => ⟨h1, n + m, by rw [h2, World.drewN_drewN, Nat.add_assoc]⟩
theorem drewN_below {B : Nat} {w w' : World} (h : Below B w w') : ∀ n, Below B w (w'.drewN n)
  | 0 => h
  | n + 1 => (drewN_below h n).drew
theorem seqB {w w1 w2 : World} (h1 : Below w.heap.size w w1) (h2 : Below w1.heap.size w1 w2) : Below w.heap.size w w2 := h1.trans (h2.mono h1.size)
theorem below_alloc (w : World) (o : Obj) : Below w.heap.size w (w.alloc o) := (Below.refl _ _).alloc (Nat.le_refl _) _
end Go.Proofs.YtjgffedcbdnddaaDoor
set_option linter.unusedVariables false
set_option linter.unusedSimpArgs false
namespace Go.Proofs.YtjgffedcbdnddaaDoor
open Go.RowKit
theorem retI {k : IntKind} {a b : Int} (h : a = b) : Ending.returned (.int k a) = .returned (.int k b) := by rw [h]
theorem retV {k : IntKind} {a b : Int} (h : a = b) : Value.int k a = .int k b := by rw [h]
/-- A slice of signs (values and labels) lies in memory. -/
def Signs (w : World) (a : Option Addr) (l : List (Int × Int)) : Prop :=
  ∀ i, i < l.length → ∃ b off, a = some ⟨b, off, none⟩ ∧ b < w.heap.size ∧ w.cell? ⟨b, off + i * 2, none⟩ = some (.int .i64 (l.getD i (0, 0)).1) ∧ w.cell? ⟨b, off + i * 2 + 1, none⟩ = some (.int .i64 (l.getD i (0, 0)).2)
theorem Signs.below {w w' : World} {a : Option Addr} {l : List (Int × Int)} (h : Signs w a l) (hb : Below w.heap.size w w') : Signs w' a l := fun i hi => by
  obtain ⟨b, off, e, hlt, h1, h2⟩ := h i hi
  exact ⟨b, off, e, Nat.lt_of_lt_of_le hlt hb.size, (hb.cell (p := ⟨b, off + i * 2, none⟩) hlt).trans h1, (hb.cell (p := ⟨b, off + i * 2 + 1, none⟩) hlt).trans h2⟩
/-- A row of signs in memory. -/
def sRow (L : List (Int × Int)) : Array Value := (L.flatMap fun p => [Value.int .i64 p.1, Value.int .i64 p.2]).toArray
theorem sRow_at (L : List (Int × Int)) : ∀ i, i < L.length → (L.flatMap fun p => [Value.int .i64 p.1, Value.int .i64 p.2])[i * 2]? = some (.int .i64 (L.getD i (0, 0)).1) ∧ (L.flatMap fun p => [Value.int .i64 p.1, Value.int .i64 p.2])[i * 2 + 1]? = some (.int .i64 (L.getD i (0, 0)).2) := by
  induction L with
  | nil => intro i hi; simp at hi
  | cons x L ih =>
    intro i hi
    cases i with
    | zero => exact ⟨rfl, rfl⟩
    | succ i =>
      have h := ih i (by simpa using hi)
      rw [show (i + 1) * 2 = i * 2 + 1 + 1 by omega]
      exact h
theorem signs_new (w : World) (L : List (Int × Int)) (t : TypeId) : Signs (w.alloc (.cells (sRow L) t)) (some ⟨w.heap.size, 0, none⟩) L := fun i hi => by
  have h := sRow_at L i hi
  refine ⟨_, _, rfl, by simp, ?_, ?_⟩
  · rw [World.cell?_alloc_new, Nat.zero_add, sRow, List.getElem?_toArray]; exact h.1
  · rw [World.cell?_alloc_new, Nat.zero_add, sRow, List.getElem?_toArray]; exact h.2
/-- A row of numbers in memory. -/
def iRow (L : List Int) : Array Value := (L.map (Value.int .i64)).toArray
theorem iRow_at (L : List Int) (i : Nat) (h : i < L.length) : (iRow L)[i]? = some (.int .i64 (L.getD i 0)) := by
  rw [iRow, List.getElem?_toArray, List.getElem?_map, List.getD, List.getElem?_eq_getElem h]; rfl
theorem iRow_set (L : List Int) (i : Nat) (x : Int) : (iRow L).setIfInBounds i (.int .i64 x) = iRow (L.set i x) := by
  apply Array.ext'
  simp [iRow, List.map_set]
/-- A slice of numbers that came in. -/
structure Ints (w : World) (a : Option Addr) (l : List Int) : Prop where
  some : ∀ i, i < l.length → ∃ b off, a = Option.some ⟨b, off, none⟩ ∧ b < w.heap.size
  cell : ∀ i b off, i < l.length → a = Option.some ⟨b, off, none⟩ → w.cell? ⟨b, off + i, none⟩ = Option.some (.int .i64 (l.getD i 0))
theorem Ints.below {w w' : World} {a : Option Addr} {l : List Int} (h : Ints w a l) (hb : Below w.heap.size w w') : Ints w' a l :=
  ⟨fun i hi => by obtain ⟨b, off, e, hlt⟩ := h.some i hi; exact ⟨b, off, e, Nat.lt_of_lt_of_le hlt hb.size⟩, fun i b off hi e => by
    obtain ⟨b', off', e', hlt⟩ := h.some i hi
    have : b = b' ∧ off = off' := by rw [e] at e'; simpa using e'
    rw [hb.cell (p := ⟨b, off + i, none⟩) (by rw [this.1]; exact hlt)]; exact h.cell i b off hi e⟩
theorem ints_new (w : World) (l : List Int) : Ints (w.alloc (.cells (iRow l) 3)) (some ⟨w.heap.size, 0, none⟩) l :=
  ⟨fun i hi => ⟨_, _, rfl, by simp⟩, fun i b off hi e => by
    obtain ⟨rfl, rfl⟩ : w.heap.size = b ∧ 0 = off := by simpa using e
    rw [World.cell?_alloc_new, Nat.zero_add, iRow_at l i hi]⟩
end Go.Proofs.YtjgffedcbdnddaaDoor
set_option linter.unusedVariables false
set_option linter.unusedSimpArgs false
namespace Go.Proofs.YtjgffedcbdnddaaDoor
open Go.RowKit
/-- A step: its place, what goes, what comes, the cursor behind it. -/
abbrev UStp := Nat × List (Int × Int) × List (Int × Int) × Int
/-- A line: its signs, its cursor. -/
abbrev ULn := List (Int × Int) × Int
/-- A step leads from a line to another one. -/
def Ld (s : UStp) (x y : ULn) : Prop := ∃ A B, x.1 = A ++ s.2.1 ++ B ∧ s.1 = A.length ∧ y.1 = A ++ s.2.2.1 ++ B ∧ y.2 = s.2.2.2
/-- The step back from a line. -/
def bkU (s : UStp) (x : ULn) : UStp := (s.1, s.2.2.1, s.2.1, x.2)
/-- What a step makes of a line. -/
def doU (s : UStp) (x : ULn) : ULn := (x.1.take s.1 ++ s.2.2.1 ++ x.1.drop (s.1 + s.2.1.length), s.2.2.2)
theorem Ld.does {s : UStp} {x y : ULn} (h : Ld s x y) : doU s x = y := by
  obtain ⟨A, B, h1, h2, h3, h4⟩ := h
  unfold doU
  rw [h1, h2, ← h4]
  have e1 : (A ++ s.2.1 ++ B).take A.length = A := by rw [List.append_assoc, List.take_left']; rfl
  have e2 : (A ++ s.2.1 ++ B).drop (A.length + s.2.1.length) = B := by
    rw [show A.length + s.2.1.length = (A ++ s.2.1).length by rw [List.length_append], List.drop_left']
    rfl
  rw [e1, e2, ← h3]
theorem Ld.back {s : UStp} {x y : ULn} (h : Ld s x y) : Ld (bkU s x) y x := by
  obtain ⟨A, B, h1, h2, h3, h4⟩ := h
  exact ⟨A, B, h3, h2, h1, rfl⟩
theorem Ld.fits {s : UStp} {x y : ULn} (h : Ld s x y) : s.1 + s.2.1.length ≤ x.1.length := by
  obtain ⟨A, B, h1, h2, _⟩ := h
  rw [h1, h2, List.length_append, List.length_append]; omega
theorem Ld.len {s : UStp} {x y : ULn} (h : Ld s x y) : s.2.1.length ≤ x.1.length ∧ s.2.2.1.length ≤ y.1.length := by
  obtain ⟨A, B, h1, h2, h3, _⟩ := h
  rw [h1, h3]
  simp only [List.length_append]
  omega
theorem Ld.at {s : UStp} {l : List (Int × Int)} {a b : Int} {y : ULn} (h : Ld s (l, a) y) : Ld s (l, b) y := h
/-- What stands between two lines: the same ahead of it, the same behind it. -/
theorem ld_between {x y : ULn} {h a b : Nat} (ha : h ≤ a) (hb : h ≤ b) (hx : a ≤ x.1.length) (hy : b ≤ y.1.length) (h1 : x.1.take h = y.1.take h) (h2 : x.1.drop a = y.1.drop b) :
    Ld (h, (x.1.drop h).take (a - h), (y.1.drop h).take (b - h), y.2) x y := by
  have key : ∀ (l : List (Int × Int)) (c : Nat), h ≤ c → c ≤ l.length → l = l.take h ++ (l.drop h).take (c - h) ++ l.drop c := fun l c hc hl => by
    have e : l.drop c = (l.drop h).drop (c - h) := by rw [List.drop_drop]; congr 1; omega
    rw [e, List.append_assoc, List.take_append_drop, List.take_append_drop]
  refine ⟨x.1.take h, x.1.drop a, key x.1 a ha hx, ?_, ?_, rfl⟩
  · show h = _
    rw [List.length_take]; omega
  · show y.1 = x.1.take h ++ (y.1.drop h).take (b - h) ++ x.1.drop a
    rw [h1, h2]; exact key y.1 b hb hy
/-- A chain: each step leads from the line behind it to its own line; the last one from the line that is. -/
def Ch : List UStp → List ULn → ULn → Prop
  | [], [], _ => True
  | s :: ws, p :: P, now => Ld s (P.headD now) p ∧ Ch ws P now
  | _, _, _ => False
theorem Ch.len : ∀ {ws : List UStp} {P : List ULn} {now : ULn}, Ch ws P now → ws.length = P.length
  | [], [], _, _ => rfl
  | [], _ :: _, _, h => h.elim
  | _ :: _, [], _, h => h.elim
  | s :: ws, p :: P, now, h => by
    have := Ch.len h.2
    simp only [List.length_cons, this]
theorem Ch.snoc : ∀ {ws : List UStp} {P : List ULn} {now x : ULn} {s : UStp}, Ch ws P now → Ld s x now → Ch (ws ++ [s]) (P ++ [now]) x
  | [], [], now, x, s, _, hl => ⟨hl, trivial⟩
  | [], _ :: _, _, _, _, h, _ => h.elim
  | _ :: _, [], _, _, _, h, _ => h.elim
  | t :: ws, p :: P, now, x, s, h, hl => by
    refine ⟨?_, Ch.snoc h.2 hl⟩
    cases P with
    | nil => exact h.1
    | cons q P => exact h.1
theorem Ch.pop : ∀ {ws : List UStp} {P : List ULn} {now y : ULn} {s : UStp}, Ch (ws ++ [s]) (P ++ [y]) now → Ch ws P y ∧ Ld s now y
  | [], [], now, y, s, h => ⟨trivial, h.1⟩
  | [], p :: P, now, y, s, h => by
    have := h.len
    simp at this
  | t :: ws, [], now, y, s, h => by
    have := h.len
    simp at this
  | t :: ws, p :: P, now, y, s, h => by
    obtain ⟨h1, h2⟩ := Ch.pop h.2
    refine ⟨⟨?_, h1⟩, h2⟩
    have h3 := h.1
    cases P with
    | nil => exact h3
    | cons q P => exact h3
theorem Ch.cursor : ∀ {ws : List UStp} {P : List ULn} {l : List (Int × Int)} {a b : Int}, Ch ws P (l, a) → Ch ws P (l, b)
  | [], [], _, _, _, _ => trivial
  | [], _ :: _, _, _, _, h => h.elim
  | _ :: _, [], _, _, _, h => h.elim
  | s :: ws, p :: P, l, a, b, h => by
    refine ⟨?_, Ch.cursor h.2⟩
    have h1 := h.1
    cases P with
    | nil => exact h1.at
    | cons q P => exact h1
theorem Ch.tail {s : UStp} {ws : List UStp} {p : ULn} {P : List ULn} {now : ULn} (h : Ch (s :: ws) (p :: P) now) : Ch ws P now := h.2
/-- The line that is may be another one, if the newest step leads from it, too. -/
theorem Ch.again {ws : List UStp} {P : List ULn} {now x y : ULn} {s t : UStp} (h : Ch (ws ++ [s]) (P ++ [y]) now) (hl : Ld t x y) : Ch (ws ++ [t]) (P ++ [y]) x := h.pop.1.snoc hl
/-- All steps of a chain are short, if its lines are. -/
theorem Ch.short : ∀ {ws : List UStp} {P : List ULn} {now : ULn} {M : Nat}, Ch ws P now → now.1.length ≤ M → (∀ p ∈ P, p.1.length ≤ M) → ∀ s ∈ ws, s.2.1.length ≤ M ∧ s.2.2.1.length ≤ M
  | [], _, _, _, _, _, _ => fun s hs => by cases hs
  | _ :: _, [], _, _, h, _, _ => h.elim
  | t :: ws, p :: P, now, M, h, hn, hp => fun s hs => by
    rcases List.mem_cons.1 hs with rfl | hs
    · have h1 := h.1.len
      have h2 := hp p (List.mem_cons_self ..)
      refine ⟨Nat.le_trans h1.1 ?_, Nat.le_trans h1.2 h2⟩
      cases P with
      | nil => exact hn
      | cons q P => exact hp q (by simp)
    · exact Ch.short h.2 hn (fun q hq => hp q (List.mem_cons_of_mem _ hq)) s hs
end Go.Proofs.YtjgffedcbdnddaaDoor
namespace Go.Proofs.YtjgffedcbdnddaaDoor
open Go.RowKit
theorem lks_rng (i : Nat) : -2147483648 ≤ lks.getD i 0 ∧ lks.getD i 0 ≤ 2147483647 := by
  rcases Nat.lt_or_ge i 102 with h | h
  · have key : ∀ j : Fin 102, -2147483648 ≤ lks.getD j 0 ∧ lks.getD j 0 ≤ 2147483647 := by decide +kernel
    exact key ⟨i, h⟩
  · rw [List.getD, List.getElem?_eq_none (by exact h)]; exact ⟨by decide, by decide⟩
theorem rng_rng (i : Nat) : -2147483648 ≤ rng.getD i 0 ∧ rng.getD i 0 ≤ 2147483647 := by
  rcases Nat.lt_or_ge i 159 with h | h
  · have key : ∀ j : Fin 159, -2147483648 ≤ rng.getD j 0 ∧ rng.getD j 0 ≤ 2147483647 := by decide +kernel
    exact key ⟨i, h⟩
  · rw [List.getD, List.getElem?_eq_none (by exact h)]; exact ⟨by decide, by decide⟩
end Go.Proofs.YtjgffedcbdnddaaDoor
