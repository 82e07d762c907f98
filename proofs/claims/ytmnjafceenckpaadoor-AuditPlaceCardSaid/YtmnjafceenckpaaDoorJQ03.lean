/-
  Joined: U0 E0 Kit Sg0 C1.
-/
import Derived.Test.YtmnjafceenckpaaDoorJQ01
import Derived.Lib.DecodeN
import Derived.Lib.RuneBytes
import Derived.WalkKit
import Derived.Deep.QuietTactic
import Derived.BigQuiet
import Derived.Lib.Hide
import Derived.Test.YtmnjafceenckpaaDoorProg
import Derived.Handy
import Derived.Test.YtmnjafceenckpaaDoorRows
import Derived.WalkSpells
import Derived.WalkLawsBesides
set_option linter.unusedVariables false
set_option linter.unusedSimpArgs false
set_option maxRecDepth 100000
set_option linter.unusedVariables false
set_option linter.unusedSimpArgs false
namespace Go.Proofs.YtmnjafceenckpaaDoor
open Go Go.Lib
/-- Of how many bytes what a byte begins is. -/
def sizeB (c : Nat) : Nat := if c < 128 then 1 else if 194 ≤ c ∧ c ≤ 223 then 2 else if 224 ≤ c ∧ c ≤ 239 then 3 else if 240 ≤ c ∧ c ≤ 244 then 4 else 0
/-- May a byte be the how manieth behind the first one? -/
def mayB (f c i : Nat) : Bool := decide (128 ≤ c ∧ c ≤ 191) && (decide (1 < i) || !(decide (f = 224 ∧ c < 160) || decide (f = 237 ∧ 159 < c) || decide (f = 240 ∧ c < 144) || decide (f = 244 ∧ 143 < c)))
/-- How many bytes belong to what the first one begins, of n. -/
def begB (n b0 b1 b2 b3 : Nat) : Nat :=
  if 1 < sizeB b0 ∧ 1 < n ∧ mayB b0 b1 1 = true then
    if 2 < sizeB b0 ∧ 2 < n ∧ mayB b0 b2 2 = true then
      if 3 < sizeB b0 ∧ 3 < n ∧ mayB b0 b3 3 = true then 4 else 3
    else 2
  else 1
/-- The first value of a text, and its size. -/
def oneB (n b0 b1 b2 b3 : Nat) : Nat × Nat :=
  if begB n b0 b1 b2 b3 ≠ sizeB b0 then (1114112 + b0, 1)
  else if sizeB b0 = 1 then (b0, 1)
  else if sizeB b0 = 2 then ((b0 - 192) * 64 + b1 - 128, 2)
  else if sizeB b0 = 3 then (((b0 - 224) * 64 + b1 - 128) * 64 + b2 - 128, 3)
  else ((((b0 - 240) * 64 + b1 - 128) * 64 + b2 - 128) * 64 + b3 - 128, 4)
/-- What the program makes of the decoder's answer. -/
def valN (n b0 b1 b2 b3 : Nat) : Nat × Nat :=
  if (decodeN n b0 b1 b2 b3).1 = 65533 ∧ (decodeN n b0 b1 b2 b3).2 < 3 then (1114112 + b0, 1) else decodeN n b0 b1 b2 b3
theorem mayB_iff (f c i : Nat) : mayB f c i = true ↔ (128 ≤ c ∧ c ≤ 191) ∧ (1 < i ∨ ¬ (f = 224 ∧ c < 160 ∨ f = 237 ∧ 159 < c ∨ f = 240 ∧ c < 144 ∨ f = 244 ∧ 143 < c)) := by
  unfold mayB
  simp only [Bool.and_eq_true, Bool.or_eq_true, decide_eq_true_eq, Bool.not_eq_true', Bool.or_eq_false_iff, decide_eq_false_iff_not]
  constructor
  · rintro ⟨h1, h2⟩; exact ⟨h1, by rcases h2 with h2 | h2; exact Or.inl h2; exact Or.inr (by omega)⟩
  · rintro ⟨h1, h2⟩; exact ⟨h1, by rcases h2 with h2 | h2; exact Or.inl h2; exact Or.inr (by omega)⟩
theorem beg1 {n b0 b1 b2 b3 : Nat} (h : ¬ (1 < sizeB b0 ∧ 1 < n ∧ mayB b0 b1 1 = true)) : begB n b0 b1 b2 b3 = 1 := by unfold begB; rw [if_neg h]
theorem beg2 {n b0 b1 b2 b3 : Nat} (h : 1 < sizeB b0 ∧ 1 < n ∧ mayB b0 b1 1 = true) (h2 : ¬ (2 < sizeB b0 ∧ 2 < n ∧ mayB b0 b2 2 = true)) : begB n b0 b1 b2 b3 = 2 := by unfold begB; rw [if_pos h, if_neg h2]
theorem beg3 {n b0 b1 b2 b3 : Nat} (h : 1 < sizeB b0 ∧ 1 < n ∧ mayB b0 b1 1 = true) (h2 : 2 < sizeB b0 ∧ 2 < n ∧ mayB b0 b2 2 = true) (h3 : ¬ (3 < sizeB b0 ∧ 3 < n ∧ mayB b0 b3 3 = true)) : begB n b0 b1 b2 b3 = 3 := by unfold begB; rw [if_pos h, if_pos h2, if_neg h3]
theorem beg4 {n b0 b1 b2 b3 : Nat} (h : 1 < sizeB b0 ∧ 1 < n ∧ mayB b0 b1 1 = true) (h2 : 2 < sizeB b0 ∧ 2 < n ∧ mayB b0 b2 2 = true) (h3 : 3 < sizeB b0 ∧ 3 < n ∧ mayB b0 b3 3 = true) : begB n b0 b1 b2 b3 = 4 := by unfold begB; rw [if_pos h, if_pos h2, if_pos h3]
theorem one_bad {n b0 b1 b2 b3 m k : Nat} (hb : begB n b0 b1 b2 b3 = m) (hs : sizeB b0 = k) (h : m ≠ k) : oneB n b0 b1 b2 b3 = (1114112 + b0, 1) := by unfold oneB; rw [hb, hs, if_pos h]
theorem one_2 {n b0 b1 b2 b3 : Nat} (hb : begB n b0 b1 b2 b3 = 2) (hs : sizeB b0 = 2) : oneB n b0 b1 b2 b3 = ((b0 - 192) * 64 + b1 - 128, 2) := by
  unfold oneB; rw [hb, hs, if_neg (by simp), if_neg (by simp), if_pos rfl]
theorem one_3 {n b0 b1 b2 b3 : Nat} (hb : begB n b0 b1 b2 b3 = 3) (hs : sizeB b0 = 3) : oneB n b0 b1 b2 b3 = (((b0 - 224) * 64 + b1 - 128) * 64 + b2 - 128, 3) := by
  unfold oneB; rw [hb, hs, if_neg (by simp), if_neg (by simp), if_neg (by simp), if_pos rfl]
theorem one_4 {n b0 b1 b2 b3 : Nat} (hb : begB n b0 b1 b2 b3 = 4) (hs : sizeB b0 = 4) : oneB n b0 b1 b2 b3 = ((((b0 - 240) * 64 + b1 - 128) * 64 + b2 - 128) * 64 + b3 - 128, 4) := by
  unfold oneB; rw [hb, hs, if_neg (by simp), if_neg (by simp), if_neg (by simp), if_neg (by simp)]
theorem one_1 {n b0 b1 b2 b3 : Nat} (hb : begB n b0 b1 b2 b3 = 1) (hs : sizeB b0 = 1) : oneB n b0 b1 b2 b3 = (b0, 1) := by
  unfold oneB; rw [hb, hs, if_neg (by simp), if_pos rfl]
theorem val_bad {n b0 b1 b2 b3 : Nat} (h : decodeN n b0 b1 b2 b3 = (65533, 1)) : valN n b0 b1 b2 b3 = (1114112 + b0, 1) := by unfold valN; rw [h, if_pos ⟨rfl, by show 1 < 3; omega⟩]
theorem val_ok {n b0 b1 b2 b3 : Nat} (x : Nat × Nat) (h : decodeN n b0 b1 b2 b3 = x) (hx : x.1 ≠ 65533 ∨ 3 ≤ x.2) : valN n b0 b1 b2 b3 = x := by unfold valN; rw [h, if_neg (by omega)]
/-- The reference's first value is what the program makes of the decoder's. -/
theorem one_val (n b0 b1 b2 b3 : Nat) (hn : 1 ≤ n) (h0 : b0 < 256) (h1 : b1 < 256) (h2 : b2 < 256) (h3 : b3 < 256) : oneB n b0 b1 b2 b3 = valN n b0 b1 b2 b3 := by
  have hs : (b0 < 128 ∧ sizeB b0 = 1) ∨ (194 ≤ b0 ∧ b0 ≤ 223 ∧ sizeB b0 = 2) ∨ (224 ≤ b0 ∧ b0 ≤ 239 ∧ sizeB b0 = 3) ∨ (240 ≤ b0 ∧ b0 ≤ 244 ∧ sizeB b0 = 4) ∨ ((128 ≤ b0 ∧ b0 < 194 ∨ 244 < b0) ∧ sizeB b0 = 0) := by
    unfold sizeB; repeat' split
    all_goals omega
  have m1 := mayB_iff b0 b1 1
  have m2 := mayB_iff b0 b2 2
  have m3 := mayB_iff b0 b3 3
  rcases hs with ⟨h, e⟩ | ⟨h, h', e⟩ | ⟨h, h', e⟩ | ⟨h, h', e⟩ | ⟨h, e⟩
  · rw [one_1 (beg1 (by omega)) e, val_ok (b0, 1) (by unfold decodeN; rw [if_pos h]) (by simp; omega)]
  · by_cases c1 : 1 < n ∧ 128 ≤ b1 ∧ b1 ≤ 191
    · have hm : mayB b0 b1 1 = true := m1.2 ⟨by omega, by omega⟩
      rw [one_2 (beg2 ⟨by omega, c1.1, hm⟩ (by omega)) e]
      rw [val_ok (b0 % 32 * 64 + b1 % 64, 2) (by unfold decodeN; rw [if_neg (by omega), if_pos (by omega), if_pos (by omega)]) (by left; show b0 % 32 * 64 + b1 % 64 ≠ 65533; omega)]
      exact congrArg (fun x => (x, 2)) (by omega)
    · have hm : ¬ (1 < sizeB b0 ∧ 1 < n ∧ mayB b0 b1 1 = true) := by rintro ⟨_, h5, h6⟩; have := m1.1 h6; omega
      rw [one_bad (beg1 hm) e (by omega)]
      rw [val_bad (by unfold decodeN; rw [if_neg (by omega), if_neg (by omega), if_neg (by omega), if_neg (by omega)])]
  · by_cases c1 : 1 < n ∧ mayB b0 b1 1 = true
    · have k1 := m1.1 c1.2
      by_cases c2 : 2 < n ∧ 128 ≤ b2 ∧ b2 ≤ 191
      · have hm2 : mayB b0 b2 2 = true := m2.2 ⟨by omega, by omega⟩
        rw [one_3 (beg3 ⟨by omega, c1.1, c1.2⟩ ⟨by omega, c2.1, hm2⟩ (by omega)) e]
        rw [val_ok (b0 % 16 * 4096 + b1 % 64 * 64 + b2 % 64, 3) (by unfold decodeN; rw [if_neg (by omega), if_neg (by omega), if_pos (by omega), if_pos (by omega)]) (by right; show 3 ≤ 3; omega)]
        exact congrArg (fun x => (x, 3)) (by omega)
      · have hm2 : ¬ (2 < sizeB b0 ∧ 2 < n ∧ mayB b0 b2 2 = true) := by rintro ⟨_, h5, h6⟩; have := m2.1 h6; omega
        rw [one_bad (beg2 ⟨by omega, c1.1, c1.2⟩ hm2) e (by omega)]
        rw [val_bad (by unfold decodeN; rw [if_neg (by omega), if_neg (by omega), if_neg (by omega), if_neg (by omega)])]
    · have hm : ¬ (1 < sizeB b0 ∧ 1 < n ∧ mayB b0 b1 1 = true) := by rintro ⟨_, h5, h6⟩; exact c1 ⟨h5, h6⟩
      rw [one_bad (beg1 hm) e (by omega)]
      have k1 : ¬ (1 < n ∧ (128 ≤ b1 ∧ b1 ≤ 191) ∧ (1 < 1 ∨ ¬ (b0 = 224 ∧ b1 < 160 ∨ b0 = 237 ∧ 159 < b1 ∨ b0 = 240 ∧ b1 < 144 ∨ b0 = 244 ∧ 143 < b1))) := fun hh => c1 ⟨hh.1, m1.2 hh.2⟩
      by_cases c3 : b0 / 16 = 14 ∧ (1 < n ∧ b1 / 64 = 2) ∧ (2 < n ∧ b2 / 64 = 2)
      · rw [val_bad (by unfold decodeN; rw [if_neg (by omega), if_neg (by omega), if_pos c3, if_neg (by omega)])]
      · rw [val_bad (by unfold decodeN; rw [if_neg (by omega), if_neg (by omega), if_neg c3, if_neg (by omega)])]
  · by_cases c1 : 1 < n ∧ mayB b0 b1 1 = true
    · have k1 := m1.1 c1.2
      by_cases c2 : 2 < n ∧ 128 ≤ b2 ∧ b2 ≤ 191
      · have hm2 : mayB b0 b2 2 = true := m2.2 ⟨by omega, by omega⟩
        by_cases c3 : 3 < n ∧ 128 ≤ b3 ∧ b3 ≤ 191
        · have hm3 : mayB b0 b3 3 = true := m3.2 ⟨by omega, by omega⟩
          rw [one_4 (beg4 ⟨by omega, c1.1, c1.2⟩ ⟨by omega, c2.1, hm2⟩ ⟨by omega, c3.1, hm3⟩) e]
          rw [val_ok (b0 % 8 * 262144 + b1 % 64 * 4096 + b2 % 64 * 64 + b3 % 64, 4) (by unfold decodeN; rw [if_neg (by omega), if_neg (by omega), if_neg (by omega), if_pos (by omega), if_pos (by omega)]) (by right; show 3 ≤ 4; omega)]
          exact congrArg (fun x => (x, 4)) (by omega)
        · have hm3 : ¬ (3 < sizeB b0 ∧ 3 < n ∧ mayB b0 b3 3 = true) := by rintro ⟨_, h5, h6⟩; have := m3.1 h6; omega
          rw [one_bad (beg3 ⟨by omega, c1.1, c1.2⟩ ⟨by omega, c2.1, hm2⟩ hm3) e (by omega)]
          rw [val_bad (by unfold decodeN; rw [if_neg (by omega), if_neg (by omega), if_neg (by omega), if_neg (by omega)])]
      · have hm2 : ¬ (2 < sizeB b0 ∧ 2 < n ∧ mayB b0 b2 2 = true) := by rintro ⟨_, h5, h6⟩; have := m2.1 h6; omega
        rw [one_bad (beg2 ⟨by omega, c1.1, c1.2⟩ hm2) e (by omega)]
        rw [val_bad (by unfold decodeN; rw [if_neg (by omega), if_neg (by omega), if_neg (by omega), if_neg (by omega)])]
    · have hm : ¬ (1 < sizeB b0 ∧ 1 < n ∧ mayB b0 b1 1 = true) := by rintro ⟨_, h5, h6⟩; exact c1 ⟨h5, h6⟩
      rw [one_bad (beg1 hm) e (by omega)]
      have k1 : ¬ (1 < n ∧ (128 ≤ b1 ∧ b1 ≤ 191) ∧ (1 < 1 ∨ ¬ (b0 = 224 ∧ b1 < 160 ∨ b0 = 237 ∧ 159 < b1 ∨ b0 = 240 ∧ b1 < 144 ∨ b0 = 244 ∧ 143 < b1))) := fun hh => c1 ⟨hh.1, m1.2 hh.2⟩
      by_cases c3 : b0 / 8 = 30 ∧ (1 < n ∧ b1 / 64 = 2) ∧ (2 < n ∧ b2 / 64 = 2) ∧ (3 < n ∧ b3 / 64 = 2)
      · rw [val_bad (by unfold decodeN; rw [if_neg (by omega), if_neg (by omega), if_neg (by omega), if_pos c3, if_neg (by omega)])]
      · rw [val_bad (by unfold decodeN; rw [if_neg (by omega), if_neg (by omega), if_neg (by omega), if_neg c3])]
  · rw [one_bad (beg1 (by omega)) e (by omega)]
    by_cases c1 : b0 / 32 = 6 ∧ (1 < n ∧ b1 / 64 = 2)
    · rw [val_bad (by unfold decodeN; rw [if_neg (by omega), if_pos c1, if_neg (by omega)])]
    · by_cases c3 : b0 / 8 = 30 ∧ (1 < n ∧ b1 / 64 = 2) ∧ (2 < n ∧ b2 / 64 = 2) ∧ (3 < n ∧ b3 / 64 = 2)
      · rw [val_bad (by unfold decodeN; rw [if_neg (by omega), if_neg c1, if_neg (by omega), if_pos c3, if_neg (by omega)])]
      · rw [val_bad (by unfold decodeN; rw [if_neg (by omega), if_neg c1, if_neg (by omega), if_neg c3])]
end Go.Proofs.YtmnjafceenckpaaDoor
set_option linter.unusedVariables false
set_option linter.unusedSimpArgs false
namespace Go.Proofs.YtmnjafceenckpaaDoor
open Go Go.Lib
theorem get_get (s : ByteArray) (i : Nat) (h : i < s.size) : s.get! i = s[i] := by
  show s.data[i]! = s.data[i]
  exact getElem!_pos _ _ _
/-- A code point; a stray byte; a value that may be. -/
def ptB (v : Int) : Bool := decide (0 ≤ v) && decide (v ≤ 1114111) && (decide (v < 55296) || decide (57343 < v))
def stB (v : Int) : Bool := decide (1114240 ≤ v) && decide (v ≤ 1114367)
/-- The bytes of a value. -/
def bytesI (v : Int) : List Int := if v ≤ 1114111 then Lib.encodeRuneZ v else [v - 1114112]
def oneI (v : Int) : List Int := if ptB v then Lib.encodeRuneZ v else if stB v then [v - 1114112] else []
def encI (l : List Int) : List Int := l.flatMap oneI
theorem ptB_iff (v : Int) : ptB v = true ↔ (0 ≤ v ∧ v < 55296) ∨ (57343 < v ∧ v ≤ 1114111) := by unfold ptB; simp; omega
theorem stB_iff (v : Int) : stB v = true ↔ (1114240 ≤ v ∧ v ≤ 1114367) := by unfold stB; simp
theorem oneI_pt {v : Int} (h : ptB v = true) : oneI v = Lib.encodeRuneZ v := by unfold oneI; rw [if_pos h]
theorem oneI_st {v : Int} (h : stB v = true) : oneI v = [v - 1114112] := by
  have := (stB_iff v).1 h
  have h2 : ¬ ptB v = true := fun h3 => by have := (ptB_iff v).1 h3; omega
  unfold oneI; rw [if_neg h2, if_pos h]
theorem oneI_no {v : Int} (h : ptB v = false) (h2 : stB v = false) : oneI v = [] := by unfold oneI; rw [h, h2]; rfl
theorem oneI_byte (v : Int) : ∀ x ∈ oneI v, 0 ≤ x ∧ x < 256 := by
  intro x hx
  cases h : ptB v
  · cases h2 : stB v
    · rw [oneI_no h h2] at hx; cases hx
    · rw [oneI_st h2] at hx; have := (stB_iff v).1 h2; simp at hx; omega
  · rw [oneI_pt h] at hx; exact Lib.encodeRuneZ_byte v x hx
theorem encI_byte (l : List Int) : ∀ x ∈ encI l, 0 ≤ x ∧ x < 256 := by
  intro x hx
  obtain ⟨v, _, hv⟩ := List.mem_flatMap.1 hx
  exact oneI_byte v x hv
theorem oneI_len (v : Int) : (oneI v).length ≤ 4 := by
  cases h : ptB v
  · cases h2 : stB v
    · rw [oneI_no h h2]; simp
    · rw [oneI_st h2]; simp
  · rw [oneI_pt h]; exact (Lib.encodeRuneZ_length v).2
theorem encI_cons (v : Int) (l : List Int) : encI (v :: l) = oneI v ++ encI l := rfl
theorem encI_append (a b : List Int) : encI (a ++ b) = encI a ++ encI b := by unfold encI; simp
theorem encI_len (l : List Int) : (encI l).length ≤ 4 * l.length := by
  induction l with
  | nil => simp [encI]
  | cons v l ih => rw [encI_cons]; have := oneI_len v; simp; omega
/-- A text of bytes' numbers. -/
def txt (l : List Int) : ByteArray := ⟨(l.map fun x => x.toNat.toUInt8).toArray⟩
def encS (l : List Int) : ByteArray := txt (encI l)
def bytesOf (s : ByteArray) : List Int := s.data.toList.map fun b => (b.toNat : Int)
theorem u8_nat {x : Int} (h0 : 0 ≤ x) (h1 : x < 256) : (x.toNat.toUInt8).toNat = x.toNat := by
  have : x.toNat < 256 := by omega
  rw [Nat.toUInt8, UInt8.toNat_ofNat']; omega
theorem txt_size (l : List Int) : (txt l).size = l.length := by simp [txt, ByteArray.size]
theorem txt_get (l : List Int) (i : Nat) (h : i < l.length) : (txt l).get! i = (l[i]).toNat.toUInt8 := by
  rw [get_get _ i (by rw [txt_size]; exact h)]
  show ((l.map fun x => x.toNat.toUInt8).toArray)[i]'(by simpa using h) = _
  simp
theorem txt_ext (l : List Int) (n : Nat) : (txt l).extract n (txt l).size = txt (l.drop n) := by
  apply ByteArray.ext
  rw [ByteArray.data_extract, txt_size]
  simp only [txt]
  rw [List.extract_toArray]
  congr 1
  rw [List.extract_eq_take_drop]
  exact List.take_of_length_le (by simp) |>.trans (by rw [List.map_drop])
theorem txt_bytesOf (s : ByteArray) : txt (bytesOf s) = s := by
  apply ByteArray.ext
  apply Array.toList_inj.1
  simp only [txt, bytesOf, List.map_map]
  rw [show ((fun x : Int => x.toNat.toUInt8) ∘ fun b : UInt8 => (b.toNat : Int)) = id from by funext b; simp]
  simp
theorem bytesOf_size (s : ByteArray) : (bytesOf s).length = s.size := by unfold bytesOf; rw [List.length_map]; exact Array.length_toList
theorem bytesOf_byte (s : ByteArray) : ∀ x ∈ bytesOf s, 0 ≤ x ∧ x < 256 := by
  intro x hx
  obtain ⟨b, _, rfl⟩ := List.mem_map.1 hx
  have := b.toNat_lt
  omega
theorem bytesOf_txt (l : List Int) (h : ∀ x ∈ l, 0 ≤ x ∧ x < 256) : bytesOf (txt l) = l := by
  simp only [bytesOf, txt, List.map_map]
  conv => rhs; rw [← List.map_id l]
  apply List.map_congr_left
  intro x hx
  have := h x hx
  simp only [Function.comp, id]
  rw [u8_nat this.1 this.2]; omega
theorem bytesOf_get (s : ByteArray) (i : Nat) (h : i < s.size) : (bytesOf s)[i]'(by rw [bytesOf_size]; exact h) = ((s.get! i).toNat : Int) := by
  rw [get_get s i h]; simp [bytesOf]; rfl
theorem nat_of_pt {v : Int} (h : ptB v = true) : ∃ n : Nat, v = n := ⟨v.toNat, by have := (ptB_iff v).1 h; omega⟩
theorem u8n (x : Int) (n : Nat) (h : x = n) (h1 : n < 256) : (x.toNat.toUInt8).toNat = n := by rw [u8_nat (by omega) (by omega)]; omega
end Go.Proofs.YtmnjafceenckpaaDoor
namespace Go.Proofs.YtmnjafceenckpaaDoor
open Go.RowKit
/-- A callee that leaves its world alone, called where draws have been made. -/
theorem qsame {P : Program} {f : FuncId} {args : Array Value} {w : World} {a n : Nat} {v : Value}
    (h : Calls P f args (w.drewN (a + n)) fun e w' => e = .returned v ∧ w' = w.drewN (a + n)) :
    Calls P f args (w.drewN (a + n)) fun e w'' => e = .returned v ∧ ∃ m, w'' = w.drewN (a + m) :=
  h.mono fun _ _ h => ⟨h.1, n, h.2⟩
/-- .. and one that draws. -/
theorem qdraw {P : Program} {f : FuncId} {args : Array Value} {w : World} {a n : Nat} {v : Value}
    (h : Calls P f args (w.drewN (a + n)) fun e w' => e = .returned v ∧ ∃ m, w' = (w.drewN (a + n)).drewN m) :
    Calls P f args (w.drewN (a + n)) fun e w'' => e = .returned v ∧ ∃ m, w'' = w.drewN (a + m) :=
  h.mono fun _ _ ⟨h1, m, h2⟩ => ⟨h1, n + m, by rw [h2, World.drewN_drewN, Nat.add_assoc]⟩
theorem drewN_below {B : Nat} {w w' : World} (h : Below B w w') : ∀ n, Below B w (w'.drewN n)
  | 0 => h
  | n + 1 => (drewN_below h n).drew
theorem seqB {w w1 w2 : World} (h1 : Below w.heap.size w w1) (h2 : Below w1.heap.size w1 w2) : Below w.heap.size w w2 := h1.trans (h2.mono h1.size)
theorem below_alloc (w : World) (o : Obj) : Below w.heap.size w (w.alloc o) := (Below.refl _ _).alloc (Nat.le_refl _) _
end Go.Proofs.YtmnjafceenckpaaDoor
set_option linter.unusedVariables false
set_option linter.unusedSimpArgs false
namespace Go.Proofs.YtmnjafceenckpaaDoor
open Go.RowKit
theorem retI {k : IntKind} {a b : Int} (h : a = b) : Ending.returned (.int k a) = .returned (.int k b) := by rw [h]
theorem retV {k : IntKind} {a b : Int} (h : a = b) : Value.int k a = .int k b := by rw [h]
/-- A slice of signs (values and labels) lies in memory. -/
def Signs (w : World) (a : Option Addr) (l : List (Int × Int)) : Prop :=
  ∀ i, i < l.length → ∃ b off, a = some ⟨b, off, none⟩ ∧ b < w.heap.size ∧ w.cell? ⟨b, off + i * 2, none⟩ = some (.int .i64 (l.getD i (0, 0)).1) ∧ w.cell? ⟨b, off + i * 2 + 1, none⟩ = some (.int .i64 (l.getD i (0, 0)).2)
theorem Signs.below {w w' : World} {a : Option Addr} {l : List (Int × Int)} (h : Signs w a l) (hb : Below w.heap.size w w') : Signs w' a l := fun i hi => by
  obtain ⟨b, off, e, hlt, h1, h2⟩ := h i hi
  exact ⟨b, off, e, Nat.lt_of_lt_of_le hlt hb.size, (hb.cell (p := ⟨b, off + i * 2, none⟩) hlt).trans h1, (hb.cell (p := ⟨b, off + i * 2 + 1, none⟩) hlt).trans h2⟩
/-- A row of signs in memory. -/
def sRow (L : List (Int × Int)) : Array Value := (L.flatMap fun p => [Value.int .i64 p.1, Value.int .i64 p.2]).toArray
theorem sRow_at (L : List (Int × Int)) : ∀ i, i < L.length → (L.flatMap fun p => [Value.int .i64 p.1, Value.int .i64 p.2])[i * 2]? = some (.int .i64 (L.getD i (0, 0)).1) ∧ (L.flatMap fun p => [Value.int .i64 p.1, Value.int .i64 p.2])[i * 2 + 1]? = some (.int .i64 (L.getD i (0, 0)).2) := by
  induction L with
  | nil => intro i hi; simp at hi
  | cons x L ih =>
    intro i hi
    cases i with
    | zero => exact ⟨rfl, rfl⟩
    | succ i =>
      have h := ih i (by simpa using hi)
      rw [show (i + 1) * 2 = i * 2 + 1 + 1 by omega]
      exact h
theorem signs_new (w : World) (L : List (Int × Int)) (t : TypeId) : Signs (w.alloc (.cells (sRow L) t)) (some ⟨w.heap.size, 0, none⟩) L := fun i hi => by
  have h := sRow_at L i hi
  refine ⟨_, _, rfl, by simp, ?_, ?_⟩
  · rw [World.cell?_alloc_new, Nat.zero_add, sRow, List.getElem?_toArray]; exact h.1
  · rw [World.cell?_alloc_new, Nat.zero_add, sRow, List.getElem?_toArray]; exact h.2
/-- A row of numbers in memory. -/
def iRow (L : List Int) : Array Value := (L.map (Value.int .i64)).toArray
theorem iRow_at (L : List Int) (i : Nat) (h : i < L.length) : (iRow L)[i]? = some (.int .i64 (L.getD i 0)) := by
  rw [iRow, List.getElem?_toArray, List.getElem?_map, List.getD, List.getElem?_eq_getElem h]; rfl
theorem iRow_set (L : List Int) (i : Nat) (x : Int) : (iRow L).setIfInBounds i (.int .i64 x) = iRow (L.set i x) := by
  apply Array.ext'
  simp [iRow, List.map_set]
/-- A slice of numbers that came in. -/
structure Ints (w : World) (a : Option Addr) (l : List Int) : Prop where
  some : ∀ i, i < l.length → ∃ b off, a = Option.some ⟨b, off, none⟩ ∧ b < w.heap.size
  cell : ∀ i b off, i < l.length → a = Option.some ⟨b, off, none⟩ → w.cell? ⟨b, off + i, none⟩ = Option.some (.int .i64 (l.getD i 0))
theorem Ints.below {w w' : World} {a : Option Addr} {l : List Int} (h : Ints w a l) (hb : Below w.heap.size w w') : Ints w' a l :=
  ⟨fun i hi => by obtain ⟨b, off, e, hlt⟩ := h.some i hi; exact ⟨b, off, e, Nat.lt_of_lt_of_le hlt hb.size⟩, fun i b off hi e => by
    obtain ⟨b', off', e', hlt⟩ := h.some i hi
    have : b = b' ∧ off = off' := by rw [e] at e'; simpa using e'
    rw [hb.cell (p := ⟨b, off + i, none⟩) (by rw [this.1]; exact hlt)]; exact h.cell i b off hi e⟩
theorem ints_new (w : World) (l : List Int) : Ints (w.alloc (.cells (iRow l) 3)) (some ⟨w.heap.size, 0, none⟩) l :=
  ⟨fun i hi => ⟨_, _, rfl, by simp⟩, fun i b off hi e => by
    obtain ⟨rfl, rfl⟩ : w.heap.size = b ∧ 0 = off := by simpa using e
    rw [World.cell?_alloc_new, Nat.zero_add, iRow_at l i hi]⟩
end Go.Proofs.YtmnjafceenckpaaDoor
namespace Go.Proofs.YtmnjafceenckpaaDoor
open Go.RowKit
/-- The class tables lie in memory. -/
structure Tabs (w : World) : Prop where
  r : ∀ i, i < 159 → w.cell? ⟨0, i, none⟩ = some (.int .i32 (rng.getD i 0))
  l : ∀ i, i < 102 → w.cell? ⟨1, i, none⟩ = some (.int .i32 (lks.getD i 0))
  s : 0 < w.heap.size
  s2 : 1 < w.heap.size
theorem Tabs.below {w w' : World} (h : Tabs w) (hb : Below w.heap.size w w') : Tabs w' :=
  ⟨fun i hi => (hb.cell (p := ⟨0, i, none⟩) h.s).trans (h.r i hi), fun i hi => (hb.cell (p := ⟨1, i, none⟩) h.s2).trans (h.l i hi), Nat.lt_of_lt_of_le h.s hb.size, Nat.lt_of_lt_of_le h.s2 hb.size⟩
theorem Tabs.alloc {w : World} (h : Tabs w) (o : Obj) : Tabs (w.alloc o) := h.below ((Below.refl _ _).alloc (Nat.le_refl _) _)
theorem finder_any (v : Int) (w : World) : Calls Tryd.prog 70 #[.int .i64 v] w fun e w' => e = .returned (.func (.func 77) #[] #[.pointer (some ⟨w.heap.size, 0, none⟩)]) ∧ w.alloc (.cells #[.int .i64 v] 3) = w' := by
  have hmf : ∀ (fn : Fn) (first cap : Array Value) (w : World), (Instr.makeFunc fn first cap).run Tryd.prog w = .ok (.func fn first cap) w := fun _ _ _ _ => rfl
  go_enter Tryd.func70, Tryd.ntmps70
  go_wp2
  go_ret
  exact ⟨rfl, rfl⟩
theorem in_any (v a b : Int) (p : Nat) (w : World) (hc : w.cell? ⟨p, 0, none⟩ = some (.int .i64 v)) (ha : -2147483648 ≤ a) (ha' : a ≤ 2147483647) (hb : -2147483648 ≤ b) (hb' : b ≤ 2147483647) :
    Calls Tryd.prog 77 #[.int .i32 a, .int .i32 b, .pointer (some ⟨p, 0, none⟩)] w fun e w' => e = .returned (.bool (inb v a b)) ∧ w' = w := by
  rcases (show v < a ∨ (a ≤ v ∧ b < v) ∨ (a ≤ v ∧ v ≤ b) by omega) with h | ⟨h, h'⟩ | ⟨h, h'⟩
  · have H : Hid (inb v a b = false) := Lib.hid (by unfold inb; rw [decide_eq_false (by omega)]; rfl)
    go_enter Tryd.func77, Tryd.ntmps77
    go_wp2
    go_ret
    rw [H.out]; exact ⟨rfl, rfl⟩
  · have H : Hid (inb v a b = false) := Lib.hid (by unfold inb; rw [decide_eq_false (show ¬ v ≤ b by omega), Bool.and_false])
    have hd : decide (v ≤ b) = false := decide_eq_false (by omega)
    go_enter Tryd.func77, Tryd.ntmps77
    go_wp2
    go_ret
    rw [H.out]; exact ⟨rfl, rfl⟩
  · have H : Hid (inb v a b = true) := Lib.hid (by unfold inb; rw [decide_eq_true h, decide_eq_true h']; rfl)
    go_enter Tryd.func77, Tryd.ntmps77
    go_wp2
    go_ret
    rw [H.out]; exact ⟨rfl, rfl⟩
theorem lks_rng (i : Nat) : -2147483648 ≤ lks.getD i 0 ∧ lks.getD i 0 ≤ 2147483647 := by
  rcases Nat.lt_or_ge i 102 with h | h
  · have key : ∀ j : Fin 102, -2147483648 ≤ lks.getD j 0 ∧ lks.getD j 0 ≤ 2147483647 := by decide +kernel
    exact key ⟨i, h⟩
  · rw [List.getD, List.getElem?_eq_none (by exact h)]; exact ⟨by decide, by decide⟩
theorem rng_rng (i : Nat) : -2147483648 ≤ rng.getD i 0 ∧ rng.getD i 0 ≤ 2147483647 := by
  rcases Nat.lt_or_ge i 159 with h | h
  · have key : ∀ j : Fin 159, -2147483648 ≤ rng.getD j 0 ∧ rng.getD j 0 ≤ 2147483647 := by decide +kernel
    exact key ⟨i, h⟩
  · rw [List.getD, List.getElem?_eq_none (by exact h)]; exact ⟨by decide, by decide⟩
set_option maxHeartbeats 400000 in
theorem skel_any (v : Int) (w : World) (hT : Tabs w) : Calls Tryd.prog 71 #[.int .i64 v] w fun e w' => e = .returned (.int .i64 (skel v)) ∧ Below w.heap.size w w' := by
  have HT := Lib.hid hT; clear hT
  go_enter Tryd.func71, Tryd.ntmps71
  go_wp2_with (go_at_call 70; refine (finder_any _ _).mono ?_; rintro e w' ⟨rfl, rfl⟩)
  go_loopw [4] (fun i wr => ∃ (k n : Nat), k ≤ 51 ∧ i = .int .i64 ((2 * k : Nat) : Int) ∧ Hid (∀ j, j < k → hitL v j = false) ∧ wr = (w.alloc (.cells #[.int .i64 v] 3)).drewN n) (fun i _ => 102 - (intOf i).toNat)
  case atStart => exact ⟨0, 0, by omega, rfl, Lib.hid (by intro j hj; omega), rfl⟩
  case round =>
    obtain ⟨k, n, hk, rfl, hno, rfl⟩ := hrel
    by_cases hlt : k < 51
    · have hT2 : Tabs (w.alloc (.cells #[.int .i64 v] 3)) := HT.out.alloc _
      have c0 := hT2.l (2 * k) (by omega)
      have c1 := hT2.l (2 * k + 1) (by omega)
      have hp : (w.alloc (.cells #[.int .i64 v] 3)).cell? ⟨w.heap.size, 0, none⟩ = some (.int .i64 v) := by rw [World.cell?_alloc_new]; rfl
      have r0 := lks_rng (2 * k)
      have r1 := lks_rng (2 * k + 1)
      have hh : hitL v k = inb v (lks.getD (2 * k) 0) (lks.getD (2 * k) 0) := rfl
      have hs : hitL v k = true → skel v = lks.getD (2 * k + 1) 0 := fun h => by unfold skel; rw [find_first hlt h hno.out]
      generalize lks.getD (2 * k) 0 = x at *
      generalize lks.getD (2 * k + 1) 0 = y at *
      rw [hh] at hs
      have Hs := Lib.hid hs; have Hh := Lib.hid hh; clear hs hh hT2
      have hin := fun n => in_any v x x w.heap.size ((w.alloc (.cells #[.int .i64 v] 3)).drewN n) hp r0.1 r0.2 r0.1 r0.2
      have Hin := Lib.hid hin; clear hin
      have hk1 : 2 * k < 101 := by omega
      have hm : 2 * (k + 1) = 2 * k + 2 := by omega
      rw [show ((2 * k : Nat) : Int) = ((2 * k : Nat) : Int) from rfl]
      generalize 2 * k = m at *
      have Hm := Lib.hid hm; clear hm
      cases hb : inb v x x
      · rw [hb] at Hin Hh
        clear hb
        go_wp2
        go_quiet ((go_at_call 77; exact qsame (Hin.out _)))
        go_wp2
        go_roundw
        case rel => exact ⟨k + 1, _, by omega, by rw [Hm.out]; go_num, Lib.hid (by intro j hj; rcases Nat.lt_succ_iff_lt_or_eq.1 hj with h | rfl; exact hno.out j h; exact Hh.out), rfl⟩
        case measure => simp [intOf]; omega
      · rw [hb] at Hin
        have hsk := Hs.out hb
        have Hsk := Lib.hid hsk
        clear hb hsk
        go_wp2
        go_quiet ((go_at_call 77; exact qsame (Hin.out _)))
        go_wp2
        go_ret
        rw [Hsk.out]
        exact ⟨rfl, drewN_below (below_alloc _ _) _⟩
    · obtain rfl : k = 51 := by omega
      have Hsk : Hid (skel v = v) := Lib.hid (by unfold skel; rw [find_none hno.out])
      clear hlt
      go_wp2
      go_ret
      rw [Hsk.out]
      exact ⟨rfl, drewN_below (below_alloc _ _) _⟩
end Go.Proofs.YtmnjafceenckpaaDoor
