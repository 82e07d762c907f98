import Derived.Test.YtecffaidpiadoaaDoorU7
import Derived.Lib.RuneBytes
set_option linter.unusedVariables false
set_option linter.unusedSimpArgs false
namespace Go.Proofs.YtecffaidpiadoaaDoor
open Go.RowKit
/-- A code point; a stray byte; a value that may be. -/
def ptB (v : Int) : Bool := decide (0 ≤ v) && decide (v ≤ 1114111) && (decide (v < 55296) || decide (57343 < v))
def stB (v : Int) : Bool := decide (1114240 ≤ v) && decide (v ≤ 1114367)
/-- The bytes of a value. -/
def bytesI (v : Int) : List Int := if v ≤ 1114111 then Lib.encodeRuneZ v else [v - 1114112]
def oneI (v : Int) : List Int := if ptB v then Lib.encodeRuneZ v else if stB v then [v - 1114112] else []
def encI (l : List Int) : List Int := l.flatMap oneI
theorem ptB_iff (v : Int) : ptB v = true ↔ (0 ≤ v ∧ v < 55296) ∨ (57343 < v ∧ v ≤ 1114111) := by unfold ptB; simp; omega
theorem stB_iff (v : Int) : stB v = true ↔ (1114240 ≤ v ∧ v ≤ 1114367) := by unfold stB; simp
theorem oneI_pt {v : Int} (h : ptB v = true) : oneI v = Lib.encodeRuneZ v := by unfold oneI; rw [if_pos h]
theorem oneI_st {v : Int} (h : stB v = true) : oneI v = [v - 1114112] := by
  have := (stB_iff v).1 h
  have h2 : ¬ ptB v = true := fun h3 => by have := (ptB_iff v).1 h3; omega
  unfold oneI; rw [if_neg h2, if_pos h]
theorem oneI_no {v : Int} (h : ptB v = false) (h2 : stB v = false) : oneI v = [] := by unfold oneI; rw [h, h2]; rfl
theorem oneI_byte (v : Int) : ∀ x ∈ oneI v, 0 ≤ x ∧ x < 256 := by
  intro x hx
  cases h : ptB v
  · cases h2 : stB v
    · rw [oneI_no h h2] at hx; cases hx
    · rw [oneI_st h2] at hx; have := (stB_iff v).1 h2; simp at hx; omega
  · rw [oneI_pt h] at hx; exact Lib.encodeRuneZ_byte v x hx
theorem encI_byte (l : List Int) : ∀ x ∈ encI l, 0 ≤ x ∧ x < 256 := by
  intro x hx
  obtain ⟨v, _, hv⟩ := List.mem_flatMap.1 hx
  exact oneI_byte v x hv
theorem oneI_len (v : Int) : (oneI v).length ≤ 4 := by
  cases h : ptB v
  · cases h2 : stB v
    · rw [oneI_no h h2]; simp
    · rw [oneI_st h2]; simp
  · rw [oneI_pt h]; exact (Lib.encodeRuneZ_length v).2
theorem encI_cons (v : Int) (l : List Int) : encI (v :: l) = oneI v ++ encI l := rfl
theorem encI_append (a b : List Int) : encI (a ++ b) = encI a ++ encI b := by unfold encI; simp
theorem encI_len (l : List Int) : (encI l).length ≤ 4 * l.length := by
  induction l with
  | nil => simp [encI]
  | cons v l ih => rw [encI_cons]; have := oneI_len v; simp; omega
/-- A text of bytes' numbers. -/
def txt (l : List Int) : ByteArray := ⟨(l.map fun x => x.toNat.toUInt8).toArray⟩
def encS (l : List Int) : ByteArray := txt (encI l)
/-- The value at the front is the bytes that it took. -/
theorem val_bytes (n b0 b1 b2 b3 : Nat) (h0 : b0 < 256) (h1 : b1 < 256) (h2 : b2 < 256) (h3 : b3 < 256) :
    oneI ((valN n b0 b1 b2 b3).1 : Int) = ([b0, b1, b2, b3].take (valN n b0 b1 b2 b3).2).map Int.ofNat ∧ (valN n b0 b1 b2 b3).2 ≤ max n 1 := by
  have bad : valN n b0 b1 b2 b3 = (1114112 + b0, 1) → 128 ≤ b0 → oneI ((valN n b0 b1 b2 b3).1 : Int) = ([b0, b1, b2, b3].take (valN n b0 b1 b2 b3).2).map Int.ofNat ∧ (valN n b0 b1 b2 b3).2 ≤ max n 1 := by
    intro h hb; rw [h]
    refine ⟨?_, by simp; omega⟩
    rw [oneI_st ((stB_iff _).2 (by simp; omega))]
    simp; omega
  by_cases c0 : b0 < 128
  · have hv : valN n b0 b1 b2 b3 = (b0, 1) := val_ok (b0, 1) (by unfold Lib.decodeN; rw [if_pos c0]) (Or.inl (by simp; omega))
    rw [hv]
    refine ⟨?_, by simp; omega⟩
    rw [oneI_pt ((ptB_iff _).2 (Or.inl (by simp; omega))), Lib.encodeRuneZ_one (by simp) (by simp; omega)]
    simp
  · by_cases c1 : b0 / 32 = 6 ∧ (1 < n ∧ b1 / 64 = 2)
    · by_cases c2 : b0 % 32 * 64 + b1 % 64 ≥ 128
      · have hv : valN n b0 b1 b2 b3 = (b0 % 32 * 64 + b1 % 64, 2) := val_ok _ (by unfold Lib.decodeN; rw [if_neg c0, if_pos c1, if_pos c2]) (Or.inl (by simp; omega))
        rw [hv]
        refine ⟨?_, by simp; omega⟩
        rw [oneI_pt ((ptB_iff _).2 (Or.inl (by simp; omega))), Lib.encodeRuneZ_two (by simp; omega) (by simp; omega)]
        simp; omega
      · exact bad (val_bad (by unfold Lib.decodeN; rw [if_neg c0, if_pos c1, if_neg c2])) (by omega)
    · by_cases c3 : b0 / 16 = 14 ∧ (1 < n ∧ b1 / 64 = 2) ∧ (2 < n ∧ b2 / 64 = 2)
      · by_cases c2 : b0 % 16 * 4096 + b1 % 64 * 64 + b2 % 64 ≥ 2048 ∧ (b0 % 16 * 4096 + b1 % 64 * 64 + b2 % 64 < 55296 ∨ (57344 ≤ b0 % 16 * 4096 + b1 % 64 * 64 + b2 % 64 ∧ b0 % 16 * 4096 + b1 % 64 * 64 + b2 % 64 ≤ 1114111))
        · have hv : valN n b0 b1 b2 b3 = (b0 % 16 * 4096 + b1 % 64 * 64 + b2 % 64, 3) := val_ok _ (by unfold Lib.decodeN; rw [if_neg c0, if_neg c1, if_pos c3, if_pos c2]) (Or.inr (by simp))
          rw [hv]
          refine ⟨?_, by simp; omega⟩
          rw [oneI_pt ((ptB_iff _).2 (by simp; omega)), Lib.encodeRuneZ_three (by simp; omega)]
          simp; omega
        · exact bad (val_bad (by unfold Lib.decodeN; rw [if_neg c0, if_neg c1, if_pos c3, if_neg c2])) (by omega)
      · by_cases c4 : b0 / 8 = 30 ∧ (1 < n ∧ b1 / 64 = 2) ∧ (2 < n ∧ b2 / 64 = 2) ∧ (3 < n ∧ b3 / 64 = 2)
        · by_cases c2 : b0 % 8 * 262144 + b1 % 64 * 4096 + b2 % 64 * 64 + b3 % 64 ≥ 65536 ∧ (b0 % 8 * 262144 + b1 % 64 * 4096 + b2 % 64 * 64 + b3 % 64 < 55296 ∨ (57344 ≤ b0 % 8 * 262144 + b1 % 64 * 4096 + b2 % 64 * 64 + b3 % 64 ∧ b0 % 8 * 262144 + b1 % 64 * 4096 + b2 % 64 * 64 + b3 % 64 ≤ 1114111))
          · have hv : valN n b0 b1 b2 b3 = (b0 % 8 * 262144 + b1 % 64 * 4096 + b2 % 64 * 64 + b3 % 64, 4) := val_ok _ (by unfold Lib.decodeN; rw [if_neg c0, if_neg c1, if_neg c3, if_pos c4, if_pos c2]) (Or.inr (by simp))
            rw [hv]
            refine ⟨?_, by simp; omega⟩
            rw [oneI_pt ((ptB_iff _).2 (by simp; omega)), Lib.encodeRuneZ_four (by simp; omega) (by simp; omega)]
            simp; omega
          · exact bad (val_bad (by unfold Lib.decodeN; rw [if_neg c0, if_neg c1, if_neg c3, if_pos c4, if_neg c2])) (by omega)
        · exact bad (val_bad (by unfold Lib.decodeN; rw [if_neg c0, if_neg c1, if_neg c3, if_neg c4])) (by omega)
/-- .. and what a code point's bytes begin is that code point. -/
theorem bytes_val1 (n v b1 b2 b3 : Nat) (h : v < 128) : valN n v b1 b2 b3 = (v, 1) := val_ok (v, 1) (by unfold Lib.decodeN; rw [if_pos h]) (Or.inl (by simp; omega))
theorem bytes_val2 (n v b2 b3 : Nat) (h : 128 ≤ v) (h' : v < 2048) (hn : 2 ≤ n) : valN n (192 + v / 64) (128 + v % 64) b2 b3 = (v, 2) := by
  have e : (192 + v / 64) % 32 * 64 + (128 + v % 64) % 64 = v := by omega
  refine val_ok (v, 2) ?_ (Or.inl (by simp; omega))
  unfold Lib.decodeN
  rw [if_neg (by omega), if_pos (by omega), e, if_pos (by omega)]
theorem bytes_val3 (n v b3 : Nat) (h : 2048 ≤ v) (h' : v < 65536) (hs : v < 55296 ∨ 57344 ≤ v) (hn : 3 ≤ n) : valN n (224 + v / 4096) (128 + v / 64 % 64) (128 + v % 64) b3 = (v, 3) := by
  have e : (224 + v / 4096) % 16 * 4096 + (128 + v / 64 % 64) % 64 * 64 + (128 + v % 64) % 64 = v := by omega
  refine val_ok (v, 3) ?_ (Or.inr (by simp))
  unfold Lib.decodeN
  rw [if_neg (by omega), if_neg (by omega), if_pos (by omega), e, if_pos (by omega)]
theorem bytes_val4 (n v : Nat) (h : 65536 ≤ v) (h' : v ≤ 1114111) (hn : 4 ≤ n) : valN n (240 + v / 262144) (128 + v / 4096 % 64) (128 + v / 64 % 64) (128 + v % 64) = (v, 4) := by
  have e : (240 + v / 262144) % 8 * 262144 + (128 + v / 4096 % 64) % 64 * 4096 + (128 + v / 64 % 64) % 64 * 64 + (128 + v % 64) % 64 = v := by omega
  refine val_ok (v, 4) ?_ (Or.inr (by simp))
  unfold Lib.decodeN
  rw [if_neg (by omega), if_neg (by omega), if_neg (by omega), if_pos (by omega), e, if_pos (by omega)]
end Go.Proofs.YtecffaidpiadoaaDoor
