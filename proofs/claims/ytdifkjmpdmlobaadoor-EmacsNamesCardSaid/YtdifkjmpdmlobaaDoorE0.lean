/-
  Plain facts on the bytes of values. No program.
-/
import Derived.Lib.DecodeN
import Derived.Lib.RuneBytes
set_option linter.unusedVariables false
set_option linter.unusedSimpArgs false
namespace Go.Proofs.YtdifkjmpdmlobaaDoor
set_option maxRecDepth 100000
open Go Go.Lib
theorem get_get (s : ByteArray) (i : Nat) (h : i < s.size) : s.get! i = s[i] := by
  show s.data[i]! = s.data[i]
  exact getElem!_pos _ _ _
/-- A code point; a stray byte; a value that may be. -/
def ptB (v : Int) : Bool := decide (0 ≤ v) && decide (v ≤ 1114111) && (decide (v < 55296) || decide (57343 < v))
def stB (v : Int) : Bool := decide (1114240 ≤ v) && decide (v ≤ 1114367)
/-- The bytes of a value. -/
def bytesI (v : Int) : List Int := if v ≤ 1114111 then Lib.encodeRuneZ v else [v - 1114112]
def oneI (v : Int) : List Int := if ptB v then Lib.encodeRuneZ v else if stB v then [v - 1114112] else []
def encI (l : List Int) : List Int := l.flatMap oneI
theorem ptB_iff (v : Int) : ptB v = true ↔ (0 ≤ v ∧ v < 55296) ∨ (57343 < v ∧ v ≤ 1114111) := by unfold ptB; simp; omega
theorem stB_iff (v : Int) : stB v = true ↔ (1114240 ≤ v ∧ v ≤ 1114367) := by unfold stB; simp
theorem oneI_pt {v : Int} (h : ptB v = true) : oneI v = Lib.encodeRuneZ v := by unfold oneI; rw [if_pos h]
theorem oneI_st {v : Int} (h : stB v = true) : oneI v = [v - 1114112] := by
  have := (stB_iff v).1 h
  have h2 : ¬ ptB v = true := fun h3 => by have := (ptB_iff v).1 h3; omega
  unfold oneI; rw [if_neg h2, if_pos h]
theorem oneI_no {v : Int} (h : ptB v = false) (h2 : stB v = false) : oneI v = [] := by unfold oneI; rw [h, h2]; rfl
theorem oneI_byte (v : Int) : ∀ x ∈ oneI v, 0 ≤ x ∧ x < 256 := by
  intro x hx
  cases h : ptB v
  · cases h2 : stB v
    · rw [oneI_no h h2] at hx; cases hx
    · rw [oneI_st h2] at hx; have := (stB_iff v).1 h2; simp at hx; omega
  · rw [oneI_pt h] at hx; exact Lib.encodeRuneZ_byte v x hx
theorem encI_byte (l : List Int) : ∀ x ∈ encI l, 0 ≤ x ∧ x < 256 := by
  intro x hx
  obtain ⟨v, _, hv⟩ := List.mem_flatMap.1 hx
  exact oneI_byte v x hv
theorem oneI_len (v : Int) : (oneI v).length ≤ 4 := by
  cases h : ptB v
  · cases h2 : stB v
    · rw [oneI_no h h2]; simp
    · rw [oneI_st h2]; simp
  · rw [oneI_pt h]; exact (Lib.encodeRuneZ_length v).2
theorem encI_cons (v : Int) (l : List Int) : encI (v :: l) = oneI v ++ encI l := rfl
theorem encI_append (a b : List Int) : encI (a ++ b) = encI a ++ encI b := by unfold encI; simp
theorem encI_len (l : List Int) : (encI l).length ≤ 4 * l.length := by
  induction l with
  | nil => simp [encI]
  | cons v l ih => rw [encI_cons]; have := oneI_len v; simp; omega
/-- A text of bytes' numbers. -/
def txt (l : List Int) : ByteArray := ⟨(l.map fun x => x.toNat.toUInt8).toArray⟩
def encS (l : List Int) : ByteArray := txt (encI l)
def bytesOf (s : ByteArray) : List Int := s.data.toList.map fun b => (b.toNat : Int)
theorem u8_nat {x : Int} (h0 : 0 ≤ x) (h1 : x < 256) : (x.toNat.toUInt8).toNat = x.toNat := by
  have : x.toNat < 256 := by omega
  rw [Nat.toUInt8, UInt8.toNat_ofNat']; omega
theorem txt_size (l : List Int) : (txt l).size = l.length := by simp [txt, ByteArray.size]
theorem txt_get (l : List Int) (i : Nat) (h : i < l.length) : (txt l).get! i = (l[i]).toNat.toUInt8 := by
  rw [get_get _ i (by rw [txt_size]; exact h)]
  show ((l.map fun x => x.toNat.toUInt8).toArray)[i]'(by simpa using h) = _
  simp
theorem txt_ext (l : List Int) (n : Nat) : (txt l).extract n (txt l).size = txt (l.drop n) := by
  apply ByteArray.ext
  rw [ByteArray.data_extract, txt_size]
  simp only [txt]
  rw [List.extract_toArray]
  congr 1
  rw [List.extract_eq_take_drop]
  exact List.take_of_length_le (by simp) |>.trans (by rw [List.map_drop])
theorem txt_bytesOf (s : ByteArray) : txt (bytesOf s) = s := by
  apply ByteArray.ext
  apply Array.toList_inj.1
  simp only [txt, bytesOf, List.map_map]
  rw [show ((fun x : Int => x.toNat.toUInt8) ∘ fun b : UInt8 => (b.toNat : Int)) = id from by funext b; simp]
  simp
theorem bytesOf_size (s : ByteArray) : (bytesOf s).length = s.size := by unfold bytesOf; rw [List.length_map]; exact Array.length_toList
theorem bytesOf_byte (s : ByteArray) : ∀ x ∈ bytesOf s, 0 ≤ x ∧ x < 256 := by
  intro x hx
  obtain ⟨b, _, rfl⟩ := List.mem_map.1 hx
  have := b.toNat_lt
  omega
theorem bytesOf_txt (l : List Int) (h : ∀ x ∈ l, 0 ≤ x ∧ x < 256) : bytesOf (txt l) = l := by
  simp only [bytesOf, txt, List.map_map]
  conv => rhs; rw [← List.map_id l]
  apply List.map_congr_left
  intro x hx
  have := h x hx
  simp only [Function.comp, id]
  rw [u8_nat this.1 this.2]; omega
theorem bytesOf_get (s : ByteArray) (i : Nat) (h : i < s.size) : (bytesOf s)[i]'(by rw [bytesOf_size]; exact h) = ((s.get! i).toNat : Int) := by
  rw [get_get s i h]; simp [bytesOf]; rfl
theorem nat_of_pt {v : Int} (h : ptB v = true) : ∃ n : Nat, v = n := ⟨v.toNat, by have := (ptB_iff v).1 h; omega⟩
theorem u8n (x : Int) (n : Nat) (h : x = n) (h1 : n < 256) : (x.toNat.toUInt8).toNat = n := by rw [u8_nat (by omega) (by omega)]; omega
end Go.Proofs.YtdifkjmpdmlobaaDoor
