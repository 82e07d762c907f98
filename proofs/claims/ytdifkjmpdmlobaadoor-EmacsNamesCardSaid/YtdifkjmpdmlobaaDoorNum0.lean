/-
  Plain facts on digits: no program.
-/
import Derived.RowKit
namespace Go.Proofs.YtdifkjmpdmlobaaDoor
set_option linter.unusedVariables false
set_option linter.unusedSimpArgs false
set_option maxRecDepth 100000
open Go

/-- A digit's byte. -/
def dg (k : Nat) : UInt8 := if k < 10 then UInt8.ofNat (48 + k) else UInt8.ofNat (55 + k)

/-- The digits of n to base b, at least l, at most f. -/
def tell (b : Nat) : Nat → Nat → Nat → List UInt8
  | 0, _, _ => []
  | f + 1, n, l => if n = 0 ∧ l = 0 then [] else tell b f (n / b) (l - 1) ++ [dg (n % b)]

/-- The room, the digits at its end. -/
def room (m : Nat) (acc : List UInt8) : Array Value := ((List.replicate m (0 : UInt8) ++ acc).map fun x => Value.int .u8 (x.toNat : Int)).toArray

theorem room_nil : room 20 [] = #[Value.int IntKind.u8 0, Value.int IntKind.u8 0, Value.int IntKind.u8 0, Value.int IntKind.u8 0, Value.int IntKind.u8 0, Value.int IntKind.u8 0, Value.int IntKind.u8 0, Value.int IntKind.u8 0, Value.int IntKind.u8 0, Value.int IntKind.u8 0, Value.int IntKind.u8 0, Value.int IntKind.u8 0, Value.int IntKind.u8 0, Value.int IntKind.u8 0, Value.int IntKind.u8 0, Value.int IntKind.u8 0, Value.int IntKind.u8 0, Value.int IntKind.u8 0, Value.int IntKind.u8 0, Value.int IntKind.u8 0] := rfl

theorem room_at (m : Nat) (acc : List UInt8) (i : Nat) (h : i < m) : (room m acc)[i]? = some (.int .u8 0) := by
  unfold room
  rw [List.getElem?_toArray, List.getElem?_map, List.getElem?_append_left (by simp; omega), List.getElem?_replicate, if_pos (by omega)]
  rfl

theorem room_put (q : Nat) (acc : List UInt8) (x : UInt8) : (room (q + 1) acc).setIfInBounds q (.int .u8 (x.toNat : Int)) = room q (x :: acc) := by
  apply Array.ext'
  simp only [room, Array.toList_setIfInBounds]
  rw [List.replicate_succ', List.append_assoc, List.map_append, List.map_append, List.set_append_right _ _ (by simp)]
  simp

theorem dg_at (k : Nat) (h : k < (⟨#[48, 49, 50, 51, 52, 53, 54, 55, 56, 57, 65, 66, 67, 68, 69, 70]⟩ : ByteArray).size) : (⟨#[48, 49, 50, 51, 52, 53, 54, 55, 56, 57, 65, 66, 67, 68, 69, 70]⟩ : ByteArray)[k] = dg k := by
  have h' : k < 16 := h
  have key : ∀ j : Fin 16, (⟨#[48, 49, 50, 51, 52, 53, 54, 55, 56, 57, 65, 66, 67, 68, 69, 70]⟩ : ByteArray).data.toList.getD j 0 = dg j := by decide
  have e := key ⟨k, h'⟩
  rw [← e]
  rw [List.getD, List.getElem?_eq_getElem (by simpa using h')]
  rfl

theorem pow_step (b q k : Nat) (hb : 2 ≤ b) (h : k < b ^ (q + 1)) : k / b < b ^ q := by
  rw [Nat.pow_succ] at h
  exact Nat.div_lt_of_lt_mul (by rw [Nat.mul_comm]; exact h)

theorem tell_step (b q n l : Nat) (acc : List UInt8) (h : ¬ (n = 0 ∧ l = 0)) : tell b q (n / b) (l - 1) ++ (dg (n % b) :: acc) = tell b (q + 1) n l ++ acc := by
  rw [tell, if_neg h]; simp

theorem tell_done (b q : Nat) (acc : List UInt8) : tell b q 0 0 ++ acc = acc := by
  cases q <;> simp [tell]

/-- What a digit is worth. -/
def worth (c : Int) : Int := if 48 ≤ c ∧ c ≤ 57 then c - 48 else if 65 ≤ c ∧ c ≤ 70 then c - 55 else 18446744073709551615

theorem worth_nonneg (c : Int) : 0 ≤ worth c := by unfold worth; split; omega; split <;> omega

/-- Digits read to base b, around 2^64. -/
def rdv (b : Nat) (l : List UInt8) : Int := l.foldl (fun n c => IntKind.u64.wrap (IntKind.u64.wrap (n * b) + worth (c.toNat : Int))) 0
/-- Are they digits to base b? -/
def digs (b : Nat) (l : List UInt8) : Bool := l.all fun c => decide (worth (c.toNat : Int) < b)

theorem rdv_snoc (b : Nat) (l : List UInt8) (c : UInt8) : rdv b (l ++ [c]) = IntKind.u64.wrap (IntKind.u64.wrap (rdv b l * b) + worth (c.toNat : Int)) := by simp [rdv]
theorem digs_snoc (b : Nat) (l : List UInt8) (c : UInt8) : digs b (l ++ [c]) = (digs b l && decide (worth (c.toNat : Int) < b)) := by simp [digs]
theorem digs_of (b : Nat) (l r : List UInt8) (h : digs b (l ++ r) = true) : digs b l = true := by
  simp only [digs, List.all_append, Bool.and_eq_true] at h ⊢; exact h.1

theorem take_snoc (s : ByteArray) (k : Nat) (h : k < s.size) : s.data.toList.take (k + 1) = s.data.toList.take k ++ [s[k]] := by
  rw [List.take_succ_eq_append_getElem (by simpa using h)]; rfl
theorem take_all (s : ByteArray) (k : Nat) (h : s.size ≤ k) : s.data.toList.take k = s.data.toList := List.take_of_length_le (by simpa using h)

theorem u8_nn (c : UInt8) : (0 : Int) ≤ (c.toNat : Int) := Int.natCast_nonneg _
theorem u8_lt (c : UInt8) : (c.toNat : Int) < 256 := by have := c.toNat_lt; omega

theorem tell_len (b : Nat) : ∀ f n l, (tell b f n l).length ≤ f := by
  intro f
  induction f with
  | zero => intro n l; simp [tell]
  | succ f ih => intro n l; rw [tell]; split; simp; have := ih (n / b) (l - 1); simp; omega
theorem u64_neg (n : Int) (h0 : -9223372036854775808 ≤ n) (h : n < 0) : IntKind.u64.wrap (-IntKind.u64.wrap n) = (n.natAbs : Int) := by
  simp [IntKind.wrap, IntKind.bits, IntKind.signed]; omega
theorem u64_pos (n : Int) (h0 : 0 ≤ n) (h : n ≤ 9223372036854775807) : IntKind.u64.wrap n = n := by
  simp [IntKind.wrap, IntKind.bits, IntKind.signed]; omega

theorem ba_app (a b : List UInt8) : (⟨a.toArray⟩ : ByteArray) ++ (⟨b.toArray⟩ : ByteArray) = ⟨(a ++ b).toArray⟩ := by
  apply ByteArray.ext
  rw [ByteArray.data_append]
  simp

end Go.Proofs.YtdifkjmpdmlobaaDoor
