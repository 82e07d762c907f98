import Derived.Test.YtecffaidpiadoaaDoorRows
import Derived.Test.YtecffaidpiadoaaDoorKit
import Derived.Test.YtecffaidpiadoaaDoorU0
import Derived.Test.YtecffaidpiadoaaDoorShelf
import Derived.Lib.RuneCountTail
import Derived.Lib.OthersKept
import Derived.Handy
import Derived.WalkSpells
import Derived.WalkLawsBesides
set_option linter.unusedVariables false
set_option linter.unusedSimpArgs false
namespace Go.Proofs.YtecffaidpiadoaaDoor
open Go.RowKit
/-- The utf8 tables lie in memory. -/
def UT (w : World) : Prop := Lib.Utf8Tabs 1 2 w ∧ 3 ≤ w.heap.size
theorem UT.below {w w' : World} (h : UT w) (hb : Below w.heap.size w w') : UT w' :=
  ⟨⟨fun c hc => (hb.cell (p := ⟨1, c, none⟩) (Nat.lt_of_lt_of_le (show 1 < 3 by decide) h.2)).trans (h.1.1 c hc), fun i hi =>
    ⟨(hb.cell (p := ⟨2, 2 * i, none⟩) (Nat.lt_of_lt_of_le (show 2 < 3 by decide) h.2)).trans (h.1.2 i hi).1,
     (hb.cell (p := ⟨2, 2 * i + 1, none⟩) (Nat.lt_of_lt_of_le (show 2 < 3 by decide) h.2)).trans (h.1.2 i hi).2⟩⟩, Nat.le_trans h.2 hb.size⟩
/-- The value at a place of a text, and its size. -/
def vAt (s : ByteArray) (i : Nat) : Nat × Nat := if (Utf8.decode s i).1 = 65533 ∧ (Utf8.decode s i).2 < 3 then (1114112 + (s.get! i).toNat, 1) else Utf8.decode s i
theorem vAt_val (s : ByteArray) (i : Nat) : vAt s i = valN (s.size - i) (s.get! i).toNat (s.get! (i + 1)).toNat (s.get! (i + 2)).toNat (s.get! (i + 3)).toNat := by
  unfold vAt valN; rw [Lib.decode_at]
def Fine (x m : Nat) : Prop := (m = 1 ∧ x < 128) ∨ (m = 2 ∧ 128 ≤ x ∧ x < 2048) ∨ (m = 3 ∧ 2048 ≤ x ∧ (x < 55296 ∨ 57344 ≤ x) ∧ x ≤ 65535) ∨ (m = 4 ∧ 65536 ≤ x ∧ x ≤ 1114111)
theorem decN_cases (n b0 b1 b2 b3 : Nat) : Lib.decodeN n b0 b1 b2 b3 = (65533, 1) ∨ Fine (Lib.decodeN n b0 b1 b2 b3).1 (Lib.decodeN n b0 b1 b2 b3).2 := by
  unfold Lib.decodeN
  by_cases c0 : b0 < 128
  · right; rw [if_pos c0]; exact Or.inl ⟨rfl, c0⟩
  · rw [if_neg c0]
    by_cases c1 : b0 / 32 = 6 ∧ (1 < n ∧ b1 / 64 = 2)
    · rw [if_pos c1]
      by_cases c2 : b0 % 32 * 64 + b1 % 64 ≥ 128
      · right; rw [if_pos c2]; exact Or.inr (Or.inl ⟨rfl, c2, by show _ < 2048; omega⟩)
      · left; rw [if_neg c2]
    · rw [if_neg c1]
      by_cases c3 : b0 / 16 = 14 ∧ (1 < n ∧ b1 / 64 = 2) ∧ (2 < n ∧ b2 / 64 = 2)
      · rw [if_pos c3]
        generalize hx : b0 % 16 * 4096 + b1 % 64 * 64 + b2 % 64 = x
        have hlt : x ≤ 65535 := by omega
        by_cases c2 : x ≥ 2048 ∧ (x < 55296 ∨ (57344 ≤ x ∧ x ≤ 1114111))
        · right; rw [if_pos c2]; exact Or.inr (Or.inr (Or.inl ⟨rfl, c2.1, by show x < 55296 ∨ 57344 ≤ x; omega, hlt⟩))
        · left; rw [if_neg c2]
      · rw [if_neg c3]
        by_cases c4 : b0 / 8 = 30 ∧ (1 < n ∧ b1 / 64 = 2) ∧ (2 < n ∧ b2 / 64 = 2) ∧ (3 < n ∧ b3 / 64 = 2)
        · rw [if_pos c4]
          generalize hx : b0 % 8 * 262144 + b1 % 64 * 4096 + b2 % 64 * 64 + b3 % 64 = x
          by_cases c2 : x ≥ 65536 ∧ (x < 55296 ∨ (57344 ≤ x ∧ x ≤ 1114111))
          · right; rw [if_pos c2]; exact Or.inr (Or.inr (Or.inr ⟨rfl, c2.1, by show x ≤ 1114111; omega⟩))
          · left; rw [if_neg c2]
        · left; rw [if_neg c4]
theorem dec_cases (s : ByteArray) (i : Nat) : Utf8.decode s i = (65533, 1) ∨ Fine (Utf8.decode s i).1 (Utf8.decode s i).2 := by
  rw [Lib.decode_at]; exact decN_cases _ _ _ _ _
theorem fine_len {x m : Nat} (h : Fine x m) : Lib.runeLen (x : Int) = (m : Int) := by
  unfold Lib.runeLen
  rcases h with ⟨rfl, h⟩ | ⟨rfl, h, h'⟩ | ⟨rfl, h, h', h2⟩ | ⟨rfl, h, h'⟩
  · rw [if_neg (by omega), if_pos (by omega)]; rfl
  · rw [if_neg (by omega), if_neg (by omega), if_pos (by omega)]; rfl
  · rw [if_neg (by omega), if_neg (by omega), if_neg (by omega), if_neg (by omega), if_pos (by omega)]; rfl
  · rw [if_neg (by omega), if_neg (by omega), if_neg (by omega), if_neg (by omega), if_neg (by omega), if_pos (by omega)]; rfl
theorem ret_ii {a b c d : Int} (h : a = b) (h2 : c = d) : Ending.returned (.tuple #[.int .i64 a, .int .i64 c]) = .returned (.tuple #[.int .i64 b, .int .i64 d]) := by rw [h, h2]
theorem get_get (s : ByteArray) (i : Nat) (h : i < s.size) : s.get! i = s[i] := by
  show s.data[i]! = s.data[i]
  exact getElem!_pos _ _ _
set_option maxRecDepth 100000 in
set_option maxHeartbeats 1000000 in
theorem value_any (s : ByteArray) (i : Nat) (w : World) (hT : UT w) (hs : s.size ≤ 1000000) (hi : i < s.size) :
    Calls Tryd.prog 39 #[.string s, .int .i64 (i : Int), .int .i32 ((Utf8.decode s i).1 : Int)] w fun e w' => e = .returned (.tuple #[.int .i64 ((vAt s i).1 : Int), .int .i64 ((vAt s i).2 : Int)]) ∧ Below w.heap.size w w' := by
  have hv : vAt s i = if (Utf8.decode s i).1 = 65533 ∧ (Utf8.decode s i).2 < 3 then (1114112 + (s.get! i).toNat, 1) else Utf8.decode s i := rfl
  have hc := dec_cases s i
  have hd := Tryd.utf8_DecodeRuneInString (s.extract i s.size) w hT.1
  have hde : Lib.decodeGo (s.extract i s.size) = Utf8.decode s i := by
    unfold Lib.decodeGo
    rw [if_neg (by simp; omega), Lib.tail_decode]; rfl
  rw [hde] at hd
  have hl := fun w => Tryd.utf8_RuneLen ((Utf8.decode s i).1 : Int) w
  rw [get_get s i hi] at hv
  clear hde
  generalize hx : (Utf8.decode s i) = x at *
  obtain ⟨r, n⟩ := x
  simp only at *
  have HT := Lib.hid hT; have Hx := Lib.hid hx; have Hd := Lib.hid hd; clear hT hx hd
  have hrl : Lib.runeLen (r : Int) = if r = 65533 then 3 else n := by
    rcases hc with h | h
    · have : r = 65533 := by simpa using congrArg Prod.fst h
      subst this; rfl
    · rw [fine_len h]
      split
      · rename_i h2; subst h2; rcases h with h | h | h | h <;> omega
      · rfl
  rw [hrl] at hl
  have Hl := Lib.hid hl; clear hl hrl
  by_cases h : r = 65533
  · subst h
    rw [if_pos rfl] at Hl
    have hn : n = 1 ∨ n = 3 := by
      rcases hc with h | h
      · left; simpa using congrArg Prod.snd h
      · right; rcases h with h | h | h | h <;> omega
    have hb := (s[i]).toNat_lt
    clear hc
    rcases hn with rfl | rfl
    · rw [if_pos (by omega)] at hv
      have hw : wrap64 (1114112 + wrap64 ((s[i].toNat : Nat) : Int)) = ((1114112 + s[i].toNat : Nat) : Int) := by unfold wrap64; omega
      have Hv := Lib.hid hv; have Hw := Lib.hid hw; clear hv hb hw
      go_enter Tryd.func39, Tryd.ntmps39
      go_wp2_with (first | (go_at_call 68; refine (Hl.out _).mono ?_; rintro e w' ⟨rfl, rfl⟩) | (go_at_call 69; refine Hd.out.mono ?_; rintro e w1 ⟨rfl, hb1⟩))
      go_ret2
      rw [Hv.out]
      exact ⟨ret_ii Hw.out rfl, hb1⟩
    · rw [if_neg (by omega)] at hv
      have Hv := Lib.hid hv; clear hv hb
      go_enter Tryd.func39, Tryd.ntmps39
      go_wp2_with (first | (go_at_call 68; refine (Hl.out _).mono ?_; rintro e w' ⟨rfl, rfl⟩) | (go_at_call 69; refine Hd.out.mono ?_; rintro e w1 ⟨rfl, hb1⟩))
      go_ret2
      rw [Hv.out]
      exact ⟨rfl, hb1⟩
  · have hr : ((r : Int) == 65533) = false := by rw [beq_eq_false_iff_ne]; omega
    rw [if_neg h] at Hl
    rw [if_neg (by omega)] at hv
    have hrb : (r : Int) ≤ 1114111 := by
      rcases hc with h2 | h2
      · exact absurd (by simpa using congrArg Prod.fst h2) h
      · rcases h2 with h2 | h2 | h2 | h2 <;> omega
    have Hv := Lib.hid hv; clear hv hc h
    go_enter Tryd.func39, Tryd.ntmps39
    go_wp2_with (first | (go_at_call 68; refine (Hl.out _).mono ?_; rintro e w' ⟨rfl, rfl⟩))
    go_ret2
    rw [Hv.out]
    exact ⟨rfl, Below.refl _ _⟩
end Go.Proofs.YtecffaidpiadoaaDoor
