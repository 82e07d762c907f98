import Derived.Test.YtdifkjmpdmlobaaDoorW5
namespace Go.Proofs.YtdifkjmpdmlobaaDoor
set_option linter.unusedVariables false
set_option linter.unusedSimpArgs false
set_option maxRecDepth 100000
open Go.RowKit
def lowI (a b : Int) : Int := if a < b then a else b
def highI (a b : Int) : Int := if b < a then a else b
/-- A digit's worth for the reference. -/
def worthR (c : Int) : Int := if worth c < 16 then worth c else -1
/-- What Unhex answers. -/
def uhOk (l : List UInt8) : Bool := readOk 16 ⟨l.toArray⟩ && decide (l.length ≤ 15)
def uhR (l : List UInt8) : Int := if uhOk l then wrap64 (readVal 16 ⟨l.toArray⟩) else 0
def uhE (l : List UInt8) : Int := if uhOk l then 0 else 6
def UhPost (l : List UInt8) (w : World) (e : Ending) (w' : World) : Prop := e = .returned (.tuple #[.int .i64 (uhR l), .int .i64 (uhE l)]) ∧ Below w.heap.size w w'
theorem uh_no {l : List UInt8} {w w' : World} (h : uhOk l = false) (hb : Below w.heap.size w w') : UhPost l w (.returned (.tuple #[.int .i64 0, .int .i64 6])) w' := by
  refine ⟨?_, hb⟩; simp [uhR, uhE, h]
theorem uh_yes {l : List UInt8} {w w' : World} (h : uhOk l = true) (hb : Below w.heap.size w w') : UhPost l w (.returned (.tuple #[.int .i64 (wrap64 (readVal 16 ⟨l.toArray⟩)), .int .i64 0])) w' := by
  refine ⟨?_, hb⟩; simp [uhR, uhE, h]
set_option maxHeartbeats 400000 in
theorem unhex_b (l : List UInt8) (w : World) (hs : l.length ≤ 999999) (b : Bool) (hok : readOk 16 ⟨l.toArray⟩ = b) : Calls Tryd.prog 138 #[.string ⟨l.toArray⟩] w (UhPost l w) := by
  have hr : Calls Tryd.prog 148 #[.string (⟨l.toArray⟩ : ByteArray), .pointer (some ⟨w.heap.size, 0, none⟩)] (w.alloc (.cells #[.int .u64 16] 201)) fun e w' => e = .returned (.tuple #[.int .u64 (readVal 16 ⟨l.toArray⟩), .bool b]) ∧ w.alloc (.cells #[.int .u64 16] 201) = w' := by
    rw [← hok]
    exact read_any 16 w.heap.size ⟨l.toArray⟩ _ (by omega) (by omega) (by show l.toArray.size ≤ _; simp; omega) (cell10 w 16)
  have Hok := Lib.hid hok; clear hok
  cases b
  · go_enter Tryd.func138, Tryd.ntmps138
    go_wp2_with (first | (go_at_call 144; refine (reader_any _ _).mono ?_; rintro e w' ⟨rfl, rfl⟩) | (go_at_call 148; refine hr.mono ?_; rintro e w' ⟨rfl, rfl⟩))
    go_ret2
    exact uh_no (by unfold uhOk; rw [Hok.out]; rfl) ((Below.refl w.heap.size w).alloc (Nat.le_refl _) _)
  · by_cases h15 : l.length ≤ 15
    · go_enter Tryd.func138, Tryd.ntmps138
      go_wp2_with (first | (go_at_call 144; refine (reader_any _ _).mono ?_; rintro e w' ⟨rfl, rfl⟩) | (go_at_call 148; refine hr.mono ?_; rintro e w' ⟨rfl, rfl⟩))
      go_ret2
      exact uh_yes (by unfold uhOk; rw [Hok.out, decide_eq_true h15]; rfl) ((Below.refl w.heap.size w).alloc (Nat.le_refl _) _)
    · go_enter Tryd.func138, Tryd.ntmps138
      go_wp2_with (first | (go_at_call 144; refine (reader_any _ _).mono ?_; rintro e w' ⟨rfl, rfl⟩) | (go_at_call 148; refine hr.mono ?_; rintro e w' ⟨rfl, rfl⟩))
      go_ret2
      exact uh_no (by unfold uhOk; rw [Hok.out, decide_eq_false h15]; rfl) ((Below.refl w.heap.size w).alloc (Nat.le_refl _) _)
theorem unhex_any (l : List UInt8) (w : World) (hs : l.length ≤ 999999) : Calls Tryd.prog 138 #[.string ⟨l.toArray⟩] w (UhPost l w) := unhex_b l w hs _ rfl
/-- The reference's number of hex digits. -/
def unhexR (l : List UInt8) : Int := if l.length = 0 ∨ 15 < l.length ∨ digs 16 l = false then -1 else dv 16 l
theorem worthR_bad {b : Nat} {s : ByteArray} {k : Nat} (hk : k < s.size) (h : worthR (s[k].toNat : Int) < 0) : digs 16 s.data.toList = false := by
  apply digs_bad hk
  intro h2
  have := worth_nonneg (s[k].toNat : Int)
  unfold worthR at h
  have h3 : worth (s[k].toNat : Int) < 16 := h2
  rw [if_pos h3] at h; omega
theorem worthR_good {c : Int} (h : 0 ≤ worthR c) : worthR c = worth c ∧ 0 ≤ worth c ∧ worth c < 16 := by
  unfold worthR at *
  have := worth_nonneg c
  by_cases h2 : worth c < 16
  · rw [if_pos h2]; exact ⟨rfl, this, h2⟩
  · rw [if_neg h2] at h; omega
theorem pow16 (k : Nat) (h : k ≤ 15) : (16 : Int) ^ k ≤ 1152921504606846976 := by
  have h1 : (16 : Nat) ^ k ≤ 16 ^ 15 := Nat.pow_le_pow_right (by omega) h
  have h2 : ((16 ^ k : Nat) : Int) = (16 : Int) ^ k := by simp
  rw [← h2]
  have : (16 : Nat) ^ 15 = 1152921504606846976 := by decide
  omega
theorem pow16' (x : Int) (n : Nat) {k : Nat} (h : n ≤ k) (hx : x < ((16 : Nat) : Int) ^ n) : k < 15 → x ≤ 72057594037927936 := by
  intro hk
  have h1 : (16 : Nat) ^ n ≤ 16 ^ 14 := Nat.pow_le_pow_right (by omega) (by omega)
  have h2 : ((16 ^ n : Nat) : Int) = ((16 : Nat) : Int) ^ n := by simp
  rw [← h2] at hx
  have : (16 : Nat) ^ 14 = 72057594037927936 := by decide
  omega
end Go.Proofs.YtdifkjmpdmlobaaDoor
