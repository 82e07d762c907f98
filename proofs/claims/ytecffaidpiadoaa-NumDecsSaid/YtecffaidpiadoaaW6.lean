import Derived.Test.YtecffaidpiadoaaW5
namespace Go.Proofs.Ytecffaidpiadoaa
set_option maxRecDepth 100000
open Go.RowKit
def lowI (a b : Int) : Int := if a < b then a else b
def highI (a b : Int) : Int := if b < a then a else b
theorem low_any (a b : Int) (w : World) : Calls Try.prog 11 #[.int .i64 a, .int .i64 b] w fun e w' => e = .returned (.int .i64 (lowI a b)) ∧ w = w' := by
  by_cases h : a < b
  · have e : lowI a b = a := if_pos h
    have H := Lib.hid e; clear e
    go_enter Try.func11, Try.ntmps11
    go_wp2
    go_ret
    rw [H.out]
    exact ⟨rfl, rfl⟩
  · have e : lowI a b = b := if_neg h
    have H := Lib.hid e; clear e
    go_enter Try.func11, Try.ntmps11
    go_wp2
    go_ret
    rw [H.out]
    exact ⟨rfl, rfl⟩
theorem high_any (a b : Int) (w : World) : Calls Try.prog 12 #[.int .i64 a, .int .i64 b] w fun e w' => e = .returned (.int .i64 (highI a b)) ∧ w = w' := by
  by_cases h : b < a
  · have e : (highI a b) = a := if_pos h
    have H := Lib.hid e; clear e
    go_enter Try.func12, Try.ntmps12
    go_wp2
    go_ret
    rw [H.out]
    exact ⟨rfl, rfl⟩
  · have e : (highI a b) = b := if_neg h
    have H := Lib.hid e; clear e
    go_enter Try.func12, Try.ntmps12
    go_wp2
    go_ret
    rw [H.out]
    exact ⟨rfl, rfl⟩
/-- A digit's worth for the reference. -/
def worthR (c : Int) : Int := if worth c < 16 then worth c else -1
theorem nvalue_any (c : Int) (w : World) (h0 : 0 ≤ c) (h1 : c < 256) : Calls Try.prog 18 #[.int .u8 c] w fun e w' => e = .returned (.int .i64 (worthR c)) ∧ w = w' := by
  have Hw : Hid (c < 48 ∨ 70 < c ∨ (57 < c ∧ c < 65) → worthR c = -1) := Lib.hid (by intro h; have e : worth c = 18446744073709551615 := (by unfold worth; rw [if_neg (by omega), if_neg (by omega)]); unfold worthR; rw [e, if_neg (by omega)])
  have Hw1 : Hid (48 ≤ c → c ≤ 57 → worthR c = c - 48) := Lib.hid (by intro h h'; have e : worth c = c - 48 := (by unfold worth; rw [if_pos (by omega)]); unfold worthR; rw [e, if_pos (by omega)])
  have Hw2 : Hid (65 ≤ c → c ≤ 70 → worthR c = c - 55) := Lib.hid (by intro h h'; have e : worth c = c - 55 := (by unfold worth; rw [if_neg (by omega), if_pos (by omega)]); unfold worthR; rw [e, if_pos (by omega)])
  rcases (show c < 48 ∨ 70 < c ∨ (57 < c ∧ c < 65) ∨ (48 ≤ c ∧ c ≤ 57) ∨ (65 ≤ c ∧ c ≤ 70) by omega) with a | a | ⟨a, b⟩ | ⟨a, b⟩ | ⟨a, b⟩
  all_goals
    go_enter Try.func18, Try.ntmps18
    go_wp2
    go_ret
    first
      | (rw [Hw.out (by omega)]; exact ⟨rfl, rfl⟩)
      | (rw [Hw1.out (by omega) (by omega)]; exact ⟨rfl, rfl⟩)
      | (rw [Hw2.out (by omega) (by omega)]; exact ⟨rfl, rfl⟩)
/-- What Unhex answers. -/
def uhOk (l : List UInt8) : Bool := readOk 16 ⟨l.toArray⟩ && decide (l.length ≤ 15)
def uhR (l : List UInt8) : Int := if uhOk l then wrap64 (readVal 16 ⟨l.toArray⟩) else 0
def uhE (l : List UInt8) : Int := if uhOk l then 0 else 6
def UhPost (l : List UInt8) (w : World) (e : Ending) (w' : World) : Prop := e = .returned (.tuple #[.int .i64 (uhR l), .int .i64 (uhE l)]) ∧ Below w.heap.size w w'
theorem uh_no {l : List UInt8} {w w' : World} (h : uhOk l = false) (hb : Below w.heap.size w w') : UhPost l w (.returned (.tuple #[.int .i64 0, .int .i64 6])) w' := by
  refine ⟨?_, hb⟩; simp [uhR, uhE, h]
theorem uh_yes {l : List UInt8} {w w' : World} (h : uhOk l = true) (hb : Below w.heap.size w w') : UhPost l w (.returned (.tuple #[.int .i64 (wrap64 (readVal 16 ⟨l.toArray⟩)), .int .i64 0])) w' := by
  refine ⟨?_, hb⟩; simp [uhR, uhE, h]
set_option maxHeartbeats 400000 in
theorem unhex_b (l : List UInt8) (w : World) (hs : l.length ≤ 999999) (b : Bool) (hok : readOk 16 ⟨l.toArray⟩ = b) : Calls Try.prog 13 #[.string ⟨l.toArray⟩] w (UhPost l w) := by
  have hr : Calls Try.prog 20 #[.string (⟨l.toArray⟩ : ByteArray), .pointer (some ⟨w.heap.size, 0, none⟩)] (w.alloc (.cells #[.int .u64 16] 34)) fun e w' => e = .returned (.tuple #[.int .u64 (readVal 16 ⟨l.toArray⟩), .bool b]) ∧ w.alloc (.cells #[.int .u64 16] 34) = w' := by
    rw [← hok]
    exact read_any 16 w.heap.size ⟨l.toArray⟩ _ (by omega) (by omega) (by show l.toArray.size ≤ _; simp; omega) (cell10 w 16)
  have Hok := Lib.hid hok; clear hok
  cases b
  · go_enter Try.func13, Try.ntmps13
    go_wp2_with (first | (go_at_call 16; refine (reader_any _ _).mono ?_; rintro e w' ⟨rfl, rfl⟩) | (go_at_call 20; refine hr.mono ?_; rintro e w' ⟨rfl, rfl⟩))
    go_ret2
    exact uh_no (by unfold uhOk; rw [Hok.out]; rfl) ((Below.refl w.heap.size w).alloc (Nat.le_refl _) _)
  · by_cases h15 : l.length ≤ 15
    · go_enter Try.func13, Try.ntmps13
      go_wp2_with (first | (go_at_call 16; refine (reader_any _ _).mono ?_; rintro e w' ⟨rfl, rfl⟩) | (go_at_call 20; refine hr.mono ?_; rintro e w' ⟨rfl, rfl⟩))
      go_ret2
      exact uh_yes (by unfold uhOk; rw [Hok.out, decide_eq_true h15]; rfl) ((Below.refl w.heap.size w).alloc (Nat.le_refl _) _)
    · go_enter Try.func13, Try.ntmps13
      go_wp2_with (first | (go_at_call 16; refine (reader_any _ _).mono ?_; rintro e w' ⟨rfl, rfl⟩) | (go_at_call 20; refine hr.mono ?_; rintro e w' ⟨rfl, rfl⟩))
      go_ret2
      exact uh_no (by unfold uhOk; rw [Hok.out, decide_eq_false h15]; rfl) ((Below.refl w.heap.size w).alloc (Nat.le_refl _) _)
theorem unhex_any (l : List UInt8) (w : World) (hs : l.length ≤ 999999) : Calls Try.prog 13 #[.string ⟨l.toArray⟩] w (UhPost l w) := unhex_b l w hs _ rfl
/-- The reference's number of hex digits. -/
def unhexR (l : List UInt8) : Int := if l.length = 0 ∨ 15 < l.length ∨ digs 16 l = false then -1 else dv 16 l
theorem worthR_bad {b : Nat} {s : ByteArray} {k : Nat} (hk : k < s.size) (h : worthR (s[k].toNat : Int) < 0) : digs 16 s.data.toList = false := by
  apply digs_bad hk
  intro h2
  have := worth_nonneg (s[k].toNat : Int)
  unfold worthR at h
  have h3 : worth (s[k].toNat : Int) < 16 := h2
  rw [if_pos h3] at h; omega
theorem worthR_good {c : Int} (h : 0 ≤ worthR c) : worthR c = worth c ∧ 0 ≤ worth c ∧ worth c < 16 := by
  unfold worthR at *
  have := worth_nonneg c
  by_cases h2 : worth c < 16
  · rw [if_pos h2]; exact ⟨rfl, this, h2⟩
  · rw [if_neg h2] at h; omega
theorem pow16 (k : Nat) (h : k ≤ 15) : (16 : Int) ^ k ≤ 1152921504606846976 := by
  have h1 : (16 : Nat) ^ k ≤ 16 ^ 15 := Nat.pow_le_pow_right (by omega) h
  have h2 : ((16 ^ k : Nat) : Int) = (16 : Int) ^ k := by simp
  rw [← h2]
  have : (16 : Nat) ^ 15 = 1152921504606846976 := by decide
  omega
theorem pow16' (x : Int) (n : Nat) {k : Nat} (h : n ≤ k) (hx : x < ((16 : Nat) : Int) ^ n) : k < 15 → x ≤ 72057594037927936 := by
  intro hk
  have h1 : (16 : Nat) ^ n ≤ 16 ^ 14 := Nat.pow_le_pow_right (by omega) (by omega)
  have h2 : ((16 ^ n : Nat) : Int) = ((16 : Nat) : Int) ^ n := by simp
  rw [← h2] at hx
  have : (16 : Nat) ^ 14 = 72057594037927936 := by decide
  omega
set_option maxHeartbeats 400000 in
theorem unhex_ref (s : ByteArray) (w : World) (hs : s.size ≤ 999999) : Calls Try.prog 14 #[.string s] w fun e w' => e = .returned (.int .i64 (unhexR s.data.toList)) ∧ w = w' := by
  have hlen : s.data.toList.length = s.size := rfl
  rcases (show s.size = 0 ∨ 15 < s.size ∨ (0 < s.size ∧ s.size ≤ 15) by omega) with h | h | ⟨h, h'⟩
  · have Hd : Hid (unhexR s.data.toList = -1) := Lib.hid (by unfold unhexR; rw [if_pos (by omega)])
    have hz : ((s.size : Int) == 0) = true := by rw [beq_iff_eq]; omega
    clear h hlen
    go_enter Try.func14, Try.ntmps14
    go_wp2
    go_ret
    rw [Hd.out]; exact ⟨rfl, rfl⟩
  · have Hd : Hid (unhexR s.data.toList = -1) := Lib.hid (by unfold unhexR; rw [if_pos (by omega)])
    have hz : ((s.size : Int) == 0) = false := by rw [beq_eq_false_iff_ne]; omega
    clear hlen
    go_enter Try.func14, Try.ntmps14
    go_wp2
    go_ret
    rw [Hd.out]; exact ⟨rfl, rfl⟩
  · have hz : ((s.size : Int) == 0) = false := by rw [beq_eq_false_iff_ne]; omega
    have Hl := Lib.hid hlen; clear hlen
    go_enter Try.func14, Try.ntmps14
    go_wp2
    go_loop [3, 4] (fun n i => ∃ k : Nat, k ≤ s.size ∧ i = .int .i64 k ∧ n = .int .i64 (dv 16 (s.data.toList.take k)) ∧ digs 16 (s.data.toList.take k) = true) (fun _ i => s.size - (intOf i).toNat)
    case atStart => exact ⟨0, Nat.zero_le _, rfl, rfl, rfl⟩
    case round =>
      obtain ⟨k, hk, rfl, rfl, hd⟩ := hrel
      have ⟨b1, b2⟩ := dv_bound 16 _ hd
      have b4 := pow16' _ _ (List.length_take_le k s.data.toList) b2
      clear b2
      have Hd := Lib.hid hd; clear hd
      by_cases hlt : k < s.size
      · have hts := take_snoc s k hlt
        have hr := dv_snoc 16 (s.data.toList.take k) s[k]
        have hsn := digs_snoc 16 (s.data.toList.take k) s[k]
        rw [← hts] at hr hsn
        have Hr := Lib.hid hr; have Hs := Lib.hid hsn; clear hr hsn
        have Hb := Lib.hid (@worthR_bad 16 s k hlt)
        clear hts
        go_wp2_with (go_at_call 18; refine (nvalue_any _ _ (u8_nn _) (u8_lt _)).mono ?_; rintro e w' ⟨rfl, rfl⟩)
        · have hbad : worthR (s[k].toNat : Int) < 0 := by assumption
          go_ret
          rw [show unhexR s.data.toList = -1 by unfold unhexR; rw [if_pos (Or.inr (Or.inr (Hb.out hbad)))]]
          exact ⟨rfl, rfl⟩
        · have hgood : 0 ≤ worthR (s[k].toNat : Int) := by assumption
          have ⟨g1, g2, g3⟩ := worthR_good hgood
          go_round
          case rel => exact ⟨k + 1, by omega, by go_num, by rw [Hr.out, g1, IntWalk.wrap64_in _ (by omega)]; rfl, by rw [Hs.out, Hd.out]; simpa using g3⟩
          case measure => simp [intOf]; omega
      · have hta := take_all s k (by omega)
        have hdt := Hd.out
        rw [hta] at hdt
        have Ht := Lib.hid hta; have Hdt := Lib.hid hdt; clear hta hdt
        have He : Hid (unhexR s.data.toList = dv 16 s.data.toList) := Lib.hid (by unfold unhexR; rw [if_neg]; rw [Hdt.out]; have e := Hl.out; intro hh; rcases hh with hh | hh | hh; omega; omega; cases hh)
        go_wp2
        go_ret
        rw [He.out, Ht.out]
        exact ⟨rfl, rfl⟩
end Go.Proofs.Ytecffaidpiadoaa
