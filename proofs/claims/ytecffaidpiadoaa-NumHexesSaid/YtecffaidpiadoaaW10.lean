import Derived.Test.YtecffaidpiadoaaW9
namespace Go.Proofs.Ytecffaidpiadoaa
set_option maxRecDepth 100000
open Go.RowKit
theorem lst_low (l : Int) : lowI (highI l 1) 16 = lst l := by unfold lowI highI lst; split <;> split <;> (try split) <;> (try split) <;> omega
theorem hexS_pos (n l : Int) (h : 0 ≤ n) : hexS n l = hexN n (lst l) := by
  have := lst_rng l
  unfold hexS hexN; rw [if_neg (by omega), show (max (lst l) 1).toNat = (lst l).toNat by omega]
theorem hexS_neg (n l : Int) (h : n < 0) : hexS n l = [] := by unfold hexS; rw [if_pos h]
theorem hexN_ne (n l : Int) : hexN n l ≠ [] := tell_ne 16 19 _ _ (Or.inl (by omega))
theorem uh_hex (n l : Int) (h : 0 ≤ n) (h1 : n ≤ 9223372036854775807) (hl : (hexN n l).length ≤ 15) : uhR (hexN n l) = n ∧ uhE (hexN n l) = 0 := by
  have e : readOk 16 ⟨(hexN n l).toArray⟩ = true := readOk_tell 16 19 _ _ (by omega) (by omega) (Or.inl (by omega))
  have e2 : readVal 16 ⟨(hexN n l).toArray⟩ = n := by
    unfold hexN
    rw [readVal_tell 16 20 _ _ (by omega) (by omega) (by omega) (by omega)]; omega
  have ho : uhOk (hexN n l) = true := by unfold uhOk; rw [e, decide_eq_true hl]; rfl
  unfold uhR uhE
  rw [ho, e2]
  exact ⟨by rw [if_pos rfl]; unfold wrap64; omega, rfl⟩
theorem uh_cases (l : List UInt8) : (0 ≤ unhexR l ∧ uhE l = 0 ∧ uhR l = unhexR l) ∨ (unhexR l < 0 ∧ uhE l = 6 ∧ uhR l = 0) := by
  have hne : (⟨l.toArray⟩ : ByteArray).data.toList = l := by simp
  by_cases h : l.length = 0 ∨ 15 < l.length ∨ digs 16 l = false
  · right
    have ho : uhOk l = false := by
      unfold uhOk readOk
      rw [hne, ByteArray.toList_eq, hne]
      rcases h with h | h | h
      · cases l with
        | nil => simp
        | cons => simp at h
      · rw [decide_eq_false (by omega)]; simp
      · rw [h]; simp
    refine ⟨?_, ?_, ?_⟩
    · unfold unhexR; rw [if_pos h]; omega
    · simp [uhE, ho]
    · simp [uhR, ho]
  · left
    have hd : digs 16 l = true := by
      cases hx : digs 16 l with
      | true => rfl
      | false => exact absurd (Or.inr (Or.inr hx)) h
    have ⟨b1, b2⟩ := dv_bound 16 l hd
    have b3 := pow16 l.length (by omega)
    have b4 : ((16 : Nat) : Int) ^ l.length = (16 : Int) ^ l.length := rfl
    rw [b4] at b2
    have hu : unhexR l = dv 16 l := by unfold unhexR; rw [if_neg h]
    have ho : uhOk l = true := by
      unfold uhOk readOk
      rw [hne, ByteArray.toList_eq, hne, hd, decide_eq_true (by omega)]
      cases l with
      | nil => simp at h
      | cons => rfl
    have hv : readVal 16 ⟨l.toArray⟩ = dv 16 l := by
      unfold readVal; rw [hne, hd, if_pos rfl, rdv_dv, wu]; omega
    refine ⟨by omega, by simp [uhE, ho], ?_⟩
    unfold uhR
    rw [ho, if_pos rfl, hv, hu]; unfold wrap64; omega
theorem unhexR_rng (l : List UInt8) : -1 ≤ unhexR l := by
  rcases uh_cases l with h | h
  · omega
  · by_cases h2 : l.length = 0 ∨ 15 < l.length ∨ digs 16 l = false
    · unfold unhexR; rw [if_pos h2]; omega
    · have hd : digs 16 l = true := by
        cases hx : digs 16 l with
        | true => rfl
        | false => exact absurd (Or.inr (Or.inr hx)) h2
      have := (dv_bound 16 l hd).1
      unfold unhexR at *; rw [if_neg h2] at *; omega
set_option maxHeartbeats 2000000 in
theorem numhexes_any (n least : Int) (l : List UInt8) (w : World) (h0 : -9223372036854775808 ≤ n) (h1 : n ≤ 9223372036854775807) (hl : l.length ≤ 9223372036854775807) :
    Calls Try.prog 4 #[.int .i64 n, .int .i64 least, .string ⟨l.toArray⟩] w fun e w' => e = .returned (.bool true) ∧ Below w.heap.size w w' := by
  by_cases h : 100 < l.length
  · go_enter Try.func4, Try.ntmps4
    go_wp2_with (go_at_call 5; refine (nawake_any _).mono ?_; rintro e w1 ⟨rfl, hb1⟩)
    go_ret
    exact ⟨rfl, hb1⟩
  · have H := Lib.hid fun w => hex_any n least w h0 h1
    have U2 : ∀ w, Calls Try.prog 13 #[.string ⟨l.toArray⟩] w fun e w' => e = .returned (.tuple #[.int .i64 (uhR l), .int .i64 (uhE l)]) ∧ Below w.heap.size w w' := fun w => unhex_any l w (by omega)
    have R : ∀ w, Calls Try.prog 14 #[.string ⟨l.toArray⟩] w fun e w' => e = .returned (.int .i64 (unhexR l)) ∧ w = w' := fun w => by
      have := unhex_ref ⟨l.toArray⟩ w (by show l.toArray.size ≤ _; simp; omega)
      simpa using this
    have R := Lib.hid R
    have L : ∀ w, Calls Try.prog 11 #[.int .i64 (highI least 1), .int .i64 16] w fun e w' => e = .returned (.int .i64 (lst least)) ∧ w = w' := fun w => by
      have := low_any (highI least 1) 16 w
      rw [lst_low] at this; exact this
    have L := Lib.hid L
    have hlr := lst_rng least
    have hu := uh_cases l
    have hur := unhexR_rng l
    by_cases hn : n < 0
    · have U1 : ∀ w, Calls Try.prog 13 #[.string ⟨([] : List UInt8).toArray⟩] w fun e w' => e = .returned (.tuple #[.int .i64 (uhR []), .int .i64 (uhE [])]) ∧ Below w.heap.size w w' := fun w => unhex_any [] w (by simp)
      have U1 := Lib.hid U1
      have H2 : Hid (∀ w, Calls Try.prog 9 #[.int .i64 n, .int .i64 least] w fun e w' => e = .returned (.string ⟨([] : List UInt8).toArray⟩) ∧ Below w.heap.size w w') := Lib.hid (by
        have := H.out; rw [hexS_neg n least hn] at this; exact this)
      clear H
      generalize uhR [] = x1 at *
      generalize uhE [] = x2 at *
      generalize unhexR l = z at *
      generalize uhR l = y1 at *
      generalize uhE l = y2 at *
      rcases hu with ⟨u1, rfl, rfl⟩ | ⟨u1, rfl, rfl⟩
      all_goals
        have U2 := Lib.hid U2
        go_enter Try.func4, Try.ntmps4
        go_wp2_with (first
          | (go_at_call 9; refine (H2.out _).mono ?_; rintro e w1 ⟨rfl, hb1⟩)
          | (go_at_call 13; (with_reducible refine (U1.out _).mono ?_); rintro e w2 ⟨rfl, hb2⟩)
          | (go_at_call 13; (with_reducible refine (U2.out _).mono ?_); rintro e w3 ⟨rfl, hb3⟩)
          | (go_at_call 14; refine (R.out _).mono ?_; rintro e w5 ⟨rfl, rfl⟩)
          | (go_at_call 5; refine (nawake_any _).mono ?_; rintro e w4 ⟨rfl, hb4⟩))
        go_ret
        exact ⟨rfl, seqB (seqB (seqB hb1 hb2) hb3) hb4⟩
    · have H2 : Hid (∀ w, Calls Try.prog 9 #[.int .i64 n, .int .i64 least] w fun e w' => e = .returned (.string ⟨(hexN n (lst least)).toArray⟩) ∧ Below w.heap.size w w') := Lib.hid (by
        have := H.out; rw [hexS_pos n least (by omega)] at this; exact this)
      have X : Hid (∀ w, Calls Try.prog 10 #[.int .i64 n, .int .i64 (lst least)] w fun e w' => e = .returned (.string ⟨(hexN n (lst least)).toArray⟩) ∧ w = w') :=
        Lib.hid fun w => hex_ref 16 n (lst least) w (by omega) h1 (by omega) (by omega) (by omega) (by omega)
      have U1 : ∀ w, Calls Try.prog 13 #[.string ⟨(hexN n (lst least)).toArray⟩] w fun e w' => e = .returned (.tuple #[.int .i64 (uhR (hexN n (lst least))), .int .i64 (uhE (hexN n (lst least)))]) ∧ Below w.heap.size w w' := fun w => unhex_any _ w (by have := hexN_len n (lst least); omega)
      have hx := uh_hex n (lst least) (by omega) h1
      have hne : 0 < (hexN n (lst least)).length := List.length_pos_iff.2 (hexN_ne n (lst least))
      have hlen := hexN_len n (lst least)
      clear H
      generalize unhexR l = z at *
      generalize uhR l = y1 at *
      generalize uhE l = y2 at *
      generalize hexN n (lst least) = t at *
      have htt : (t == t) = true := by simp
      have hnn : (n == n) = true := by simp
      by_cases ht : t.length ≤ 15
      · rw [(hx ht).1, (hx ht).2] at U1
        have U1 := Lib.hid U1
        clear hx
        rcases hu with ⟨u1, rfl, rfl⟩ | ⟨u1, rfl, rfl⟩
        all_goals
          have U2 := Lib.hid U2
          go_enter Try.func4, Try.ntmps4
          go_wp2_with (first
            | (go_at_call 9; refine (H2.out _).mono ?_; rintro e w1 ⟨rfl, hb1⟩)
            | (go_at_call 12; refine (high_any _ _ _).mono ?_; rintro e w1 ⟨rfl, rfl⟩)
            | (go_at_call 11; refine (L.out _).mono ?_; rintro e w1 ⟨rfl, rfl⟩)
            | (go_at_call 10; refine (X.out _).mono ?_; rintro e w1 ⟨rfl, rfl⟩)
            | (go_at_call 13; (with_reducible refine (U1.out _).mono ?_); rintro e w2 ⟨rfl, hb2⟩)
            | (go_at_call 13; (with_reducible refine (U2.out _).mono ?_); rintro e w3 ⟨rfl, hb3⟩)
            | (go_at_call 14; refine (R.out _).mono ?_; rintro e w5 ⟨rfl, rfl⟩)
            | (go_at_call 5; refine (nawake_any _).mono ?_; rintro e w4 ⟨rfl, hb4⟩))
          go_ret
          exact ⟨rfl, seqB (seqB (seqB hb1 hb2) hb3) hb4⟩
      · have U1 := Lib.hid U1
        clear hx
        rcases hu with ⟨u1, rfl, rfl⟩ | ⟨u1, rfl, rfl⟩
        all_goals
          have U2 := Lib.hid U2
          go_enter Try.func4, Try.ntmps4
          go_wp2_with (first
            | (go_at_call 9; refine (H2.out _).mono ?_; rintro e w1 ⟨rfl, hb1⟩)
            | (go_at_call 12; refine (high_any _ _ _).mono ?_; rintro e w1 ⟨rfl, rfl⟩)
            | (go_at_call 11; refine (L.out _).mono ?_; rintro e w1 ⟨rfl, rfl⟩)
            | (go_at_call 10; refine (X.out _).mono ?_; rintro e w1 ⟨rfl, rfl⟩)
            | (go_at_call 13; (with_reducible refine (U1.out _).mono ?_); rintro e w2 ⟨rfl, hb2⟩)
            | (go_at_call 13; (with_reducible refine (U2.out _).mono ?_); rintro e w3 ⟨rfl, hb3⟩)
            | (go_at_call 14; refine (R.out _).mono ?_; rintro e w5 ⟨rfl, rfl⟩)
            | (go_at_call 5; refine (nawake_any _).mono ?_; rintro e w4 ⟨rfl, hb4⟩))
          go_ret
          exact ⟨rfl, seqB (seqB (seqB hb1 hb2) hb3) hb4⟩
end Go.Proofs.Ytecffaidpiadoaa
