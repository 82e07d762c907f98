/-
  Joined: W4 Num1 W5 W6 W7 Sh1 Sh2 V0.
-/
import Derived.Test.YtcdecnmhogmhaaaDoorJ02
import Derived.Test.YtcdecnmhogmhaaaDoorJ03
import Derived.OwnWalk
namespace Go.Proofs.YtcdecnmhogmhaaaDoor
set_option linter.unusedVariables false
set_option linter.unusedSimpArgs false
set_option maxRecDepth 100000
open Go.RowKit
theorem tell_fuel (b : Nat) (hb : 2 ≤ b) : ∀ f n l, n < b ^ f → l ≤ f → tell b (f + 1) n l = tell b f n l := by
  intro f
  induction f with
  | zero => intro n l h hl; have : n = 0 := by simpa using h
            subst this; obtain rfl : l = 0 := by omega
            simp [tell]
  | succ f ih =>
    intro n l h hl
    have e1 : tell b (f + 1 + 1) n l = if n = 0 ∧ l = 0 then [] else tell b (f + 1) (n / b) (l - 1) ++ [dg (n % b)] := rfl
    have e2 : tell b (f + 1) n l = if n = 0 ∧ l = 0 then [] else tell b f (n / b) (l - 1) ++ [dg (n % b)] := rfl
    rw [e1, e2]
    by_cases hz : n = 0 ∧ l = 0
    · rw [if_pos hz, if_pos hz]
    · rw [if_neg hz, if_neg hz, ih _ _ (pow_step b f n hb h) (by omega)]
theorem tell_least (b f n : Nat) (h : 0 < n) : tell b f n 1 = tell b f n 0 := by
  cases f with
  | zero => rfl
  | succ f => rw [tell, tell, if_neg (by omega), if_neg (by omega)]
/-- A digit more. -/
theorem tell_more (n : Nat) (h : 10 ≤ n) (hn : n < 10 ^ 20) : tell 10 20 n 1 = tell 10 20 (n / 10) 1 ++ [dg (n % 10)] := by
  have hp := pow_step 10 19 n (by omega) hn
  have e1 : tell 10 20 n 1 = tell 10 19 (n / 10) 0 ++ [dg (n % 10)] := by rw [tell, if_neg (by omega)]
  rw [e1, tell_least 10 20 (n / 10) (by omega), tell_fuel 10 (by omega) 19 (n / 10) 0 hp (by omega)]
theorem tell_one (n : Nat) (h : n < 10) : tell 10 20 n 1 = [dg n] := by
  have e1 : tell 10 20 n 1 = tell 10 19 (n / 10) 0 ++ [dg (n % 10)] := by rw [tell, if_neg (by omega)]
  rw [e1, Nat.div_eq_of_lt h, Nat.mod_eq_of_lt h]; rfl
theorem dig_ext (n : Nat) (h : n < 16) : (⟨#[48, 49, 50, 51, 52, 53, 54, 55, 56, 57, 65, 66, 67, 68, 69, 70]⟩ : ByteArray).extract n (n + 1) = ⟨[dg n].toArray⟩ := by
  have key : ∀ j : Fin 16, (⟨#[48, 49, 50, 51, 52, 53, 54, 55, 56, 57, 65, 66, 67, 68, 69, 70]⟩ : ByteArray).data.extract j (j + 1) = #[dg j] := by decide
  apply ByteArray.ext
  rw [ByteArray.data_extract]
  exact key ⟨n, h⟩
theorem digit_ref (n : Int) (w : World) (h0 : 0 ≤ n) (h1 : n < 16) : Calls Tryd.prog 146 #[.int .i64 n] w fun e w' => e = .returned (.string ⟨[dg n.toNat].toArray⟩) ∧ w = w' := by
  obtain ⟨k, rfl⟩ := Int.eq_ofNat_of_zero_le h0
  have hx := dig_ext k (by omega)
  have Hx := Lib.hid hx; clear hx
  go_enter Tryd.func146, Tryd.ntmps146
  go_wp2
  go_ret
  exact ⟨congrArg (fun x => Ending.returned (.string x)) Hx.out, rfl⟩
theorem td_neg (n : Int) (h : n < 0) : n.tdiv 10 = -((-n) / 10) ∧ n.tmod 10 = -((-n) % 10) := by
  obtain ⟨m, rfl⟩ : ∃ m, n = -m := ⟨-n, by omega⟩
  rw [Int.neg_tdiv, Int.neg_tmod, Int.tdiv_eq_ediv_of_nonneg (by omega), Int.tmod_eq_emod_of_nonneg (by omega)]
  simp
theorem decS_neg1 (n : Int) (h : n < 0) (h' : -10 < n) : decS n = 45 :: [dg (-n).toNat] := by
  unfold decS; rw [if_pos h, tell_one _ (by omega), show n.natAbs = (-n).toNat by omega]
theorem decS_pos1 (n : Int) (h : 0 ≤ n) (h' : n < 10) : decS n = [dg n.toNat] := by
  unfold decS; rw [if_neg (by omega), tell_one _ (by omega)]
theorem decS_neg (n : Int) (h : n ≤ -10) (h' : -9223372036854775808 ≤ n) : decS n = decS (n.tdiv 10) ++ [dg (-(n.tmod 10)).toNat] := by
  have := td_neg n (by omega)
  have e2 : (-(n.tmod 10)).toNat = n.natAbs % 10 := by omega
  have e3 : (n.tdiv 10).natAbs = n.natAbs / 10 := by omega
  unfold decS
  rw [if_pos (by omega), if_pos (by omega), tell_more _ (by omega) (by omega), e2, e3]; rfl
theorem decS_pos (n : Int) (h : 10 ≤ n) (h' : n ≤ 9223372036854775807) : decS n = decS (n / 10) ++ [dg (n % 10).toNat] := by
  have e2 : (n % 10).toNat = n.toNat % 10 := by omega
  have e3 : (n / 10).toNat = n.toNat / 10 := by omega
  unfold decS
  rw [if_neg (by omega), if_neg (by omega), tell_more _ (by omega) (by omega), e2, e3]
theorem decS_len (n : Int) : (decS n).length ≤ 21 := by
  unfold decS; split
  · have := tell_len 10 20 n.natAbs 1; simp; omega
  · have := tell_len 10 20 n.toNat 1; omega
set_option maxHeartbeats 400000 in
theorem dec_ref (k : Nat) : ∀ (n : Int) (w : World), n.natAbs ≤ k → -9223372036854775808 ≤ n → n ≤ 9223372036854775807 →
    Calls Tryd.prog 128 #[.int .i64 n] w fun e w' => e = .returned (.string ⟨(decS n).toArray⟩) ∧ w = w' := by
  induction k with
  | zero => 
    intro n w hk h0 h1
    obtain rfl : n = 0 := by omega
    go_enter Tryd.func128, Tryd.ntmps128
    go_wp2_with (go_at_call 146; refine (digit_ref _ _ (by omega) (by omega)).mono ?_; rintro e w' ⟨rfl, rfl⟩)
    go_ret
    exact ⟨rfl, rfl⟩
  | succ k ih => 
    intro n w hk h0 h1
    rcases (show (n < 0 ∧ -10 < n) ∨ n ≤ -10 ∨ (0 ≤ n ∧ n < 10) ∨ 10 ≤ n by omega) with ⟨a, b⟩ | a | ⟨a, b⟩ | a
    · have Hd := Lib.hid (decS_neg1 n a b)
      go_enter Tryd.func128, Tryd.ntmps128
      go_wp2_with (go_at_call 146; refine (digit_ref _ _ (by omega) (by omega)).mono ?_; rintro e w' ⟨rfl, rfl⟩)
      go_ret
      rw [Hd.out]
      exact ⟨congrArg (fun x => Ending.returned (.string x)) (ba_app [45] _), rfl⟩
    · have Hd := Lib.hid (decS_neg n a h0)
      have hl := decS_len (n.tdiv 10)
      have td := td_neg n (by omega)
      have ht1 : (n.tdiv 10).natAbs ≤ k := by omega
      have ht2 : n.tdiv 10 ≤ 9223372036854775807 := by omega
      have ht3 : -9223372036854775808 ≤ n.tdiv 10 := by omega
      have hm1 : 0 ≤ -(n.tmod 10) := by omega
      have hm2 : -(n.tmod 10) < 16 := by omega
      clear td
      have Ih := Lib.hid ih; clear ih
      go_enter Tryd.func128, Tryd.ntmps128
      go_wp2_with (first | (go_at_call 128; refine (Ih.out _ _ (by omega) (by omega) (by omega)).mono ?_; rintro e w' ⟨rfl, rfl⟩) | (go_at_call 146; refine (digit_ref _ _ hm1 hm2).mono ?_; rintro e w' ⟨rfl, rfl⟩))
      go_ret
      rw [Hd.out]
      exact ⟨congrArg (fun x => Ending.returned (.string x)) (ba_app _ _), rfl⟩
    · have Hd := Lib.hid (decS_pos1 n a b)
      go_enter Tryd.func128, Tryd.ntmps128
      go_wp2_with (go_at_call 146; refine (digit_ref _ _ (by omega) (by omega)).mono ?_; rintro e w' ⟨rfl, rfl⟩)
      go_ret
      rw [Hd.out]
      exact ⟨rfl, rfl⟩
    · have Hd := Lib.hid (decS_pos n a h1)
      have hl := decS_len (n / 10)
      have Ih := Lib.hid ih; clear ih
      go_enter Tryd.func128, Tryd.ntmps128
      go_wp2_with (first | (go_at_call 128; refine (Ih.out _ _ (by omega) (by omega) (by omega)).mono ?_; rintro e w' ⟨rfl, rfl⟩) | (go_at_call 146; refine (digit_ref _ _ (by omega) (by omega)).mono ?_; rintro e w' ⟨rfl, rfl⟩))
      go_ret
      rw [Hd.out]
      exact ⟨congrArg (fun x => Ending.returned (.string x)) (ba_app _ _), rfl⟩
end Go.Proofs.YtcdecnmhogmhaaaDoor
namespace Go.Proofs.YtcdecnmhogmhaaaDoor
open Go

theorem wu (n : Int) : IntKind.u64.wrap n = n % 18446744073709551616 := by
  simp [IntKind.wrap, IntKind.bits, IntKind.signed]

theorem wu_step (x b y : Int) : IntKind.u64.wrap (IntKind.u64.wrap (IntKind.u64.wrap x * b) + y) = IntKind.u64.wrap (x * b + y) := by
  simp only [wu]
  rw [Int.add_emod, Int.emod_emod_of_dvd _ (Int.dvd_refl _), Int.mul_emod, Int.emod_emod_of_dvd _ (Int.dvd_refl _), ← Int.mul_emod, ← Int.add_emod]

/-- Digits' number, not around anything. -/
def dv (b : Nat) (l : List UInt8) : Int := l.foldl (fun n c => n * b + worth (c.toNat : Int)) 0
theorem dv_snoc (b : Nat) (l : List UInt8) (c : UInt8) : dv b (l ++ [c]) = dv b l * b + worth (c.toNat : Int) := by simp [dv]

theorem snoc_ind {P : List UInt8 → Prop} (h0 : P []) (h1 : ∀ l c, P l → P (l ++ [c])) : ∀ l, P l := by
  intro l
  have h : ∀ r : List UInt8, P r.reverse := by
    intro r
    induction r with
    | nil => exact h0
    | cons c r ih => rw [List.reverse_cons]; exact h1 _ _ ih
  have := h l.reverse
  rwa [List.reverse_reverse] at this

theorem rdv_dv (b : Nat) (l : List UInt8) : rdv b l = IntKind.u64.wrap (dv b l) := by
  refine snoc_ind (P := fun l => rdv b l = IntKind.u64.wrap (dv b l)) rfl ?_ l
  intro l c ih
  rw [rdv_snoc, dv_snoc, ih, wu_step]

theorem worth_dg (k : Nat) (h : k < 16) : worth ((dg k).toNat : Int) = k := by
  have key : ∀ j : Fin 16, worth ((dg j).toNat : Int) = (j.val : Int) := by decide
  exact key ⟨k, h⟩

theorem dv_tell (b : Nat) (hb : 2 ≤ b) (hb' : b ≤ 16) : ∀ f n l, n < b ^ f → dv b (tell b f n l) = n := by
  intro f
  induction f with
  | zero => intro n l h; have : n = 0 := by simpa using h
            subst this; rfl
  | succ f ih =>
    intro n l h
    rw [tell]
    by_cases hz : n = 0 ∧ l = 0
    · rw [if_pos hz, hz.1]; rfl
    · have hm : n % b < b := Nat.mod_lt _ (by omega)
      rw [if_neg hz, dv_snoc, ih _ _ (pow_step b f n hb h), worth_dg _ (by omega)]
      have := Nat.div_add_mod n b
      rw [Nat.mul_comm] at this
      have e : ((n / b * b + n % b : Nat) : Int) = n := by rw [this]
      simpa using e

theorem digs_tell (b : Nat) (hb : 2 ≤ b) (hb' : b ≤ 16) : ∀ f n l, digs b (tell b f n l) = true := by
  intro f
  induction f with
  | zero => intro n l; rfl
  | succ f ih =>
    intro n l
    rw [tell]
    by_cases hz : n = 0 ∧ l = 0
    · rw [if_pos hz]; rfl
    · have hm : n % b < b := Nat.mod_lt _ (by omega)
      rw [if_neg hz, digs_snoc, ih, worth_dg _ (by omega)]
      simp; omega

theorem dv_bound (b : Nat) (l : List UInt8) : digs b l = true → 0 ≤ dv b l ∧ dv b l < (b : Int) ^ l.length := by
  refine snoc_ind (P := fun l => digs b l = true → 0 ≤ dv b l ∧ dv b l < (b : Int) ^ l.length) (fun _ => ⟨Int.le_refl 0, by simp [dv]⟩) ?_ l
  intro l c ih h
  rw [digs_snoc, Bool.and_eq_true] at h
  have ⟨i1, i2⟩ := ih h.1
  have hw : worth (c.toNat : Int) < b := by simpa using h.2
  have hn := worth_nonneg (c.toNat : Int)
  rw [dv_snoc, List.length_append]
  have hbn : (0 : Int) ≤ b := Int.natCast_nonneg b
  refine ⟨Int.add_nonneg (Int.mul_nonneg i1 hbn) hn, ?_⟩
  have h1 : dv b l + 1 ≤ (b : Int) ^ l.length := i2
  have h2 := Int.mul_le_mul_of_nonneg_right h1 hbn
  rw [Int.add_mul] at h2
  show _ < (b : Int) ^ (l.length + 1)
  rw [Int.pow_succ]
  omega

theorem tell_ne (b f n l : Nat) (h : 0 < l ∨ 0 < n) : tell b (f + 1) n l ≠ [] := by
  rw [tell, if_neg (by omega)]; simp

end Go.Proofs.YtcdecnmhogmhaaaDoor
namespace Go.Proofs.YtcdecnmhogmhaaaDoor
open Go.RowKit
/-- How many hex digits at least. -/
def lst (l : Int) : Int := if l ≤ 1 then 1 else if 16 ≤ l then 16 else l
theorem lst_rng (l : Int) : 1 ≤ lst l ∧ lst l ≤ 16 := by unfold lst; split; omega; split <;> omega
def hexS (n l : Int) : List UInt8 := if n < 0 then [] else tell 16 20 n.toNat (lst l).toNat
theorem below16 {w w2 : World} (hb : Below (w.alloc (.cells #[.int .u64 16] 161)).heap.size (w.alloc (.cells #[.int .u64 16] 161)) w2) : Below w.heap.size w w2 :=
  ((Below.refl w.heap.size w).alloc (Nat.le_refl _) _).trans (hb.mono (by simp))
set_option maxHeartbeats 1000000 in
theorem hex_any (n l : Int) (w : World) (h0 : -9223372036854775808 ≤ n) (h1 : n ≤ 9223372036854775807) : Calls Tryd.prog 135 #[.int .i64 n, .int .i64 l] w fun e w' => e = .returned (.string ⟨(hexS n l).toArray⟩) ∧ Below w.heap.size w w' := by
  by_cases h : n < 0
  · have hd : hexS n l = [] := by unfold hexS; rw [if_pos h]
    have Hd := Lib.hid hd; clear hd
    go_enter Tryd.func135, Tryd.ntmps135
    go_wp2
    go_ret
    rw [Hd.out]
    exact ⟨rfl, Below.refl _ _⟩
  · have hd : hexS n l = tell 16 20 n.toNat (lst l).toNat := by unfold hexS; rw [if_neg h]
    have hr := lst_rng l
    have ht := tell_int 16 n (lst l) w.heap.size (w.alloc (.cells #[.int .u64 16] 161)) (by omega) (by omega) (by omega) (by omega) (by omega) (by omega) (by omega) (by simp) (cell10 w 16)
    have Hd := Lib.hid hd; clear hd
    rcases (show l < 1 ∨ l = 1 ∨ 16 < l ∨ l = 16 ∨ (1 < l ∧ l < 16) by omega) with a | rfl | a | rfl | ⟨a, b⟩
    · rw [show lst l = 1 by unfold lst; rw [if_pos (by omega)]] at *
      clear hr
      go_enter Tryd.func135, Tryd.ntmps135
      go_wp2_with (first | (go_at_call 157; refine (teller_any _ _).mono ?_; rintro e w' ⟨rfl, rfl⟩) | (go_at_call 177; refine ht.mono ?_; rintro e w1 ⟨rfl, hb⟩))
      go_ret
      rw [Hd.out]
      exact ⟨rfl, below16 hb⟩
    · rw [show lst 1 = 1 by rfl] at *
      clear hr
      go_enter Tryd.func135, Tryd.ntmps135
      go_wp2_with (first | (go_at_call 157; refine (teller_any _ _).mono ?_; rintro e w' ⟨rfl, rfl⟩) | (go_at_call 177; refine ht.mono ?_; rintro e w1 ⟨rfl, hb⟩))
      go_ret
      rw [Hd.out]
      exact ⟨rfl, below16 hb⟩
    · rw [show lst l = 16 by unfold lst; rw [if_neg (by omega), if_pos (by omega)]] at *
      clear hr
      go_enter Tryd.func135, Tryd.ntmps135
      go_wp2_with (first | (go_at_call 157; refine (teller_any _ _).mono ?_; rintro e w' ⟨rfl, rfl⟩) | (go_at_call 177; refine ht.mono ?_; rintro e w1 ⟨rfl, hb⟩))
      go_ret
      rw [Hd.out]
      exact ⟨rfl, below16 hb⟩
    · rw [show lst 16 = 16 by rfl] at *
      clear hr
      go_enter Tryd.func135, Tryd.ntmps135
      go_wp2_with (first | (go_at_call 157; refine (teller_any _ _).mono ?_; rintro e w' ⟨rfl, rfl⟩) | (go_at_call 177; refine ht.mono ?_; rintro e w1 ⟨rfl, hb⟩))
      go_ret
      rw [Hd.out]
      exact ⟨rfl, below16 hb⟩
    · rw [show lst l = l by unfold lst; rw [if_neg (by omega), if_neg (by omega)]] at *
      clear hr
      go_enter Tryd.func135, Tryd.ntmps135
      go_wp2_with (first | (go_at_call 157; refine (teller_any _ _).mono ?_; rintro e w' ⟨rfl, rfl⟩) | (go_at_call 177; refine ht.mono ?_; rintro e w1 ⟨rfl, hb⟩))
      go_ret
      rw [Hd.out]
      exact ⟨rfl, below16 hb⟩
end Go.Proofs.YtcdecnmhogmhaaaDoor
namespace Go.Proofs.YtcdecnmhogmhaaaDoor
open Go.RowKit
def lowI (a b : Int) : Int := if a < b then a else b
def highI (a b : Int) : Int := if b < a then a else b
theorem high_any (a b : Int) (w : World) : Calls Tryd.prog 59 #[.int .i64 a, .int .i64 b] w fun e w' => e = .returned (.int .i64 (highI a b)) ∧ w = w' := by
  by_cases h : b < a
  · have e : (highI a b) = a := if_pos h
    have H := Lib.hid e; clear e
    go_enter Tryd.func59, Tryd.ntmps59
    go_wp2
    go_ret
    rw [H.out]
    exact ⟨rfl, rfl⟩
  · have e : (highI a b) = b := if_neg h
    have H := Lib.hid e; clear e
    go_enter Tryd.func59, Tryd.ntmps59
    go_wp2
    go_ret
    rw [H.out]
    exact ⟨rfl, rfl⟩
/-- A digit's worth for the reference. -/
def worthR (c : Int) : Int := if worth c < 16 then worth c else -1
/-- What Unhex answers. -/
def uhOk (l : List UInt8) : Bool := readOk 16 ⟨l.toArray⟩ && decide (l.length ≤ 15)
def uhR (l : List UInt8) : Int := if uhOk l then wrap64 (readVal 16 ⟨l.toArray⟩) else 0
def uhE (l : List UInt8) : Int := if uhOk l then 0 else 6
def UhPost (l : List UInt8) (w : World) (e : Ending) (w' : World) : Prop := e = .returned (.tuple #[.int .i64 (uhR l), .int .i64 (uhE l)]) ∧ Below w.heap.size w w'
theorem uh_no {l : List UInt8} {w w' : World} (h : uhOk l = false) (hb : Below w.heap.size w w') : UhPost l w (.returned (.tuple #[.int .i64 0, .int .i64 6])) w' := by
  refine ⟨?_, hb⟩; simp [uhR, uhE, h]
theorem uh_yes {l : List UInt8} {w w' : World} (h : uhOk l = true) (hb : Below w.heap.size w w') : UhPost l w (.returned (.tuple #[.int .i64 (wrap64 (readVal 16 ⟨l.toArray⟩)), .int .i64 0])) w' := by
  refine ⟨?_, hb⟩; simp [uhR, uhE, h]
set_option maxHeartbeats 400000 in
theorem unhex_b (l : List UInt8) (w : World) (hs : l.length ≤ 999999) (b : Bool) (hok : readOk 16 ⟨l.toArray⟩ = b) : Calls Tryd.prog 174 #[.string ⟨l.toArray⟩] w (UhPost l w) := by
  have hr : Calls Tryd.prog 194 #[.string (⟨l.toArray⟩ : ByteArray), .pointer (some ⟨w.heap.size, 0, none⟩)] (w.alloc (.cells #[.int .u64 16] 161)) fun e w' => e = .returned (.tuple #[.int .u64 (readVal 16 ⟨l.toArray⟩), .bool b]) ∧ w.alloc (.cells #[.int .u64 16] 161) = w' := by
    rw [← hok]
    exact read_any 16 w.heap.size ⟨l.toArray⟩ _ (by omega) (by omega) (by show l.toArray.size ≤ _; simp; omega) (cell10 w 16)
  have Hok := Lib.hid hok; clear hok
  cases b
  · go_enter Tryd.func174, Tryd.ntmps174
    go_wp2_with (first | (go_at_call 187; refine (reader_any _ _).mono ?_; rintro e w' ⟨rfl, rfl⟩) | (go_at_call 194; refine hr.mono ?_; rintro e w' ⟨rfl, rfl⟩))
    go_ret2
    exact uh_no (by unfold uhOk; rw [Hok.out]; rfl) ((Below.refl w.heap.size w).alloc (Nat.le_refl _) _)
  · by_cases h15 : l.length ≤ 15
    · go_enter Tryd.func174, Tryd.ntmps174
      go_wp2_with (first | (go_at_call 187; refine (reader_any _ _).mono ?_; rintro e w' ⟨rfl, rfl⟩) | (go_at_call 194; refine hr.mono ?_; rintro e w' ⟨rfl, rfl⟩))
      go_ret2
      exact uh_yes (by unfold uhOk; rw [Hok.out, decide_eq_true h15]; rfl) ((Below.refl w.heap.size w).alloc (Nat.le_refl _) _)
    · go_enter Tryd.func174, Tryd.ntmps174
      go_wp2_with (first | (go_at_call 187; refine (reader_any _ _).mono ?_; rintro e w' ⟨rfl, rfl⟩) | (go_at_call 194; refine hr.mono ?_; rintro e w' ⟨rfl, rfl⟩))
      go_ret2
      exact uh_no (by unfold uhOk; rw [Hok.out, decide_eq_false h15]; rfl) ((Below.refl w.heap.size w).alloc (Nat.le_refl _) _)
theorem unhex_any (l : List UInt8) (w : World) (hs : l.length ≤ 999999) : Calls Tryd.prog 174 #[.string ⟨l.toArray⟩] w (UhPost l w) := unhex_b l w hs _ rfl
/-- The reference's number of hex digits. -/
def unhexR (l : List UInt8) : Int := if l.length = 0 ∨ 15 < l.length ∨ digs 16 l = false then -1 else dv 16 l
theorem worthR_bad {b : Nat} {s : ByteArray} {k : Nat} (hk : k < s.size) (h : worthR (s[k].toNat : Int) < 0) : digs 16 s.data.toList = false := by
  apply digs_bad hk
  intro h2
  have := worth_nonneg (s[k].toNat : Int)
  unfold worthR at h
  have h3 : worth (s[k].toNat : Int) < 16 := h2
  rw [if_pos h3] at h; omega
theorem worthR_good {c : Int} (h : 0 ≤ worthR c) : worthR c = worth c ∧ 0 ≤ worth c ∧ worth c < 16 := by
  unfold worthR at *
  have := worth_nonneg c
  by_cases h2 : worth c < 16
  · rw [if_pos h2]; exact ⟨rfl, this, h2⟩
  · rw [if_neg h2] at h; omega
theorem pow16 (k : Nat) (h : k ≤ 15) : (16 : Int) ^ k ≤ 1152921504606846976 := by
  have h1 : (16 : Nat) ^ k ≤ 16 ^ 15 := Nat.pow_le_pow_right (by omega) h
  have h2 : ((16 ^ k : Nat) : Int) = (16 : Int) ^ k := by simp
  rw [← h2]
  have : (16 : Nat) ^ 15 = 1152921504606846976 := by decide
  omega
theorem pow16' (x : Int) (n : Nat) {k : Nat} (h : n ≤ k) (hx : x < ((16 : Nat) : Int) ^ n) : k < 15 → x ≤ 72057594037927936 := by
  intro hk
  have h1 : (16 : Nat) ^ n ≤ 16 ^ 14 := Nat.pow_le_pow_right (by omega) (by omega)
  have h2 : ((16 ^ n : Nat) : Int) = ((16 : Nat) : Int) ^ n := by simp
  rw [← h2] at hx
  have : (16 : Nat) ^ 14 = 72057594037927936 := by decide
  omega
end Go.Proofs.YtcdecnmhogmhaaaDoor
namespace Go.Proofs.YtcdecnmhogmhaaaDoor
open Go.RowKit
theorem tell16_one (n : Nat) (h : n < 16) : tell 16 20 n 1 = [dg n] := by
  have e1 : tell 16 20 n 1 = tell 16 19 (n / 16) 0 ++ [dg (n % 16)] := by rw [tell, if_neg (by omega)]
  rw [e1, Nat.div_eq_of_lt h, Nat.mod_eq_of_lt h]; rfl
/-- The reference's hex digits, at least l (below 1 is 1). -/
def hexN (n : Int) (l : Int) : List UInt8 := tell 16 20 n.toNat (max l 1).toNat
theorem hexN_base (n l : Int) (h0 : 0 ≤ n) (h : n < 16) (hl : l ≤ 1) : hexN n l = [dg n.toNat] := by
  unfold hexN; rw [show (max l 1).toNat = 1 by omega, tell16_one _ (by omega)]
theorem hexN_step (n l : Int) (h0 : 0 ≤ n) (hn : n ≤ 9223372036854775807) (h : ¬ (n < 16 ∧ l ≤ 1)) (hl : l ≤ 16) : hexN n l = hexN (n / 16) (l - 1) ++ [dg (n % 16).toNat] := by
  have e2 : (n % 16).toNat = n.toNat % 16 := by omega
  have e3 : (n / 16).toNat = n.toNat / 16 := by omega
  unfold hexN
  have e1 : tell 16 20 n.toNat (max l 1).toNat = tell 16 19 (n.toNat / 16) ((max l 1).toNat - 1) ++ [dg (n.toNat % 16)] := by rw [tell, if_neg (by omega)]
  rw [e1, e2, e3]
  congr 1
  have hf := tell_fuel 16 (by omega) 19 (n.toNat / 16) ((max l 1).toNat - 1) (by omega) (by omega)
  rw [← hf]
  rcases (show 2 ≤ l ∨ l ≤ 1 by omega) with h2 | h2
  · rw [show (max (l - 1) 1).toNat = (max l 1).toNat - 1 by omega]
  · rw [show (max (l - 1) 1).toNat = 1 by omega, show (max l 1).toNat - 1 = 0 by omega, tell_least 16 20 _ (by omega)]
theorem hexN_len (n l : Int) : (hexN n l).length ≤ 20 := tell_len 16 20 _ _
set_option maxHeartbeats 400000 in
theorem hex_ref (k : Nat) : ∀ (n l : Int) (w : World), 0 ≤ n → n ≤ 9223372036854775807 → n.toNat < 16 ^ k → l ≤ k → l ≤ 16 → (k : Int) - 1000 ≤ l →
    Calls Tryd.prog 107 #[.int .i64 n, .int .i64 l] w fun e w' => e = .returned (.string ⟨(hexN n l).toArray⟩) ∧ w = w' := by
  induction k with
  | zero => 
    intro n l w h0 h1 hk hl hl2 hl3
    obtain rfl : n = 0 := by simp at hk; omega
    have Hd : Hid (hexN 0 l = [dg 0]) := Lib.hid (hexN_base 0 l (by omega) (by omega) (by omega))
    have : l ≤ 1 := by omega
    clear hk
    go_enter Tryd.func107, Tryd.ntmps107
    go_wp2_with (go_at_call 146; refine (digit_ref _ _ (by omega) (by omega)).mono ?_; rintro e w' ⟨rfl, rfl⟩)
    go_ret
    rw [Hd.out]
    exact ⟨rfl, rfl⟩
  | succ k ih => 
    intro n l w h0 h1 hk hl hl2 hl3
    by_cases hb : n < 16 ∧ l ≤ 1
    · obtain ⟨hb1, hb2⟩ := hb
      have Hd : Hid (hexN n l = [dg n.toNat]) := Lib.hid (hexN_base n l (by omega) (by omega) (by omega))
      clear hk ih
      go_enter Tryd.func107, Tryd.ntmps107
      go_wp2_with (go_at_call 146; refine (digit_ref _ _ (by omega) (by omega)).mono ?_; rintro e w' ⟨rfl, rfl⟩)
      go_ret
      rw [Hd.out]
      exact ⟨rfl, rfl⟩
    · have Hd : Hid (hexN n l = hexN (n / 16) (l - 1) ++ [dg (n % 16).toNat]) := Lib.hid (hexN_step n l h0 h1 hb hl2)
      have hln := hexN_len (n / 16) (l - 1)
      have hk2 : (n / 16).toNat < 16 ^ k := by
        have := pow_step 16 k n.toNat (by omega) hk
        rw [show (n / 16).toNat = n.toNat / 16 by omega]; exact this
      have Ih : Hid (∀ w : World, Calls Tryd.prog 107 #[.int .i64 (n / 16), .int .i64 (l - 1)] w fun e w' => e = .returned (.string ⟨(hexN (n / 16) (l - 1)).toArray⟩) ∧ w = w') :=
        Lib.hid fun w => ih (n / 16) (l - 1) w (by omega) (by omega) hk2 (by omega) (by omega) (by omega)
      clear hk ih hk2
      rcases (show 16 ≤ n ∨ (n < 16 ∧ 1 < l) by omega) with a | ⟨a, b⟩
      · go_enter Tryd.func107, Tryd.ntmps107
        go_wp2_with (first | (go_at_call 107; refine (Ih.out _).mono ?_; rintro e w' ⟨rfl, rfl⟩) | (go_at_call 146; refine (digit_ref _ _ (by omega) (by omega)).mono ?_; rintro e w' ⟨rfl, rfl⟩))
        go_ret
        rw [Hd.out]
        exact ⟨congrArg (fun x => Ending.returned (.string x)) (ba_app _ _), rfl⟩
      · go_enter Tryd.func107, Tryd.ntmps107
        go_wp2_with (first | (go_at_call 107; refine (Ih.out _).mono ?_; rintro e w' ⟨rfl, rfl⟩) | (go_at_call 146; refine (digit_ref _ _ (by omega) (by omega)).mono ?_; rintro e w' ⟨rfl, rfl⟩))
        go_ret
        rw [Hd.out]
        exact ⟨congrArg (fun x => Ending.returned (.string x)) (ba_app _ _), rfl⟩
end Go.Proofs.YtcdecnmhogmhaaaDoor
set_option linter.unusedVariables false
set_option linter.unusedSimpArgs false
namespace Go.Proofs.YtcdecnmhogmhaaaDoor
open Go.RowKit
/-- Hex digits, at least so many. -/
def hexL (n l : Int) : List UInt8 := tell 16 20 n.toNat l.toNat
theorem hex_size (n l : Int) : (⟨(hexL n l).toArray⟩ : ByteArray).size ≤ 20 := by
  have := tell_len 16 20 n.toNat l.toNat
  simpa [hexL, ByteArray.size] using this
theorem hexS_L (n l : Int) (h : 0 ≤ n) (h1 : 1 ≤ l) (h2 : l ≤ 16) : hexS n l = hexL n l := by
  unfold hexS hexL; rw [if_neg (by omega)]
  have : lst l = l := by unfold lst; omega
  rw [this]
theorem hexN_L (n l : Int) (h1 : 1 ≤ l) : hexN n l = hexL n l := by
  unfold hexN hexL; rw [show max l 1 = l by omega]
/-- A value's shown text. -/
def shT (v : Int) : ByteArray :=
  if cls v = 0 then ⟨#[]⟩ else if cls v ≤ 3 then txt (oneI v) else if cls v = 4 then ⟨#[94]⟩ ++ txt [v + 64] else if cls v = 5 then ⟨#[94, 63]⟩
  else if cls v = 12 then ⟨#[92, 120]⟩ ++ ⟨(hexL (v - 1114112) 2).toArray⟩ else ⟨#[60, 85, 43]⟩ ++ ⟨(hexL v 4).toArray⟩ ++ ⟨#[62]⟩
theorem told_rng (v : Int) : told v ≠ 0 ∧ told v ≠ 4 ∧ told v ≠ 5 ∧ told v ≠ 12 ∧ told v ≠ 6 := by
  unfold told
  split
  · rename_i j hj
    have hlt := (find_some_lt hj).1
    have key : ∀ j : Fin 53, rng.getD (3 * j.val) 0 ≠ 0 ∧ rng.getD (3 * j.val) 0 ≠ 4 ∧ rng.getD (3 * j.val) 0 ≠ 5 ∧ rng.getD (3 * j.val) 0 ≠ 12 ∧ rng.getD (3 * j.val) 0 ≠ 6 := by decide +kernel
    exact key ⟨j, hlt⟩
  · split <;> omega
/-- What a class tells of its values. -/
theorem cls_what (v : Int) : (cls v = 0 ∧ rght v = false) ∨ (rght v = true ∧ ((cls v = 12 ∧ 1114240 ≤ v ∧ v ≤ 1114367) ∨ (cls v = 4 ∧ 0 ≤ v ∧ v < 32) ∨ (cls v = 5 ∧ v = 127) ∨ (cls v = 6 ∧ 128 ≤ v ∧ v < 160) ∨ (1 ≤ cls v ∧ cls v ≤ 11 ∧ cls v ≠ 4 ∧ cls v ≠ 5 ∧ cls v ≠ 6 ∧ 32 ≤ v ∧ v ≤ 1114111 ∧ (v < 55296 ∨ 57343 < v) ∧ v ≠ 127 ∧ (v < 128 ∨ 160 ≤ v)))) := by
  have h1 := pnt_cases v
  have h2 := stry_cases v
  have ht := told_rng v
  have hr := cls_rng v
  have e : cls v = if rght v = false then 0 else if 1114112 ≤ v then 12 else if v < 32 then 4 else if v = 127 then 5 else if 128 ≤ v ∧ v < 160 then 6 else if v < 160 then 1 else told v := rfl
  have hrr : rght v = (pnt v || stry v) := rfl
  cases hg : rght v
  · left; rw [hg, if_pos rfl] at e; exact ⟨e, rfl⟩
  · right
    refine ⟨rfl, ?_⟩
    rw [hg, if_neg (by simp)] at e
    rw [hg] at hrr
    by_cases c1 : 1114112 ≤ v
    · rw [if_pos c1] at e
      left
      rcases h1 with ⟨a, b⟩ | ⟨a, b⟩
      · omega
      · rcases h2 with ⟨a2, b2, b3⟩ | ⟨a2, b2⟩
        · exact ⟨e, b2, b3⟩
        · rw [a, a2] at hrr; simp at hrr
    · rw [if_neg c1] at e
      have hv : 0 ≤ v ∧ v < 55296 ∨ 57343 < v ∧ v ≤ 1114111 := by
        rcases h1 with ⟨a, b⟩ | ⟨a, b⟩
        · exact b
        · rcases h2 with ⟨a2, b2, b3⟩ | ⟨a2, b2⟩
          · omega
          · rw [a, a2] at hrr; simp at hrr
      by_cases c2 : v < 32
      · rw [if_pos c2] at e; right; left; exact ⟨e, by omega, c2⟩
      rw [if_neg c2] at e
      by_cases c3 : v = 127
      · rw [if_pos c3] at e; right; right; left; exact ⟨e, c3⟩
      rw [if_neg c3] at e
      by_cases c4 : 128 ≤ v ∧ v < 160
      · rw [if_pos c4] at e; right; right; right; left; exact ⟨e, c4.1, c4.2⟩
      rw [if_neg c4] at e
      right; right; right; right
      by_cases c5 : v < 160
      · rw [if_pos c5] at e; rw [e]; omega
      rw [if_neg c5] at e; rw [e] at hr ⊢; omega
/-- The cases of a shown text. -/
theorem sh_cases (v : Int) : (cls v = 0 ∧ shT v = ⟨#[]⟩) ∨ ((cls v = 1 ∨ cls v = 2 ∨ cls v = 3) ∧ 32 ≤ v ∧ v ≤ 1114111 ∧ (v < 55296 ∨ 57343 < v) ∧ shT v = txt (oneI v)) ∨ (cls v = 4 ∧ 0 ≤ v ∧ v < 32 ∧ shT v = ⟨#[94]⟩ ++ txt [v + 64]) ∨
    (cls v = 5 ∧ shT v = ⟨#[94, 63]⟩) ∨ (cls v = 12 ∧ 1114240 ≤ v ∧ v ≤ 1114367 ∧ shT v = ⟨#[92, 120]⟩ ++ ⟨(hexL (v - 1114112) 2).toArray⟩) ∨
    (6 ≤ cls v ∧ cls v ≤ 11 ∧ 128 ≤ v ∧ v ≤ 1114111 ∧ (v < 55296 ∨ 57343 < v) ∧ shT v = ⟨#[60, 85, 43]⟩ ++ ⟨(hexL v 4).toArray⟩ ++ ⟨#[62]⟩) := by
  have e : shT v = if cls v = 0 then ⟨#[]⟩ else if cls v ≤ 3 then txt (oneI v) else if cls v = 4 then ⟨#[94]⟩ ++ txt [v + 64] else if cls v = 5 then ⟨#[94, 63]⟩
    else if cls v = 12 then ⟨#[92, 120]⟩ ++ ⟨(hexL (v - 1114112) 2).toArray⟩ else ⟨#[60, 85, 43]⟩ ++ ⟨(hexL v 4).toArray⟩ ++ ⟨#[62]⟩ := rfl
  have hlow : v < 128 → 7 ≤ cls v → cls v ≤ 11 → False := fun h h2 h3 => by
    have key : ∀ i : Fin 128, ¬ (7 ≤ cls (i.val : Int) ∧ cls (i.val : Int) ≤ 11) := by decide +kernel
    rcases cls_what v with ⟨h0, _⟩ | ⟨_, ⟨h0, h4, h5⟩ | ⟨h0, _⟩ | ⟨h0, _⟩ | ⟨h0, _⟩ | ⟨_, _, _, _, _, h6, _⟩⟩ <;> try omega
    have := key ⟨v.toNat, by omega⟩
    simp only [] at this
    rw [show ((v.toNat : Nat) : Int) = v by omega] at this
    exact this ⟨h2, h3⟩
  rcases cls_what v with ⟨h0, _⟩ | ⟨_, ⟨h0, h4, h5⟩ | ⟨h0, h4, h5⟩ | ⟨h0, h4⟩ | ⟨h0, h4, h5⟩ | ⟨h1, h2, h3, h4, h5, h6, h7, h8, h9, h10⟩⟩
  · left; exact ⟨h0, by rw [e, if_pos h0]⟩
  · right; right; right; right; left; exact ⟨h0, h4, h5, by rw [e, h0, if_neg (by omega), if_neg (by omega), if_neg (by omega), if_neg (by omega), if_pos rfl]⟩
  · right; right; left; exact ⟨h0, h4, h5, by rw [e, h0, if_neg (by omega), if_neg (by omega), if_pos rfl]⟩
  · right; right; right; left; exact ⟨h0, by rw [e, h0, if_neg (by omega), if_neg (by omega), if_neg (by omega), if_pos rfl]⟩
  · right; right; right; right; right
    exact ⟨by omega, by omega, by omega, by omega, by omega, by rw [e, h0, if_neg (by omega), if_neg (by omega), if_neg (by omega), if_neg (by omega), if_neg (by omega)]⟩
  · by_cases c : cls v ≤ 3
    · right; left; exact ⟨by omega, h6, h7, h8, by rw [e, if_neg (by omega), if_pos c]⟩
    · right; right; right; right; right
      refine ⟨by omega, by omega, ?_, by omega, by omega, by rw [e, if_neg (by omega), if_neg c, if_neg h3, if_neg h4, if_neg (by omega)]⟩
      rcases Int.lt_or_le v 128 with hh | hh
      · exact (hlow hh (by omega) h2).elim
      · exact hh
theorem one_enc {v : Int} (h : 32 ≤ v) (h1 : v ≤ 1114111) (h2 : v < 55296 ∨ 57343 < v) : encS [v] = txt (oneI v) := by simp [encS, encI]
theorem ctl_enc {v : Int} (h : 0 ≤ v) (h1 : v < 32) : encS [v + 64] = txt [v + 64] := by
  have hp : ptB (v + 64) = true := (ptB_iff _).2 (by omega)
  simp [encS, encI, oneI_pt hp]
  rw [Lib.encodeRuneZ_one (by omega) (by omega)]
theorem row_one (w : World) (v : Int) : Row (w.alloc (.cells #[.int .i64 v] 3)) (some ⟨w.heap.size, 0, none⟩) [v] := fun j hj => by
  obtain rfl : j = 0 := by simp at hj; omega
  exact ⟨w.heap.size, 0, rfl, by rw [World.cell?_alloc_new]; rfl, by simp⟩
set_option maxHeartbeats 4000000 in
theorem shtext_any (v : Int) (w : World) (hT : Tabs w) : Calls Tryd.prog 151 #[.int .i64 v] w fun e w' => e = .returned (.string (shT v)) ∧ Below w.heap.size w w' := by
  have O := fun w hT => of_any v w hT
  have E := fun x w => encode_any [x] (some ⟨w.heap.size, 0, none⟩) 1 (w.alloc (.cells #[.int .i64 x] 3)) (by simp) (row_one w x)
  have hc := sh_cases v
  generalize cls v = c at *
  have HT := Lib.hid hT; clear hT
  replace O := Lib.hid O
  rcases hc with ⟨h0, hs⟩ | ⟨h0, h1, h2, h3, hs⟩ | ⟨h0, h1, h2, hs⟩ | ⟨h0, hs⟩ | ⟨h0, h1, h2, hs⟩ | ⟨h0, h00, h1, h2, h3, hs⟩
  · subst h0
    have Hs := Lib.hid hs; clear hs E
    go_enter Tryd.func151, Tryd.ntmps151
    go_wp2_with (go_at_call 117; refine (O.out _ HT.out).mono ?_; rintro e w1 ⟨rfl, hb1⟩)
    go_ret
    rw [Hs.out]; exact ⟨rfl, hb1⟩
  · have he := one_enc h1 h2 h3
    have E1 := fun w => E v w
    rw [he] at E1
    have Hs := Lib.hid hs
    replace E1 := Lib.hid E1
    clear hs E he
    rcases h0 with rfl | rfl | rfl
    all_goals
      go_enter Tryd.func151, Tryd.ntmps151
      go_wp2_with (first
        | (go_at_call 117; refine (O.out _ HT.out).mono ?_; rintro e w1 ⟨rfl, hb1⟩)
        | (go_at_call 104; refine (E1.out _).mono ?_; rintro e w2 ⟨rfl, hb2⟩))
      go_ret
      rw [Hs.out]; exact ⟨rfl, seqB hb1 (seqB (below_alloc _ _) hb2)⟩
  · subst h0
    have he := ctl_enc h1 h2
    have E1 := fun w => E (v + 64) w
    rw [he] at E1
    have Hs := Lib.hid hs
    have hsz : (txt [v + 64]).size ≤ 4 := by simp [txt, ByteArray.size]
    generalize txt [v + 64] = u at *
    replace E1 := Lib.hid E1
    clear hs E he
    go_enter Tryd.func151, Tryd.ntmps151
    go_wp2_with (first
      | (go_at_call 117; refine (O.out _ HT.out).mono ?_; rintro e w1 ⟨rfl, hb1⟩)
      | (go_at_call 104; refine (E1.out _).mono ?_; rintro e w2 ⟨rfl, hb2⟩))
    go_ret
    rw [Hs.out]; exact ⟨rfl, seqB hb1 (seqB (below_alloc _ _) hb2)⟩
  · subst h0
    have Hs := Lib.hid hs; clear hs E
    go_enter Tryd.func151, Tryd.ntmps151
    go_wp2_with (go_at_call 117; refine (O.out _ HT.out).mono ?_; rintro e w1 ⟨rfl, hb1⟩)
    go_ret
    rw [Hs.out]; exact ⟨rfl, hb1⟩
  · subst h0
    have Hx := fun w => hex_any (v - 1114112) 2 w (by omega) (by omega)
    rw [hexS_L _ _ (by omega) (by omega) (by omega)] at Hx
    have Hs := Lib.hid hs
    have hsz : (⟨(hexL (v - 1114112) 2).toArray⟩ : ByteArray).size ≤ 20 := hex_size _ _
    generalize (⟨(hexL (v - 1114112) 2).toArray⟩ : ByteArray) = u at *
    replace Hx := Lib.hid Hx
    clear hs E
    go_enter Tryd.func151, Tryd.ntmps151
    go_wp2_with (first
      | (go_at_call 117; refine (O.out _ HT.out).mono ?_; rintro e w1 ⟨rfl, hb1⟩)
      | (go_at_call 135; refine (Hx.out _).mono ?_; rintro e w2 ⟨rfl, hb2⟩))
    go_ret
    rw [Hs.out]; exact ⟨rfl, seqB hb1 hb2⟩
  · have Hx := fun w => hex_any v 4 w (by omega) (by omega)
    rw [hexS_L _ _ (by omega) (by omega) (by omega)] at Hx
    have Hs := Lib.hid hs
    have hsz : (⟨(hexL v 4).toArray⟩ : ByteArray).size ≤ 20 := hex_size _ _
    generalize (⟨(hexL v 4).toArray⟩ : ByteArray) = u at *
    replace Hx := Lib.hid Hx
    have b0 : (c == 0) = false := by rw [beq_eq_false_iff_ne]; omega
    have b1 : (c == 1) = false := by rw [beq_eq_false_iff_ne]; omega
    have b2 : (c == 2) = false := by rw [beq_eq_false_iff_ne]; omega
    have b3 : (c == 3) = false := by rw [beq_eq_false_iff_ne]; omega
    have b4 : (c == 4) = false := by rw [beq_eq_false_iff_ne]; omega
    have b5 : (c == 5) = false := by rw [beq_eq_false_iff_ne]; omega
    have b12 : (c == 12) = false := by rw [beq_eq_false_iff_ne]; omega
    clear hs E
    go_enter Tryd.func151, Tryd.ntmps151
    go_wp2_with (first
      | (go_at_call 117; refine (O.out _ HT.out).mono ?_; rintro e w1 ⟨rfl, hb1⟩)
      | (go_at_call 135; refine (Hx.out _).mono ?_; rintro e w2 ⟨rfl, hb2⟩))
    go_ret
    rw [Hs.out]; exact ⟨rfl, seqB hb1 hb2⟩
end Go.Proofs.YtcdecnmhogmhaaaDoor
set_option linter.unusedVariables false
set_option linter.unusedSimpArgs false
namespace Go.Proofs.YtcdecnmhogmhaaaDoor
open Go.RowKit
theorem hx16 {n : Int} (h : n ≤ 2000000) : n.toNat < 16 ^ 16 := Nat.lt_of_le_of_lt (show n.toNat ≤ 2000000 by omega) (by decide)
theorem right_cls {v : Int} (h1 : 32 ≤ v) (h2 : v ≤ 1114111) (h3 : v < 55296 ∨ 57343 < v) : rightB v = true := by
  unfold rightB; rw [Bool.or_eq_true]; left; rw [ptB_iff]; omega
set_option maxHeartbeats 4000000 in
theorem shtext_ref (v : Int) (w : World) : Calls Tryd.prog 120 #[.int .i64 v] w fun e w' => e = .returned (.string (shT v)) ∧ Below w.heap.size w w' := by
  have O := fun w => of_ref v w
  rw [← cls_eq] at O
  have hc := sh_cases v
  generalize cls v = c at *
  replace O := Lib.hid O
  rcases hc with ⟨h0, hs⟩ | ⟨h0, h1, h2, h3, hs⟩ | ⟨h0, h1, h2, hs⟩ | ⟨h0, hs⟩ | ⟨h0, h1, h2, hs⟩ | ⟨h0, h00, h1, h2, h3, hs⟩
  · subst h0
    have Hs := Lib.hid hs; clear hs
    go_enter Tryd.func120, Tryd.ntmps120
    go_wp2_with (go_at_call 42; refine (O.out _).mono ?_; rintro e w1 ⟨rfl, hb1⟩)
    go_ret
    rw [Hs.out]; exact ⟨rfl, hb1⟩
  · have B := Lib.hid fun w => bytes_ref v w (right_cls h1 h2 h3)
    have Hs := Lib.hid hs
    clear hs
    rcases h0 with rfl | rfl | rfl
    all_goals
      go_enter Tryd.func120, Tryd.ntmps120
      go_wp2_with (first
        | (go_at_call 42; refine (O.out _).mono ?_; rintro e w1 ⟨rfl, hb1⟩)
        | (go_at_call 108; refine (B.out _).mono ?_; rintro e w2 ⟨rfl, hb2⟩))
      go_ret
      rw [Hs.out]; exact ⟨rfl, seqB hb1 hb2⟩
  · subst h0
    have Hs := Lib.hid hs
    have hcv : ∀ (w : World) dst, Tryd.prog.underlying dst = some .string → (convert 108 dst (.slice (some ⟨w.heap.size, 0, none⟩) 1 1)).run Tryd.prog (w.alloc (Obj.cells #[.int .u8 (v + 64)] 5)) = .ok (.string (txt [v + 64])) (w.alloc (Obj.cells #[.int .u8 (v + 64)] 5)) := fun w => conv_new w [v + 64] 1 rfl
    have hsz : (txt [v + 64]).size ≤ 4 := by simp [txt, ByteArray.size]
    generalize txt [v + 64] = u at *
    clear hs
    go_enter Tryd.func120, Tryd.ntmps120
    go_wp2_with (go_at_call 42; refine (O.out _).mono ?_; rintro e w1 ⟨rfl, hb1⟩)
    go_ret
    rw [Hs.out]; exact ⟨rfl, seqB hb1 (below_alloc _ _)⟩
  · subst h0
    have Hs := Lib.hid hs; clear hs
    go_enter Tryd.func120, Tryd.ntmps120
    go_wp2_with (go_at_call 42; refine (O.out _).mono ?_; rintro e w1 ⟨rfl, hb1⟩)
    go_ret
    rw [Hs.out]; exact ⟨rfl, hb1⟩
  · subst h0
    have Hx := fun w => hex_ref 16 (v - 1114112) 2 w (by omega) (by omega) (hx16 (by omega)) (by omega) (by omega) (by omega)
    rw [hexN_L _ _ (by omega)] at Hx
    have Hs := Lib.hid hs
    have hsz : (⟨(hexL (v - 1114112) 2).toArray⟩ : ByteArray).size ≤ 20 := hex_size _ _
    generalize (⟨(hexL (v - 1114112) 2).toArray⟩ : ByteArray) = u at *
    replace Hx := Lib.hid Hx
    clear hs
    go_enter Tryd.func120, Tryd.ntmps120
    go_wp2_with (first
      | (go_at_call 42; refine (O.out _).mono ?_; rintro e w1 ⟨rfl, hb1⟩)
      | (go_at_call 107; refine (Hx.out _).mono ?_; rintro e w2 ⟨rfl, rfl⟩))
    go_ret
    rw [Hs.out]; exact ⟨rfl, hb1⟩
  · have Hx := fun w => hex_ref 16 v 4 w (by omega) (by omega) (hx16 (by omega)) (by omega) (by omega) (by omega)
    rw [hexN_L _ _ (by omega)] at Hx
    have Hs := Lib.hid hs
    have hsz : (⟨(hexL v 4).toArray⟩ : ByteArray).size ≤ 20 := hex_size _ _
    generalize (⟨(hexL v 4).toArray⟩ : ByteArray) = u at *
    replace Hx := Lib.hid Hx
    have b0 : (c == 0) = false := by rw [beq_eq_false_iff_ne]; omega
    have b4 : (c == 4) = false := by rw [beq_eq_false_iff_ne]; omega
    have b5 : (c == 5) = false := by rw [beq_eq_false_iff_ne]; omega
    have b12 : (c == 12) = false := by rw [beq_eq_false_iff_ne]; omega
    clear hs
    go_enter Tryd.func120, Tryd.ntmps120
    go_wp2_with (first
      | (go_at_call 42; refine (O.out _).mono ?_; rintro e w1 ⟨rfl, hb1⟩)
      | (go_at_call 107; refine (Hx.out _).mono ?_; rintro e w2 ⟨rfl, rfl⟩))
    go_ret
    rw [Hs.out]; exact ⟨rfl, hb1⟩
/-- A value's columns. -/
def shC (v : Int) : Int := if 3 < cls v then ((shT v).size : Int) else wid v
theorem shC_big {v : Int} (h : 3 < cls v) : shC v = ((shT v).size : Int) := by unfold shC; rw [if_pos h]
theorem shC_small {v : Int} (h : ¬ 3 < cls v) : shC v = wid v := by unfold shC; rw [if_neg h]
theorem shT_size (v : Int) : (shT v).size ≤ 30 := by
  have hh := fun n l => hex_size n l
  rcases sh_cases v with ⟨_, hs⟩ | ⟨_, _, _, _, hs⟩ | ⟨_, _, _, hs⟩ | ⟨_, hs⟩ | ⟨_, _, _, hs⟩ | ⟨_, _, _, _, _, hs⟩
  · rw [hs]; decide
  · rw [hs, txt_size]; have := oneI_len v; omega
  · rw [hs, ByteArray.size_append, txt_size]; show 1 + 1 ≤ 30; omega
  · rw [hs]; decide
  · rw [hs, ByteArray.size_append]; have := hh (v - 1114112) 2; show 2 + _ ≤ 30; omega
  · rw [hs, ByteArray.size_append, ByteArray.size_append]; have := hh v 4; show 3 + _ + 1 ≤ 30; omega
/-- A sign's looks. -/
def lkI (v l : Int) : Int := (if 3 < cls v then 1 else 0) + (if l = 2 ∨ l = 3 ∨ l = 4 then 2 else 0) + (if cls v = 3 then 4 else 0)
theorem lk_rng (v l : Int) : 0 ≤ lkI v l ∧ lkI v l ≤ 7 := by unfold lkI; repeat' split
                                                             all_goals omega
set_option maxHeartbeats 4000000 in
theorem looks_any (v l : Int) (w : World) (hT : Tabs w) : Calls Tryd.prog 148 #[.agg #[.int .i64 v, .int .i64 l]] w fun e w' => e = .returned (.int .i64 (lkI v l)) ∧ Below w.heap.size w w' := by
  have D := fun w hT => danger_any v w hT
  have O := fun w hT => of_any v w hT
  have hd : dng v = decide (3 < cls v) := rfl
  rw [hd] at D
  have hk : lkI v l = (if 3 < cls v then 1 else 0) + (if l = 2 ∨ l = 3 ∨ l = 4 then 2 else 0) + (if cls v = 3 then 4 else 0) := rfl
  have HT := Lib.hid (hT.below (below_alloc w (.cells #[.int .i64 v, .int .i64 l] 53)))
  have hb0 := below_alloc w (.cells #[.int .i64 v, .int .i64 l] 53)
  clear hT hd
  generalize cls v = c at *
  have hc : (3 < c) ∨ c = 3 ∨ (c < 3) := by omega
  have hl : l = 2 ∨ l = 3 ∨ l = 4 ∨ (l ≠ 2 ∧ l ≠ 3 ∧ l ≠ 4) := by omega
  rcases hc with hc | hc | hc
  all_goals
    first
      | (have e3 : (c == 3) = false := by rw [beq_eq_false_iff_ne]; omega
         first | rw [decide_eq_true hc] at D | rw [decide_eq_false (by omega)] at D)
      | (subst hc
         have e3 : True := trivial
         rw [decide_eq_false (by omega)] at D)
    replace D := Lib.hid D; replace O := Lib.hid O
    rcases hl with hl | hl | hl | ⟨n2, n3, n4⟩
    all_goals
      first
        | (subst hl
           have l2 : True := trivial; have l3 : True := trivial; have l4 : True := trivial)
        | (have l2 : (l == 2) = false := by rw [beq_eq_false_iff_ne]; exact n2
           have l3 : (l == 3) = false := by rw [beq_eq_false_iff_ne]; exact n3
           have l4 : (l == 4) = false := by rw [beq_eq_false_iff_ne]; exact n4)
      have Hk := Lib.hid hk
      clear hk
      go_enter Tryd.func148, Tryd.ntmps148
      go_wp2_with (first
        | (go_at_call 150; refine (D.out _ HT.out).mono ?_; rintro e w1 ⟨rfl, hb1⟩; have T1 := Lib.hid (HT.out.below hb1); have cc1 := (hb1.cell (p := ⟨w.heap.size, 0, none⟩) (by simp)).trans (World.cell?_alloc_new w (#[.int .i64 v, .int .i64 _]) 53 0); have cc2 := (hb1.cell (p := ⟨w.heap.size, 1, none⟩) (by simp)).trans (World.cell?_alloc_new w (#[.int .i64 v, .int .i64 _]) 53 1))
        | (go_at_call 117; refine (O.out _ T1.out).mono ?_; rintro e w2 ⟨rfl, hb2⟩))
      go_ret
      rw [Hk.out]
      refine ⟨retI ?_, seqB hb0 (seqB hb1 hb2)⟩
      clear HT T1 D O hb0 hb1 hb2
      (repeat' split) <;> first | omega | simp_all
end Go.Proofs.YtcdecnmhogmhaaaDoor
set_option linter.unusedVariables false
set_option linter.unusedSimpArgs false
namespace Go.Proofs.YtcdecnmhogmhaaaDoor
open Go.RowKit
theorem grownB {w w' : World} (h : Below w.heap.size w w') : w.grownBy w' none := ⟨h.os, h.tape, h.output, h.size, fun k hk _ => h.block k hk⟩
theorem ownB {w w' : World} {base : Nat} {e : TypeId} {size : Nat} {v : Value} {n : Nat} {xs : List Value} (h : w.ownsRow base e size v n xs) (hb : Below w.heap.size w w') : w'.ownsRow base e size v n xs :=
  h.kept (grownB hb) (by cases hv : v.ownBlock <;> simp)
theorem cCells_one (L : List Cl) : ∀ u ∈ cCells L, u.oneCell' = true := by
  intro u hu
  simp only [cCells, List.mem_flatMap] at hu
  obtain ⟨p, _, hp⟩ := hu
  simp at hp
  rcases hp with rfl | rfl | rfl | rfl | rfl <;> rfl
/-- A row of ints of the call's own. -/
def ownI (w : World) (B : Nat) (v : Value) (L : List Int) : Prop := w.ownsRow B 3 1 v L.length (L.map (Value.int .i64))
theorem row_of_own {w : World} {B : Nat} {v : Value} {L : List Int} (h : ownI w B v L) : ∃ a c, v = .slice a L.length c ∧ Row w a L := by
  unfold ownI at h
  rcases h.2 with ⟨rfl, h0⟩ | ⟨g, cap, cur, rfl, _, hg, _⟩
  · exact ⟨none, 0, by rw [h0], fun j hj => by omega⟩
  · refine ⟨_, cap, rfl, fun j hj => ⟨g, 0, rfl, ?_, blk_lt hg⟩⟩
    rw [Nat.zero_add, h.cellAt j (by omega), List.getElem?_map, List.getD, List.getElem?_eq_getElem hj]; rfl
end Go.Proofs.YtcdecnmhogmhaaaDoor
