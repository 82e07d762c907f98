/-
  Joined: W2 W3 W4 W5 W6 W7 W8 W9 W10 E1 E2 E3 Ky0 Ky1.
-/
import Derived.Test.YtdifkjmpdmlobaaDoorJM01
import Derived.Test.YtdifkjmpdmlobaaDoorRows
import Derived.Test.YtdifkjmpdmlobaaDoorShelf
import Derived.Lib.OthersKept
import Derived.Handy
import Derived.WalkSpells
import Derived.WalkLawsBesides
import Derived.Laws.BytesArg
set_option maxRecDepth 100000
set_option linter.unusedVariables false
set_option linter.unusedSimpArgs false
namespace Go.Proofs.YtdifkjmpdmlobaaDoor
set_option linter.unusedVariables false
set_option linter.unusedSimpArgs false
open Go.RowKit
/-- What the reader answers. -/
def readOk (b : Nat) (s : ByteArray) : Bool := digs b s.data.toList && !s.toList.isEmpty
def readVal (b : Nat) (s : ByteArray) : Int := if digs b s.data.toList then rdv b s.data.toList else 0
theorem readOk_bad {b : Nat} {s : ByteArray} (h : digs b s.data.toList = false) : readOk b s = false := by simp [readOk, h]
theorem readVal_bad {b : Nat} {s : ByteArray} (h : digs b s.data.toList = false) : readVal b s = 0 := by simp [readVal, h]
theorem readOk_good {b : Nat} {s : ByteArray} (h : digs b s.data.toList = true) : readOk b s = !s.toList.isEmpty := by simp [readOk, h]
theorem readVal_good {b : Nat} {s : ByteArray} (h : digs b s.data.toList = true) : readVal b s = rdv b s.data.toList := by simp [readVal, h]
theorem digs_bad {b : Nat} {s : ByteArray} {k : Nat} (hk : k < s.size) (h : ¬ worth (s[k].toNat : Int) < b) : digs b s.data.toList = false := by
  cases hd : digs b s.data.toList with
  | false => rfl
  | true =>
    exfalso; apply h
    rw [digs, List.all_eq_true] at hd
    have := hd s[k] (by show s.data[k] ∈ _; simp)
    simpa using this
set_option maxHeartbeats 400000 in
theorem read_any (b p : Nat) (s : ByteArray) (w : World) (hb : 2 ≤ b) (hb' : b ≤ 16) (hs : s.size ≤ 1000000) (hc : w.cell? ⟨p, 0, none⟩ = some (.int .u64 (b : Int))) :
    Calls Tryd.prog 148 #[.string s, .pointer (some ⟨p, 0, none⟩)] w fun e w' => e = .returned (.tuple #[.int .u64 (readVal b s), .bool (readOk b s)]) ∧ w = w' := by
  go_enter Tryd.func148, Tryd.ntmps148
  go_wp2
  go_loop [5, 6] (fun n i => ∃ k : Nat, k ≤ s.size ∧ i = .int .i64 k ∧ n = .int .u64 (rdv b (s.data.toList.take k)) ∧ digs b (s.data.toList.take k) = true) (fun _ i => s.size - (intOf i).toNat)
  case atStart => exact ⟨0, Nat.zero_le _, rfl, rfl, rfl⟩
  case round =>
    obtain ⟨k, hk, rfl, rfl, hd⟩ := hrel
    have Hd := Lib.hid hd; clear hd
    by_cases hlt : k < s.size
    · have hts := take_snoc s k hlt
      have hrs := rdv_snoc b (s.data.toList.take k) s[k]
      have hds := digs_snoc b (s.data.toList.take k) s[k]
      have hbad := @digs_bad b s k hlt
      rw [← hts] at hrs hds
      have Hr := Lib.hid hrs; have Hs := Lib.hid hds; have Hb := Lib.hid hbad; clear hts hrs hds hbad
      by_cases hw : worth (s[k].toNat : Int) < b
      · go_wp2_with (go_at_call 149; refine (digit_any _ _ (u8_nn _) (u8_lt _)).mono ?_; rintro e w' ⟨rfl, rfl⟩)
        go_round
        case rel => exact ⟨k + 1, by omega, by go_num, by rw [Hr.out], by rw [Hs.out, Hd.out]; simpa using hw⟩
        case measure => simp [intOf]; omega
      · go_wp2_with (go_at_call 149; refine (digit_any _ _ (u8_nn _) (u8_lt _)).mono ?_; rintro e w' ⟨rfl, rfl⟩)
        go_ret2
        rw [readVal_bad (Hb.out hw), readOk_bad (Hb.out hw)]
        exact ⟨rfl, rfl⟩
    · have hta := take_all s k (by omega)
      have hdt := Hd.out
      rw [hta] at hdt
      have Ht := Lib.hid hta; have Hdt := Lib.hid hdt; clear hta hdt
      go_wp2
      go_ret2
      rw [readVal_good Hdt.out, readOk_good Hdt.out, Ht.out]
      exact ⟨rfl, rfl⟩

/-- A number's digits. -/
def decS (n : Int) : List UInt8 := if n < 0 then 45 :: tell 10 20 n.natAbs 1 else tell 10 20 n.toNat 1
theorem tell_int (b : Nat) (x l : Int) (p : Nat) (w : World) (hb : 2 ≤ b) (hb' : b ≤ 16) (hx0 : 0 ≤ x) (hn : x.toNat < b ^ 20) (hn' : x.toNat < 18446744073709551616) (hl0 : 0 ≤ l) (hl : l ≤ 20) (hp : p < w.heap.size) (hc : w.cell? ⟨p, 0, none⟩ = some (.int .u64 (b : Int))) :
    Calls Tryd.prog 145 #[.int .u64 x, .int .i64 l, .pointer (some ⟨p, 0, none⟩)] w fun e w' => e = .returned (.string ⟨(tell b 20 x.toNat l.toNat).toArray⟩) ∧ Below w.heap.size w w' := by
  have h := tell_any b x.toNat l.toNat p w hb hb' hn hn' (by omega) hp hc
  rw [Int.toNat_of_nonneg hx0, Int.toNat_of_nonneg hl0] at h
  exact h
theorem cell10 (w : World) (b : Int) : (w.alloc (.cells #[.int .u64 b] 201)).cell? ⟨w.heap.size, 0, none⟩ = some (.int .u64 b) := by rw [World.cell?_alloc_new]; rfl
end Go.Proofs.YtdifkjmpdmlobaaDoor
namespace Go.Proofs.YtdifkjmpdmlobaaDoor
open Go.RowKit
theorem ext1 (c : UInt8) (r : List UInt8) : (⟨(c :: r).toArray⟩ : ByteArray).extract 1 (r.length + 1) = ⟨r.toArray⟩ := by
  apply ByteArray.ext
  rw [ByteArray.data_extract]
  apply Array.ext'
  simp
theorem rng_wrap (x : Int) : -9223372036854775808 ≤ wrap64 x ∧ wrap64 x ≤ 9223372036854775807 := by unfold wrap64; omega
/-- What Undec makes of its digits. -/
def undV (l : List UInt8) : Int := if l.head? = some 45 then wrap64 (-wrap64 (readVal 10 ⟨l.tail.toArray⟩)) else wrap64 (readVal 10 ⟨l.toArray⟩)
def undD (l : List UInt8) : Bool := if l.head? = some 45 then readOk 10 ⟨l.tail.toArray⟩ else readOk 10 ⟨l.toArray⟩
def undOk (l : List UInt8) : Bool := undD l && decS (undV l) == l
def undR (l : List UInt8) : Int := if undOk l then undV l else 0
def undE (l : List UInt8) : Int := if undOk l then 0 else 6
theorem und_no {l : List UInt8} (h : undOk l = false) : undR l = 0 ∧ undE l = 6 := by simp [undR, undE, h]
theorem und_yes {l : List UInt8} (h : undOk l = true) : undR l = undV l ∧ undE l = 0 := by simp [undR, undE, h]
/-- The post. -/
def UndPost (l : List UInt8) (w : World) (e : Ending) (w' : World) : Prop := e = .returned (.tuple #[.int .i64 (undR l), .int .i64 (undE l)]) ∧ Below w.heap.size w w'
theorem post_no {l : List UInt8} {w w' : World} (h : undOk l = false) (hb : Below w.heap.size w w') : UndPost l w (.returned (.tuple #[.int .i64 0, .int .i64 6])) w' := by
  refine ⟨?_, hb⟩; rw [(und_no h).1, (und_no h).2]
theorem post_yes {l : List UInt8} {w w' : World} (h : undOk l = true) (hb : Below w.heap.size w w') : UndPost l w (.returned (.tuple #[.int .i64 (undV l), .int .i64 0])) w' := by
  refine ⟨?_, hb⟩; rw [(und_yes h).1, (und_yes h).2]
theorem below1 {w w2 : World} (hb : Below (w.alloc (.cells #[.int .u64 10] 201)).heap.size (w.alloc (.cells #[.int .u64 10] 201)) w2) : Below w.heap.size w w2 :=
  ((Below.refl w.heap.size w).alloc (Nat.le_refl _) _).trans (hb.mono (by simp))
theorem readOk_nil : readOk 10 ⟨#[]⟩ = false := by simp [readOk, ByteArray.toList_eq]
theorem undOk_nil : undOk [] = false := by simp [undOk, undD, readOk, ByteArray.toList_eq]
end Go.Proofs.YtdifkjmpdmlobaaDoor
namespace Go.Proofs.YtdifkjmpdmlobaaDoor
open Go.RowKit
theorem tell_fuel (b : Nat) (hb : 2 ≤ b) : ∀ f n l, n < b ^ f → l ≤ f → tell b (f + 1) n l = tell b f n l := by
  intro f
  induction f with
  | zero => intro n l h hl; have : n = 0 := by simpa using h
            subst this; obtain rfl : l = 0 := by omega
            simp [tell]
  | succ f ih =>
    intro n l h hl
    have e1 : tell b (f + 1 + 1) n l = if n = 0 ∧ l = 0 then [] else tell b (f + 1) (n / b) (l - 1) ++ [dg (n % b)] := rfl
    have e2 : tell b (f + 1) n l = if n = 0 ∧ l = 0 then [] else tell b f (n / b) (l - 1) ++ [dg (n % b)] := rfl
    rw [e1, e2]
    by_cases hz : n = 0 ∧ l = 0
    · rw [if_pos hz, if_pos hz]
    · rw [if_neg hz, if_neg hz, ih _ _ (pow_step b f n hb h) (by omega)]
theorem tell_least (b f n : Nat) (h : 0 < n) : tell b f n 1 = tell b f n 0 := by
  cases f with
  | zero => rfl
  | succ f => rw [tell, tell, if_neg (by omega), if_neg (by omega)]
/-- A digit more. -/
theorem tell_more (n : Nat) (h : 10 ≤ n) (hn : n < 10 ^ 20) : tell 10 20 n 1 = tell 10 20 (n / 10) 1 ++ [dg (n % 10)] := by
  have hp := pow_step 10 19 n (by omega) hn
  have e1 : tell 10 20 n 1 = tell 10 19 (n / 10) 0 ++ [dg (n % 10)] := by rw [tell, if_neg (by omega)]
  rw [e1, tell_least 10 20 (n / 10) (by omega), tell_fuel 10 (by omega) 19 (n / 10) 0 hp (by omega)]
theorem tell_one (n : Nat) (h : n < 10) : tell 10 20 n 1 = [dg n] := by
  have e1 : tell 10 20 n 1 = tell 10 19 (n / 10) 0 ++ [dg (n % 10)] := by rw [tell, if_neg (by omega)]
  rw [e1, Nat.div_eq_of_lt h, Nat.mod_eq_of_lt h]; rfl
theorem dig_ext (n : Nat) (h : n < 16) : (⟨#[48, 49, 50, 51, 52, 53, 54, 55, 56, 57, 65, 66, 67, 68, 69, 70]⟩ : ByteArray).extract n (n + 1) = ⟨[dg n].toArray⟩ := by
  have key : ∀ j : Fin 16, (⟨#[48, 49, 50, 51, 52, 53, 54, 55, 56, 57, 65, 66, 67, 68, 69, 70]⟩ : ByteArray).data.extract j (j + 1) = #[dg j] := by decide
  apply ByteArray.ext
  rw [ByteArray.data_extract]
  exact key ⟨n, h⟩
theorem td_neg (n : Int) (h : n < 0) : n.tdiv 10 = -((-n) / 10) ∧ n.tmod 10 = -((-n) % 10) := by
  obtain ⟨m, rfl⟩ : ∃ m, n = -m := ⟨-n, by omega⟩
  rw [Int.neg_tdiv, Int.neg_tmod, Int.tdiv_eq_ediv_of_nonneg (by omega), Int.tmod_eq_emod_of_nonneg (by omega)]
  simp
theorem decS_neg1 (n : Int) (h : n < 0) (h' : -10 < n) : decS n = 45 :: [dg (-n).toNat] := by
  unfold decS; rw [if_pos h, tell_one _ (by omega), show n.natAbs = (-n).toNat by omega]
theorem decS_pos1 (n : Int) (h : 0 ≤ n) (h' : n < 10) : decS n = [dg n.toNat] := by
  unfold decS; rw [if_neg (by omega), tell_one _ (by omega)]
theorem decS_neg (n : Int) (h : n ≤ -10) (h' : -9223372036854775808 ≤ n) : decS n = decS (n.tdiv 10) ++ [dg (-(n.tmod 10)).toNat] := by
  have := td_neg n (by omega)
  have e2 : (-(n.tmod 10)).toNat = n.natAbs % 10 := by omega
  have e3 : (n.tdiv 10).natAbs = n.natAbs / 10 := by omega
  unfold decS
  rw [if_pos (by omega), if_pos (by omega), tell_more _ (by omega) (by omega), e2, e3]; rfl
theorem decS_pos (n : Int) (h : 10 ≤ n) (h' : n ≤ 9223372036854775807) : decS n = decS (n / 10) ++ [dg (n % 10).toNat] := by
  have e2 : (n % 10).toNat = n.toNat % 10 := by omega
  have e3 : (n / 10).toNat = n.toNat / 10 := by omega
  unfold decS
  rw [if_neg (by omega), if_neg (by omega), tell_more _ (by omega) (by omega), e2, e3]
theorem decS_len (n : Int) : (decS n).length ≤ 21 := by
  unfold decS; split
  · have := tell_len 10 20 n.natAbs 1; simp; omega
  · have := tell_len 10 20 n.toNat 1; omega
end Go.Proofs.YtdifkjmpdmlobaaDoor
namespace Go.Proofs.YtdifkjmpdmlobaaDoor
open Go.RowKit
/-- How many hex digits at least. -/
def lst (l : Int) : Int := if l ≤ 1 then 1 else if 16 ≤ l then 16 else l
theorem lst_rng (l : Int) : 1 ≤ lst l ∧ lst l ≤ 16 := by unfold lst; split; omega; split <;> omega
def hexS (n l : Int) : List UInt8 := if n < 0 then [] else tell 16 20 n.toNat (lst l).toNat
theorem below16 {w w2 : World} (hb : Below (w.alloc (.cells #[.int .u64 16] 201)).heap.size (w.alloc (.cells #[.int .u64 16] 201)) w2) : Below w.heap.size w w2 :=
  ((Below.refl w.heap.size w).alloc (Nat.le_refl _) _).trans (hb.mono (by simp))
set_option maxHeartbeats 1000000 in
theorem hex_any (n l : Int) (w : World) (h0 : -9223372036854775808 ≤ n) (h1 : n ≤ 9223372036854775807) : Calls Tryd.prog 133 #[.int .i64 n, .int .i64 l] w fun e w' => e = .returned (.string ⟨(hexS n l).toArray⟩) ∧ Below w.heap.size w w' := by
  by_cases h : n < 0
  · have hd : hexS n l = [] := by unfold hexS; rw [if_pos h]
    have Hd := Lib.hid hd; clear hd
    go_enter Tryd.func133, Tryd.ntmps133
    go_wp2
    go_ret
    rw [Hd.out]
    exact ⟨rfl, Below.refl _ _⟩
  · have hd : hexS n l = tell 16 20 n.toNat (lst l).toNat := by unfold hexS; rw [if_neg h]
    have hr := lst_rng l
    have ht := tell_int 16 n (lst l) w.heap.size (w.alloc (.cells #[.int .u64 16] 201)) (by omega) (by omega) (by omega) (by omega) (by omega) (by omega) (by omega) (by simp) (cell10 w 16)
    have Hd := Lib.hid hd; clear hd
    rcases (show l < 1 ∨ l = 1 ∨ 16 < l ∨ l = 16 ∨ (1 < l ∧ l < 16) by omega) with a | rfl | a | rfl | ⟨a, b⟩
    · rw [show lst l = 1 by unfold lst; rw [if_pos (by omega)]] at *
      clear hr
      go_enter Tryd.func133, Tryd.ntmps133
      go_wp2_with (first | (go_at_call 141; refine (teller_any _ _).mono ?_; rintro e w' ⟨rfl, rfl⟩) | (go_at_call 145; refine ht.mono ?_; rintro e w1 ⟨rfl, hb⟩))
      go_ret
      rw [Hd.out]
      exact ⟨rfl, below16 hb⟩
    · rw [show lst 1 = 1 by rfl] at *
      clear hr
      go_enter Tryd.func133, Tryd.ntmps133
      go_wp2_with (first | (go_at_call 141; refine (teller_any _ _).mono ?_; rintro e w' ⟨rfl, rfl⟩) | (go_at_call 145; refine ht.mono ?_; rintro e w1 ⟨rfl, hb⟩))
      go_ret
      rw [Hd.out]
      exact ⟨rfl, below16 hb⟩
    · rw [show lst l = 16 by unfold lst; rw [if_neg (by omega), if_pos (by omega)]] at *
      clear hr
      go_enter Tryd.func133, Tryd.ntmps133
      go_wp2_with (first | (go_at_call 141; refine (teller_any _ _).mono ?_; rintro e w' ⟨rfl, rfl⟩) | (go_at_call 145; refine ht.mono ?_; rintro e w1 ⟨rfl, hb⟩))
      go_ret
      rw [Hd.out]
      exact ⟨rfl, below16 hb⟩
    · rw [show lst 16 = 16 by rfl] at *
      clear hr
      go_enter Tryd.func133, Tryd.ntmps133
      go_wp2_with (first | (go_at_call 141; refine (teller_any _ _).mono ?_; rintro e w' ⟨rfl, rfl⟩) | (go_at_call 145; refine ht.mono ?_; rintro e w1 ⟨rfl, hb⟩))
      go_ret
      rw [Hd.out]
      exact ⟨rfl, below16 hb⟩
    · rw [show lst l = l by unfold lst; rw [if_neg (by omega), if_neg (by omega)]] at *
      clear hr
      go_enter Tryd.func133, Tryd.ntmps133
      go_wp2_with (first | (go_at_call 141; refine (teller_any _ _).mono ?_; rintro e w' ⟨rfl, rfl⟩) | (go_at_call 145; refine ht.mono ?_; rintro e w1 ⟨rfl, hb⟩))
      go_ret
      rw [Hd.out]
      exact ⟨rfl, below16 hb⟩
end Go.Proofs.YtdifkjmpdmlobaaDoor
namespace Go.Proofs.YtdifkjmpdmlobaaDoor
open Go.RowKit
def lowI (a b : Int) : Int := if a < b then a else b
def highI (a b : Int) : Int := if b < a then a else b
/-- A digit's worth for the reference. -/
def worthR (c : Int) : Int := if worth c < 16 then worth c else -1
/-- What Unhex answers. -/
def uhOk (l : List UInt8) : Bool := readOk 16 ⟨l.toArray⟩ && decide (l.length ≤ 15)
def uhR (l : List UInt8) : Int := if uhOk l then wrap64 (readVal 16 ⟨l.toArray⟩) else 0
def uhE (l : List UInt8) : Int := if uhOk l then 0 else 6
def UhPost (l : List UInt8) (w : World) (e : Ending) (w' : World) : Prop := e = .returned (.tuple #[.int .i64 (uhR l), .int .i64 (uhE l)]) ∧ Below w.heap.size w w'
theorem uh_no {l : List UInt8} {w w' : World} (h : uhOk l = false) (hb : Below w.heap.size w w') : UhPost l w (.returned (.tuple #[.int .i64 0, .int .i64 6])) w' := by
  refine ⟨?_, hb⟩; simp [uhR, uhE, h]
theorem uh_yes {l : List UInt8} {w w' : World} (h : uhOk l = true) (hb : Below w.heap.size w w') : UhPost l w (.returned (.tuple #[.int .i64 (wrap64 (readVal 16 ⟨l.toArray⟩)), .int .i64 0])) w' := by
  refine ⟨?_, hb⟩; simp [uhR, uhE, h]
set_option maxHeartbeats 400000 in
theorem unhex_b (l : List UInt8) (w : World) (hs : l.length ≤ 999999) (b : Bool) (hok : readOk 16 ⟨l.toArray⟩ = b) : Calls Tryd.prog 138 #[.string ⟨l.toArray⟩] w (UhPost l w) := by
  have hr : Calls Tryd.prog 148 #[.string (⟨l.toArray⟩ : ByteArray), .pointer (some ⟨w.heap.size, 0, none⟩)] (w.alloc (.cells #[.int .u64 16] 201)) fun e w' => e = .returned (.tuple #[.int .u64 (readVal 16 ⟨l.toArray⟩), .bool b]) ∧ w.alloc (.cells #[.int .u64 16] 201) = w' := by
    rw [← hok]
    exact read_any 16 w.heap.size ⟨l.toArray⟩ _ (by omega) (by omega) (by show l.toArray.size ≤ _; simp; omega) (cell10 w 16)
  have Hok := Lib.hid hok; clear hok
  cases b
  · go_enter Tryd.func138, Tryd.ntmps138
    go_wp2_with (first | (go_at_call 144; refine (reader_any _ _).mono ?_; rintro e w' ⟨rfl, rfl⟩) | (go_at_call 148; refine hr.mono ?_; rintro e w' ⟨rfl, rfl⟩))
    go_ret2
    exact uh_no (by unfold uhOk; rw [Hok.out]; rfl) ((Below.refl w.heap.size w).alloc (Nat.le_refl _) _)
  · by_cases h15 : l.length ≤ 15
    · go_enter Tryd.func138, Tryd.ntmps138
      go_wp2_with (first | (go_at_call 144; refine (reader_any _ _).mono ?_; rintro e w' ⟨rfl, rfl⟩) | (go_at_call 148; refine hr.mono ?_; rintro e w' ⟨rfl, rfl⟩))
      go_ret2
      exact uh_yes (by unfold uhOk; rw [Hok.out, decide_eq_true h15]; rfl) ((Below.refl w.heap.size w).alloc (Nat.le_refl _) _)
    · go_enter Tryd.func138, Tryd.ntmps138
      go_wp2_with (first | (go_at_call 144; refine (reader_any _ _).mono ?_; rintro e w' ⟨rfl, rfl⟩) | (go_at_call 148; refine hr.mono ?_; rintro e w' ⟨rfl, rfl⟩))
      go_ret2
      exact uh_no (by unfold uhOk; rw [Hok.out, decide_eq_false h15]; rfl) ((Below.refl w.heap.size w).alloc (Nat.le_refl _) _)
theorem unhex_any (l : List UInt8) (w : World) (hs : l.length ≤ 999999) : Calls Tryd.prog 138 #[.string ⟨l.toArray⟩] w (UhPost l w) := unhex_b l w hs _ rfl
/-- The reference's number of hex digits. -/
def unhexR (l : List UInt8) : Int := if l.length = 0 ∨ 15 < l.length ∨ digs 16 l = false then -1 else dv 16 l
theorem worthR_bad {b : Nat} {s : ByteArray} {k : Nat} (hk : k < s.size) (h : worthR (s[k].toNat : Int) < 0) : digs 16 s.data.toList = false := by
  apply digs_bad hk
  intro h2
  have := worth_nonneg (s[k].toNat : Int)
  unfold worthR at h
  have h3 : worth (s[k].toNat : Int) < 16 := h2
  rw [if_pos h3] at h; omega
theorem worthR_good {c : Int} (h : 0 ≤ worthR c) : worthR c = worth c ∧ 0 ≤ worth c ∧ worth c < 16 := by
  unfold worthR at *
  have := worth_nonneg c
  by_cases h2 : worth c < 16
  · rw [if_pos h2]; exact ⟨rfl, this, h2⟩
  · rw [if_neg h2] at h; omega
theorem pow16 (k : Nat) (h : k ≤ 15) : (16 : Int) ^ k ≤ 1152921504606846976 := by
  have h1 : (16 : Nat) ^ k ≤ 16 ^ 15 := Nat.pow_le_pow_right (by omega) h
  have h2 : ((16 ^ k : Nat) : Int) = (16 : Int) ^ k := by simp
  rw [← h2]
  have : (16 : Nat) ^ 15 = 1152921504606846976 := by decide
  omega
theorem pow16' (x : Int) (n : Nat) {k : Nat} (h : n ≤ k) (hx : x < ((16 : Nat) : Int) ^ n) : k < 15 → x ≤ 72057594037927936 := by
  intro hk
  have h1 : (16 : Nat) ^ n ≤ 16 ^ 14 := Nat.pow_le_pow_right (by omega) (by omega)
  have h2 : ((16 ^ n : Nat) : Int) = ((16 : Nat) : Int) ^ n := by simp
  rw [← h2] at hx
  have : (16 : Nat) ^ 14 = 72057594037927936 := by decide
  omega
end Go.Proofs.YtdifkjmpdmlobaaDoor
namespace Go.Proofs.YtdifkjmpdmlobaaDoor
open Go.RowKit
theorem tell16_one (n : Nat) (h : n < 16) : tell 16 20 n 1 = [dg n] := by
  have e1 : tell 16 20 n 1 = tell 16 19 (n / 16) 0 ++ [dg (n % 16)] := by rw [tell, if_neg (by omega)]
  rw [e1, Nat.div_eq_of_lt h, Nat.mod_eq_of_lt h]; rfl
/-- The reference's hex digits, at least l (below 1 is 1). -/
def hexN (n : Int) (l : Int) : List UInt8 := tell 16 20 n.toNat (max l 1).toNat
theorem hexN_base (n l : Int) (h0 : 0 ≤ n) (h : n < 16) (hl : l ≤ 1) : hexN n l = [dg n.toNat] := by
  unfold hexN; rw [show (max l 1).toNat = 1 by omega, tell16_one _ (by omega)]
theorem hexN_step (n l : Int) (h0 : 0 ≤ n) (hn : n ≤ 9223372036854775807) (h : ¬ (n < 16 ∧ l ≤ 1)) (hl : l ≤ 16) : hexN n l = hexN (n / 16) (l - 1) ++ [dg (n % 16).toNat] := by
  have e2 : (n % 16).toNat = n.toNat % 16 := by omega
  have e3 : (n / 16).toNat = n.toNat / 16 := by omega
  unfold hexN
  have e1 : tell 16 20 n.toNat (max l 1).toNat = tell 16 19 (n.toNat / 16) ((max l 1).toNat - 1) ++ [dg (n.toNat % 16)] := by rw [tell, if_neg (by omega)]
  rw [e1, e2, e3]
  congr 1
  have hf := tell_fuel 16 (by omega) 19 (n.toNat / 16) ((max l 1).toNat - 1) (by omega) (by omega)
  rw [← hf]
  rcases (show 2 ≤ l ∨ l ≤ 1 by omega) with h2 | h2
  · rw [show (max (l - 1) 1).toNat = (max l 1).toNat - 1 by omega]
  · rw [show (max (l - 1) 1).toNat = 1 by omega, show (max l 1).toNat - 1 = 0 by omega, tell_least 16 20 _ (by omega)]
theorem hexN_len (n l : Int) : (hexN n l).length ≤ 20 := tell_len 16 20 _ _
end Go.Proofs.YtdifkjmpdmlobaaDoor
namespace Go.Proofs.YtdifkjmpdmlobaaDoor
open Go.RowKit
theorem decS_ne (n : Int) : decS n ≠ [] := by
  unfold decS; split
  · simp
  · exact tell_ne 10 19 _ 1 (Or.inl (by omega))
theorem tell_head (f n l : Nat) (c : UInt8) (hc : c = 45) : (tell 10 f n l).head? ≠ some c := by
  intro h
  have hd := digs_tell 10 (by omega) (by omega) f n l
  rw [digs, List.all_eq_true] at hd
  have := hd c (List.mem_of_mem_head? h)
  subst hc
  revert this; decide
theorem isEmpty_of_ne {l : List UInt8} (h : l ≠ []) : (⟨l.toArray⟩ : ByteArray).toList.isEmpty = false := by
  rw [ByteArray.toList_eq]; cases l with
  | nil => exact absurd rfl h
  | cons => rfl
theorem readOk_tell (b f n l : Nat) (hb : 2 ≤ b) (hb' : b ≤ 16) (h : 0 < l ∨ 0 < n) : readOk b ⟨(tell b (f + 1) n l).toArray⟩ = true := by
  unfold readOk
  rw [isEmpty_of_ne (tell_ne b f n l h)]
  have := digs_tell b hb hb' (f + 1) n l
  simp [this]
theorem readVal_tell (b f n l : Nat) (hb : 2 ≤ b) (hb' : b ≤ 16) (hn : n < b ^ f) (h : n < 18446744073709551616) : readVal b ⟨(tell b f n l).toArray⟩ = n := by
  unfold readVal
  have := digs_tell b hb hb' f n l
  simp only [this, if_true]
  rw [rdv_dv, dv_tell b hb hb' f n l hn, wu]; omega
theorem undV_dec (n : Int) (h0 : -9223372036854775808 ≤ n) (h1 : n ≤ 9223372036854775807) : undV (decS n) = n ∧ undD (decS n) = true := by
  unfold decS undV undD
  by_cases h : n < 0
  · rw [if_pos h]
    simp only [List.head?_cons, List.tail_cons, if_true]
    rw [readVal_tell 10 20 _ 1 (by omega) (by omega) (by omega) (by omega), readOk_tell 10 19 _ 1 (by omega) (by omega) (Or.inl (by omega))]
    refine ⟨?_, rfl⟩
    unfold wrap64; omega
  · rw [if_neg h, if_neg (tell_head 20 _ 1 45 rfl), if_neg (tell_head 20 _ 1 45 rfl)]
    rw [readVal_tell 10 20 _ 1 (by omega) (by omega) (by omega) (by omega), readOk_tell 10 19 _ 1 (by omega) (by omega) (Or.inl (by omega))]
    refine ⟨?_, rfl⟩
    unfold wrap64; omega
theorem und_dec (n : Int) (h0 : -9223372036854775808 ≤ n) (h1 : n ≤ 9223372036854775807) : undR (decS n) = n ∧ undE (decS n) = 0 := by
  have ⟨e1, e2⟩ := undV_dec n h0 h1
  have ho : undOk (decS n) = true := by unfold undOk; rw [e1, e2]; simp
  have := und_yes ho
  rw [e1] at this; exact this
theorem dec_12 : decS (-12) = [45, 49, 50] := by decide
theorem uh_12 : undR [45, 49, 50] = -12 ∧ undE [45, 49, 50] = 0 := by
  have h := und_dec (-12) (by omega) (by omega)
  rw [dec_12] at h; exact h
theorem hx_173 : uhR [48, 48, 65, 68] = 173 ∧ uhE [48, 48, 65, 68] = 0 := by
  have e : ([48, 48, 65, 68] : List UInt8) = tell 16 20 173 4 := by decide
  have ho : uhOk [48, 48, 65, 68] = true := by unfold uhOk; rw [e, readOk_tell 16 19 173 4 (by omega) (by omega) (Or.inl (by omega))]; decide
  unfold uhR uhE
  rw [ho, e, readVal_tell 16 20 173 4 (by omega) (by omega) (by omega) (by omega)]
  exact ⟨by rw [if_pos rfl]; unfold wrap64; omega, rfl⟩
theorem hex_173 : hexS 173 4 = [48, 48, 65, 68] := by decide
end Go.Proofs.YtdifkjmpdmlobaaDoor
namespace Go.Proofs.YtdifkjmpdmlobaaDoor
open Go.RowKit
theorem und_range (l : List UInt8) : -9223372036854775808 ≤ undR l ∧ undR l ≤ 9223372036854775807 := by
  unfold undR undV
  split
  · split
    · exact rng_wrap _
    · exact rng_wrap _
  · omega
theorem und_cases (l : List UInt8) : (undE l = 0 ∧ decS (undR l) = l) ∨ (undE l = 6 ∧ undR l = 0) := by
  by_cases h : undOk l = true
  · left
    have e := und_yes h
    refine ⟨e.2, ?_⟩
    rw [e.1]
    unfold undOk at h
    rw [Bool.and_eq_true] at h
    simpa using h.2
  · right
    have e := und_no (by simpa using h)
    exact ⟨e.2, e.1⟩
end Go.Proofs.YtdifkjmpdmlobaaDoor
namespace Go.Proofs.YtdifkjmpdmlobaaDoor
open Go.RowKit
theorem lst_low (l : Int) : lowI (highI l 1) 16 = lst l := by unfold lowI highI lst; split <;> split <;> (try split) <;> (try split) <;> omega
theorem hexS_pos (n l : Int) (h : 0 ≤ n) : hexS n l = hexN n (lst l) := by
  have := lst_rng l
  unfold hexS hexN; rw [if_neg (by omega), show (max (lst l) 1).toNat = (lst l).toNat by omega]
theorem hexS_neg (n l : Int) (h : n < 0) : hexS n l = [] := by unfold hexS; rw [if_pos h]
theorem hexN_ne (n l : Int) : hexN n l ≠ [] := tell_ne 16 19 _ _ (Or.inl (by omega))
theorem uh_hex (n l : Int) (h : 0 ≤ n) (h1 : n ≤ 9223372036854775807) (hl : (hexN n l).length ≤ 15) : uhR (hexN n l) = n ∧ uhE (hexN n l) = 0 := by
  have e : readOk 16 ⟨(hexN n l).toArray⟩ = true := readOk_tell 16 19 _ _ (by omega) (by omega) (Or.inl (by omega))
  have e2 : readVal 16 ⟨(hexN n l).toArray⟩ = n := by
    unfold hexN
    rw [readVal_tell 16 20 _ _ (by omega) (by omega) (by omega) (by omega)]; omega
  have ho : uhOk (hexN n l) = true := by unfold uhOk; rw [e, decide_eq_true hl]; rfl
  unfold uhR uhE
  rw [ho, e2]
  exact ⟨by rw [if_pos rfl]; unfold wrap64; omega, rfl⟩
theorem uh_cases (l : List UInt8) : (0 ≤ unhexR l ∧ uhE l = 0 ∧ uhR l = unhexR l) ∨ (unhexR l < 0 ∧ uhE l = 6 ∧ uhR l = 0) := by
  have hne : (⟨l.toArray⟩ : ByteArray).data.toList = l := by simp
  by_cases h : l.length = 0 ∨ 15 < l.length ∨ digs 16 l = false
  · right
    have ho : uhOk l = false := by
      unfold uhOk readOk
      rw [hne, ByteArray.toList_eq, hne]
      rcases h with h | h | h
      · cases l with
        | nil => simp
        | cons => simp at h
      · rw [decide_eq_false (by omega)]; simp
      · rw [h]; simp
    refine ⟨?_, ?_, ?_⟩
    · unfold unhexR; rw [if_pos h]; omega
    · simp [uhE, ho]
    · simp [uhR, ho]
  · left
    have hd : digs 16 l = true := by
      cases hx : digs 16 l with
      | true => rfl
      | false => exact absurd (Or.inr (Or.inr hx)) h
    have ⟨b1, b2⟩ := dv_bound 16 l hd
    have b3 := pow16 l.length (by omega)
    have b4 : ((16 : Nat) : Int) ^ l.length = (16 : Int) ^ l.length := rfl
    rw [b4] at b2
    have hu : unhexR l = dv 16 l := by unfold unhexR; rw [if_neg h]
    have ho : uhOk l = true := by
      unfold uhOk readOk
      rw [hne, ByteArray.toList_eq, hne, hd, decide_eq_true (by omega)]
      cases l with
      | nil => simp at h
      | cons => rfl
    have hv : readVal 16 ⟨l.toArray⟩ = dv 16 l := by
      unfold readVal; rw [hne, hd, if_pos rfl, rdv_dv, wu]; omega
    refine ⟨by omega, by simp [uhE, ho], ?_⟩
    unfold uhR
    rw [ho, if_pos rfl, hv, hu]; unfold wrap64; omega
theorem unhexR_rng (l : List UInt8) : -1 ≤ unhexR l := by
  rcases uh_cases l with h | h
  · omega
  · by_cases h2 : l.length = 0 ∨ 15 < l.length ∨ digs 16 l = false
    · unfold unhexR; rw [if_pos h2]; omega
    · have hd : digs 16 l = true := by
        cases hx : digs 16 l with
        | true => rfl
        | false => exact absurd (Or.inr (Or.inr hx)) h2
      have := (dv_bound 16 l hd).1
      unfold unhexR at *; rw [if_neg h2] at *; omega
end Go.Proofs.YtdifkjmpdmlobaaDoor
set_option linter.unusedVariables false
set_option linter.unusedSimpArgs false
namespace Go.Proofs.YtdifkjmpdmlobaaDoor
open Go.RowKit
theorem ret_boolU {a b : Bool} (h : a = b) : Ending.returned (.bool a) = .returned (.bool b) := by rw [h]
theorem infoByte : (Tryd.prog.info? 5).map (fun i => (i.zero, i.size, i.bytes)) = some (some (.int .u8 0), 1, 1) := by kernel_rfl
/-- A row of ints that can be read. -/
def Row (w : World) (a : Option Addr) (l : List Int) : Prop := ∀ j, j < l.length → ∃ b off, a = some ⟨b, off, none⟩ ∧ w.cell? ⟨b, off + j, none⟩ = some (.int .i64 (l.getD j 0)) ∧ b < w.heap.size
theorem Row.below {w w' : World} {a : Option Addr} {l : List Int} (h : Row w a l) (hb : Below w.heap.size w w') : Row w' a l := by
  intro j hj
  obtain ⟨b, off, ha, hc, hlt⟩ := h j hj
  exact ⟨b, off, ha, (hb.cell (p := ⟨b, off + j, none⟩) hlt).trans hc, Nat.lt_of_lt_of_le hlt hb.size⟩
theorem stray_any (v : Int) (w : World) : Calls Tryd.prog 93 #[.int .i64 v] w fun e w' => e = .returned (.bool (stB v)) ∧ w' = w := by
  have e1 := stB_iff v
  by_cases h1 : 1114240 ≤ v
  · by_cases h2 : v ≤ 1114367
    · have H := Lib.hid (e1.2 ⟨h1, h2⟩); clear e1
      go_enter Tryd.func93, Tryd.ntmps93
      go_wp2
      go_ret
      exact ⟨ret_boolU H.out.symm, rfl⟩
    · have H : Hid (stB v = false) := Lib.hid (by rw [← Bool.not_eq_true]; intro h; exact h2 (e1.1 h).2); clear e1
      go_enter Tryd.func93, Tryd.ntmps93
      go_wp2
      go_ret
      exact ⟨ret_boolU H.out.symm, rfl⟩
  · have H : Hid (stB v = false) := Lib.hid (by rw [← Bool.not_eq_true]; intro h; exact h1 (e1.1 h).1); clear e1
    go_enter Tryd.func93, Tryd.ntmps93
    go_wp2
    go_ret
    exact ⟨ret_boolU H.out.symm, rfl⟩
theorem point_any (v : Int) (w : World) : Calls Tryd.prog 91 #[.int .i64 v] w fun e w' => e = .returned (.bool (ptB v)) ∧ w' = w := by
  have e1 := ptB_iff v
  have hf : ¬ ((0 ≤ v ∧ v < 55296) ∨ (57343 < v ∧ v ≤ 1114111)) → ptB v = false := by intro h; rw [← Bool.not_eq_true]; intro h2; exact h (e1.1 h2)
  by_cases h1 : 0 ≤ v
  · by_cases h2 : v ≤ 1114111
    · by_cases h3 : v < 55296
      · have H := Lib.hid (e1.2 (Or.inl ⟨h1, h3⟩)); clear e1 hf
        go_enter Tryd.func91, Tryd.ntmps91
        go_wp2
        go_ret
        exact ⟨ret_boolU H.out.symm, rfl⟩
      · by_cases h4 : 57343 < v
        · have H := Lib.hid (e1.2 (Or.inr ⟨h4, h2⟩)); clear e1 hf
          go_enter Tryd.func91, Tryd.ntmps91
          go_wp2
          go_ret
          exact ⟨ret_boolU H.out.symm, rfl⟩
        · have h5 : decide (57343 < v) = false := decide_eq_false h4
          have H := Lib.hid (hf (by omega)); clear e1 hf
          go_enter Tryd.func91, Tryd.ntmps91
          go_wp2
          go_ret
          exact ⟨ret_boolU H.out.symm, rfl⟩
    · have H := Lib.hid (hf (by omega)); clear e1 hf
      go_enter Tryd.func91, Tryd.ntmps91
      go_wp2
      go_ret
      exact ⟨ret_boolU H.out.symm, rfl⟩
  · have H := Lib.hid (hf (by omega)); clear e1 hf
    go_enter Tryd.func91, Tryd.ntmps91
    go_wp2
    go_ret
    exact ⟨ret_boolU H.out.symm, rfl⟩
def rightB (v : Int) : Bool := ptB v || stB v
theorem right_any (v : Int) (w : World) : Calls Tryd.prog 94 #[.int .i64 v] w fun e w' => e = .returned (.bool (rightB v)) ∧ w' = w := by
  have P := Lib.hid (fun w => point_any v w)
  have S := Lib.hid (fun w => stray_any v w)
  have e0 : rightB v = (ptB v || stB v) := rfl
  generalize stB v = s at *
  cases h : ptB v
  · rw [h] at P e0
    have H := Lib.hid e0; clear e0 h
    go_enter Tryd.func94, Tryd.ntmps94
    go_wp2_with (first
      | (go_at_call 91; refine (P.out _).mono ?_; rintro e w1 ⟨rfl, rfl⟩)
      | (go_at_call 93; refine (S.out _).mono ?_; rintro e w1 ⟨rfl, rfl⟩))
    go_ret
    exact ⟨ret_boolU (H.out.trans (Bool.false_or _)).symm, rfl⟩
  · rw [h] at P e0
    have H := Lib.hid e0; clear e0 h
    go_enter Tryd.func94, Tryd.ntmps94
    go_wp2_with (first
      | (go_at_call 91; refine (P.out _).mono ?_; rintro e w1 ⟨rfl, rfl⟩)
      | (go_at_call 93; refine (S.out _).mono ?_; rintro e w1 ⟨rfl, rfl⟩))
    go_ret
    exact ⟨ret_boolU (H.out.trans (Bool.true_or _)).symm, rfl⟩
theorem right_ref (v : Int) (w : World) : Calls Tryd.prog 109 #[.int .i64 v] w fun e w' => e = .returned (.bool (rightB v)) ∧ w' = w := by
  have e1 : rightB v = true ↔ ((0 ≤ v ∧ v < 55296) ∨ (57343 < v ∧ v ≤ 1114111)) ∨ (1114240 ≤ v ∧ v ≤ 1114367) := by unfold rightB; rw [Bool.or_eq_true, ptB_iff, stB_iff]
  have hf : ¬ (((0 ≤ v ∧ v < 55296) ∨ (57343 < v ∧ v ≤ 1114111)) ∨ (1114240 ≤ v ∧ v ≤ 1114367)) → rightB v = false := by intro h; rw [← Bool.not_eq_true]; intro h2; exact h (e1.1 h2)
  have E : Hid (∀ b : Bool, rightB v = b → (Calls Tryd.prog 109 #[.int .i64 v] w fun e w' => e = .returned (.bool b) ∧ w' = w) → (Calls Tryd.prog 109 #[.int .i64 v] w fun e w' => e = .returned (.bool (rightB v)) ∧ w' = w)) := Lib.hid (fun b h k => by rw [h]; exact k)
  rcases (by omega : v < 0 ∨ (0 ≤ v ∧ v < 55296) ∨ (55296 ≤ v ∧ v ≤ 57343) ∨ (57343 < v ∧ v ≤ 1114111) ∨ (1114111 < v ∧ v < 1114240) ∨ (1114240 ≤ v ∧ v ≤ 1114367) ∨ 1114367 < v) with h | ⟨h, h'⟩ | ⟨h, h'⟩ | ⟨h, h'⟩ | ⟨h, h'⟩ | ⟨h, h'⟩ | h
  · refine E.out _ (hf (by omega)) ?_; clear e1 hf E
    go_enter Tryd.func109, Tryd.ntmps109
    go_wp2
    go_ret
    exact ⟨rfl, rfl⟩
  · refine E.out _ (e1.2 (by omega)) ?_; clear e1 hf E
    go_enter Tryd.func109, Tryd.ntmps109
    go_wp2
    go_ret
    exact ⟨rfl, rfl⟩
  · refine E.out _ (hf (by omega)) ?_; clear e1 hf E
    go_enter Tryd.func109, Tryd.ntmps109
    go_wp2
    go_ret
    exact ⟨rfl, rfl⟩
  · refine E.out _ (e1.2 (by omega)) ?_; clear e1 hf E
    go_enter Tryd.func109, Tryd.ntmps109
    go_wp2
    go_ret
    exact ⟨rfl, rfl⟩
  · refine E.out _ (hf (by omega)) ?_; clear e1 hf E
    go_enter Tryd.func109, Tryd.ntmps109
    go_wp2
    go_ret
    exact ⟨rfl, rfl⟩
  · refine E.out _ (e1.2 (by omega)) ?_; clear e1 hf E
    go_enter Tryd.func109, Tryd.ntmps109
    go_wp2
    go_ret
    exact ⟨rfl, rfl⟩
  · refine E.out _ (hf (by omega)) ?_; clear e1 hf E
    have hn : decide (v ≤ 1114367) = false := decide_eq_false (by omega)
    go_enter Tryd.func109, Tryd.ntmps109
    go_wp2
    go_ret
    exact ⟨rfl, rfl⟩
theorem ext_getD (a b : List Int) (h : a.length = b.length) (h2 : ∀ j, j < a.length → a.getD j 0 = b.getD j 0) : a = b := by
  apply List.ext_getElem h
  intro j h1 h3
  have := h2 j h1
  simpa [List.getD, List.getElem?_eq_getElem h1, List.getElem?_eq_getElem h3] using this
set_option maxRecDepth 100000 in
set_option maxHeartbeats 2000000 in
theorem ints_ref (a b : List Int) (pa pb : Option Addr) (ca cb : Nat) (w : World) (ha : Row w pa a) (hb : Row w pb b) (hla : a.length ≤ 100000000) (hlb : b.length ≤ 100000000) :
    Calls Tryd.prog 16 #[.slice pa a.length ca, .slice pb b.length cb] w fun e w' => e = .returned (.bool (decide (a = b))) ∧ ∃ n, w' = w.drewN n := by
  by_cases hl : a.length = b.length
  · have hext := ext_getD a b hl
    rw [← hl]
    have Ha := Lib.hid ha; have Hb := Lib.hid hb; have He := Lib.hid hext
    have Hn' : Hid (a.length = b.length) := Lib.hid hl
    clear ha hb hext hl hlb
    generalize hn : a.length = n at *
    have Hn := Lib.hid hn
    clear hn
    go_enter Tryd.func16, Tryd.ntmps16
    go_wp2
    go_loopw [5] (fun iv wr => ∃ (k q : Nat), iv = .int .i64 (k : Int) ∧ k ≤ n ∧ wr = w.drewN q ∧ Hid (∀ j, j < k → a.getD j 0 = b.getD j 0)) (fun iv _ => n - (intOf iv).toNat)
    case atStart => exact ⟨0, 0, rfl, Nat.zero_le _, rfl, Lib.hid (fun j h => absurd h (Nat.not_lt_zero _))⟩
    case round =>
      obtain ⟨k, q, rfl, hk, rfl, hj⟩ := hrel
      by_cases hlt : k < n
      · obtain ⟨ba, oa, rfl, hca, hba⟩ := Ha.out k (by rw [Hn.out]; exact hlt)
        obtain ⟨bb, ob, rfl, hcb, hbb⟩ := Hb.out k (by rw [← Hn'.out]; exact hlt)
        have hlti : (k : Int) < (n : Int) := by omega
        by_cases hx : a.getD k 0 = b.getD k 0
        · have hj2 : Hid (∀ j, j < k + 1 → a.getD j 0 = b.getD j 0) := Lib.hid (fun j h => by
            rcases Nat.lt_succ_iff_lt_or_eq.1 h with h | rfl
            · exact hj.out j h
            · exact hx)
          have hxx : (a.getD k 0 == b.getD k 0) = true := by rw [hx]; simp
          generalize a.getD k 0 = x at *
          generalize b.getD k 0 = y at *
          subst hx
          clear hj Ha Hb
          go_wp2
          go_quiet (fail)
          go_wp2
          go_roundw
          case rel => exact ⟨k + 1, _, by go_num, by omega, rfl, hj2⟩
          case measure => simp [intOf]; omega
        · have hfin : Hid (decide (a = b) = false) := Lib.hid (decide_eq_false (fun h => hx (by rw [h])))
          have hxx : (a.getD k 0 == b.getD k 0) = false := by simpa using hx
          generalize a.getD k 0 = x at *
          generalize b.getD k 0 = y at *
          clear hj Ha Hb
          go_wp2
          go_quiet (fail)
          go_wp2
          go_ret
          rw [hfin.out]
          exact ⟨rfl, _, World.drewN_drewN _ _ _⟩
      · obtain rfl : k = n := by omega
        have hfin : Hid (decide (a = b) = true) := Lib.hid (decide_eq_true (He.out (fun j h => hj.out j h)))
        clear hj Ha Hb
        go_wp2
        go_ret
        rw [hfin.out]
        exact ⟨rfl, _, rfl⟩
  · have hne : decide (a = b) = false := decide_eq_false (fun h => hl (by rw [h]))
    rw [hne]; clear hne ha hb
    generalize a.length = n at *; generalize b.length = m at *
    have hz : ((n : Int) == (m : Int)) = false := by simp; omega
    go_enter Tryd.func16, Tryd.ntmps16
    go_wp2
    go_ret
    exact ⟨rfl, 0, rfl⟩
theorem cell_new (w : World) (v : Value) (e : TypeId) : (w.alloc (Obj.cells #[v] e)).cell? ({ block := w.heap.size, off := 0 } : Addr) = some v := by
  have h : (w.alloc (Obj.cells #[v] e)).heap[w.heap.size]? = some (Obj.cells #[v] e) := Array.getElem?_push_size
  simp only [World.cell?, h]; rfl
end Go.Proofs.YtdifkjmpdmlobaaDoor
namespace Go.Proofs.YtdifkjmpdmlobaaDoor
open Go.RowKit
def u8s (l : List Int) : List Value := l.map (Value.int .u8)
structure EncInv (l : List Int) (a : Option Addr) (w : World) (k : Nat) (v : Value) (wr : World) : Prop where
  own : wr.ownsRow w.heap.size 5 1 v (encI (l.take k)).length (u8s (encI (l.take k)))
  bl : Below w.heap.size w wr
  le : k ≤ l.length
theorem enc_take (l : List Int) (k : Nat) (h : k < l.length) : encI (l.take (k + 1)) = encI (l.take k) ++ oneI (l.getD k 0) := by
  rw [List.take_add_one, encI_append, List.getElem?_eq_getElem h]
  simp [encI, List.getD, List.getElem?_eq_getElem h]
theorem enc_take_len (l : List Int) (k : Nat) (h : l.length ≤ 1000000) : (encI (l.take k)).length ≤ 4000000 := by
  have := encI_len (l.take k); simp at this; omega
theorem conv_own {w : World} {B : Nat} {v : Value} {l : List Int} (h : w.ownsRow B 5 1 v (encI l).length (u8s (encI l))) :
    ∀ dst, Tryd.prog.underlying dst = some .string → (convert 148 dst v).run Tryd.prog w = .ok (.string (encS l)) w := by
  intro dst hd
  rcases h.2 with ⟨rfl, h0⟩ | ⟨g, cap, cur, rfl, _, _, _⟩
  · have e : encI l = [] := List.eq_nil_of_length_eq_zero h0
    rw [run_convert_bytes_nil w _ 5 Tryd.underlying148 Tryd.underlying5 0 0 dst hd, encS, e]
    rfl
  · rw [run_convert_bytes_arg w _ 5 Tryd.underlying148 Tryd.underlying5 g 0 _ _ (encI l) rfl (fun i hi => ?_) dst hd]
    · rfl
    · have := h.cells (g := g) rfl i (.int .u8 ((encI l).getD i 0)) (by simp [u8s, List.getElem?_eq_getElem hi, List.getD])
      have hadd : (⟨g, 0, none⟩ : Addr).add i = ⟨g, 0 + i, none⟩ := by unfold Addr.add; split <;> simp_all
      rw [← hadd]; exact this
set_option maxRecDepth 100000 in
set_option maxHeartbeats 2000000 in
theorem encode_any (l : List Int) (a : Option Addr) (c : Nat) (w : World) (hl : l.length ≤ 1000000) (hr : Row w a l) :
    Calls Tryd.prog 70 #[.slice a l.length c] w fun e w' => e = .returned (.string (encS l)) ∧ Below w.heap.size w w' := by
  obtain ⟨i0, hi, hz0, hz1, hz2⟩ := info_parts infoByte
  have Hr := Lib.hid hr; clear hr
  go_enter Tryd.func70, Tryd.ntmps70
  go_wp2_with (at_make; refine wpList_make_own _ rfl _ _ 148 rfl w.heap.size 5 i0 (.int .u8 0) 1 Tryd.underlying148 hi hz0 hz1 _ _ _ l.length rfl rfl (by omega) ?b2 ?b3 (Nat.le_refl _) ?_)
  case b2 => rw [hz2]; omega
  case b3 => unfold maxLen; omega
  intro w0 hown0 hgrow0
  have hb0 : Below w.heap.size w w0 := (Below.refl _ _).grown hgrow0 (Nat.le_refl _) (fun k h => by cases h)
  go_wp2
  have hb8 := hb0.size
  go_loopw [3, 11] (fun v iv wr => ∃ k : Nat, iv = .int .i64 (k : Int) ∧ EncInv l a w k v wr) (fun _ iv _ => l.length - (intOf iv).toNat)
  case atStart => exact ⟨0, rfl, hown0, hb0, Nat.zero_le _⟩
  case round =>
    obtain ⟨k, rfl, hI⟩ := hrel
    have hbl := hI.bl; have hown := hI.own; have hle := hI.le; have hsz := hbl.size
    have hlen := enc_take_len l k hl
    clear hI
    by_cases hlt : k < l.length
    · obtain ⟨ba, oa, rfl, hca, hba⟩ := (Hr.out.below hbl) k hlt
      have hlti : (k : Int) < (l.length : Int) := by omega
      have hnext := enc_take l k hlt
      have P := fun w => point_any (l.getD k 0) w
      have S := fun w => stray_any (l.getD k 0) w
      have hp := ptB_iff (l.getD k 0)
      have hs := stB_iff (l.getD k 0)
      have e1 := fun h => oneI_pt (v := l.getD k 0) h
      have e2 := fun h => oneI_st (v := l.getD k 0) h
      have e3 := fun h => oneI_no (v := l.getD k 0) h
      generalize l.getD k 0 = x at *
      generalize encI (l.take k) = acc at *
      cases hpt : ptB x
      · rw [hpt] at P e3
        cases hst : stB x
        · rw [hst] at S e3
          have hn := hnext.trans (by rw [e3 rfl rfl, List.append_nil])
          have Hn := Lib.hid hn
          replace P := Lib.hid P; replace S := Lib.hid S
          clear hn hnext e1 e2 e3 hp hs hpt hst
          go_wp2_with (first
            | (go_at_call 91; refine (P.out _).mono ?_; rintro e w1 ⟨rfl, rfl⟩)
            | (go_at_call 93; refine (S.out _).mono ?_; rintro e w1 ⟨rfl, rfl⟩))
          go_roundw
          case rel => exact ⟨k + 1, by go_num, by rw [Hn.out]; exact hown, hbl, by omega⟩
          case measure => simp [intOf]; omega
        · rw [hst] at S
          have hx := hs.1 hst
          have hn := hnext.trans (by rw [e2 hst])
          have Hn := Lib.hid hn
          replace P := Lib.hid P; replace S := Lib.hid S
          clear hn hnext e1 e2 e3 hp hs hpt hst
          go_wp2_with (first
            | (go_at_call 91; refine (P.out _).mono ?_; rintro e w1 ⟨rfl, rfl⟩)
            | (go_at_call 93; refine (S.out _).mono ?_; rintro e w1 ⟨rfl, rfl⟩)
            | (at_builtin; refine wpList_append_own _ rfl _ _ 148 rfl w.heap.size 5 i0 (.int .u8 0) 1 1 Tryd.underlying148 hi hz0 hz1 hz2 rfl (by decide) _ _ _ rfl (hown.alloc _) ⟨w1.heap.size, 0, none⟩ 1 1 [.int .u8 (x - 1114112)] rfl rfl ?c1 ?c2 ?c3 ?c4 ?c5 ?_))
          case c1 =>
            intro j u hj
            match j, hj with
            | 0, hj => simp at hj; subst hj; exact cell_new w1 _ _
          case c2 => intro u hu; simp at hu; subst hu; rfl
          case c3 => unfold maxLen; omega
          case c4 => omega
          case c5 => have := (below_alloc w1 (Obj.cells #[Value.int IntKind.u8 (x - 1114112)] 5)).size; omega
          intro v' w3 hown3 hgrow3 _
          have hbl3 : Below w.heap.size w w3 := (hbl.alloc hsz _).grown hgrow3 (by have := (below_alloc w1 (Obj.cells #[Value.int IntKind.u8 (x - 1114112)] 5)).size; omega) (fun k hk => (hown.lt k hk).1)
          have hown3' : w3.ownsRow w.heap.size 5 1 v' (encI (l.take (k + 1))).length (u8s (encI (l.take (k + 1)))) := by
            rw [Hn.out]; simpa [u8s] using hown3
          clear hown3 hgrow3 hown
          go_wp2
          go_roundw
          case rel => exact ⟨k + 1, by go_num, hown3', hbl3, by omega⟩
          case measure => simp [intOf]; omega
      · rw [hpt] at P
        have hx := hp.1 hpt
        have hn := hnext.trans (by rw [e1 hpt])
        have Hn := Lib.hid hn
        have hx2 : 0 ≤ x ∧ x ≤ 1114111 := by omega
        replace P := Lib.hid P
        clear hn hnext e1 e2 e3 hp hs hpt hx S
        go_wp2_with (first
          | (go_at_call 91; refine (P.out _).mono ?_; rintro e w1 ⟨rfl, rfl⟩)
          | (go_at_call 92; refine (Tryd.utf8_AppendRune_plain w.heap.size _ _ _ x (by omega) (by omega) _ hown (by omega) (by omega)).mono ?_; rintro e w2 ⟨v2, rfl, hown2, o, hg2⟩)
          | fail)
        have hbl3 : Below w.heap.size w w2 := (hbl.alloc hsz o).grown hg2 (by have := (below_alloc w1 o).size; omega) (fun k hk => (hown.lt k hk).1)
        have hown3' : w2.ownsRow w.heap.size 5 1 v2 (encI (l.take (k + 1))).length (u8s (encI (l.take (k + 1)))) := by
          rw [Hn.out]; simpa [u8s, Lib.runeCells] using hown2
        clear hown2 hg2 hown
        go_wp2
        go_roundw
        case rel => exact ⟨k + 1, by go_num, hown3', hbl3, by omega⟩
        case measure => simp [intOf]; omega
    · obtain rfl : k = l.length := by omega
      rw [List.take_length] at hown
      have hcv := conv_own hown
      clear hown
      go_wp2
      go_ret
      exact ⟨rfl, hbl⟩
end Go.Proofs.YtdifkjmpdmlobaaDoor
namespace Go.Proofs.YtdifkjmpdmlobaaDoor
open Go.RowKit
theorem conv_lit {w : World} {g k c : Nat} (l : List Int) (hl : k = l.length) (h : ∀ i, i < k → w.cell? ⟨g, 0 + i, none⟩ = some (.int .u8 (l.getD i 0))) :
    ∀ dst, Tryd.prog.underlying dst = some .string → (convert 148 dst (.slice (some ⟨g, 0, none⟩) k c)).run Tryd.prog w = .ok (.string (txt l)) w := by
  intro dst hd
  rw [run_convert_bytes_arg w _ 5 Tryd.underlying148 Tryd.underlying5 g 0 _ _ l hl.symm h dst hd]
  rfl
theorem conv_new (w : World) (l : List Int) (n : Nat) (hn : n = l.length) :
    ∀ dst, Tryd.prog.underlying dst = some .string → (convert 148 dst (.slice (some ⟨w.heap.size, 0, none⟩) n n)).run Tryd.prog (w.alloc (Obj.cells (l.map (Value.int .u8)).toArray 5)) = .ok (.string (txt l)) (w.alloc (Obj.cells (l.map (Value.int .u8)).toArray 5)) := by
  refine conv_lit l hn (fun i hi => ?_)
  have h : (w.alloc (Obj.cells (l.map (Value.int .u8)).toArray 5)).heap[w.heap.size]? = some (Obj.cells (l.map (Value.int .u8)).toArray 5) := Array.getElem?_push_size
  have hi' : i < l.length := by omega
  simp only [World.cell?, h, Nat.zero_add]
  simp [List.getElem?_eq_getElem hi', List.getD]
end Go.Proofs.YtdifkjmpdmlobaaDoor
set_option linter.unusedVariables false
set_option linter.unusedSimpArgs false
namespace Go.Proofs.YtdifkjmpdmlobaaDoor
open Go.RowKit
def lnB (v : Int) : Bool := decide (v = 10 ∨ v = 13 ∨ v = 27)
def ctB (v : Int) : Bool := decide (0 ≤ v ∧ v ≤ 31) && !lnB v
theorem lnB_yes {v : Int} (h : v = 10 ∨ v = 13 ∨ v = 27) : lnB v = true := decide_eq_true h
theorem lnB_no {v : Int} (h : ¬ (v = 10 ∨ v = 13 ∨ v = 27)) : lnB v = false := decide_eq_false h
theorem lineByte_any (v : Int) (w : World) : Calls Tryd.prog 119 #[.int .i64 v] w fun e w' => e = .returned (.bool (lnB v)) ∧ Below w.heap.size w w' := by
  by_cases h1 : v = 10
  · rw [lnB_yes (Or.inl h1)]; subst h1
    go_enter Tryd.func119, Tryd.ntmps119
    go_wp2
    go_ret
    exact ⟨rfl, Below.refl _ _⟩
  by_cases h2 : v = 13
  · rw [lnB_yes (Or.inr (Or.inl h2))]; subst h2
    go_enter Tryd.func119, Tryd.ntmps119
    go_wp2
    go_ret
    exact ⟨rfl, Below.refl _ _⟩
  by_cases h3 : v = 27
  · rw [lnB_yes (Or.inr (Or.inr h3))]; subst h3
    go_enter Tryd.func119, Tryd.ntmps119
    go_wp2
    go_ret
    exact ⟨rfl, Below.refl _ _⟩
  · rw [lnB_no (by omega)]
    go_enter Tryd.func119, Tryd.ntmps119
    go_wp2
    go_ret
    refine ⟨?_, Below.refl _ _⟩
    show Ending.returned (.bool (v == 10 || v == 13 || v == 27)) = _
    rw [show (v == 10 || v == 13 || v == 27) = false by simp [h1, h2, h3]]
end Go.Proofs.YtdifkjmpdmlobaaDoor
set_option linter.unusedVariables false
set_option linter.unusedSimpArgs false
namespace Go.Proofs.YtdifkjmpdmlobaaDoor
open Go.RowKit
/-- A key: kind, value, text, cut. -/
abbrev Ky := Int × Int × ByteArray × Bool
abbrev KRow := Int × Int × List UInt8 × List UInt8
/-- The keys of one name: kind, value, name, bytes. -/
def kTab : List KRow := [
  (4, 13, [82, 69, 84], [13]),
  (4, 10, [76, 70, 68], [10]),
  (5, 0, [69, 83, 67], [27]),
  (6, 0, [68, 69, 76], [127]),
  (7, 0, [85, 80], [27, 91, 65]),
  (8, 0, [68, 79, 87, 78], [27, 91, 66]),
  (9, 0, [82, 73, 71, 72, 84], [27, 91, 67]),
  (10, 0, [76, 69, 70, 84], [27, 91, 68]),
  (11, 0, [72, 79, 77, 69], [27, 91, 72]),
  (12, 0, [69, 78, 68], [27, 91, 70]),
  (13, 0, [68, 69, 76, 69, 84, 69], [27, 91, 51, 126]),
  (14, 0, [80, 71, 85, 80], [27, 91, 53, 126]),
  (14, 1, [80, 71, 68, 78], [27, 91, 54, 126])]
def kr0 : KRow := (0, 0, [], [])
def kIs (kind v : Int) (r : KRow) : Bool := r.1 == kind && r.2.1 == v
def kFind (kind v : Int) : Option KRow := kTab.find? (kIs kind v)
def kRowOf (kind v : Int) : KRow := (kFind kind v).getD kr0
def mayB (kind v : Int) : Bool :=
  if kind = 1 then decide (32 ≤ v) && decide (v ≠ 127) && rightB v
  else if kind = 2 then ctB v
  else if kind = 3 then decide (0 ≤ v ∧ v < 128) && !lnB v
  else (kFind kind v).isSome
def keyB (k : Ky) : Bool :=
  if k.1 = 15 then decide (k.2.1 = 0) && decide (k.2.2.1.size ≤ 65536)
  else decide (k.2.2.1.size = 0) && !k.2.2.2 && mayB k.1 k.2.1
/-- What a sign is named. -/
def sgN (v : Int) : List UInt8 := if 32 < v ∧ v < 127 ∧ v ≠ 60 then [v.toNat.toUInt8] else 60 :: (hexN v 1 ++ [62])
def ctN (v : Int) : List UInt8 := if 1 ≤ v ∧ v ≤ 26 then [67, 45, (v + 96).toNat.toUInt8] else [67, 45, (v + 64).toNat.toUInt8]
def hx2 (l : List UInt8) : List UInt8 := l.flatMap fun b => hexN (b.toNat : Int) 2
def psN (t : List UInt8) (cut : Bool) : List UInt8 := 80 :: 45 :: (hx2 t ++ if cut then [33] else [])
def nmN (k : Ky) : List UInt8 :=
  if k.1 = 1 then sgN k.2.1
  else if k.1 = 2 then ctN k.2.1
  else if k.1 = 3 then 77 :: 45 :: (if 32 ≤ k.2.1 then sgN k.2.1 else ctN k.2.1)
  else if k.1 = 15 then psN k.2.2.1.data.toList k.2.2.2
  else (kRowOf k.1 k.2.1).2.2.1
/-- A key's bytes. -/
def byN (k : Ky) : List UInt8 :=
  if k.1 = 1 ∨ k.1 = 2 then (txt (oneI k.2.1)).data.toList
  else if k.1 = 3 then 27 :: (txt (oneI k.2.1)).data.toList
  else if k.1 = 15 then [27, 91, 50, 48, 48, 126] ++ k.2.2.1.data.toList ++ [27, 91, 50, 48, 49, 126]
  else (kRowOf k.1 k.2.1).2.2.2
/-- What a key is, typed as it is; below 0: nothing. -/
def vlN (k : Ky) : Int := if k.1 = 1 ∨ k.1 = 2 ∨ k.1 = 4 then k.2.1 else if k.1 = 5 then 27 else if k.1 = 6 then 127 else -1
/-- Which value is named so; -1: none. -/
def sgOf (l : List UInt8) : Int :=
  if l.length = 1 then ((l.headD 0).toNat : Int)
  else if l.length < 3 ∨ l.headD 0 ≠ 60 then -1
  else if uhE ((l.drop 1).take (l.length - 2)) = 0 then uhR ((l.drop 1).take (l.length - 2)) else -1
def ctFrom (l : List UInt8) : Nat → Nat → Int
  | 0, _ => -1
  | f + 1, v => if ctN v = l then v else ctFrom l f (v + 1)
def ctOf (l : List UInt8) : Int := ctFrom l 32 0
theorem kzero {t : ByteArray} (h : t.size = 0) : t = ⟨#[]⟩ := by
  cases t with | mk a => exact congrArg ByteArray.mk (Array.eq_empty_of_size_eq_zero h)
def k0 : Ky := (0, 0, ⟨#[]⟩, false)
/-- The bytes that pairs of digits tell; none: one tells none. -/
def bpOf (l : List UInt8) : Nat → Nat → Option (List UInt8)
  | 0, _ => some []
  | f + 1, i => if uhE ((l.drop (2 * i)).take 2) = 0 then (bpOf l f (i + 1)).map fun r => (uhR ((l.drop (2 * i)).take 2)).toNat.toUInt8 :: r else none
def psCut (l : List UInt8) : List UInt8 × Bool := if l.getLast? = some 33 then (l.dropLast, true) else (l, false)
def psOf (l : List UInt8) : Ky :=
  match bpOf (psCut l).1 ((psCut l).1.length / 2) 0 with
  | none => k0
  | some t => (15, 0, ⟨t.toArray⟩, (psCut l).2)
def kNamed (l : List UInt8) : Option KRow := kTab.find? fun r => r.2.2.1 == l
def kyOf (l : List UInt8) : Ky :=
  match kNamed l with
  | some r => (r.1, r.2.1, ⟨#[]⟩, false)
  | none =>
    if [80, 45] <+: l then psOf (l.drop 2)
    else if [77, 45, 67, 45] <+: l then (3, ctOf (l.drop 2), ⟨#[]⟩, false)
    else if [77, 45] <+: l then (3, sgOf (l.drop 2), ⟨#[]⟩, false)
    else if [67, 45] <+: l then (2, ctOf l, ⟨#[]⟩, false)
    else (1, sgOf l, ⟨#[]⟩, false)
/-- The key of a name, and the error. -/
def prOk (l : List UInt8) : Bool := keyB (kyOf l) && nmN (kyOf l) == l
def prK (l : List UInt8) : Ky := if prOk l then kyOf l else k0
def prE (l : List UInt8) : Int := if prOk l then 0 else 6
theorem right_le {v : Int} (h : rightB v = true) : 0 ≤ v ∧ v ≤ 1114367 := by
  unfold rightB at h; rw [Bool.or_eq_true, ptB_iff, stB_iff] at h; omega
theorem hexN_short (v : Int) (h0 : 0 ≤ v) (h : v ≤ 1114367) : (hexN v 1).length ≤ 6 := by
  have e : ∀ n : Nat, n < 16777216 → (tell 16 20 n 1).length ≤ 6 := by
    intro n hn
    rw [show (20 : Nat) = 14 + 6 by rfl]
    have key : ∀ k f n : Nat, n < 16 ^ k → 1 ≤ k → (tell 16 (f + k) n 1).length ≤ k ∧ (tell 16 (f + k) n 0).length ≤ k := by
      intro k
      induction k with
      | zero => intro f n _ h; omega
      | succ k ih =>
        intro f n hn _
        by_cases hk : k = 0
        · subst hk
          have h16 : n < 16 := by simpa using hn
          have hd : n / 16 = 0 := by omega
          have z : ∀ f, tell 16 f 0 0 = [] := by intro f; cases f <;> simp [tell]
          constructor
          · show (tell 16 (f + 0 + 1) n 1).length ≤ 1
            rw [tell, if_neg (by omega), hd]; simp [z]
          · show (tell 16 (f + 0 + 1) n 0).length ≤ 1
            rw [tell]; split
            · simp
            · rw [hd]; simp [z]
        · have hq : n / 16 < 16 ^ k := by rw [Nat.pow_succ] at hn; omega
          have ⟨h1, h2⟩ := ih f (n / 16) hq (by omega)
          constructor
          · show (tell 16 (f + k + 1) n 1).length ≤ k + 1
            rw [tell, if_neg (by omega), List.length_append]; simp; exact h2
          · show (tell 16 (f + k + 1) n 0).length ≤ k + 1
            rw [tell]; split
            · simp
            · rw [List.length_append]; simp; exact h2
    exact (key 6 14 n hn (by omega)).1
  unfold hexN
  rw [show (max (1 : Int) 1).toNat = 1 by omega]
  exact e v.toNat (by omega)
theorem u8_of (v : Int) (h0 : 0 ≤ v) (h1 : v < 256) : ((v.toNat.toUInt8).toNat : Int) = v := by
  rw [u8_nat h0 h1]; omega
theorem sgOf_sgN (v : Int) (h0 : 32 ≤ v) (h1 : v ≤ 1114367) : sgOf (sgN v) = v := by
  unfold sgN
  split
  · rename_i h
    unfold sgOf
    rw [if_pos (show [v.toNat.toUInt8].length = 1 from rfl)]
    exact u8_of v (by omega) (by omega)
  · have hn := hexN_ne v 1
    have hl := hexN_short v (by omega) h1
    have hp : 0 < (hexN v 1).length := List.length_pos_iff.2 hn
    have ⟨u1, u2⟩ := uh_hex v 1 (by omega) (by omega) (by omega)
    have e : (((60 : UInt8) :: (hexN v 1 ++ [62])).drop 1).take (((60 : UInt8) :: (hexN v 1 ++ [62])).length - 2) = hexN v 1 := by
      simp
    unfold sgOf
    rw [e, if_neg (by simp <;> omega), if_neg (by simp <;> omega), u1, u2, if_pos rfl]
theorem ctOf_ctN (v : Int) (h0 : 0 ≤ v) (h1 : v < 32) : ctOf (ctN v) = v := by
  have key : ∀ j : Fin 32, ctOf (ctN ((j : Nat) : Int)) = ((j : Nat) : Int) := by decide
  have := key ⟨v.toNat, by omega⟩
  rwa [show (((⟨v.toNat, by omega⟩ : Fin 32) : Nat) : Int) = v by simp; omega] at this
theorem hex2 (b : UInt8) : (hexN (b.toNat : Int) 2).length = 2 ∧ uhE (hexN (b.toNat : Int) 2) = 0 ∧ uhR (hexN (b.toNat : Int) 2) = b.toNat ∧ (hexN (b.toNat : Int) 2).getLast? ≠ some 33 := by
  have hb : b.toNat < 256 := b.toNat_lt
  have key : ∀ n : Fin 256, (tell 16 20 n 2).length = 2 ∧ (tell 16 20 n 2).getLast? ≠ some 33 := by decide
  have hx : hexN (b.toNat : Int) 2 = tell 16 20 b.toNat 2 := by
    unfold hexN; rw [show (max (2 : Int) 1).toNat = 2 by omega]; rfl
  have ⟨k1, k2⟩ := key ⟨b.toNat, hb⟩
  have ⟨u1, u2⟩ := uh_hex (b.toNat : Int) 2 (by omega) (by omega) (by rw [hx]; rw [show (tell 16 20 b.toNat 2).length = 2 from k1]; omega)
  exact ⟨by rw [hx]; exact k1, u2, u1, by rw [hx]; exact k2⟩
theorem hx2_len (t : List UInt8) : (hx2 t).length = 2 * t.length := by
  induction t with
  | nil => rfl
  | cons b t ih => show (hexN (b.toNat : Int) 2 ++ hx2 t).length = _; rw [List.length_append, ih, (hex2 b).1]; simp; omega
theorem bpOf_hx2 (p t : List UInt8) : bpOf (hx2 (p ++ t)) t.length p.length = some t := by
  induction t generalizing p with
  | nil => rfl
  | cons b t ih =>
    have e : ((hx2 (p ++ b :: t)).drop (2 * p.length)).take 2 = hexN (b.toNat : Int) 2 := by
      have h1 : hx2 (p ++ b :: t) = hx2 p ++ (hexN (b.toNat : Int) 2 ++ hx2 t) := by unfold hx2; rw [List.flatMap_append]; rfl
      rw [h1, ← hx2_len p, List.drop_left, show 2 = (hexN (b.toNat : Int) 2).length from (hex2 b).1.symm, List.take_left]
    have h := ih (p ++ [b])
    rw [show p ++ [b] ++ t = p ++ b :: t by simp, show (p ++ [b]).length = p.length + 1 by simp] at h
    show (if uhE _ = 0 then _ else _) = _
    rw [e, if_pos (hex2 b).2.1, h, (hex2 b).2.2.1]
    have : ((b.toNat : Int)).toNat.toUInt8 = b := by simp
    simp [this]
theorem hx2_last (t : List UInt8) : (hx2 t).getLast? ≠ some 33 := by
  induction t with
  | nil => decide
  | cons b t ih =>
    show (hexN (b.toNat : Int) 2 ++ hx2 t).getLast? ≠ some 33
    rw [List.getLast?_append]
    cases h : (hx2 t).getLast? with
    | none => simpa using (hex2 b).2.2.2
    | some x => rw [h] at ih; simpa using ih
theorem psOf_psN (t : List UInt8) (cut : Bool) : psOf (hx2 t ++ if cut then [33] else []) = (15, 0, ⟨t.toArray⟩, cut) := by
  have e : psCut (hx2 t ++ if cut then [33] else []) = (hx2 t, cut) := by
    unfold psCut
    cases cut with
    | false => simp only [if_neg (show ¬ (false = true) by decide), List.append_nil]; rw [if_neg (hx2_last t)]
    | true => simp
  have hb := bpOf_hx2 [] t
  have hl : (hx2 t).length / 2 = t.length := by rw [hx2_len]; omega
  unfold psOf
  rw [e]
  dsimp only
  rw [hl, show bpOf (hx2 t) t.length 0 = some t from hb]
theorem kNamed_of {l : List UInt8} (h : ∀ r ∈ kTab, r.2.2.1 ≠ l) : kNamed l = none := by
  unfold kNamed
  rw [List.find?_eq_none]
  intro r hr; simpa using h r hr
theorem kTab_heads (r : KRow) (h : r ∈ kTab) : 2 ≤ r.2.2.1.length ∧ r.2.2.1.head? ≠ some 60 ∧ r.2.2.1.head? ≠ some 67 ∧ r.2.2.1.head? ≠ some 77 ∧ r.2.2.1[1]? ≠ some 45 := by
  revert r; decide
theorem find_ok {kind v : Int} {r : KRow} (h : kFind kind v = some r) : r ∈ kTab ∧ r.1 = kind ∧ r.2.1 = v := by
  have h1 := List.mem_of_find?_eq_some h
  have h2 := List.find?_some h
  unfold kIs at h2
  simp at h2
  exact ⟨h1, h2⟩
theorem named_back (r : KRow) (h : r ∈ kTab) : kNamed r.2.2.1 = some r := by revert r; decide
theorem ctN_cons (v : Int) : ∃ c, ctN v = [67, 45, c] := by unfold ctN; split <;> exact ⟨_, rfl⟩
theorem sgN_form (v : Int) : (∃ c, sgN v = [c]) ∨ ∃ l, sgN v = 60 :: l ∧ 2 ≤ l.length := by
  unfold sgN; split
  · exact Or.inl ⟨_, rfl⟩
  · refine Or.inr ⟨_, rfl, ?_⟩
    have := List.length_pos_iff.2 (hexN_ne v 1)
    simp; omega
theorem kyOf_nmN (k : Ky) (h : keyB k = true) : kyOf (nmN k) = k := by
  obtain ⟨kind, v, t, c⟩ := k
  by_cases h15 : kind = 15
  · subst h15
    unfold keyB at h
    dsimp only at h
    rw [if_pos rfl] at h
    simp at h
    obtain ⟨rfl, _⟩ := h
    have e : nmN (15, 0, t, c) = 80 :: 45 :: (hx2 t.data.toList ++ if c then [33] else []) := rfl
    rw [e]
    unfold kyOf
    rw [kNamed_of (fun r hr he => (kTab_heads r hr).2.2.2.2 (by rw [he]; rfl))]
    dsimp only
    rw [if_pos (by exact ⟨_, rfl⟩)]
    have e2 : List.drop 2 (80 :: 45 :: (hx2 t.data.toList ++ if c = true then [33] else [])) = hx2 t.data.toList ++ if c = true then [33] else [] := rfl
    rw [e2, psOf_psN]
  · unfold keyB at h
    dsimp only at h
    rw [if_neg h15] at h
    simp at h
    obtain ⟨⟨ht, rfl⟩, hm⟩ := h
    obtain rfl : t = ⟨#[]⟩ := ht
    by_cases h1 : kind = 1
    · subst h1
      unfold mayB at hm
      rw [if_pos rfl] at hm
      simp at hm
      have hr := right_le hm.2
      have e : nmN (1, v, ⟨#[]⟩, false) = sgN v := rfl
      rw [e]
      have hs := sgOf_sgN v hm.1.1 hr.2
      unfold kyOf
      rcases sgN_form v with ⟨x, hx⟩ | ⟨l, hx, hl⟩
      · rw [kNamed_of (fun r hr he => by have := (kTab_heads r hr).1; rw [he, hx] at this; simp at this)]
        dsimp only
        rw [hx] at hs ⊢
        rw [if_neg (fun ⟨s, h⟩ => by simp at h), if_neg (fun ⟨s, h⟩ => by simp at h), if_neg (fun ⟨s, h⟩ => by simp at h), if_neg (fun ⟨s, h⟩ => by simp at h), hs]
      · rw [kNamed_of (fun r hr he => (kTab_heads r hr).2.1 (by rw [he, hx]; rfl))]
        dsimp only
        rw [hx] at hs ⊢
        rw [if_neg (fun ⟨s, h⟩ => by simp at h), if_neg (fun ⟨s, h⟩ => by simp at h), if_neg (fun ⟨s, h⟩ => by simp at h), if_neg (fun ⟨s, h⟩ => by simp at h), hs]
    by_cases h2 : kind = 2
    · subst h2
      unfold mayB at hm
      rw [if_neg (by decide), if_pos rfl] at hm
      have hv : 0 ≤ v ∧ v ≤ 31 := by unfold ctB at hm; simp at hm; exact hm.1
      have e : nmN (2, v, ⟨#[]⟩, false) = ctN v := rfl
      rw [e]
      have hs := ctOf_ctN v hv.1 (by omega)
      obtain ⟨x, hx⟩ := ctN_cons v
      unfold kyOf
      rw [kNamed_of (fun r hr he => (kTab_heads r hr).2.2.1 (by rw [he, hx]; rfl))]
      dsimp only
      rw [hx] at hs ⊢
      rw [if_neg (fun ⟨s, h⟩ => by simp at h), if_neg (fun ⟨s, h⟩ => by simp at h), if_neg (fun ⟨s, h⟩ => by simp at h), if_pos (by exact ⟨_, rfl⟩), hs]
    by_cases h3 : kind = 3
    · subst h3
      unfold mayB at hm
      rw [if_neg (by decide), if_neg (by decide), if_pos rfl] at hm
      have hv : 0 ≤ v ∧ v < 128 := by simp at hm; exact hm.1
      have e : nmN (3, v, ⟨#[]⟩, false) = 77 :: 45 :: (if 32 ≤ v then sgN v else ctN v) := rfl
      rw [e]
      unfold kyOf
      rw [kNamed_of (fun r hr he => (kTab_heads r hr).2.2.2.1 (by rw [he]; rfl))]
      dsimp only
      rw [if_neg (fun ⟨s, h⟩ => by simp at h)]
      by_cases hb : 32 ≤ v
      · rw [if_pos hb]
        have hs := sgOf_sgN v hb (by omega)
        rw [if_neg (fun ⟨s, h⟩ => by
          rcases sgN_form v with ⟨x, hx⟩ | ⟨l, hx, hl⟩
          · rw [hx] at h; simp at h
          · rw [hx] at h; simp at h), if_pos (by exact ⟨_, rfl⟩)]
        show (3, sgOf (sgN v), _, _) = _
        rw [hs]
      · rw [if_neg hb]
        have hs := ctOf_ctN v hv.1 (by omega)
        obtain ⟨x, hx⟩ := ctN_cons v
        rw [if_pos (by rw [hx]; exact ⟨[x], rfl⟩)]
        show (3, ctOf (ctN v), _, _) = _
        rw [hs]
    · unfold mayB at hm
      rw [if_neg h1, if_neg h2, if_neg h3] at hm
      obtain ⟨r, hr⟩ := Option.isSome_iff_exists.1 hm
      have ⟨hmem, e1, e2⟩ := find_ok hr
      have e : nmN (kind, v, ⟨#[]⟩, false) = r.2.2.1 := by
        show (if kind = 1 then _ else if kind = 2 then _ else if kind = 3 then _ else if kind = 15 then _ else _) = _
        rw [if_neg h1, if_neg h2, if_neg h3, if_neg h15]
        show (kRowOf kind v).2.2.1 = _
        unfold kRowOf; rw [hr]; rfl
      rw [e]
      unfold kyOf
      rw [named_back r hmem]
      dsimp only
      rw [e1, e2]
theorem parse_name (k : Ky) (h : keyB k = true) : prK (nmN k) = k ∧ prE (nmN k) = 0 := by
  have e := kyOf_nmN k h
  have ok : prOk (nmN k) = true := by unfold prOk; rw [e, h]; simp
  unfold prK prE
  rw [ok]
  exact ⟨by rw [if_pos rfl, e], rfl⟩
theorem parse_cases (l : List UInt8) : (prE l = 0 ∧ keyB (prK l) = true ∧ nmN (prK l) = l) ∨ (prE l = 6 ∧ prK l = k0) := by
  cases h : prOk l with
  | true =>
    left
    unfold prE prK
    rw [h]
    unfold prOk at h
    simp at h
    exact ⟨rfl, h.1, h.2⟩
  | false => right; unfold prE prK; rw [h]; exact ⟨rfl, rfl⟩
end Go.Proofs.YtdifkjmpdmlobaaDoor
