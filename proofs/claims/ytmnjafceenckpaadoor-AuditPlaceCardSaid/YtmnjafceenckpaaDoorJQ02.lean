/-
  Joined: W2 W3 W4 W5 W6 W7 W8.
-/
import Derived.Test.YtmnjafceenckpaaDoorJQ01
set_option maxRecDepth 100000
set_option linter.unusedVariables false
set_option linter.unusedSimpArgs false
namespace Go.Proofs.YtmnjafceenckpaaDoor
set_option linter.unusedVariables false
set_option linter.unusedSimpArgs false
open Go.RowKit
/-- What the reader answers. -/
def readOk (b : Nat) (s : ByteArray) : Bool := digs b s.data.toList && !s.toList.isEmpty
def readVal (b : Nat) (s : ByteArray) : Int := if digs b s.data.toList then rdv b s.data.toList else 0
theorem readOk_bad {b : Nat} {s : ByteArray} (h : digs b s.data.toList = false) : readOk b s = false := by simp [readOk, h]
theorem readVal_bad {b : Nat} {s : ByteArray} (h : digs b s.data.toList = false) : readVal b s = 0 := by simp [readVal, h]
theorem readOk_good {b : Nat} {s : ByteArray} (h : digs b s.data.toList = true) : readOk b s = !s.toList.isEmpty := by simp [readOk, h]
theorem readVal_good {b : Nat} {s : ByteArray} (h : digs b s.data.toList = true) : readVal b s = rdv b s.data.toList := by simp [readVal, h]
theorem digs_bad {b : Nat} {s : ByteArray} {k : Nat} (hk : k < s.size) (h : ¬ worth (s[k].toNat : Int) < b) : digs b s.data.toList = false := by
  cases hd : digs b s.data.toList with
  | false => rfl
  | true =>
    exfalso; apply h
    rw [digs, List.all_eq_true] at hd
    have := hd s[k] (by show s.data[k] ∈ _; simp)
    simpa using this
set_option maxHeartbeats 400000 in
theorem read_any (b p : Nat) (s : ByteArray) (w : World) (hb : 2 ≤ b) (hb' : b ≤ 16) (hs : s.size ≤ 1000000) (hc : w.cell? ⟨p, 0, none⟩ = some (.int .u64 (b : Int))) :
    Calls Tryd.prog 79 #[.string s, .pointer (some ⟨p, 0, none⟩)] w fun e w' => e = .returned (.tuple #[.int .u64 (readVal b s), .bool (readOk b s)]) ∧ w = w' := by
  go_enter Tryd.func79, Tryd.ntmps79
  go_wp2
  go_loop [5, 6] (fun n i => ∃ k : Nat, k ≤ s.size ∧ i = .int .i64 k ∧ n = .int .u64 (rdv b (s.data.toList.take k)) ∧ digs b (s.data.toList.take k) = true) (fun _ i => s.size - (intOf i).toNat)
  case atStart => exact ⟨0, Nat.zero_le _, rfl, rfl, rfl⟩
  case round =>
    obtain ⟨k, hk, rfl, rfl, hd⟩ := hrel
    have Hd := Lib.hid hd; clear hd
    by_cases hlt : k < s.size
    · have hts := take_snoc s k hlt
      have hrs := rdv_snoc b (s.data.toList.take k) s[k]
      have hds := digs_snoc b (s.data.toList.take k) s[k]
      have hbad := @digs_bad b s k hlt
      rw [← hts] at hrs hds
      have Hr := Lib.hid hrs; have Hs := Lib.hid hds; have Hb := Lib.hid hbad; clear hts hrs hds hbad
      by_cases hw : worth (s[k].toNat : Int) < b
      · go_wp2_with (go_at_call 80; refine (digit_any _ _ (u8_nn _) (u8_lt _)).mono ?_; rintro e w' ⟨rfl, rfl⟩)
        go_round
        case rel => exact ⟨k + 1, by omega, by go_num, by rw [Hr.out], by rw [Hs.out, Hd.out]; simpa using hw⟩
        case measure => simp [intOf]; omega
      · go_wp2_with (go_at_call 80; refine (digit_any _ _ (u8_nn _) (u8_lt _)).mono ?_; rintro e w' ⟨rfl, rfl⟩)
        go_ret2
        rw [readVal_bad (Hb.out hw), readOk_bad (Hb.out hw)]
        exact ⟨rfl, rfl⟩
    · have hta := take_all s k (by omega)
      have hdt := Hd.out
      rw [hta] at hdt
      have Ht := Lib.hid hta; have Hdt := Lib.hid hdt; clear hta hdt
      go_wp2
      go_ret2
      rw [readVal_good Hdt.out, readOk_good Hdt.out, Ht.out]
      exact ⟨rfl, rfl⟩

/-- A number's digits. -/
def decS (n : Int) : List UInt8 := if n < 0 then 45 :: tell 10 20 n.natAbs 1 else tell 10 20 n.toNat 1
theorem tell_int (b : Nat) (x l : Int) (p : Nat) (w : World) (hb : 2 ≤ b) (hb' : b ≤ 16) (hx0 : 0 ≤ x) (hn : x.toNat < b ^ 20) (hn' : x.toNat < 18446744073709551616) (hl0 : 0 ≤ l) (hl : l ≤ 20) (hp : p < w.heap.size) (hc : w.cell? ⟨p, 0, none⟩ = some (.int .u64 (b : Int))) :
    Calls Tryd.prog 81 #[.int .u64 x, .int .i64 l, .pointer (some ⟨p, 0, none⟩)] w fun e w' => e = .returned (.string ⟨(tell b 20 x.toNat l.toNat).toArray⟩) ∧ Below w.heap.size w w' := by
  have h := tell_any b x.toNat l.toNat p w hb hb' hn hn' (by omega) hp hc
  rw [Int.toNat_of_nonneg hx0, Int.toNat_of_nonneg hl0] at h
  exact h
theorem cell10 (w : World) (b : Int) : (w.alloc (.cells #[.int .u64 b] 99)).cell? ⟨w.heap.size, 0, none⟩ = some (.int .u64 b) := by rw [World.cell?_alloc_new]; rfl
set_option maxHeartbeats 400000 in
theorem dec_any (n : Int) (w : World) (h0 : -9223372036854775808 ≤ n) (h1 : n ≤ 9223372036854775807) : Calls Tryd.prog 64 #[.int .i64 n] w fun e w' => e = .returned (.string ⟨(decS n).toArray⟩) ∧ Below w.heap.size w w' := by
  by_cases h : n < 0
  · have hd : decS n = 45 :: tell 10 20 n.natAbs 1 := by unfold decS; rw [if_pos h]
    have e := u64_neg n h0 h
    have e2 : (IntKind.u64.wrap (-IntKind.u64.wrap n)).toNat = n.natAbs := by rw [e]; rfl
    have ht := tell_int 10 (IntKind.u64.wrap (-IntKind.u64.wrap n)) 1 w.heap.size (w.alloc (.cells #[.int .u64 10] 99)) (by omega) (by omega) (by omega) (by rw [e2]; omega) (by rw [e2]; omega) (by omega) (by omega) (by simp) (cell10 w 10)
    rw [e2] at ht
    have hl := tell_len 10 20 n.natAbs 1
    rw [show (1 : Int).toNat = 1 from rfl] at ht
    have Hd := Lib.hid hd; clear hd e e2
    generalize tell 10 20 n.natAbs 1 = t at *
    go_enter Tryd.func64, Tryd.ntmps64
    go_wp2_with (first | (go_at_call 75; refine (teller_any _ _).mono ?_; rintro e w' ⟨rfl, rfl⟩) | (go_at_call 81; refine ht.mono ?_; rintro e w1 ⟨rfl, hb⟩))
    go_ret
    rw [Hd.out]
    refine ⟨?_, ((Below.refl w.heap.size w).alloc (Nat.le_refl _) _).trans (hb.mono (by simp))⟩
    exact congrArg (fun x => Ending.returned (.string x)) (ba_app [45] t)
  · have hd : decS n = tell 10 20 n.toNat 1 := by unfold decS; rw [if_neg h]
    have ht := tell_int 10 n 1 w.heap.size (w.alloc (.cells #[.int .u64 10] 99)) (by omega) (by omega) (by omega) (by omega) (by omega) (by omega) (by omega) (by simp) (cell10 w 10)
    rw [show (1 : Int).toNat = 1 from rfl] at ht
    have Hd := Lib.hid hd; clear hd
    go_enter Tryd.func64, Tryd.ntmps64
    go_wp2_with (first | (go_at_call 75; refine (teller_any _ _).mono ?_; rintro e w' ⟨rfl, rfl⟩) | (go_at_call 81; refine ht.mono ?_; rintro e w1 ⟨rfl, hb⟩))
    go_ret
    rw [Hd.out]
    refine ⟨rfl, ?_⟩
    exact ((Below.refl w.heap.size w).alloc (Nat.le_refl _) _).trans (hb.mono (by simp))
end Go.Proofs.YtmnjafceenckpaaDoor
namespace Go.Proofs.YtmnjafceenckpaaDoor
open Go.RowKit
theorem ext1 (c : UInt8) (r : List UInt8) : (⟨(c :: r).toArray⟩ : ByteArray).extract 1 (r.length + 1) = ⟨r.toArray⟩ := by
  apply ByteArray.ext
  rw [ByteArray.data_extract]
  apply Array.ext'
  simp
theorem rng_wrap (x : Int) : -9223372036854775808 ≤ wrap64 x ∧ wrap64 x ≤ 9223372036854775807 := by unfold wrap64; omega
/-- What Undec makes of its digits. -/
def undV (l : List UInt8) : Int := if l.head? = some 45 then wrap64 (-wrap64 (readVal 10 ⟨l.tail.toArray⟩)) else wrap64 (readVal 10 ⟨l.toArray⟩)
def undD (l : List UInt8) : Bool := if l.head? = some 45 then readOk 10 ⟨l.tail.toArray⟩ else readOk 10 ⟨l.toArray⟩
def undOk (l : List UInt8) : Bool := undD l && decS (undV l) == l
def undR (l : List UInt8) : Int := if undOk l then undV l else 0
def undE (l : List UInt8) : Int := if undOk l then 0 else 6
theorem und_no {l : List UInt8} (h : undOk l = false) : undR l = 0 ∧ undE l = 6 := by simp [undR, undE, h]
theorem und_yes {l : List UInt8} (h : undOk l = true) : undR l = undV l ∧ undE l = 0 := by simp [undR, undE, h]
/-- The post. -/
def UndPost (l : List UInt8) (w : World) (e : Ending) (w' : World) : Prop := e = .returned (.tuple #[.int .i64 (undR l), .int .i64 (undE l)]) ∧ Below w.heap.size w w'
theorem post_no {l : List UInt8} {w w' : World} (h : undOk l = false) (hb : Below w.heap.size w w') : UndPost l w (.returned (.tuple #[.int .i64 0, .int .i64 6])) w' := by
  refine ⟨?_, hb⟩; rw [(und_no h).1, (und_no h).2]
theorem post_yes {l : List UInt8} {w w' : World} (h : undOk l = true) (hb : Below w.heap.size w w') : UndPost l w (.returned (.tuple #[.int .i64 (undV l), .int .i64 0])) w' := by
  refine ⟨?_, hb⟩; rw [(und_yes h).1, (und_yes h).2]
theorem below1 {w w2 : World} (hb : Below (w.alloc (.cells #[.int .u64 10] 99)).heap.size (w.alloc (.cells #[.int .u64 10] 99)) w2) : Below w.heap.size w w2 :=
  ((Below.refl w.heap.size w).alloc (Nat.le_refl _) _).trans (hb.mono (by simp))
set_option maxHeartbeats 400000 in
theorem undec_neg (r : List UInt8) (w : World) (hs : r.length ≤ 1000000) (b : Bool) (hok : readOk 10 ⟨r.toArray⟩ = b) : Calls Tryd.prog 60 #[.string ⟨(45 :: r).toArray⟩] w (UndPost (45 :: r) w) := by
  have hr : Calls Tryd.prog 79 #[.string ((⟨(45 :: r).toArray⟩ : ByteArray).extract 1 (r.length + 1)), .pointer (some ⟨w.heap.size, 0, none⟩)] (w.alloc (.cells #[.int .u64 10] 99)) fun e w' => e = .returned (.tuple #[.int .u64 (readVal 10 ⟨r.toArray⟩), .bool b]) ∧ w.alloc (.cells #[.int .u64 10] 99) = w' := by
    rw [ext1, ← hok]
    exact read_any 10 w.heap.size ⟨r.toArray⟩ _ (by omega) (by omega) hs (cell10 w 10)
  have hv : undV (45 :: r) = wrap64 (-wrap64 (readVal 10 ⟨r.toArray⟩)) := by simp [undV]
  have hd : undD (45 :: r) = b := by simp [undD, hok]
  have ho : undOk (45 :: r) = (b && decS (wrap64 (-wrap64 (readVal 10 ⟨r.toArray⟩))) == 45 :: r) := by rw [undOk, hv, hd]
  generalize readVal 10 ⟨r.toArray⟩ = u at *
  have Hv := Lib.hid hv; have Ho := Lib.hid ho; clear hok hd hv ho
  cases b
  · go_enter Tryd.func60, Tryd.ntmps60
    go_wp2_with (first | (go_at_call 74; refine (reader_any _ _).mono ?_; rintro e w' ⟨rfl, rfl⟩) | (go_at_call 79; refine hr.mono ?_; rintro e w' ⟨rfl, rfl⟩))
    go_ret2
    exact post_no (by rw [Ho.out]; rfl) ((Below.refl w.heap.size w).alloc (Nat.le_refl _) _)
  · go_enter Tryd.func60, Tryd.ntmps60
    go_wp2_with (first | (go_at_call 74; refine (reader_any _ _).mono ?_; rintro e w' ⟨rfl, rfl⟩) | (go_at_call 79; refine hr.mono ?_; rintro e w' ⟨rfl, rfl⟩) | (go_at_call 64; refine (dec_any _ _ (rng_wrap _).1 (rng_wrap _).2).mono ?_; rintro e w2 ⟨rfl, hb⟩))
    · have h : (!decS (wrap64 (-wrap64 u)) == 45 :: r) = true := by assumption
      go_ret2
      exact post_no (by rw [Ho.out]; simpa using h) (below1 hb)
    · have h : (!decS (wrap64 (-wrap64 u)) == 45 :: r) = false := by assumption
      go_ret2
      rw [← Hv.out]
      exact post_yes (by rw [Ho.out]; simpa using h) (below1 hb)
set_option maxHeartbeats 400000 in
theorem undec_pos (c : UInt8) (r : List UInt8) (w : World) (hc : c ≠ 45) (hs : r.length ≤ 999999) (b : Bool) (hok : readOk 10 ⟨(c :: r).toArray⟩ = b) : Calls Tryd.prog 60 #[.string ⟨(c :: r).toArray⟩] w (UndPost (c :: r) w) := by
  have hr : Calls Tryd.prog 79 #[.string (⟨(c :: r).toArray⟩ : ByteArray), .pointer (some ⟨w.heap.size, 0, none⟩)] (w.alloc (.cells #[.int .u64 10] 99)) fun e w' => e = .returned (.tuple #[.int .u64 (readVal 10 ⟨(c :: r).toArray⟩), .bool b]) ∧ w.alloc (.cells #[.int .u64 10] 99) = w' := by
    rw [← hok]
    exact read_any 10 w.heap.size ⟨(c :: r).toArray⟩ _ (by omega) (by omega) (by show (c :: r).toArray.size ≤ _; simp; omega) (cell10 w 10)
  have hv : undV (c :: r) = wrap64 (readVal 10 ⟨(c :: r).toArray⟩) := by simp [undV, hc]
  have hd : undD (c :: r) = b := by simp [undD, hok, hc]
  have ho : undOk (c :: r) = (b && decS (wrap64 (readVal 10 ⟨(c :: r).toArray⟩)) == c :: r) := by rw [undOk, hv, hd]
  generalize readVal 10 ⟨(c :: r).toArray⟩ = u at *
  have h45 : ((((⟨(c :: r).toArray⟩ : ByteArray)[0]'(Nat.succ_pos _)).toNat : Int) == 45) = false := by
    show ((c.toNat : Int) == 45) = false
    rw [beq_eq_false_iff_ne]; intro h; apply hc; apply UInt8.toNat_inj.mp; show c.toNat = 45; omega
  have Hv := Lib.hid hv; have Ho := Lib.hid ho; clear hok hd hv ho
  cases b
  · go_enter Tryd.func60, Tryd.ntmps60
    go_wp2_with (first | (go_at_call 74; refine (reader_any _ _).mono ?_; rintro e w' ⟨rfl, rfl⟩) | (go_at_call 79; refine hr.mono ?_; rintro e w' ⟨rfl, rfl⟩))
    go_ret2
    exact post_no (by rw [Ho.out]; rfl) ((Below.refl w.heap.size w).alloc (Nat.le_refl _) _)
  · go_enter Tryd.func60, Tryd.ntmps60
    go_wp2_with (first | (go_at_call 74; refine (reader_any _ _).mono ?_; rintro e w' ⟨rfl, rfl⟩) | (go_at_call 79; refine hr.mono ?_; rintro e w' ⟨rfl, rfl⟩) | (go_at_call 64; refine (dec_any _ _ (rng_wrap _).1 (rng_wrap _).2).mono ?_; rintro e w2 ⟨rfl, hb⟩))
    · have h : (!decS (wrap64 u) == c :: r) = true := by assumption
      go_ret2
      exact post_no (by rw [Ho.out]; simpa using h) (below1 hb)
    · have h : (!decS (wrap64 u) == c :: r) = false := by assumption
      go_ret2
      rw [← Hv.out]
      exact post_yes (by rw [Ho.out]; simpa using h) (below1 hb)
theorem readOk_nil : readOk 10 ⟨#[]⟩ = false := by simp [readOk, ByteArray.toList_eq]
theorem undOk_nil : undOk [] = false := by simp [undOk, undD, readOk, ByteArray.toList_eq]
set_option maxHeartbeats 400000 in
theorem undec_nil (w : World) : Calls Tryd.prog 60 #[.string ⟨#[]⟩] w (UndPost [] w) := by
  have hr : Calls Tryd.prog 79 #[.string (⟨#[]⟩ : ByteArray), .pointer (some ⟨w.heap.size, 0, none⟩)] (w.alloc (.cells #[.int .u64 10] 99)) fun e w' => e = .returned (.tuple #[.int .u64 (readVal 10 ⟨#[]⟩), .bool false]) ∧ w.alloc (.cells #[.int .u64 10] 99) = w' :=
    readOk_nil ▸ read_any 10 w.heap.size ⟨#[]⟩ _ (by omega) (by omega) (Nat.zero_le _) (cell10 w 10)
  go_enter Tryd.func60, Tryd.ntmps60
  go_wp2_with (first | (go_at_call 74; refine (reader_any _ _).mono ?_; rintro e w' ⟨rfl, rfl⟩) | (go_at_call 79; refine hr.mono ?_; rintro e w' ⟨rfl, rfl⟩))
  go_ret2
  exact post_no undOk_nil ((Below.refl w.heap.size w).alloc (Nat.le_refl _) _)
theorem undec_any (l : List UInt8) (w : World) (hs : l.length ≤ 999999) : Calls Tryd.prog 60 #[.string ⟨l.toArray⟩] w (UndPost l w) := by
  cases l with
  | nil => exact undec_nil w
  | cons c r =>
    by_cases hc : c = 45
    · subst hc; exact undec_neg r w (by simp at hs; omega) _ rfl
    · exact undec_pos c r w hc (by simp at hs; omega) _ rfl
end Go.Proofs.YtmnjafceenckpaaDoor
namespace Go.Proofs.YtmnjafceenckpaaDoor
open Go.RowKit
theorem tell_fuel (b : Nat) (hb : 2 ≤ b) : ∀ f n l, n < b ^ f → l ≤ f → tell b (f + 1) n l = tell b f n l := by
  intro f
  induction f with
  | zero => intro n l h hl; have : n = 0 := by simpa using h
            subst this; obtain rfl : l = 0 := by omega
            simp [tell]
  | succ f ih =>
    intro n l h hl
    have e1 : tell b (f + 1 + 1) n l = if n = 0 ∧ l = 0 then [] else tell b (f + 1) (n / b) (l - 1) ++ [dg (n % b)] := rfl
    have e2 : tell b (f + 1) n l = if n = 0 ∧ l = 0 then [] else tell b f (n / b) (l - 1) ++ [dg (n % b)] := rfl
    rw [e1, e2]
    by_cases hz : n = 0 ∧ l = 0
    · rw [if_pos hz, if_pos hz]
    · rw [if_neg hz, if_neg hz, ih _ _ (pow_step b f n hb h) (by omega)]
theorem tell_least (b f n : Nat) (h : 0 < n) : tell b f n 1 = tell b f n 0 := by
  cases f with
  | zero => rfl
  | succ f => rw [tell, tell, if_neg (by omega), if_neg (by omega)]
/-- A digit more. -/
theorem tell_more (n : Nat) (h : 10 ≤ n) (hn : n < 10 ^ 20) : tell 10 20 n 1 = tell 10 20 (n / 10) 1 ++ [dg (n % 10)] := by
  have hp := pow_step 10 19 n (by omega) hn
  have e1 : tell 10 20 n 1 = tell 10 19 (n / 10) 0 ++ [dg (n % 10)] := by rw [tell, if_neg (by omega)]
  rw [e1, tell_least 10 20 (n / 10) (by omega), tell_fuel 10 (by omega) 19 (n / 10) 0 hp (by omega)]
theorem tell_one (n : Nat) (h : n < 10) : tell 10 20 n 1 = [dg n] := by
  have e1 : tell 10 20 n 1 = tell 10 19 (n / 10) 0 ++ [dg (n % 10)] := by rw [tell, if_neg (by omega)]
  rw [e1, Nat.div_eq_of_lt h, Nat.mod_eq_of_lt h]; rfl
theorem dig_ext (n : Nat) (h : n < 16) : (⟨#[48, 49, 50, 51, 52, 53, 54, 55, 56, 57, 65, 66, 67, 68, 69, 70]⟩ : ByteArray).extract n (n + 1) = ⟨[dg n].toArray⟩ := by
  have key : ∀ j : Fin 16, (⟨#[48, 49, 50, 51, 52, 53, 54, 55, 56, 57, 65, 66, 67, 68, 69, 70]⟩ : ByteArray).data.extract j (j + 1) = #[dg j] := by decide
  apply ByteArray.ext
  rw [ByteArray.data_extract]
  exact key ⟨n, h⟩
theorem td_neg (n : Int) (h : n < 0) : n.tdiv 10 = -((-n) / 10) ∧ n.tmod 10 = -((-n) % 10) := by
  obtain ⟨m, rfl⟩ : ∃ m, n = -m := ⟨-n, by omega⟩
  rw [Int.neg_tdiv, Int.neg_tmod, Int.tdiv_eq_ediv_of_nonneg (by omega), Int.tmod_eq_emod_of_nonneg (by omega)]
  simp
theorem decS_neg1 (n : Int) (h : n < 0) (h' : -10 < n) : decS n = 45 :: [dg (-n).toNat] := by
  unfold decS; rw [if_pos h, tell_one _ (by omega), show n.natAbs = (-n).toNat by omega]
theorem decS_pos1 (n : Int) (h : 0 ≤ n) (h' : n < 10) : decS n = [dg n.toNat] := by
  unfold decS; rw [if_neg (by omega), tell_one _ (by omega)]
theorem decS_neg (n : Int) (h : n ≤ -10) (h' : -9223372036854775808 ≤ n) : decS n = decS (n.tdiv 10) ++ [dg (-(n.tmod 10)).toNat] := by
  have := td_neg n (by omega)
  have e2 : (-(n.tmod 10)).toNat = n.natAbs % 10 := by omega
  have e3 : (n.tdiv 10).natAbs = n.natAbs / 10 := by omega
  unfold decS
  rw [if_pos (by omega), if_pos (by omega), tell_more _ (by omega) (by omega), e2, e3]; rfl
theorem decS_pos (n : Int) (h : 10 ≤ n) (h' : n ≤ 9223372036854775807) : decS n = decS (n / 10) ++ [dg (n % 10).toNat] := by
  have e2 : (n % 10).toNat = n.toNat % 10 := by omega
  have e3 : (n / 10).toNat = n.toNat / 10 := by omega
  unfold decS
  rw [if_neg (by omega), if_neg (by omega), tell_more _ (by omega) (by omega), e2, e3]
theorem decS_len (n : Int) : (decS n).length ≤ 21 := by
  unfold decS; split
  · have := tell_len 10 20 n.natAbs 1; simp; omega
  · have := tell_len 10 20 n.toNat 1; omega
end Go.Proofs.YtmnjafceenckpaaDoor
namespace Go.Proofs.YtmnjafceenckpaaDoor
open Go.RowKit
/-- How many hex digits at least. -/
def lst (l : Int) : Int := if l ≤ 1 then 1 else if 16 ≤ l then 16 else l
theorem lst_rng (l : Int) : 1 ≤ lst l ∧ lst l ≤ 16 := by unfold lst; split; omega; split <;> omega
def hexS (n l : Int) : List UInt8 := if n < 0 then [] else tell 16 20 n.toNat (lst l).toNat
theorem below16 {w w2 : World} (hb : Below (w.alloc (.cells #[.int .u64 16] 99)).heap.size (w.alloc (.cells #[.int .u64 16] 99)) w2) : Below w.heap.size w w2 :=
  ((Below.refl w.heap.size w).alloc (Nat.le_refl _) _).trans (hb.mono (by simp))
end Go.Proofs.YtmnjafceenckpaaDoor
namespace Go.Proofs.YtmnjafceenckpaaDoor
open Go.RowKit
def lowI (a b : Int) : Int := if a < b then a else b
def highI (a b : Int) : Int := if b < a then a else b
/-- A digit's worth for the reference. -/
def worthR (c : Int) : Int := if worth c < 16 then worth c else -1
/-- What Unhex answers. -/
def uhOk (l : List UInt8) : Bool := readOk 16 ⟨l.toArray⟩ && decide (l.length ≤ 15)
def uhR (l : List UInt8) : Int := if uhOk l then wrap64 (readVal 16 ⟨l.toArray⟩) else 0
def uhE (l : List UInt8) : Int := if uhOk l then 0 else 6
def UhPost (l : List UInt8) (w : World) (e : Ending) (w' : World) : Prop := e = .returned (.tuple #[.int .i64 (uhR l), .int .i64 (uhE l)]) ∧ Below w.heap.size w w'
theorem uh_no {l : List UInt8} {w w' : World} (h : uhOk l = false) (hb : Below w.heap.size w w') : UhPost l w (.returned (.tuple #[.int .i64 0, .int .i64 6])) w' := by
  refine ⟨?_, hb⟩; simp [uhR, uhE, h]
theorem uh_yes {l : List UInt8} {w w' : World} (h : uhOk l = true) (hb : Below w.heap.size w w') : UhPost l w (.returned (.tuple #[.int .i64 (wrap64 (readVal 16 ⟨l.toArray⟩)), .int .i64 0])) w' := by
  refine ⟨?_, hb⟩; simp [uhR, uhE, h]
/-- The reference's number of hex digits. -/
def unhexR (l : List UInt8) : Int := if l.length = 0 ∨ 15 < l.length ∨ digs 16 l = false then -1 else dv 16 l
theorem worthR_bad {b : Nat} {s : ByteArray} {k : Nat} (hk : k < s.size) (h : worthR (s[k].toNat : Int) < 0) : digs 16 s.data.toList = false := by
  apply digs_bad hk
  intro h2
  have := worth_nonneg (s[k].toNat : Int)
  unfold worthR at h
  have h3 : worth (s[k].toNat : Int) < 16 := h2
  rw [if_pos h3] at h; omega
theorem worthR_good {c : Int} (h : 0 ≤ worthR c) : worthR c = worth c ∧ 0 ≤ worth c ∧ worth c < 16 := by
  unfold worthR at *
  have := worth_nonneg c
  by_cases h2 : worth c < 16
  · rw [if_pos h2]; exact ⟨rfl, this, h2⟩
  · rw [if_neg h2] at h; omega
theorem pow16 (k : Nat) (h : k ≤ 15) : (16 : Int) ^ k ≤ 1152921504606846976 := by
  have h1 : (16 : Nat) ^ k ≤ 16 ^ 15 := Nat.pow_le_pow_right (by omega) h
  have h2 : ((16 ^ k : Nat) : Int) = (16 : Int) ^ k := by simp
  rw [← h2]
  have : (16 : Nat) ^ 15 = 1152921504606846976 := by decide
  omega
theorem pow16' (x : Int) (n : Nat) {k : Nat} (h : n ≤ k) (hx : x < ((16 : Nat) : Int) ^ n) : k < 15 → x ≤ 72057594037927936 := by
  intro hk
  have h1 : (16 : Nat) ^ n ≤ 16 ^ 14 := Nat.pow_le_pow_right (by omega) (by omega)
  have h2 : ((16 ^ n : Nat) : Int) = ((16 : Nat) : Int) ^ n := by simp
  rw [← h2] at hx
  have : (16 : Nat) ^ 14 = 72057594037927936 := by decide
  omega
end Go.Proofs.YtmnjafceenckpaaDoor
namespace Go.Proofs.YtmnjafceenckpaaDoor
open Go.RowKit
theorem tell16_one (n : Nat) (h : n < 16) : tell 16 20 n 1 = [dg n] := by
  have e1 : tell 16 20 n 1 = tell 16 19 (n / 16) 0 ++ [dg (n % 16)] := by rw [tell, if_neg (by omega)]
  rw [e1, Nat.div_eq_of_lt h, Nat.mod_eq_of_lt h]; rfl
/-- The reference's hex digits, at least l (below 1 is 1). -/
def hexN (n : Int) (l : Int) : List UInt8 := tell 16 20 n.toNat (max l 1).toNat
theorem hexN_base (n l : Int) (h0 : 0 ≤ n) (h : n < 16) (hl : l ≤ 1) : hexN n l = [dg n.toNat] := by
  unfold hexN; rw [show (max l 1).toNat = 1 by omega, tell16_one _ (by omega)]
theorem hexN_step (n l : Int) (h0 : 0 ≤ n) (hn : n ≤ 9223372036854775807) (h : ¬ (n < 16 ∧ l ≤ 1)) (hl : l ≤ 16) : hexN n l = hexN (n / 16) (l - 1) ++ [dg (n % 16).toNat] := by
  have e2 : (n % 16).toNat = n.toNat % 16 := by omega
  have e3 : (n / 16).toNat = n.toNat / 16 := by omega
  unfold hexN
  have e1 : tell 16 20 n.toNat (max l 1).toNat = tell 16 19 (n.toNat / 16) ((max l 1).toNat - 1) ++ [dg (n.toNat % 16)] := by rw [tell, if_neg (by omega)]
  rw [e1, e2, e3]
  congr 1
  have hf := tell_fuel 16 (by omega) 19 (n.toNat / 16) ((max l 1).toNat - 1) (by omega) (by omega)
  rw [← hf]
  rcases (show 2 ≤ l ∨ l ≤ 1 by omega) with h2 | h2
  · rw [show (max (l - 1) 1).toNat = (max l 1).toNat - 1 by omega]
  · rw [show (max (l - 1) 1).toNat = 1 by omega, show (max l 1).toNat - 1 = 0 by omega, tell_least 16 20 _ (by omega)]
theorem hexN_len (n l : Int) : (hexN n l).length ≤ 20 := tell_len 16 20 _ _
end Go.Proofs.YtmnjafceenckpaaDoor
namespace Go.Proofs.YtmnjafceenckpaaDoor
open Go.RowKit
theorem decS_ne (n : Int) : decS n ≠ [] := by
  unfold decS; split
  · simp
  · exact tell_ne 10 19 _ 1 (Or.inl (by omega))
theorem tell_head (f n l : Nat) (c : UInt8) (hc : c = 45) : (tell 10 f n l).head? ≠ some c := by
  intro h
  have hd := digs_tell 10 (by omega) (by omega) f n l
  rw [digs, List.all_eq_true] at hd
  have := hd c (List.mem_of_mem_head? h)
  subst hc
  revert this; decide
theorem isEmpty_of_ne {l : List UInt8} (h : l ≠ []) : (⟨l.toArray⟩ : ByteArray).toList.isEmpty = false := by
  rw [ByteArray.toList_eq]; cases l with
  | nil => exact absurd rfl h
  | cons => rfl
theorem readOk_tell (b f n l : Nat) (hb : 2 ≤ b) (hb' : b ≤ 16) (h : 0 < l ∨ 0 < n) : readOk b ⟨(tell b (f + 1) n l).toArray⟩ = true := by
  unfold readOk
  rw [isEmpty_of_ne (tell_ne b f n l h)]
  have := digs_tell b hb hb' (f + 1) n l
  simp [this]
theorem readVal_tell (b f n l : Nat) (hb : 2 ≤ b) (hb' : b ≤ 16) (hn : n < b ^ f) (h : n < 18446744073709551616) : readVal b ⟨(tell b f n l).toArray⟩ = n := by
  unfold readVal
  have := digs_tell b hb hb' f n l
  simp only [this, if_true]
  rw [rdv_dv, dv_tell b hb hb' f n l hn, wu]; omega
theorem undV_dec (n : Int) (h0 : -9223372036854775808 ≤ n) (h1 : n ≤ 9223372036854775807) : undV (decS n) = n ∧ undD (decS n) = true := by
  unfold decS undV undD
  by_cases h : n < 0
  · rw [if_pos h]
    simp only [List.head?_cons, List.tail_cons, if_true]
    rw [readVal_tell 10 20 _ 1 (by omega) (by omega) (by omega) (by omega), readOk_tell 10 19 _ 1 (by omega) (by omega) (Or.inl (by omega))]
    refine ⟨?_, rfl⟩
    unfold wrap64; omega
  · rw [if_neg h, if_neg (tell_head 20 _ 1 45 rfl), if_neg (tell_head 20 _ 1 45 rfl)]
    rw [readVal_tell 10 20 _ 1 (by omega) (by omega) (by omega) (by omega), readOk_tell 10 19 _ 1 (by omega) (by omega) (Or.inl (by omega))]
    refine ⟨?_, rfl⟩
    unfold wrap64; omega
theorem und_dec (n : Int) (h0 : -9223372036854775808 ≤ n) (h1 : n ≤ 9223372036854775807) : undR (decS n) = n ∧ undE (decS n) = 0 := by
  have ⟨e1, e2⟩ := undV_dec n h0 h1
  have ho : undOk (decS n) = true := by unfold undOk; rw [e1, e2]; simp
  have := und_yes ho
  rw [e1] at this; exact this
theorem dec_12 : decS (-12) = [45, 49, 50] := by decide
theorem uh_12 : undR [45, 49, 50] = -12 ∧ undE [45, 49, 50] = 0 := by
  have h := und_dec (-12) (by omega) (by omega)
  rw [dec_12] at h; exact h
theorem hx_173 : uhR [48, 48, 65, 68] = 173 ∧ uhE [48, 48, 65, 68] = 0 := by
  have e : ([48, 48, 65, 68] : List UInt8) = tell 16 20 173 4 := by decide
  have ho : uhOk [48, 48, 65, 68] = true := by unfold uhOk; rw [e, readOk_tell 16 19 173 4 (by omega) (by omega) (Or.inl (by omega))]; decide
  unfold uhR uhE
  rw [ho, e, readVal_tell 16 20 173 4 (by omega) (by omega) (by omega) (by omega)]
  exact ⟨by rw [if_pos rfl]; unfold wrap64; omega, rfl⟩
theorem hex_173 : hexS 173 4 = [48, 48, 65, 68] := by decide
end Go.Proofs.YtmnjafceenckpaaDoor
