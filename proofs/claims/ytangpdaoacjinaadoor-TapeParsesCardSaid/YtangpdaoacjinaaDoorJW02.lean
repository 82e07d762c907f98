/-
  Joined: W2 W3 W4 W5 W6 W7 W8 C1 C2 C3 C4.
-/
import Derived.Test.YtangpdaoacjinaaDoorJW01
import Derived.Test.YtangpdaoacjinaaDoorRows
import Derived.WalkKit
import Derived.WalkSpells
import Derived.WalkLawsBesides
import Derived.Handy
import Derived.Lib.Hide
import Derived.Deep.QuietTactic
import Derived.BigQuiet
set_option maxRecDepth 100000
set_option linter.unusedVariables false
set_option linter.unusedSimpArgs false
namespace Go.Proofs.YtangpdaoacjinaaDoor
set_option linter.unusedVariables false
set_option linter.unusedSimpArgs false
open Go.RowKit
/-- What the reader answers. -/
def readOk (b : Nat) (s : ByteArray) : Bool := digs b s.data.toList && !s.toList.isEmpty
def readVal (b : Nat) (s : ByteArray) : Int := if digs b s.data.toList then rdv b s.data.toList else 0
theorem readOk_bad {b : Nat} {s : ByteArray} (h : digs b s.data.toList = false) : readOk b s = false := by simp [readOk, h]
theorem readVal_bad {b : Nat} {s : ByteArray} (h : digs b s.data.toList = false) : readVal b s = 0 := by simp [readVal, h]
theorem readOk_good {b : Nat} {s : ByteArray} (h : digs b s.data.toList = true) : readOk b s = !s.toList.isEmpty := by simp [readOk, h]
theorem readVal_good {b : Nat} {s : ByteArray} (h : digs b s.data.toList = true) : readVal b s = rdv b s.data.toList := by simp [readVal, h]
theorem digs_bad {b : Nat} {s : ByteArray} {k : Nat} (hk : k < s.size) (h : ¬ worth (s[k].toNat : Int) < b) : digs b s.data.toList = false := by
  cases hd : digs b s.data.toList with
  | false => rfl
  | true =>
    exfalso; apply h
    rw [digs, List.all_eq_true] at hd
    have := hd s[k] (by show s.data[k] ∈ _; simp)
    simpa using this
set_option maxHeartbeats 400000 in
theorem read_any (b p : Nat) (s : ByteArray) (w : World) (hb : 2 ≤ b) (hb' : b ≤ 16) (hs : s.size ≤ 1000000) (hc : w.cell? ⟨p, 0, none⟩ = some (.int .u64 (b : Int))) :
    Calls Tryd.prog 173 #[.string s, .pointer (some ⟨p, 0, none⟩)] w fun e w' => e = .returned (.tuple #[.int .u64 (readVal b s), .bool (readOk b s)]) ∧ w = w' := by
  go_enter Tryd.func173, Tryd.ntmps173
  go_wp2
  go_loop [5, 6] (fun n i => ∃ k : Nat, k ≤ s.size ∧ i = .int .i64 k ∧ n = .int .u64 (rdv b (s.data.toList.take k)) ∧ digs b (s.data.toList.take k) = true) (fun _ i => s.size - (intOf i).toNat)
  case atStart => exact ⟨0, Nat.zero_le _, rfl, rfl, rfl⟩
  case round =>
    obtain ⟨k, hk, rfl, rfl, hd⟩ := hrel
    have Hd := Lib.hid hd; clear hd
    by_cases hlt : k < s.size
    · have hts := take_snoc s k hlt
      have hrs := rdv_snoc b (s.data.toList.take k) s[k]
      have hds := digs_snoc b (s.data.toList.take k) s[k]
      have hbad := @digs_bad b s k hlt
      rw [← hts] at hrs hds
      have Hr := Lib.hid hrs; have Hs := Lib.hid hds; have Hb := Lib.hid hbad; clear hts hrs hds hbad
      by_cases hw : worth (s[k].toNat : Int) < b
      · go_wp2_with (go_at_call 174; refine (digit_any _ _ (u8_nn _) (u8_lt _)).mono ?_; rintro e w' ⟨rfl, rfl⟩)
        go_round
        case rel => exact ⟨k + 1, by omega, by go_num, by rw [Hr.out], by rw [Hs.out, Hd.out]; simpa using hw⟩
        case measure => simp [intOf]; omega
      · go_wp2_with (go_at_call 174; refine (digit_any _ _ (u8_nn _) (u8_lt _)).mono ?_; rintro e w' ⟨rfl, rfl⟩)
        go_ret2
        rw [readVal_bad (Hb.out hw), readOk_bad (Hb.out hw)]
        exact ⟨rfl, rfl⟩
    · have hta := take_all s k (by omega)
      have hdt := Hd.out
      rw [hta] at hdt
      have Ht := Lib.hid hta; have Hdt := Lib.hid hdt; clear hta hdt
      go_wp2
      go_ret2
      rw [readVal_good Hdt.out, readOk_good Hdt.out, Ht.out]
      exact ⟨rfl, rfl⟩

/-- A number's digits. -/
def decS (n : Int) : List UInt8 := if n < 0 then 45 :: tell 10 20 n.natAbs 1 else tell 10 20 n.toNat 1
theorem tell_int (b : Nat) (x l : Int) (p : Nat) (w : World) (hb : 2 ≤ b) (hb' : b ≤ 16) (hx0 : 0 ≤ x) (hn : x.toNat < b ^ 20) (hn' : x.toNat < 18446744073709551616) (hl0 : 0 ≤ l) (hl : l ≤ 20) (hp : p < w.heap.size) (hc : w.cell? ⟨p, 0, none⟩ = some (.int .u64 (b : Int))) :
    Calls Tryd.prog 172 #[.int .u64 x, .int .i64 l, .pointer (some ⟨p, 0, none⟩)] w fun e w' => e = .returned (.string ⟨(tell b 20 x.toNat l.toNat).toArray⟩) ∧ Below w.heap.size w w' := by
  have h := tell_any b x.toNat l.toNat p w hb hb' hn hn' (by omega) hp hc
  rw [Int.toNat_of_nonneg hx0, Int.toNat_of_nonneg hl0] at h
  exact h
theorem cell10 (w : World) (b : Int) : (w.alloc (.cells #[.int .u64 b] 182)).cell? ⟨w.heap.size, 0, none⟩ = some (.int .u64 b) := by rw [World.cell?_alloc_new]; rfl
set_option maxHeartbeats 400000 in
theorem dec_any (n : Int) (w : World) (h0 : -9223372036854775808 ≤ n) (h1 : n ≤ 9223372036854775807) : Calls Tryd.prog 115 #[.int .i64 n] w fun e w' => e = .returned (.string ⟨(decS n).toArray⟩) ∧ Below w.heap.size w w' := by
  by_cases h : n < 0
  · have hd : decS n = 45 :: tell 10 20 n.natAbs 1 := by unfold decS; rw [if_pos h]
    have e := u64_neg n h0 h
    have e2 : (IntKind.u64.wrap (-IntKind.u64.wrap n)).toNat = n.natAbs := by rw [e]; rfl
    have ht := tell_int 10 (IntKind.u64.wrap (-IntKind.u64.wrap n)) 1 w.heap.size (w.alloc (.cells #[.int .u64 10] 182)) (by omega) (by omega) (by omega) (by rw [e2]; omega) (by rw [e2]; omega) (by omega) (by omega) (by simp) (cell10 w 10)
    rw [e2] at ht
    have hl := tell_len 10 20 n.natAbs 1
    rw [show (1 : Int).toNat = 1 from rfl] at ht
    have Hd := Lib.hid hd; clear hd e e2
    generalize tell 10 20 n.natAbs 1 = t at *
    go_enter Tryd.func115, Tryd.ntmps115
    go_wp2_with (first | (go_at_call 111; refine (teller_any _ _).mono ?_; rintro e w' ⟨rfl, rfl⟩) | (go_at_call 172; refine ht.mono ?_; rintro e w1 ⟨rfl, hb⟩))
    go_ret
    rw [Hd.out]
    refine ⟨?_, ((Below.refl w.heap.size w).alloc (Nat.le_refl _) _).trans (hb.mono (by simp))⟩
    exact congrArg (fun x => Ending.returned (.string x)) (ba_app [45] t)
  · have hd : decS n = tell 10 20 n.toNat 1 := by unfold decS; rw [if_neg h]
    have ht := tell_int 10 n 1 w.heap.size (w.alloc (.cells #[.int .u64 10] 182)) (by omega) (by omega) (by omega) (by omega) (by omega) (by omega) (by omega) (by simp) (cell10 w 10)
    rw [show (1 : Int).toNat = 1 from rfl] at ht
    have Hd := Lib.hid hd; clear hd
    go_enter Tryd.func115, Tryd.ntmps115
    go_wp2_with (first | (go_at_call 111; refine (teller_any _ _).mono ?_; rintro e w' ⟨rfl, rfl⟩) | (go_at_call 172; refine ht.mono ?_; rintro e w1 ⟨rfl, hb⟩))
    go_ret
    rw [Hd.out]
    refine ⟨rfl, ?_⟩
    exact ((Below.refl w.heap.size w).alloc (Nat.le_refl _) _).trans (hb.mono (by simp))
end Go.Proofs.YtangpdaoacjinaaDoor
namespace Go.Proofs.YtangpdaoacjinaaDoor
open Go.RowKit
theorem ext1 (c : UInt8) (r : List UInt8) : (⟨(c :: r).toArray⟩ : ByteArray).extract 1 (r.length + 1) = ⟨r.toArray⟩ := by
  apply ByteArray.ext
  rw [ByteArray.data_extract]
  apply Array.ext'
  simp
theorem rng_wrap (x : Int) : -9223372036854775808 ≤ wrap64 x ∧ wrap64 x ≤ 9223372036854775807 := by unfold wrap64; omega
/-- What Undec makes of its digits. -/
def undV (l : List UInt8) : Int := if l.head? = some 45 then wrap64 (-wrap64 (readVal 10 ⟨l.tail.toArray⟩)) else wrap64 (readVal 10 ⟨l.toArray⟩)
def undD (l : List UInt8) : Bool := if l.head? = some 45 then readOk 10 ⟨l.tail.toArray⟩ else readOk 10 ⟨l.toArray⟩
def undOk (l : List UInt8) : Bool := undD l && decS (undV l) == l
def undR (l : List UInt8) : Int := if undOk l then undV l else 0
def undE (l : List UInt8) : Int := if undOk l then 0 else 6
theorem und_no {l : List UInt8} (h : undOk l = false) : undR l = 0 ∧ undE l = 6 := by simp [undR, undE, h]
theorem und_yes {l : List UInt8} (h : undOk l = true) : undR l = undV l ∧ undE l = 0 := by simp [undR, undE, h]
/-- The post. -/
def UndPost (l : List UInt8) (w : World) (e : Ending) (w' : World) : Prop := e = .returned (.tuple #[.int .i64 (undR l), .int .i64 (undE l)]) ∧ Below w.heap.size w w'
theorem post_no {l : List UInt8} {w w' : World} (h : undOk l = false) (hb : Below w.heap.size w w') : UndPost l w (.returned (.tuple #[.int .i64 0, .int .i64 6])) w' := by
  refine ⟨?_, hb⟩; rw [(und_no h).1, (und_no h).2]
theorem post_yes {l : List UInt8} {w w' : World} (h : undOk l = true) (hb : Below w.heap.size w w') : UndPost l w (.returned (.tuple #[.int .i64 (undV l), .int .i64 0])) w' := by
  refine ⟨?_, hb⟩; rw [(und_yes h).1, (und_yes h).2]
theorem below1 {w w2 : World} (hb : Below (w.alloc (.cells #[.int .u64 10] 182)).heap.size (w.alloc (.cells #[.int .u64 10] 182)) w2) : Below w.heap.size w w2 :=
  ((Below.refl w.heap.size w).alloc (Nat.le_refl _) _).trans (hb.mono (by simp))
set_option maxHeartbeats 400000 in
theorem undec_neg (r : List UInt8) (w : World) (hs : r.length ≤ 1000000) (b : Bool) (hok : readOk 10 ⟨r.toArray⟩ = b) : Calls Tryd.prog 180 #[.string ⟨(45 :: r).toArray⟩] w (UndPost (45 :: r) w) := by
  have hr : Calls Tryd.prog 173 #[.string ((⟨(45 :: r).toArray⟩ : ByteArray).extract 1 (r.length + 1)), .pointer (some ⟨w.heap.size, 0, none⟩)] (w.alloc (.cells #[.int .u64 10] 182)) fun e w' => e = .returned (.tuple #[.int .u64 (readVal 10 ⟨r.toArray⟩), .bool b]) ∧ w.alloc (.cells #[.int .u64 10] 182) = w' := by
    rw [ext1, ← hok]
    exact read_any 10 w.heap.size ⟨r.toArray⟩ _ (by omega) (by omega) hs (cell10 w 10)
  have hv : undV (45 :: r) = wrap64 (-wrap64 (readVal 10 ⟨r.toArray⟩)) := by simp [undV]
  have hd : undD (45 :: r) = b := by simp [undD, hok]
  have ho : undOk (45 :: r) = (b && decS (wrap64 (-wrap64 (readVal 10 ⟨r.toArray⟩))) == 45 :: r) := by rw [undOk, hv, hd]
  generalize readVal 10 ⟨r.toArray⟩ = u at *
  have Hv := Lib.hid hv; have Ho := Lib.hid ho; clear hok hd hv ho
  cases b
  · go_enter Tryd.func180, Tryd.ntmps180
    go_wp2_with (first | (go_at_call 113; refine (reader_any _ _).mono ?_; rintro e w' ⟨rfl, rfl⟩) | (go_at_call 173; refine hr.mono ?_; rintro e w' ⟨rfl, rfl⟩))
    go_ret2
    exact post_no (by rw [Ho.out]; rfl) ((Below.refl w.heap.size w).alloc (Nat.le_refl _) _)
  · go_enter Tryd.func180, Tryd.ntmps180
    go_wp2_with (first | (go_at_call 113; refine (reader_any _ _).mono ?_; rintro e w' ⟨rfl, rfl⟩) | (go_at_call 173; refine hr.mono ?_; rintro e w' ⟨rfl, rfl⟩) | (go_at_call 115; refine (dec_any _ _ (rng_wrap _).1 (rng_wrap _).2).mono ?_; rintro e w2 ⟨rfl, hb⟩))
    · have h : (!decS (wrap64 (-wrap64 u)) == 45 :: r) = true := by assumption
      go_ret2
      exact post_no (by rw [Ho.out]; simpa using h) (below1 hb)
    · have h : (!decS (wrap64 (-wrap64 u)) == 45 :: r) = false := by assumption
      go_ret2
      rw [← Hv.out]
      exact post_yes (by rw [Ho.out]; simpa using h) (below1 hb)
set_option maxHeartbeats 400000 in
theorem undec_pos (c : UInt8) (r : List UInt8) (w : World) (hc : c ≠ 45) (hs : r.length ≤ 999999) (b : Bool) (hok : readOk 10 ⟨(c :: r).toArray⟩ = b) : Calls Tryd.prog 180 #[.string ⟨(c :: r).toArray⟩] w (UndPost (c :: r) w) := by
  have hr : Calls Tryd.prog 173 #[.string (⟨(c :: r).toArray⟩ : ByteArray), .pointer (some ⟨w.heap.size, 0, none⟩)] (w.alloc (.cells #[.int .u64 10] 182)) fun e w' => e = .returned (.tuple #[.int .u64 (readVal 10 ⟨(c :: r).toArray⟩), .bool b]) ∧ w.alloc (.cells #[.int .u64 10] 182) = w' := by
    rw [← hok]
    exact read_any 10 w.heap.size ⟨(c :: r).toArray⟩ _ (by omega) (by omega) (by show (c :: r).toArray.size ≤ _; simp; omega) (cell10 w 10)
  have hv : undV (c :: r) = wrap64 (readVal 10 ⟨(c :: r).toArray⟩) := by simp [undV, hc]
  have hd : undD (c :: r) = b := by simp [undD, hok, hc]
  have ho : undOk (c :: r) = (b && decS (wrap64 (readVal 10 ⟨(c :: r).toArray⟩)) == c :: r) := by rw [undOk, hv, hd]
  generalize readVal 10 ⟨(c :: r).toArray⟩ = u at *
  have h45 : ((((⟨(c :: r).toArray⟩ : ByteArray)[0]'(Nat.succ_pos _)).toNat : Int) == 45) = false := by
    show ((c.toNat : Int) == 45) = false
    rw [beq_eq_false_iff_ne]; intro h; apply hc; apply UInt8.toNat_inj.mp; show c.toNat = 45; omega
  have Hv := Lib.hid hv; have Ho := Lib.hid ho; clear hok hd hv ho
  cases b
  · go_enter Tryd.func180, Tryd.ntmps180
    go_wp2_with (first | (go_at_call 113; refine (reader_any _ _).mono ?_; rintro e w' ⟨rfl, rfl⟩) | (go_at_call 173; refine hr.mono ?_; rintro e w' ⟨rfl, rfl⟩))
    go_ret2
    exact post_no (by rw [Ho.out]; rfl) ((Below.refl w.heap.size w).alloc (Nat.le_refl _) _)
  · go_enter Tryd.func180, Tryd.ntmps180
    go_wp2_with (first | (go_at_call 113; refine (reader_any _ _).mono ?_; rintro e w' ⟨rfl, rfl⟩) | (go_at_call 173; refine hr.mono ?_; rintro e w' ⟨rfl, rfl⟩) | (go_at_call 115; refine (dec_any _ _ (rng_wrap _).1 (rng_wrap _).2).mono ?_; rintro e w2 ⟨rfl, hb⟩))
    · have h : (!decS (wrap64 u) == c :: r) = true := by assumption
      go_ret2
      exact post_no (by rw [Ho.out]; simpa using h) (below1 hb)
    · have h : (!decS (wrap64 u) == c :: r) = false := by assumption
      go_ret2
      rw [← Hv.out]
      exact post_yes (by rw [Ho.out]; simpa using h) (below1 hb)
theorem readOk_nil : readOk 10 ⟨#[]⟩ = false := by simp [readOk, ByteArray.toList_eq]
theorem undOk_nil : undOk [] = false := by simp [undOk, undD, readOk, ByteArray.toList_eq]
set_option maxHeartbeats 400000 in
theorem undec_nil (w : World) : Calls Tryd.prog 180 #[.string ⟨#[]⟩] w (UndPost [] w) := by
  have hr : Calls Tryd.prog 173 #[.string (⟨#[]⟩ : ByteArray), .pointer (some ⟨w.heap.size, 0, none⟩)] (w.alloc (.cells #[.int .u64 10] 182)) fun e w' => e = .returned (.tuple #[.int .u64 (readVal 10 ⟨#[]⟩), .bool false]) ∧ w.alloc (.cells #[.int .u64 10] 182) = w' :=
    readOk_nil ▸ read_any 10 w.heap.size ⟨#[]⟩ _ (by omega) (by omega) (Nat.zero_le _) (cell10 w 10)
  go_enter Tryd.func180, Tryd.ntmps180
  go_wp2_with (first | (go_at_call 113; refine (reader_any _ _).mono ?_; rintro e w' ⟨rfl, rfl⟩) | (go_at_call 173; refine hr.mono ?_; rintro e w' ⟨rfl, rfl⟩))
  go_ret2
  exact post_no undOk_nil ((Below.refl w.heap.size w).alloc (Nat.le_refl _) _)
theorem undec_any (l : List UInt8) (w : World) (hs : l.length ≤ 999999) : Calls Tryd.prog 180 #[.string ⟨l.toArray⟩] w (UndPost l w) := by
  cases l with
  | nil => exact undec_nil w
  | cons c r =>
    by_cases hc : c = 45
    · subst hc; exact undec_neg r w (by simp at hs; omega) _ rfl
    · exact undec_pos c r w hc (by simp at hs; omega) _ rfl
end Go.Proofs.YtangpdaoacjinaaDoor
namespace Go.Proofs.YtangpdaoacjinaaDoor
open Go.RowKit
theorem tell_fuel (b : Nat) (hb : 2 ≤ b) : ∀ f n l, n < b ^ f → l ≤ f → tell b (f + 1) n l = tell b f n l := by
  intro f
  induction f with
  | zero => intro n l h hl; have : n = 0 := by simpa using h
            subst this; obtain rfl : l = 0 := by omega
            simp [tell]
  | succ f ih =>
    intro n l h hl
    have e1 : tell b (f + 1 + 1) n l = if n = 0 ∧ l = 0 then [] else tell b (f + 1) (n / b) (l - 1) ++ [dg (n % b)] := rfl
    have e2 : tell b (f + 1) n l = if n = 0 ∧ l = 0 then [] else tell b f (n / b) (l - 1) ++ [dg (n % b)] := rfl
    rw [e1, e2]
    by_cases hz : n = 0 ∧ l = 0
    · rw [if_pos hz, if_pos hz]
    · rw [if_neg hz, if_neg hz, ih _ _ (pow_step b f n hb h) (by omega)]
theorem tell_least (b f n : Nat) (h : 0 < n) : tell b f n 1 = tell b f n 0 := by
  cases f with
  | zero => rfl
  | succ f => rw [tell, tell, if_neg (by omega), if_neg (by omega)]
/-- A digit more. -/
theorem tell_more (n : Nat) (h : 10 ≤ n) (hn : n < 10 ^ 20) : tell 10 20 n 1 = tell 10 20 (n / 10) 1 ++ [dg (n % 10)] := by
  have hp := pow_step 10 19 n (by omega) hn
  have e1 : tell 10 20 n 1 = tell 10 19 (n / 10) 0 ++ [dg (n % 10)] := by rw [tell, if_neg (by omega)]
  rw [e1, tell_least 10 20 (n / 10) (by omega), tell_fuel 10 (by omega) 19 (n / 10) 0 hp (by omega)]
theorem tell_one (n : Nat) (h : n < 10) : tell 10 20 n 1 = [dg n] := by
  have e1 : tell 10 20 n 1 = tell 10 19 (n / 10) 0 ++ [dg (n % 10)] := by rw [tell, if_neg (by omega)]
  rw [e1, Nat.div_eq_of_lt h, Nat.mod_eq_of_lt h]; rfl
theorem dig_ext (n : Nat) (h : n < 16) : (⟨#[48, 49, 50, 51, 52, 53, 54, 55, 56, 57, 65, 66, 67, 68, 69, 70]⟩ : ByteArray).extract n (n + 1) = ⟨[dg n].toArray⟩ := by
  have key : ∀ j : Fin 16, (⟨#[48, 49, 50, 51, 52, 53, 54, 55, 56, 57, 65, 66, 67, 68, 69, 70]⟩ : ByteArray).data.extract j (j + 1) = #[dg j] := by decide
  apply ByteArray.ext
  rw [ByteArray.data_extract]
  exact key ⟨n, h⟩
theorem digit_ref (n : Int) (w : World) (h0 : 0 ≤ n) (h1 : n < 16) : Calls Tryd.prog 114 #[.int .i64 n] w fun e w' => e = .returned (.string ⟨[dg n.toNat].toArray⟩) ∧ w = w' := by
  obtain ⟨k, rfl⟩ := Int.eq_ofNat_of_zero_le h0
  have hx := dig_ext k (by omega)
  have Hx := Lib.hid hx; clear hx
  go_enter Tryd.func114, Tryd.ntmps114
  go_wp2
  go_ret
  exact ⟨congrArg (fun x => Ending.returned (.string x)) Hx.out, rfl⟩
theorem td_neg (n : Int) (h : n < 0) : n.tdiv 10 = -((-n) / 10) ∧ n.tmod 10 = -((-n) % 10) := by
  obtain ⟨m, rfl⟩ : ∃ m, n = -m := ⟨-n, by omega⟩
  rw [Int.neg_tdiv, Int.neg_tmod, Int.tdiv_eq_ediv_of_nonneg (by omega), Int.tmod_eq_emod_of_nonneg (by omega)]
  simp
theorem decS_neg1 (n : Int) (h : n < 0) (h' : -10 < n) : decS n = 45 :: [dg (-n).toNat] := by
  unfold decS; rw [if_pos h, tell_one _ (by omega), show n.natAbs = (-n).toNat by omega]
theorem decS_pos1 (n : Int) (h : 0 ≤ n) (h' : n < 10) : decS n = [dg n.toNat] := by
  unfold decS; rw [if_neg (by omega), tell_one _ (by omega)]
theorem decS_neg (n : Int) (h : n ≤ -10) (h' : -9223372036854775808 ≤ n) : decS n = decS (n.tdiv 10) ++ [dg (-(n.tmod 10)).toNat] := by
  have := td_neg n (by omega)
  have e2 : (-(n.tmod 10)).toNat = n.natAbs % 10 := by omega
  have e3 : (n.tdiv 10).natAbs = n.natAbs / 10 := by omega
  unfold decS
  rw [if_pos (by omega), if_pos (by omega), tell_more _ (by omega) (by omega), e2, e3]; rfl
theorem decS_pos (n : Int) (h : 10 ≤ n) (h' : n ≤ 9223372036854775807) : decS n = decS (n / 10) ++ [dg (n % 10).toNat] := by
  have e2 : (n % 10).toNat = n.toNat % 10 := by omega
  have e3 : (n / 10).toNat = n.toNat / 10 := by omega
  unfold decS
  rw [if_neg (by omega), if_neg (by omega), tell_more _ (by omega) (by omega), e2, e3]
theorem decS_len (n : Int) : (decS n).length ≤ 21 := by
  unfold decS; split
  · have := tell_len 10 20 n.natAbs 1; simp; omega
  · have := tell_len 10 20 n.toNat 1; omega
set_option maxHeartbeats 400000 in
theorem dec_ref (k : Nat) : ∀ (n : Int) (w : World), n.natAbs ≤ k → -9223372036854775808 ≤ n → n ≤ 9223372036854775807 →
    Calls Tryd.prog 64 #[.int .i64 n] w fun e w' => e = .returned (.string ⟨(decS n).toArray⟩) ∧ w = w' := by
  induction k with
  | zero => 
    intro n w hk h0 h1
    obtain rfl : n = 0 := by omega
    go_enter Tryd.func64, Tryd.ntmps64
    go_wp2_with (go_at_call 114; refine (digit_ref _ _ (by omega) (by omega)).mono ?_; rintro e w' ⟨rfl, rfl⟩)
    go_ret
    exact ⟨rfl, rfl⟩
  | succ k ih => 
    intro n w hk h0 h1
    rcases (show (n < 0 ∧ -10 < n) ∨ n ≤ -10 ∨ (0 ≤ n ∧ n < 10) ∨ 10 ≤ n by omega) with ⟨a, b⟩ | a | ⟨a, b⟩ | a
    · have Hd := Lib.hid (decS_neg1 n a b)
      go_enter Tryd.func64, Tryd.ntmps64
      go_wp2_with (go_at_call 114; refine (digit_ref _ _ (by omega) (by omega)).mono ?_; rintro e w' ⟨rfl, rfl⟩)
      go_ret
      rw [Hd.out]
      exact ⟨congrArg (fun x => Ending.returned (.string x)) (ba_app [45] _), rfl⟩
    · have Hd := Lib.hid (decS_neg n a h0)
      have hl := decS_len (n.tdiv 10)
      have td := td_neg n (by omega)
      have ht1 : (n.tdiv 10).natAbs ≤ k := by omega
      have ht2 : n.tdiv 10 ≤ 9223372036854775807 := by omega
      have ht3 : -9223372036854775808 ≤ n.tdiv 10 := by omega
      have hm1 : 0 ≤ -(n.tmod 10) := by omega
      have hm2 : -(n.tmod 10) < 16 := by omega
      clear td
      have Ih := Lib.hid ih; clear ih
      go_enter Tryd.func64, Tryd.ntmps64
      go_wp2_with (first | (go_at_call 64; refine (Ih.out _ _ (by omega) (by omega) (by omega)).mono ?_; rintro e w' ⟨rfl, rfl⟩) | (go_at_call 114; refine (digit_ref _ _ hm1 hm2).mono ?_; rintro e w' ⟨rfl, rfl⟩))
      go_ret
      rw [Hd.out]
      exact ⟨congrArg (fun x => Ending.returned (.string x)) (ba_app _ _), rfl⟩
    · have Hd := Lib.hid (decS_pos1 n a b)
      go_enter Tryd.func64, Tryd.ntmps64
      go_wp2_with (go_at_call 114; refine (digit_ref _ _ (by omega) (by omega)).mono ?_; rintro e w' ⟨rfl, rfl⟩)
      go_ret
      rw [Hd.out]
      exact ⟨rfl, rfl⟩
    · have Hd := Lib.hid (decS_pos n a h1)
      have hl := decS_len (n / 10)
      have Ih := Lib.hid ih; clear ih
      go_enter Tryd.func64, Tryd.ntmps64
      go_wp2_with (first | (go_at_call 64; refine (Ih.out _ _ (by omega) (by omega) (by omega)).mono ?_; rintro e w' ⟨rfl, rfl⟩) | (go_at_call 114; refine (digit_ref _ _ (by omega) (by omega)).mono ?_; rintro e w' ⟨rfl, rfl⟩))
      go_ret
      rw [Hd.out]
      exact ⟨congrArg (fun x => Ending.returned (.string x)) (ba_app _ _), rfl⟩
end Go.Proofs.YtangpdaoacjinaaDoor
namespace Go.Proofs.YtangpdaoacjinaaDoor
open Go.RowKit
/-- How many hex digits at least. -/
def lst (l : Int) : Int := if l ≤ 1 then 1 else if 16 ≤ l then 16 else l
theorem lst_rng (l : Int) : 1 ≤ lst l ∧ lst l ≤ 16 := by unfold lst; split; omega; split <;> omega
def hexS (n l : Int) : List UInt8 := if n < 0 then [] else tell 16 20 n.toNat (lst l).toNat
theorem below16 {w w2 : World} (hb : Below (w.alloc (.cells #[.int .u64 16] 182)).heap.size (w.alloc (.cells #[.int .u64 16] 182)) w2) : Below w.heap.size w w2 :=
  ((Below.refl w.heap.size w).alloc (Nat.le_refl _) _).trans (hb.mono (by simp))
set_option maxHeartbeats 1000000 in
theorem hex_any (n l : Int) (w : World) (h0 : -9223372036854775808 ≤ n) (h1 : n ≤ 9223372036854775807) : Calls Tryd.prog 54 #[.int .i64 n, .int .i64 l] w fun e w' => e = .returned (.string ⟨(hexS n l).toArray⟩) ∧ Below w.heap.size w w' := by
  by_cases h : n < 0
  · have hd : hexS n l = [] := by unfold hexS; rw [if_pos h]
    have Hd := Lib.hid hd; clear hd
    go_enter Tryd.func54, Tryd.ntmps54
    go_wp2
    go_ret
    rw [Hd.out]
    exact ⟨rfl, Below.refl _ _⟩
  · have hd : hexS n l = tell 16 20 n.toNat (lst l).toNat := by unfold hexS; rw [if_neg h]
    have hr := lst_rng l
    have ht := tell_int 16 n (lst l) w.heap.size (w.alloc (.cells #[.int .u64 16] 182)) (by omega) (by omega) (by omega) (by omega) (by omega) (by omega) (by omega) (by simp) (cell10 w 16)
    have Hd := Lib.hid hd; clear hd
    rcases (show l < 1 ∨ l = 1 ∨ 16 < l ∨ l = 16 ∨ (1 < l ∧ l < 16) by omega) with a | rfl | a | rfl | ⟨a, b⟩
    · rw [show lst l = 1 by unfold lst; rw [if_pos (by omega)]] at *
      clear hr
      go_enter Tryd.func54, Tryd.ntmps54
      go_wp2_with (first | (go_at_call 111; refine (teller_any _ _).mono ?_; rintro e w' ⟨rfl, rfl⟩) | (go_at_call 172; refine ht.mono ?_; rintro e w1 ⟨rfl, hb⟩))
      go_ret
      rw [Hd.out]
      exact ⟨rfl, below16 hb⟩
    · rw [show lst 1 = 1 by rfl] at *
      clear hr
      go_enter Tryd.func54, Tryd.ntmps54
      go_wp2_with (first | (go_at_call 111; refine (teller_any _ _).mono ?_; rintro e w' ⟨rfl, rfl⟩) | (go_at_call 172; refine ht.mono ?_; rintro e w1 ⟨rfl, hb⟩))
      go_ret
      rw [Hd.out]
      exact ⟨rfl, below16 hb⟩
    · rw [show lst l = 16 by unfold lst; rw [if_neg (by omega), if_pos (by omega)]] at *
      clear hr
      go_enter Tryd.func54, Tryd.ntmps54
      go_wp2_with (first | (go_at_call 111; refine (teller_any _ _).mono ?_; rintro e w' ⟨rfl, rfl⟩) | (go_at_call 172; refine ht.mono ?_; rintro e w1 ⟨rfl, hb⟩))
      go_ret
      rw [Hd.out]
      exact ⟨rfl, below16 hb⟩
    · rw [show lst 16 = 16 by rfl] at *
      clear hr
      go_enter Tryd.func54, Tryd.ntmps54
      go_wp2_with (first | (go_at_call 111; refine (teller_any _ _).mono ?_; rintro e w' ⟨rfl, rfl⟩) | (go_at_call 172; refine ht.mono ?_; rintro e w1 ⟨rfl, hb⟩))
      go_ret
      rw [Hd.out]
      exact ⟨rfl, below16 hb⟩
    · rw [show lst l = l by unfold lst; rw [if_neg (by omega), if_neg (by omega)]] at *
      clear hr
      go_enter Tryd.func54, Tryd.ntmps54
      go_wp2_with (first | (go_at_call 111; refine (teller_any _ _).mono ?_; rintro e w' ⟨rfl, rfl⟩) | (go_at_call 172; refine ht.mono ?_; rintro e w1 ⟨rfl, hb⟩))
      go_ret
      rw [Hd.out]
      exact ⟨rfl, below16 hb⟩
end Go.Proofs.YtangpdaoacjinaaDoor
namespace Go.Proofs.YtangpdaoacjinaaDoor
open Go.RowKit
def lowI (a b : Int) : Int := if a < b then a else b
def highI (a b : Int) : Int := if b < a then a else b
/-- A digit's worth for the reference. -/
def worthR (c : Int) : Int := if worth c < 16 then worth c else -1
/-- What Unhex answers. -/
def uhOk (l : List UInt8) : Bool := readOk 16 ⟨l.toArray⟩ && decide (l.length ≤ 15)
def uhR (l : List UInt8) : Int := if uhOk l then wrap64 (readVal 16 ⟨l.toArray⟩) else 0
def uhE (l : List UInt8) : Int := if uhOk l then 0 else 6
def UhPost (l : List UInt8) (w : World) (e : Ending) (w' : World) : Prop := e = .returned (.tuple #[.int .i64 (uhR l), .int .i64 (uhE l)]) ∧ Below w.heap.size w w'
theorem uh_no {l : List UInt8} {w w' : World} (h : uhOk l = false) (hb : Below w.heap.size w w') : UhPost l w (.returned (.tuple #[.int .i64 0, .int .i64 6])) w' := by
  refine ⟨?_, hb⟩; simp [uhR, uhE, h]
theorem uh_yes {l : List UInt8} {w w' : World} (h : uhOk l = true) (hb : Below w.heap.size w w') : UhPost l w (.returned (.tuple #[.int .i64 (wrap64 (readVal 16 ⟨l.toArray⟩)), .int .i64 0])) w' := by
  refine ⟨?_, hb⟩; simp [uhR, uhE, h]
set_option maxHeartbeats 400000 in
theorem unhex_b (l : List UInt8) (w : World) (hs : l.length ≤ 999999) (b : Bool) (hok : readOk 16 ⟨l.toArray⟩ = b) : Calls Tryd.prog 57 #[.string ⟨l.toArray⟩] w (UhPost l w) := by
  have hr : Calls Tryd.prog 173 #[.string (⟨l.toArray⟩ : ByteArray), .pointer (some ⟨w.heap.size, 0, none⟩)] (w.alloc (.cells #[.int .u64 16] 182)) fun e w' => e = .returned (.tuple #[.int .u64 (readVal 16 ⟨l.toArray⟩), .bool b]) ∧ w.alloc (.cells #[.int .u64 16] 182) = w' := by
    rw [← hok]
    exact read_any 16 w.heap.size ⟨l.toArray⟩ _ (by omega) (by omega) (by show l.toArray.size ≤ _; simp; omega) (cell10 w 16)
  have Hok := Lib.hid hok; clear hok
  cases b
  · go_enter Tryd.func57, Tryd.ntmps57
    go_wp2_with (first | (go_at_call 113; refine (reader_any _ _).mono ?_; rintro e w' ⟨rfl, rfl⟩) | (go_at_call 173; refine hr.mono ?_; rintro e w' ⟨rfl, rfl⟩))
    go_ret2
    exact uh_no (by unfold uhOk; rw [Hok.out]; rfl) ((Below.refl w.heap.size w).alloc (Nat.le_refl _) _)
  · by_cases h15 : l.length ≤ 15
    · go_enter Tryd.func57, Tryd.ntmps57
      go_wp2_with (first | (go_at_call 113; refine (reader_any _ _).mono ?_; rintro e w' ⟨rfl, rfl⟩) | (go_at_call 173; refine hr.mono ?_; rintro e w' ⟨rfl, rfl⟩))
      go_ret2
      exact uh_yes (by unfold uhOk; rw [Hok.out, decide_eq_true h15]; rfl) ((Below.refl w.heap.size w).alloc (Nat.le_refl _) _)
    · go_enter Tryd.func57, Tryd.ntmps57
      go_wp2_with (first | (go_at_call 113; refine (reader_any _ _).mono ?_; rintro e w' ⟨rfl, rfl⟩) | (go_at_call 173; refine hr.mono ?_; rintro e w' ⟨rfl, rfl⟩))
      go_ret2
      exact uh_no (by unfold uhOk; rw [Hok.out, decide_eq_false h15]; rfl) ((Below.refl w.heap.size w).alloc (Nat.le_refl _) _)
theorem unhex_any (l : List UInt8) (w : World) (hs : l.length ≤ 999999) : Calls Tryd.prog 57 #[.string ⟨l.toArray⟩] w (UhPost l w) := unhex_b l w hs _ rfl
/-- The reference's number of hex digits. -/
def unhexR (l : List UInt8) : Int := if l.length = 0 ∨ 15 < l.length ∨ digs 16 l = false then -1 else dv 16 l
theorem worthR_bad {b : Nat} {s : ByteArray} {k : Nat} (hk : k < s.size) (h : worthR (s[k].toNat : Int) < 0) : digs 16 s.data.toList = false := by
  apply digs_bad hk
  intro h2
  have := worth_nonneg (s[k].toNat : Int)
  unfold worthR at h
  have h3 : worth (s[k].toNat : Int) < 16 := h2
  rw [if_pos h3] at h; omega
theorem worthR_good {c : Int} (h : 0 ≤ worthR c) : worthR c = worth c ∧ 0 ≤ worth c ∧ worth c < 16 := by
  unfold worthR at *
  have := worth_nonneg c
  by_cases h2 : worth c < 16
  · rw [if_pos h2]; exact ⟨rfl, this, h2⟩
  · rw [if_neg h2] at h; omega
theorem pow16 (k : Nat) (h : k ≤ 15) : (16 : Int) ^ k ≤ 1152921504606846976 := by
  have h1 : (16 : Nat) ^ k ≤ 16 ^ 15 := Nat.pow_le_pow_right (by omega) h
  have h2 : ((16 ^ k : Nat) : Int) = (16 : Int) ^ k := by simp
  rw [← h2]
  have : (16 : Nat) ^ 15 = 1152921504606846976 := by decide
  omega
theorem pow16' (x : Int) (n : Nat) {k : Nat} (h : n ≤ k) (hx : x < ((16 : Nat) : Int) ^ n) : k < 15 → x ≤ 72057594037927936 := by
  intro hk
  have h1 : (16 : Nat) ^ n ≤ 16 ^ 14 := Nat.pow_le_pow_right (by omega) (by omega)
  have h2 : ((16 ^ n : Nat) : Int) = ((16 : Nat) : Int) ^ n := by simp
  rw [← h2] at hx
  have : (16 : Nat) ^ 14 = 72057594037927936 := by decide
  omega
end Go.Proofs.YtangpdaoacjinaaDoor
namespace Go.Proofs.YtangpdaoacjinaaDoor
open Go.RowKit
theorem tell16_one (n : Nat) (h : n < 16) : tell 16 20 n 1 = [dg n] := by
  have e1 : tell 16 20 n 1 = tell 16 19 (n / 16) 0 ++ [dg (n % 16)] := by rw [tell, if_neg (by omega)]
  rw [e1, Nat.div_eq_of_lt h, Nat.mod_eq_of_lt h]; rfl
/-- The reference's hex digits, at least l (below 1 is 1). -/
def hexN (n : Int) (l : Int) : List UInt8 := tell 16 20 n.toNat (max l 1).toNat
theorem hexN_base (n l : Int) (h0 : 0 ≤ n) (h : n < 16) (hl : l ≤ 1) : hexN n l = [dg n.toNat] := by
  unfold hexN; rw [show (max l 1).toNat = 1 by omega, tell16_one _ (by omega)]
theorem hexN_step (n l : Int) (h0 : 0 ≤ n) (hn : n ≤ 9223372036854775807) (h : ¬ (n < 16 ∧ l ≤ 1)) (hl : l ≤ 16) : hexN n l = hexN (n / 16) (l - 1) ++ [dg (n % 16).toNat] := by
  have e2 : (n % 16).toNat = n.toNat % 16 := by omega
  have e3 : (n / 16).toNat = n.toNat / 16 := by omega
  unfold hexN
  have e1 : tell 16 20 n.toNat (max l 1).toNat = tell 16 19 (n.toNat / 16) ((max l 1).toNat - 1) ++ [dg (n.toNat % 16)] := by rw [tell, if_neg (by omega)]
  rw [e1, e2, e3]
  congr 1
  have hf := tell_fuel 16 (by omega) 19 (n.toNat / 16) ((max l 1).toNat - 1) (by omega) (by omega)
  rw [← hf]
  rcases (show 2 ≤ l ∨ l ≤ 1 by omega) with h2 | h2
  · rw [show (max (l - 1) 1).toNat = (max l 1).toNat - 1 by omega]
  · rw [show (max (l - 1) 1).toNat = 1 by omega, show (max l 1).toNat - 1 = 0 by omega, tell_least 16 20 _ (by omega)]
theorem hexN_len (n l : Int) : (hexN n l).length ≤ 20 := tell_len 16 20 _ _
set_option maxHeartbeats 400000 in
theorem hex_ref (k : Nat) : ∀ (n l : Int) (w : World), 0 ≤ n → n ≤ 9223372036854775807 → n.toNat < 16 ^ k → l ≤ k → l ≤ 16 → (k : Int) - 1000 ≤ l →
    Calls Tryd.prog 58 #[.int .i64 n, .int .i64 l] w fun e w' => e = .returned (.string ⟨(hexN n l).toArray⟩) ∧ w = w' := by
  induction k with
  | zero => 
    intro n l w h0 h1 hk hl hl2 hl3
    obtain rfl : n = 0 := by simp at hk; omega
    have Hd : Hid (hexN 0 l = [dg 0]) := Lib.hid (hexN_base 0 l (by omega) (by omega) (by omega))
    have : l ≤ 1 := by omega
    clear hk
    go_enter Tryd.func58, Tryd.ntmps58
    go_wp2_with (go_at_call 114; refine (digit_ref _ _ (by omega) (by omega)).mono ?_; rintro e w' ⟨rfl, rfl⟩)
    go_ret
    rw [Hd.out]
    exact ⟨rfl, rfl⟩
  | succ k ih => 
    intro n l w h0 h1 hk hl hl2 hl3
    by_cases hb : n < 16 ∧ l ≤ 1
    · obtain ⟨hb1, hb2⟩ := hb
      have Hd : Hid (hexN n l = [dg n.toNat]) := Lib.hid (hexN_base n l (by omega) (by omega) (by omega))
      clear hk ih
      go_enter Tryd.func58, Tryd.ntmps58
      go_wp2_with (go_at_call 114; refine (digit_ref _ _ (by omega) (by omega)).mono ?_; rintro e w' ⟨rfl, rfl⟩)
      go_ret
      rw [Hd.out]
      exact ⟨rfl, rfl⟩
    · have Hd : Hid (hexN n l = hexN (n / 16) (l - 1) ++ [dg (n % 16).toNat]) := Lib.hid (hexN_step n l h0 h1 hb hl2)
      have hln := hexN_len (n / 16) (l - 1)
      have hk2 : (n / 16).toNat < 16 ^ k := by
        have := pow_step 16 k n.toNat (by omega) hk
        rw [show (n / 16).toNat = n.toNat / 16 by omega]; exact this
      have Ih : Hid (∀ w : World, Calls Tryd.prog 58 #[.int .i64 (n / 16), .int .i64 (l - 1)] w fun e w' => e = .returned (.string ⟨(hexN (n / 16) (l - 1)).toArray⟩) ∧ w = w') :=
        Lib.hid fun w => ih (n / 16) (l - 1) w (by omega) (by omega) hk2 (by omega) (by omega) (by omega)
      clear hk ih hk2
      rcases (show 16 ≤ n ∨ (n < 16 ∧ 1 < l) by omega) with a | ⟨a, b⟩
      · go_enter Tryd.func58, Tryd.ntmps58
        go_wp2_with (first | (go_at_call 58; refine (Ih.out _).mono ?_; rintro e w' ⟨rfl, rfl⟩) | (go_at_call 114; refine (digit_ref _ _ (by omega) (by omega)).mono ?_; rintro e w' ⟨rfl, rfl⟩))
        go_ret
        rw [Hd.out]
        exact ⟨congrArg (fun x => Ending.returned (.string x)) (ba_app _ _), rfl⟩
      · go_enter Tryd.func58, Tryd.ntmps58
        go_wp2_with (first | (go_at_call 58; refine (Ih.out _).mono ?_; rintro e w' ⟨rfl, rfl⟩) | (go_at_call 114; refine (digit_ref _ _ (by omega) (by omega)).mono ?_; rintro e w' ⟨rfl, rfl⟩))
        go_ret
        rw [Hd.out]
        exact ⟨congrArg (fun x => Ending.returned (.string x)) (ba_app _ _), rfl⟩
end Go.Proofs.YtangpdaoacjinaaDoor
namespace Go.Proofs.YtangpdaoacjinaaDoor
open Go.RowKit
theorem decS_ne (n : Int) : decS n ≠ [] := by
  unfold decS; split
  · simp
  · exact tell_ne 10 19 _ 1 (Or.inl (by omega))
theorem tell_head (f n l : Nat) (c : UInt8) (hc : c = 45) : (tell 10 f n l).head? ≠ some c := by
  intro h
  have hd := digs_tell 10 (by omega) (by omega) f n l
  rw [digs, List.all_eq_true] at hd
  have := hd c (List.mem_of_mem_head? h)
  subst hc
  revert this; decide
theorem isEmpty_of_ne {l : List UInt8} (h : l ≠ []) : (⟨l.toArray⟩ : ByteArray).toList.isEmpty = false := by
  rw [ByteArray.toList_eq]; cases l with
  | nil => exact absurd rfl h
  | cons => rfl
theorem readOk_tell (b f n l : Nat) (hb : 2 ≤ b) (hb' : b ≤ 16) (h : 0 < l ∨ 0 < n) : readOk b ⟨(tell b (f + 1) n l).toArray⟩ = true := by
  unfold readOk
  rw [isEmpty_of_ne (tell_ne b f n l h)]
  have := digs_tell b hb hb' (f + 1) n l
  simp [this]
theorem readVal_tell (b f n l : Nat) (hb : 2 ≤ b) (hb' : b ≤ 16) (hn : n < b ^ f) (h : n < 18446744073709551616) : readVal b ⟨(tell b f n l).toArray⟩ = n := by
  unfold readVal
  have := digs_tell b hb hb' f n l
  simp only [this, if_true]
  rw [rdv_dv, dv_tell b hb hb' f n l hn, wu]; omega
theorem undV_dec (n : Int) (h0 : -9223372036854775808 ≤ n) (h1 : n ≤ 9223372036854775807) : undV (decS n) = n ∧ undD (decS n) = true := by
  unfold decS undV undD
  by_cases h : n < 0
  · rw [if_pos h]
    simp only [List.head?_cons, List.tail_cons, if_true]
    rw [readVal_tell 10 20 _ 1 (by omega) (by omega) (by omega) (by omega), readOk_tell 10 19 _ 1 (by omega) (by omega) (Or.inl (by omega))]
    refine ⟨?_, rfl⟩
    unfold wrap64; omega
  · rw [if_neg h, if_neg (tell_head 20 _ 1 45 rfl), if_neg (tell_head 20 _ 1 45 rfl)]
    rw [readVal_tell 10 20 _ 1 (by omega) (by omega) (by omega) (by omega), readOk_tell 10 19 _ 1 (by omega) (by omega) (Or.inl (by omega))]
    refine ⟨?_, rfl⟩
    unfold wrap64; omega
theorem und_dec (n : Int) (h0 : -9223372036854775808 ≤ n) (h1 : n ≤ 9223372036854775807) : undR (decS n) = n ∧ undE (decS n) = 0 := by
  have ⟨e1, e2⟩ := undV_dec n h0 h1
  have ho : undOk (decS n) = true := by unfold undOk; rw [e1, e2]; simp
  have := und_yes ho
  rw [e1] at this; exact this
theorem dec_12 : decS (-12) = [45, 49, 50] := by decide
theorem uh_12 : undR [45, 49, 50] = -12 ∧ undE [45, 49, 50] = 0 := by
  have h := und_dec (-12) (by omega) (by omega)
  rw [dec_12] at h; exact h
theorem hx_173 : uhR [48, 48, 65, 68] = 173 ∧ uhE [48, 48, 65, 68] = 0 := by
  have e : ([48, 48, 65, 68] : List UInt8) = tell 16 20 173 4 := by decide
  have ho : uhOk [48, 48, 65, 68] = true := by unfold uhOk; rw [e, readOk_tell 16 19 173 4 (by omega) (by omega) (Or.inl (by omega))]; decide
  unfold uhR uhE
  rw [ho, e, readVal_tell 16 20 173 4 (by omega) (by omega) (by omega) (by omega)]
  exact ⟨by rw [if_pos rfl]; unfold wrap64; omega, rfl⟩
theorem hex_173 : hexS 173 4 = [48, 48, 65, 68] := by decide
end Go.Proofs.YtangpdaoacjinaaDoor
namespace Go.Proofs.YtangpdaoacjinaaDoor
open Go.RowKit
/-- The class tables lie in memory. -/
structure Tabs (w : World) : Prop where
  r : ∀ i, i < 159 → w.cell? ⟨3, i, none⟩ = some (.int .i32 (rng.getD i 0))
  l : ∀ i, i < 102 → w.cell? ⟨6, i, none⟩ = some (.int .i32 (lks.getD i 0))
  s : 3 < w.heap.size
  s2 : 6 < w.heap.size
theorem Tabs.below {w w' : World} (h : Tabs w) (hb : Below w.heap.size w w') : Tabs w' :=
  ⟨fun i hi => (hb.cell (p := ⟨3, i, none⟩) h.s).trans (h.r i hi), fun i hi => (hb.cell (p := ⟨6, i, none⟩) h.s2).trans (h.l i hi), Nat.lt_of_lt_of_le h.s hb.size, Nat.lt_of_lt_of_le h.s2 hb.size⟩
theorem Tabs.alloc {w : World} (h : Tabs w) (o : Obj) : Tabs (w.alloc o) := h.below ((Below.refl _ _).alloc (Nat.le_refl _) _)
theorem finder_any (v : Int) (w : World) : Calls Tryd.prog 306 #[.int .i64 v] w fun e w' => e = .returned (.func (.func 322) #[] #[.pointer (some ⟨w.heap.size, 0, none⟩)]) ∧ w.alloc (.cells #[.int .i64 v] 3) = w' := by
  have hmf : ∀ (fn : Fn) (first cap : Array Value) (w : World), (Instr.makeFunc fn first cap).run Tryd.prog w = .ok (.func fn first cap) w := fun _ _ _ _ => rfl
  go_enter Tryd.func306, Tryd.ntmps306
  go_wp2
  go_ret
  exact ⟨rfl, rfl⟩
theorem in_any (v a b : Int) (p : Nat) (w : World) (hc : w.cell? ⟨p, 0, none⟩ = some (.int .i64 v)) (ha : -2147483648 ≤ a) (ha' : a ≤ 2147483647) (hb : -2147483648 ≤ b) (hb' : b ≤ 2147483647) :
    Calls Tryd.prog 322 #[.int .i32 a, .int .i32 b, .pointer (some ⟨p, 0, none⟩)] w fun e w' => e = .returned (.bool (inb v a b)) ∧ w' = w := by
  rcases (show v < a ∨ (a ≤ v ∧ b < v) ∨ (a ≤ v ∧ v ≤ b) by omega) with h | ⟨h, h'⟩ | ⟨h, h'⟩
  · have H : Hid (inb v a b = false) := Lib.hid (by unfold inb; rw [decide_eq_false (by omega)]; rfl)
    go_enter Tryd.func322, Tryd.ntmps322
    go_wp2
    go_ret
    rw [H.out]; exact ⟨rfl, rfl⟩
  · have H : Hid (inb v a b = false) := Lib.hid (by unfold inb; rw [decide_eq_false (show ¬ v ≤ b by omega), Bool.and_false])
    have hd : decide (v ≤ b) = false := decide_eq_false (by omega)
    go_enter Tryd.func322, Tryd.ntmps322
    go_wp2
    go_ret
    rw [H.out]; exact ⟨rfl, rfl⟩
  · have H : Hid (inb v a b = true) := Lib.hid (by unfold inb; rw [decide_eq_true h, decide_eq_true h']; rfl)
    go_enter Tryd.func322, Tryd.ntmps322
    go_wp2
    go_ret
    rw [H.out]; exact ⟨rfl, rfl⟩
theorem lks_rng (i : Nat) : -2147483648 ≤ lks.getD i 0 ∧ lks.getD i 0 ≤ 2147483647 := by
  rcases Nat.lt_or_ge i 102 with h | h
  · have key : ∀ j : Fin 102, -2147483648 ≤ lks.getD j 0 ∧ lks.getD j 0 ≤ 2147483647 := by decide +kernel
    exact key ⟨i, h⟩
  · rw [List.getD, List.getElem?_eq_none (by exact h)]; exact ⟨by decide, by decide⟩
theorem rng_rng (i : Nat) : -2147483648 ≤ rng.getD i 0 ∧ rng.getD i 0 ≤ 2147483647 := by
  rcases Nat.lt_or_ge i 159 with h | h
  · have key : ∀ j : Fin 159, -2147483648 ≤ rng.getD j 0 ∧ rng.getD j 0 ≤ 2147483647 := by decide +kernel
    exact key ⟨i, h⟩
  · rw [List.getD, List.getElem?_eq_none (by exact h)]; exact ⟨by decide, by decide⟩
set_option maxHeartbeats 400000 in
theorem skel_any (v : Int) (w : World) (hT : Tabs w) : Calls Tryd.prog 307 #[.int .i64 v] w fun e w' => e = .returned (.int .i64 (skel v)) ∧ Below w.heap.size w w' := by
  have HT := Lib.hid hT; clear hT
  go_enter Tryd.func307, Tryd.ntmps307
  go_wp2_with (go_at_call 306; refine (finder_any _ _).mono ?_; rintro e w' ⟨rfl, rfl⟩)
  go_loopw [4] (fun i wr => ∃ (k n : Nat), k ≤ 51 ∧ i = .int .i64 ((2 * k : Nat) : Int) ∧ Hid (∀ j, j < k → hitL v j = false) ∧ wr = (w.alloc (.cells #[.int .i64 v] 3)).drewN n) (fun i _ => 102 - (intOf i).toNat)
  case atStart => exact ⟨0, 0, by omega, rfl, Lib.hid (by intro j hj; omega), rfl⟩
  case round =>
    obtain ⟨k, n, hk, rfl, hno, rfl⟩ := hrel
    by_cases hlt : k < 51
    · have hT2 : Tabs (w.alloc (.cells #[.int .i64 v] 3)) := HT.out.alloc _
      have c0 := hT2.l (2 * k) (by omega)
      have c1 := hT2.l (2 * k + 1) (by omega)
      have hp : (w.alloc (.cells #[.int .i64 v] 3)).cell? ⟨w.heap.size, 0, none⟩ = some (.int .i64 v) := by rw [World.cell?_alloc_new]; rfl
      have r0 := lks_rng (2 * k)
      have r1 := lks_rng (2 * k + 1)
      have hh : hitL v k = inb v (lks.getD (2 * k) 0) (lks.getD (2 * k) 0) := rfl
      have hs : hitL v k = true → skel v = lks.getD (2 * k + 1) 0 := fun h => by unfold skel; rw [find_first hlt h hno.out]
      generalize lks.getD (2 * k) 0 = x at *
      generalize lks.getD (2 * k + 1) 0 = y at *
      rw [hh] at hs
      have Hs := Lib.hid hs; have Hh := Lib.hid hh; clear hs hh hT2
      have hin := fun n => in_any v x x w.heap.size ((w.alloc (.cells #[.int .i64 v] 3)).drewN n) hp r0.1 r0.2 r0.1 r0.2
      have Hin := Lib.hid hin; clear hin
      have hk1 : 2 * k < 101 := by omega
      have hm : 2 * (k + 1) = 2 * k + 2 := by omega
      rw [show ((2 * k : Nat) : Int) = ((2 * k : Nat) : Int) from rfl]
      generalize 2 * k = m at *
      have Hm := Lib.hid hm; clear hm
      cases hb : inb v x x
      · rw [hb] at Hin Hh
        clear hb
        go_wp2
        go_quiet ((go_at_call 322; exact qsame (Hin.out _)))
        go_wp2
        go_roundw
        case rel => exact ⟨k + 1, _, by omega, by rw [Hm.out]; go_num, Lib.hid (by intro j hj; rcases Nat.lt_succ_iff_lt_or_eq.1 hj with h | rfl; exact hno.out j h; exact Hh.out), rfl⟩
        case measure => simp [intOf]; omega
      · rw [hb] at Hin
        have hsk := Hs.out hb
        have Hsk := Lib.hid hsk
        clear hb hsk
        go_wp2
        go_quiet ((go_at_call 322; exact qsame (Hin.out _)))
        go_wp2
        go_ret
        rw [Hsk.out]
        exact ⟨rfl, drewN_below (below_alloc _ _) _⟩
    · obtain rfl : k = 51 := by omega
      have Hsk : Hid (skel v = v) := Lib.hid (by unfold skel; rw [find_none hno.out])
      clear hlt
      go_wp2
      go_ret
      rw [Hsk.out]
      exact ⟨rfl, drewN_below (below_alloc _ _) _⟩
end Go.Proofs.YtangpdaoacjinaaDoor
namespace Go.Proofs.YtangpdaoacjinaaDoor
open Go.RowKit
theorem Tabs.drewN {w : World} (h : Tabs w) (n : Nat) : Tabs (w.drewN n) := ⟨h.r, h.l, h.s, h.s2⟩
set_option maxRecDepth 100000 in
set_option maxHeartbeats 800000 in
theorem told_any (v : Int) (w : World) (hT : Tabs w) : Calls Tryd.prog 266 #[.int .i64 v] w fun e w' => e = .returned (.int .i64 (told v)) ∧ Below w.heap.size w w' := by
  have HT := Lib.hid hT; clear hT
  go_enter Tryd.func266, Tryd.ntmps266
  go_wp2_with (go_at_call 306; refine (finder_any _ _).mono ?_; rintro e w' ⟨rfl, rfl⟩)
  go_loopw [4] (fun i wr => ∃ (k n : Nat), k ≤ 53 ∧ i = .int .i64 ((3 * k : Nat) : Int) ∧ Hid (∀ j, j < k → hitR v j = false) ∧ wr = (w.alloc (.cells #[.int .i64 v] 3)).drewN n) (fun i _ => 159 - (intOf i).toNat)
  case atStart => exact ⟨0, 0, by omega, rfl, Lib.hid (by intro j hj; omega), rfl⟩
  case round =>
    obtain ⟨k, n, hk, rfl, hno, rfl⟩ := hrel
    by_cases hlt : k < 53
    · have hT2 : Tabs (w.alloc (.cells #[.int .i64 v] 3)) := HT.out.alloc _
      have c0 := hT2.r (3 * k) (by omega)
      have c1 := hT2.r (3 * k + 1) (by omega)
      have c2 := hT2.r (3 * k + 2) (by omega)
      have hp : (w.alloc (.cells #[.int .i64 v] 3)).cell? ⟨w.heap.size, 0, none⟩ = some (.int .i64 v) := by rw [World.cell?_alloc_new]; rfl
      have r0 := rng_rng (3 * k)
      have r1 := rng_rng (3 * k + 1)
      have r2 := rng_rng (3 * k + 2)
      have hh : hitR v k = inb v (rng.getD (3 * k + 1) 0) (rng.getD (3 * k + 2) 0) := rfl
      have hs : hitR v k = true → told v = rng.getD (3 * k) 0 := fun h => by unfold told; rw [find_first hlt h hno.out]
      generalize rng.getD (3 * k) 0 = x at *
      generalize rng.getD (3 * k + 1) 0 = y at *
      generalize rng.getD (3 * k + 2) 0 = z at *
      rw [hh] at hs
      have Hs := Lib.hid hs; have Hh := Lib.hid hh; clear hs hh hT2
      have hin := fun n => in_any v y z w.heap.size ((w.alloc (.cells #[.int .i64 v] 3)).drewN n) hp r1.1 r1.2 r2.1 r2.2
      have Hin := Lib.hid hin; clear hin
      have hk1 : 3 * k < 157 := by omega
      have hm : 3 * (k + 1) = 3 * k + 3 := by omega
      generalize 3 * k = m at *
      have Hm := Lib.hid hm; clear hm
      cases hb : inb v y z
      · rw [hb] at Hin Hh
        clear hb
        go_wp2
        go_quiet ((go_at_call 322; exact qsame (Hin.out _)))
        go_wp2
        go_roundw
        case rel => exact ⟨k + 1, _, by omega, by rw [Hm.out]; go_num, Lib.hid (by intro j hj; rcases Nat.lt_succ_iff_lt_or_eq.1 hj with h | rfl; exact hno.out j h; exact Hh.out), rfl⟩
        case measure => simp [intOf]; omega
      · rw [hb] at Hin
        have hsk := Hs.out hb
        have Hsk := Lib.hid hsk
        clear hb hsk
        go_wp2
        go_quiet ((go_at_call 322; exact qsame (Hin.out _)))
        go_wp2
        go_ret
        rw [Hsk.out]
        exact ⟨rfl, drewN_below (below_alloc _ _) _⟩
    · obtain rfl : k = 53 := by omega
      have ht : told v = if skel v = v then 1 else 3 := by unfold told; rw [find_none hno.out]
      have hS : Tabs ((w.alloc (.cells #[.int .i64 v] 3)).drewN n) := (HT.out.alloc _).drewN _
      have hsk := skel_any v _ hS
      clear hlt
      by_cases he : skel v = v
      · have Ht : Hid (told v = 1) := Lib.hid (by rw [ht, if_pos he])
        have hb : (skel v != v) = false := by rw [he]; simp
        clear ht he hS
        generalize skel v = x at *
        have Hsk := Lib.hid hsk; clear hsk
        go_wp2_with (go_at_call 307; refine Hsk.out.mono ?_; rintro e w1 ⟨rfl, hb1⟩)
        go_ret
        rw [Ht.out]
        exact ⟨rfl, seqB (drewN_below (below_alloc _ _) _) hb1⟩
      · have Ht : Hid (told v = 3) := Lib.hid (by rw [ht, if_neg he])
        have hb : (skel v != v) = true := by simpa using he
        clear ht he hS
        generalize skel v = x at *
        have Hsk := Lib.hid hsk; clear hsk
        go_wp2_with (go_at_call 307; refine Hsk.out.mono ?_; rintro e w1 ⟨rfl, hb1⟩)
        go_ret
        rw [Ht.out]
        exact ⟨rfl, seqB (drewN_below (below_alloc _ _) _) hb1⟩
end Go.Proofs.YtangpdaoacjinaaDoor
namespace Go.Proofs.YtangpdaoacjinaaDoor
open Go.RowKit
theorem ret_bool {a b : Bool} (h : a = b) : Ending.returned (.bool a) = .returned (.bool b) := by rw [h]
theorem cpoint_any (v : Int) (w : World) : Calls Tryd.prog 187 #[.int .i64 v] w fun e w' => e = .returned (.bool (pnt v)) ∧ w = w' := by
  rcases pnt_cases v with ⟨e, h | h⟩ | ⟨e, h | h | h⟩
  all_goals
    rw [e]; clear e
    go_enter Tryd.func187, Tryd.ntmps187
    go_wp2
    all_goals
      go_ret
      first | exact ⟨rfl, rfl⟩ | exact ⟨ret_bool (by simp; omega), rfl⟩
theorem cstray_any (v : Int) (w : World) : Calls Tryd.prog 189 #[.int .i64 v] w fun e w' => e = .returned (.bool (stry v)) ∧ w = w' := by
  rcases stry_cases v with ⟨e, h, h'⟩ | ⟨e, h | h⟩
  all_goals
    rw [e]; clear e
    go_enter Tryd.func189, Tryd.ntmps189
    go_wp2
    all_goals
      go_ret
      first | exact ⟨rfl, rfl⟩ | exact ⟨ret_bool (by simp; omega), rfl⟩
theorem cright_any (v : Int) (w : World) : Calls Tryd.prog 204 #[.int .i64 v] w fun e w' => e = .returned (.bool (rght v)) ∧ w = w' := by
  have hp := fun w => cpoint_any v w
  have hs := fun w => cstray_any v w
  have hr : rght v = (pnt v || stry v) := rfl
  rw [hr]; clear hr
  generalize pnt v = a at *
  generalize stry v = b at *
  have Hp := Lib.hid hp; have Hs := Lib.hid hs; clear hp hs
  cases a <;> cases b
  all_goals
    go_enter Tryd.func204, Tryd.ntmps204
    go_wp2_with (first | (go_at_call 187; refine (Hp.out _).mono ?_; rintro e w' ⟨rfl, rfl⟩) | (go_at_call 189; refine (Hs.out _).mono ?_; rintro e w' ⟨rfl, rfl⟩))
    go_ret
    exact ⟨rfl, rfl⟩
theorem rght_cases (v : Int) : (rght v = true ∧ (0 ≤ v ∧ v < 55296 ∨ 57343 < v ∧ v ≤ 1114111 ∨ 1114240 ≤ v ∧ v ≤ 1114367)) ∨ (rght v = false ∧ (v < 0 ∨ 55296 ≤ v ∧ v ≤ 57343 ∨ 1114111 < v ∧ v < 1114240 ∨ 1114367 < v)) := by
  unfold rght
  rcases pnt_cases v with ⟨e, h⟩ | ⟨e, h⟩ <;> rcases stry_cases v with ⟨e2, h2⟩ | ⟨e2, h2⟩ <;> rw [e, e2] <;> simp <;> omega
set_option maxHeartbeats 800000 in
theorem of_any (v : Int) (w : World) (hT : Tabs w) : Calls Tryd.prog 205 #[.int .i64 v] w fun e w' => e = .returned (.int .i64 (cls v)) ∧ Below w.heap.size w w' := by
  have hr := fun w => cright_any v w
  have ht := fun w h => told_any v w h
  have HT := Lib.hid hT; clear hT
  rcases rght_cases v with ⟨e, h⟩ | ⟨e, h⟩
  · rw [e] at hr
    have Hr := Lib.hid hr; clear hr
    rcases (show 1114112 ≤ v ∨ (0 ≤ v ∧ v < 32) ∨ v = 127 ∨ (128 ≤ v ∧ v < 160) ∨ (32 ≤ v ∧ v < 127) ∨ (160 ≤ v ∧ v < 1114112) by omega) with c | ⟨c, c2⟩ | rfl | ⟨c, c2⟩ | ⟨c, c2⟩ | ⟨c, c2⟩
    · have Hc : Hid (cls v = 12) := Lib.hid (by unfold cls; rw [e, if_neg (by simp), if_pos c])
      clear e h ht
      go_enter Tryd.func205, Tryd.ntmps205
      go_wp2_with (go_at_call 204; refine (Hr.out _).mono ?_; rintro e w' ⟨rfl, rfl⟩)
      go_ret
      rw [Hc.out]; exact ⟨rfl, Below.refl _ _⟩
    · have Hc : Hid (cls v = 4) := Lib.hid (by unfold cls; rw [e, if_neg (by simp), if_neg (by omega), if_pos (by omega)])
      clear e h ht
      go_enter Tryd.func205, Tryd.ntmps205
      go_wp2_with (go_at_call 204; refine (Hr.out _).mono ?_; rintro e w' ⟨rfl, rfl⟩)
      go_ret
      rw [Hc.out]; exact ⟨rfl, Below.refl _ _⟩
    · have Hc : Hid (cls 127 = 5) := Lib.hid (by unfold cls; rw [e, if_neg (by simp), if_neg (by omega), if_neg (by omega), if_pos rfl])
      clear e h ht
      go_enter Tryd.func205, Tryd.ntmps205
      go_wp2_with (go_at_call 204; refine (Hr.out _).mono ?_; rintro e w' ⟨rfl, rfl⟩)
      go_ret
      rw [Hc.out]; exact ⟨rfl, Below.refl _ _⟩
    · have Hc : Hid (cls v = 6) := Lib.hid (by unfold cls; rw [e, if_neg (by simp), if_neg (by omega), if_neg (by omega), if_neg (by omega), if_pos (by omega)])
      have h7 : (v == 127) = false := by rw [beq_eq_false_iff_ne]; omega
      clear e h ht
      go_enter Tryd.func205, Tryd.ntmps205
      go_wp2_with (go_at_call 204; refine (Hr.out _).mono ?_; rintro e w' ⟨rfl, rfl⟩)
      go_ret
      rw [Hc.out]; exact ⟨rfl, Below.refl _ _⟩
    · have Hc : Hid (cls v = 1) := Lib.hid (by unfold cls; rw [e, if_neg (by simp), if_neg (by omega), if_neg (by omega), if_neg (by omega), if_neg (by omega), if_pos (by omega)])
      have h7 : (v == 127) = false := by rw [beq_eq_false_iff_ne]; omega
      clear e h ht
      go_enter Tryd.func205, Tryd.ntmps205
      go_wp2_with (go_at_call 204; refine (Hr.out _).mono ?_; rintro e w' ⟨rfl, rfl⟩)
      go_ret
      rw [Hc.out]; exact ⟨rfl, Below.refl _ _⟩
    · have Hc : Hid (cls v = told v) := Lib.hid (by unfold cls; rw [e, if_neg (by simp), if_neg (by omega), if_neg (by omega), if_neg (by omega), if_neg (by omega), if_neg (by omega)])
      have h7 : (v == 127) = false := by rw [beq_eq_false_iff_ne]; omega
      have Ht := Lib.hid ht
      clear e h ht
      go_enter Tryd.func205, Tryd.ntmps205
      go_wp2_with (first | (go_at_call 204; refine (Hr.out _).mono ?_; rintro e w' ⟨rfl, rfl⟩) | (go_at_call 266; refine (Ht.out _ HT.out).mono ?_; rintro e w1 ⟨rfl, hb1⟩))
      go_ret
      rw [Hc.out]; exact ⟨rfl, hb1⟩
  · rw [e] at hr
    have Hr := Lib.hid hr; clear hr
    have Hc : Hid (cls v = 0) := Lib.hid (by unfold cls; rw [e, if_pos rfl])
    clear e h ht
    go_enter Tryd.func205, Tryd.ntmps205
    go_wp2_with (go_at_call 204; refine (Hr.out _).mono ?_; rintro e w' ⟨rfl, rfl⟩)
    go_ret
    rw [Hc.out]; exact ⟨rfl, Below.refl _ _⟩
theorem width_any (v : Int) (w : World) (hT : Tabs w) : Calls Tryd.prog 268 #[.int .i64 v] w fun e w' => e = .returned (.int .i64 (wid v)) ∧ Below w.heap.size w w' := by
  have ho := of_any v w hT
  have hw : wid v = if cls v = 2 then 2 else if cls v = 1 ∨ cls v = 3 then 1 else 0 := rfl
  generalize cls v = c at *
  have Ho := Lib.hid ho; clear ho hT
  rcases (show c = 2 ∨ c = 1 ∨ c = 3 ∨ (c ≠ 2 ∧ c ≠ 1 ∧ c ≠ 3) by omega) with rfl | rfl | rfl | ⟨h1, h2, h3⟩
  · have Hw : Hid (wid v = 2) := Lib.hid (by rw [hw]; rfl)
    clear hw
    go_enter Tryd.func268, Tryd.ntmps268
    go_wp2_with (go_at_call 205; refine Ho.out.mono ?_; rintro e w1 ⟨rfl, hb1⟩)
    go_ret
    rw [Hw.out]; exact ⟨rfl, hb1⟩
  · have Hw : Hid (wid v = 1) := Lib.hid (by rw [hw]; rfl)
    clear hw
    go_enter Tryd.func268, Tryd.ntmps268
    go_wp2_with (go_at_call 205; refine Ho.out.mono ?_; rintro e w1 ⟨rfl, hb1⟩)
    go_ret
    rw [Hw.out]; exact ⟨rfl, hb1⟩
  · have Hw : Hid (wid v = 1) := Lib.hid (by rw [hw]; rfl)
    clear hw
    go_enter Tryd.func268, Tryd.ntmps268
    go_wp2_with (go_at_call 205; refine Ho.out.mono ?_; rintro e w1 ⟨rfl, hb1⟩)
    go_ret
    rw [Hw.out]; exact ⟨rfl, hb1⟩
  · have Hw : Hid (wid v = 0) := Lib.hid (by rw [hw, if_neg h1, if_neg (by omega)])
    have e1 : (c == 1) = false := by rw [beq_eq_false_iff_ne]; exact h2
    have e2 : (c == 2) = false := by rw [beq_eq_false_iff_ne]; exact h1
    have e3 : (c == 3) = false := by rw [beq_eq_false_iff_ne]; exact h3
    clear hw
    go_enter Tryd.func268, Tryd.ntmps268
    go_wp2_with (go_at_call 205; refine Ho.out.mono ?_; rintro e w1 ⟨rfl, hb1⟩)
    go_ret
    rw [Hw.out]; exact ⟨rfl, hb1⟩
theorem cls_rng (v : Int) : 0 ≤ cls v ∧ cls v ≤ 12 := by
  have ht : 0 ≤ told v ∧ told v ≤ 12 := by
    unfold told
    split
    · rename_i j _
      rcases Nat.lt_or_ge j 53 with h | h
      · have key : ∀ j : Fin 53, 0 ≤ rng.getD (3 * j.val) 0 ∧ rng.getD (3 * j.val) 0 ≤ 12 := by decide +kernel
        exact key ⟨j, h⟩
      · rw [List.getD, List.getElem?_eq_none (show rng.length ≤ 3 * j by show 159 ≤ 3 * j; omega)]; exact ⟨by decide, by decide⟩
    · split <;> omega
  unfold cls
  repeat' split
  all_goals omega
theorem danger_any (v : Int) (w : World) (hT : Tabs w) : Calls Tryd.prog 151 #[.int .i64 v] w fun e w' => e = .returned (.bool (dng v)) ∧ Below w.heap.size w w' := by
  have ho := of_any v w hT
  have hw : dng v = decide (3 < cls v) := rfl
  have hr := cls_rng v
  generalize cls v = c at *
  have Ho := Lib.hid ho; clear ho hT
  rcases (show c = 0 ∨ c = 1 ∨ c = 2 ∨ c = 3 ∨ 3 < c by omega) with rfl | rfl | rfl | rfl | h
  all_goals try
    have Hw : Hid (dng v = false) := Lib.hid (by rw [hw]; rfl)
    clear hw
    go_enter Tryd.func151, Tryd.ntmps151
    go_wp2_with (go_at_call 205; refine Ho.out.mono ?_; rintro e w1 ⟨rfl, hb1⟩)
    go_ret
    rw [Hw.out]; exact ⟨rfl, hb1⟩
  have Hw : Hid (dng v = true) := Lib.hid (by rw [hw, decide_eq_true h])
  have e0 : (c == 0) = false := by rw [beq_eq_false_iff_ne]; omega
  have e1 : (c == 1) = false := by rw [beq_eq_false_iff_ne]; omega
  have e2 : (c == 2) = false := by rw [beq_eq_false_iff_ne]; omega
  have e3 : (c == 3) = false := by rw [beq_eq_false_iff_ne]; omega
  clear hw
  go_enter Tryd.func151, Tryd.ntmps151
  go_wp2_with (go_at_call 205; refine Ho.out.mono ?_; rintro e w1 ⟨rfl, hb1⟩)
  go_ret
  rw [Hw.out]; exact ⟨rfl, hb1⟩
end Go.Proofs.YtangpdaoacjinaaDoor
namespace Go.Proofs.YtangpdaoacjinaaDoor
open Go.RowKit
/-- Is v in one of some ranges: from, to, from, to? -/
def hitW (l : List Int) (v : Int) (j : Nat) : Bool := inb v (l.getD (2 * j) 0) (l.getD (2 * j + 1) 0)
def wthn (l : List Int) (v : Int) : Bool := (List.range (l.length / 2)).any (hitW l v)
theorem wthn_yes {l : List Int} {v : Int} {k : Nat} (hk : k < l.length / 2) (h : hitW l v k = true) : wthn l v = true := by
  unfold wthn; rw [List.any_eq_true]; exact ⟨k, by simpa using hk, h⟩
theorem wthn_no {l : List Int} {v : Int} (h : ∀ j, j < l.length / 2 → hitW l v j = false) : wthn l v = false := by
  unfold wthn; rw [List.any_eq_false]; intro j hj; rw [h j (by simpa using hj)]; simp
set_option maxHeartbeats 800000 in
theorem within_any (v : Int) (l : List Int) (b off cap : Nat) (w : World) (hl : l.length ≤ 1000) (hc : ∀ i, i < l.length → w.cell? ⟨b, off + i, none⟩ = some (.int .i64 (l.getD i 0))) :
    Calls Tryd.prog 273 #[.int .i64 v, .slice (some ⟨b, off, none⟩) l.length cap] w fun e w' => e = .returned (.bool (wthn l v)) ∧ w = w' := by
  have Hc := Lib.hid hc; clear hc
  go_enter Tryd.func273, Tryd.ntmps273
  go_wp2
  go_loop [5] (fun i => ∃ k : Nat, k ≤ l.length / 2 ∧ i = .int .i64 ((2 * k : Nat) : Int) ∧ Hid (∀ j, j < k → hitW l v j = false)) (fun i => l.length + 2 - (intOf i).toNat)
  case atStart => exact ⟨0, by omega, rfl, Lib.hid (by intro j hj; omega)⟩
  case round =>
    obtain ⟨k, hk, rfl, hno⟩ := hrel
    have hlen : l.length = l.length := rfl
    by_cases hlt : k < l.length / 2
    · have c0 := Hc.out (2 * k) (by omega)
      have c1 := Hc.out (2 * k + 1) (by omega)
      have hh : hitW l v k = inb v (l.getD (2 * k) 0) (l.getD (2 * k + 1) 0) := rfl
      have Hy : Hid (hitW l v k = true → wthn l v = true) := Lib.hid (fun h => wthn_yes hlt h)
      have hm : 2 * (k + 1) = 2 * k + 2 := by omega
      have hm1 : 2 * k + 1 < l.length := by omega
      generalize l.getD (2 * k) 0 = x at *
      generalize l.getD (2 * k + 1) 0 = y at *
      have Hk := Lib.hid hlt; clear hlt hk
      generalize 2 * k = m at *
      have Hm := Lib.hid hm; have Hh := Lib.hid hh; clear hm hh hlen
      rcases (show v < x ∨ (x ≤ v ∧ y < v) ∨ (x ≤ v ∧ v ≤ y) by omega) with h | ⟨h, h'⟩ | ⟨h, h'⟩
      · have Hb : Hid (inb v x y = false) := Lib.hid (by unfold inb; rw [decide_eq_false (by omega)]; rfl)
        rw [Hb.out] at Hh
        go_wp2
        go_round
        case rel => exact ⟨k + 1, by have := Hk.out; omega, by rw [Hm.out]; go_num, Lib.hid (by intro j hj; rcases Nat.lt_succ_iff_lt_or_eq.1 hj with h | rfl; exact hno.out j h; exact Hh.out)⟩
        case measure => simp [intOf]; omega
      · have Hb : Hid (inb v x y = false) := Lib.hid (by unfold inb; rw [decide_eq_false (show ¬ v ≤ y by omega), Bool.and_false])
        have hd : decide (v ≤ y) = false := decide_eq_false (by omega)
        rw [Hb.out] at Hh
        go_wp2
        go_round
        case rel => exact ⟨k + 1, by have := Hk.out; omega, by rw [Hm.out]; go_num, Lib.hid (by intro j hj; rcases Nat.lt_succ_iff_lt_or_eq.1 hj with h | rfl; exact hno.out j h; exact Hh.out)⟩
        case measure => simp [intOf]; omega
      · have Hb : Hid (inb v x y = true) := Lib.hid (by unfold inb; rw [decide_eq_true h, decide_eq_true h']; rfl)
        have hd : decide (v ≤ y) = true := decide_eq_true h'
        have Hy2 := Lib.hid (Hy.out (by rw [Hh.out]; exact Hb.out))
        clear Hy
        go_wp2
        go_ret
        rw [Hy2.out]
        exact ⟨rfl, rfl⟩
    · obtain rfl : k = l.length / 2 := by omega
      have Hn : Hid (wthn l v = false) := Lib.hid (wthn_no hno.out)
      have hge : l.length ≤ 2 * (l.length / 2) + 1 := by omega
      have hme : 2 * (l.length / 2) ≤ 1000 := by omega
      clear hlt hk hlen hno
      generalize 2 * (l.length / 2) = m at *
      go_wp2
      go_ret
      rw [Hn.out]
      exact ⟨rfl, rfl⟩
theorem within_new (v : Int) (l : List Int) (w : World) (hl : l.length ≤ 1000) :
    Calls Tryd.prog 273 #[.int .i64 v, .slice (some ⟨w.heap.size, 0, none⟩) l.length l.length] (w.alloc (.cells (l.map (Value.int .i64)).toArray 3)) fun e w' => e = .returned (.bool (wthn l v)) ∧ w.alloc (.cells (l.map (Value.int .i64)).toArray 3) = w' := by
  refine within_any v l w.heap.size 0 l.length _ hl fun i hi => ?_
  rw [World.cell?_alloc_new, Nat.zero_add, List.getElem?_toArray, List.getElem?_map, List.getD, List.getElem?_eq_getElem hi]
  rfl
def lSpace : List Int := [160, 160, 5760, 5760, 8192, 8202, 8232, 8233, 8239, 8239, 8287, 8287, 12288, 12288]
def lZero : List Int := [173, 173, 6155, 6158, 8203, 8205, 8288, 8292, 65279, 65279, 65529, 65531]
def lBidi : List Int := [1564, 1564, 8206, 8207, 8234, 8238, 8294, 8297]
def lMark : List Int := [768, 879, 1155, 1161, 1425, 1469, 1552, 1562, 1611, 1631, 1750, 1756, 6832, 6862, 7616, 7679, 8400, 8432, 12330, 12335, 12441, 12442, 65024, 65039, 65056, 65071]
def lOther : List Int := [57344, 63743, 64976, 65007, 65520, 65528, 65534, 65535, 131070, 131071, 262142, 1114111]
def lWide : List Int := [4352, 4447, 8986, 8987, 11904, 12287, 12289, 12350, 12353, 13311, 13312, 19903, 19968, 42191, 43360, 43391, 44032, 55203, 63744, 64255, 65072, 65135, 65280, 65376, 65504, 65510, 127744, 128591, 128640, 128767, 129280, 129535, 131072, 262141]
def lSk : List Int := [913, 914, 917, 918, 919, 921, 922, 924, 925, 927, 929, 932, 933, 935, 957, 959, 961, 1029, 1030, 1032, 1040, 1042, 1045, 1050, 1052, 1053, 1054, 1056, 1057, 1058, 1061, 1072, 1077, 1086, 1088, 1089, 1091, 1093, 1109, 1110, 1112, 1281, 1307, 1309, 894, 8208, 8722, 8260, 8725, 8228, 8218]
def sSk : List UInt8 := [65, 66, 69, 90, 72, 73, 75, 77, 78, 79, 80, 84, 89, 88, 118, 111, 112, 83, 73, 74, 65, 66, 69, 75, 77, 72, 79, 80, 67, 84, 88, 97, 101, 111, 112, 99, 121, 120, 115, 105, 106, 100, 113, 119, 59, 45, 45, 47, 47, 46, 44]
theorem w_lSpace (v : Int) (w : World) (B : Nat) (hB : w.heap.size = B) : Calls Tryd.prog 273 #[.int .i64 v, .slice (some ⟨B, 0, none⟩) 14 14] (w.alloc (.cells #[.int .i64 160, .int .i64 160, .int .i64 5760, .int .i64 5760, .int .i64 8192, .int .i64 8202, .int .i64 8232, .int .i64 8233, .int .i64 8239, .int .i64 8239, .int .i64 8287, .int .i64 8287, .int .i64 12288, .int .i64 12288] 3)) fun e w' => e = .returned (.bool (wthn lSpace v)) ∧ w.alloc (.cells #[.int .i64 160, .int .i64 160, .int .i64 5760, .int .i64 5760, .int .i64 8192, .int .i64 8202, .int .i64 8232, .int .i64 8233, .int .i64 8239, .int .i64 8239, .int .i64 8287, .int .i64 8287, .int .i64 12288, .int .i64 12288] 3) = w' := hB ▸ within_new v lSpace w (by decide)
theorem w_lZero (v : Int) (w : World) (B : Nat) (hB : w.heap.size = B) : Calls Tryd.prog 273 #[.int .i64 v, .slice (some ⟨B, 0, none⟩) 12 12] (w.alloc (.cells #[.int .i64 173, .int .i64 173, .int .i64 6155, .int .i64 6158, .int .i64 8203, .int .i64 8205, .int .i64 8288, .int .i64 8292, .int .i64 65279, .int .i64 65279, .int .i64 65529, .int .i64 65531] 3)) fun e w' => e = .returned (.bool (wthn lZero v)) ∧ w.alloc (.cells #[.int .i64 173, .int .i64 173, .int .i64 6155, .int .i64 6158, .int .i64 8203, .int .i64 8205, .int .i64 8288, .int .i64 8292, .int .i64 65279, .int .i64 65279, .int .i64 65529, .int .i64 65531] 3) = w' := hB ▸ within_new v lZero w (by decide)
theorem w_lBidi (v : Int) (w : World) (B : Nat) (hB : w.heap.size = B) : Calls Tryd.prog 273 #[.int .i64 v, .slice (some ⟨B, 0, none⟩) 8 8] (w.alloc (.cells #[.int .i64 1564, .int .i64 1564, .int .i64 8206, .int .i64 8207, .int .i64 8234, .int .i64 8238, .int .i64 8294, .int .i64 8297] 3)) fun e w' => e = .returned (.bool (wthn lBidi v)) ∧ w.alloc (.cells #[.int .i64 1564, .int .i64 1564, .int .i64 8206, .int .i64 8207, .int .i64 8234, .int .i64 8238, .int .i64 8294, .int .i64 8297] 3) = w' := hB ▸ within_new v lBidi w (by decide)
theorem w_lMark (v : Int) (w : World) (B : Nat) (hB : w.heap.size = B) : Calls Tryd.prog 273 #[.int .i64 v, .slice (some ⟨B, 0, none⟩) 26 26] (w.alloc (.cells #[.int .i64 768, .int .i64 879, .int .i64 1155, .int .i64 1161, .int .i64 1425, .int .i64 1469, .int .i64 1552, .int .i64 1562, .int .i64 1611, .int .i64 1631, .int .i64 1750, .int .i64 1756, .int .i64 6832, .int .i64 6862, .int .i64 7616, .int .i64 7679, .int .i64 8400, .int .i64 8432, .int .i64 12330, .int .i64 12335, .int .i64 12441, .int .i64 12442, .int .i64 65024, .int .i64 65039, .int .i64 65056, .int .i64 65071] 3)) fun e w' => e = .returned (.bool (wthn lMark v)) ∧ w.alloc (.cells #[.int .i64 768, .int .i64 879, .int .i64 1155, .int .i64 1161, .int .i64 1425, .int .i64 1469, .int .i64 1552, .int .i64 1562, .int .i64 1611, .int .i64 1631, .int .i64 1750, .int .i64 1756, .int .i64 6832, .int .i64 6862, .int .i64 7616, .int .i64 7679, .int .i64 8400, .int .i64 8432, .int .i64 12330, .int .i64 12335, .int .i64 12441, .int .i64 12442, .int .i64 65024, .int .i64 65039, .int .i64 65056, .int .i64 65071] 3) = w' := hB ▸ within_new v lMark w (by decide)
theorem w_lOther (v : Int) (w : World) (B : Nat) (hB : w.heap.size = B) : Calls Tryd.prog 273 #[.int .i64 v, .slice (some ⟨B, 0, none⟩) 12 12] (w.alloc (.cells #[.int .i64 57344, .int .i64 63743, .int .i64 64976, .int .i64 65007, .int .i64 65520, .int .i64 65528, .int .i64 65534, .int .i64 65535, .int .i64 131070, .int .i64 131071, .int .i64 262142, .int .i64 1114111] 3)) fun e w' => e = .returned (.bool (wthn lOther v)) ∧ w.alloc (.cells #[.int .i64 57344, .int .i64 63743, .int .i64 64976, .int .i64 65007, .int .i64 65520, .int .i64 65528, .int .i64 65534, .int .i64 65535, .int .i64 131070, .int .i64 131071, .int .i64 262142, .int .i64 1114111] 3) = w' := hB ▸ within_new v lOther w (by decide)
theorem w_lWide (v : Int) (w : World) (B : Nat) (hB : w.heap.size = B) : Calls Tryd.prog 273 #[.int .i64 v, .slice (some ⟨B, 0, none⟩) 34 34] (w.alloc (.cells #[.int .i64 4352, .int .i64 4447, .int .i64 8986, .int .i64 8987, .int .i64 11904, .int .i64 12287, .int .i64 12289, .int .i64 12350, .int .i64 12353, .int .i64 13311, .int .i64 13312, .int .i64 19903, .int .i64 19968, .int .i64 42191, .int .i64 43360, .int .i64 43391, .int .i64 44032, .int .i64 55203, .int .i64 63744, .int .i64 64255, .int .i64 65072, .int .i64 65135, .int .i64 65280, .int .i64 65376, .int .i64 65504, .int .i64 65510, .int .i64 127744, .int .i64 128591, .int .i64 128640, .int .i64 128767, .int .i64 129280, .int .i64 129535, .int .i64 131072, .int .i64 262141] 3)) fun e w' => e = .returned (.bool (wthn lWide v)) ∧ w.alloc (.cells #[.int .i64 4352, .int .i64 4447, .int .i64 8986, .int .i64 8987, .int .i64 11904, .int .i64 12287, .int .i64 12289, .int .i64 12350, .int .i64 12353, .int .i64 13311, .int .i64 13312, .int .i64 19903, .int .i64 19968, .int .i64 42191, .int .i64 43360, .int .i64 43391, .int .i64 44032, .int .i64 55203, .int .i64 63744, .int .i64 64255, .int .i64 65072, .int .i64 65135, .int .i64 65280, .int .i64 65376, .int .i64 65504, .int .i64 65510, .int .i64 127744, .int .i64 128591, .int .i64 128640, .int .i64 128767, .int .i64 129280, .int .i64 129535, .int .i64 131072, .int .i64 262141] 3) = w' := hB ▸ within_new v lWide w (by decide)
end Go.Proofs.YtangpdaoacjinaaDoor
