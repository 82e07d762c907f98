import Derived.Test.YtecffaidpiadoaaW2
namespace Go.Proofs.Ytecffaidpiadoaa
set_option maxRecDepth 100000
open Go.RowKit
theorem ext1 (c : UInt8) (r : List UInt8) : (⟨(c :: r).toArray⟩ : ByteArray).extract 1 (r.length + 1) = ⟨r.toArray⟩ := by
  apply ByteArray.ext
  rw [ByteArray.data_extract]
  apply Array.ext'
  simp
theorem rng_wrap (x : Int) : -9223372036854775808 ≤ wrap64 x ∧ wrap64 x ≤ 9223372036854775807 := by unfold wrap64; omega
/-- What Undec makes of its digits. -/
def undV (l : List UInt8) : Int := if l.head? = some 45 then wrap64 (-wrap64 (readVal 10 ⟨l.tail.toArray⟩)) else wrap64 (readVal 10 ⟨l.toArray⟩)
def undD (l : List UInt8) : Bool := if l.head? = some 45 then readOk 10 ⟨l.tail.toArray⟩ else readOk 10 ⟨l.toArray⟩
def undOk (l : List UInt8) : Bool := undD l && decS (undV l) == l
def undR (l : List UInt8) : Int := if undOk l then undV l else 0
def undE (l : List UInt8) : Int := if undOk l then 0 else 6
theorem und_no {l : List UInt8} (h : undOk l = false) : undR l = 0 ∧ undE l = 6 := by simp [undR, undE, h]
theorem und_yes {l : List UInt8} (h : undOk l = true) : undR l = undV l ∧ undE l = 0 := by simp [undR, undE, h]
/-- The post. -/
def UndPost (l : List UInt8) (w : World) (e : Ending) (w' : World) : Prop := e = .returned (.tuple #[.int .i64 (undR l), .int .i64 (undE l)]) ∧ Below w.heap.size w w'
theorem post_no {l : List UInt8} {w w' : World} (h : undOk l = false) (hb : Below w.heap.size w w') : UndPost l w (.returned (.tuple #[.int .i64 0, .int .i64 6])) w' := by
  refine ⟨?_, hb⟩; rw [(und_no h).1, (und_no h).2]
theorem post_yes {l : List UInt8} {w w' : World} (h : undOk l = true) (hb : Below w.heap.size w w') : UndPost l w (.returned (.tuple #[.int .i64 (undV l), .int .i64 0])) w' := by
  refine ⟨?_, hb⟩; rw [(und_yes h).1, (und_yes h).2]
theorem below1 {w w2 : World} (hb : Below (w.alloc (.cells #[.int .u64 10] 34)).heap.size (w.alloc (.cells #[.int .u64 10] 34)) w2) : Below w.heap.size w w2 :=
  ((Below.refl w.heap.size w).alloc (Nat.le_refl _) _).trans (hb.mono (by simp))
set_option maxHeartbeats 400000 in
theorem undec_neg (r : List UInt8) (w : World) (hs : r.length ≤ 1000000) (b : Bool) (hok : readOk 10 ⟨r.toArray⟩ = b) : Calls Try.prog 7 #[.string ⟨(45 :: r).toArray⟩] w (UndPost (45 :: r) w) := by
  have hr : Calls Try.prog 20 #[.string ((⟨(45 :: r).toArray⟩ : ByteArray).extract 1 (r.length + 1)), .pointer (some ⟨w.heap.size, 0, none⟩)] (w.alloc (.cells #[.int .u64 10] 34)) fun e w' => e = .returned (.tuple #[.int .u64 (readVal 10 ⟨r.toArray⟩), .bool b]) ∧ w.alloc (.cells #[.int .u64 10] 34) = w' := by
    rw [ext1, ← hok]
    exact read_any 10 w.heap.size ⟨r.toArray⟩ _ (by omega) (by omega) hs (cell10 w 10)
  have hv : undV (45 :: r) = wrap64 (-wrap64 (readVal 10 ⟨r.toArray⟩)) := by simp [undV]
  have hd : undD (45 :: r) = b := by simp [undD, hok]
  have ho : undOk (45 :: r) = (b && decS (wrap64 (-wrap64 (readVal 10 ⟨r.toArray⟩))) == 45 :: r) := by rw [undOk, hv, hd]
  generalize readVal 10 ⟨r.toArray⟩ = u at *
  have Hv := Lib.hid hv; have Ho := Lib.hid ho; clear hok hd hv ho
  cases b
  · go_enter Try.func7, Try.ntmps7
    go_wp2_with (first | (go_at_call 16; refine (reader_any _ _).mono ?_; rintro e w' ⟨rfl, rfl⟩) | (go_at_call 20; refine hr.mono ?_; rintro e w' ⟨rfl, rfl⟩))
    go_ret2
    exact post_no (by rw [Ho.out]; rfl) ((Below.refl w.heap.size w).alloc (Nat.le_refl _) _)
  · go_enter Try.func7, Try.ntmps7
    go_wp2_with (first | (go_at_call 16; refine (reader_any _ _).mono ?_; rintro e w' ⟨rfl, rfl⟩) | (go_at_call 20; refine hr.mono ?_; rintro e w' ⟨rfl, rfl⟩) | (go_at_call 6; refine (dec_any _ _ (rng_wrap _).1 (rng_wrap _).2).mono ?_; rintro e w2 ⟨rfl, hb⟩))
    · have h : (!decS (wrap64 (-wrap64 u)) == 45 :: r) = true := by assumption
      go_ret2
      exact post_no (by rw [Ho.out]; simpa using h) (below1 hb)
    · have h : (!decS (wrap64 (-wrap64 u)) == 45 :: r) = false := by assumption
      go_ret2
      rw [← Hv.out]
      exact post_yes (by rw [Ho.out]; simpa using h) (below1 hb)
set_option maxHeartbeats 400000 in
theorem undec_pos (c : UInt8) (r : List UInt8) (w : World) (hc : c ≠ 45) (hs : r.length ≤ 999999) (b : Bool) (hok : readOk 10 ⟨(c :: r).toArray⟩ = b) : Calls Try.prog 7 #[.string ⟨(c :: r).toArray⟩] w (UndPost (c :: r) w) := by
  have hr : Calls Try.prog 20 #[.string (⟨(c :: r).toArray⟩ : ByteArray), .pointer (some ⟨w.heap.size, 0, none⟩)] (w.alloc (.cells #[.int .u64 10] 34)) fun e w' => e = .returned (.tuple #[.int .u64 (readVal 10 ⟨(c :: r).toArray⟩), .bool b]) ∧ w.alloc (.cells #[.int .u64 10] 34) = w' := by
    rw [← hok]
    exact read_any 10 w.heap.size ⟨(c :: r).toArray⟩ _ (by omega) (by omega) (by show (c :: r).toArray.size ≤ _; simp; omega) (cell10 w 10)
  have hv : undV (c :: r) = wrap64 (readVal 10 ⟨(c :: r).toArray⟩) := by simp [undV, hc]
  have hd : undD (c :: r) = b := by simp [undD, hok, hc]
  have ho : undOk (c :: r) = (b && decS (wrap64 (readVal 10 ⟨(c :: r).toArray⟩)) == c :: r) := by rw [undOk, hv, hd]
  generalize readVal 10 ⟨(c :: r).toArray⟩ = u at *
  have h45 : ((((⟨(c :: r).toArray⟩ : ByteArray)[0]'(Nat.succ_pos _)).toNat : Int) == 45) = false := by
    show ((c.toNat : Int) == 45) = false
    rw [beq_eq_false_iff_ne]; intro h; apply hc; apply UInt8.toNat_inj.mp; show c.toNat = 45; omega
  have Hv := Lib.hid hv; have Ho := Lib.hid ho; clear hok hd hv ho
  cases b
  · go_enter Try.func7, Try.ntmps7
    go_wp2_with (first | (go_at_call 16; refine (reader_any _ _).mono ?_; rintro e w' ⟨rfl, rfl⟩) | (go_at_call 20; refine hr.mono ?_; rintro e w' ⟨rfl, rfl⟩))
    go_ret2
    exact post_no (by rw [Ho.out]; rfl) ((Below.refl w.heap.size w).alloc (Nat.le_refl _) _)
  · go_enter Try.func7, Try.ntmps7
    go_wp2_with (first | (go_at_call 16; refine (reader_any _ _).mono ?_; rintro e w' ⟨rfl, rfl⟩) | (go_at_call 20; refine hr.mono ?_; rintro e w' ⟨rfl, rfl⟩) | (go_at_call 6; refine (dec_any _ _ (rng_wrap _).1 (rng_wrap _).2).mono ?_; rintro e w2 ⟨rfl, hb⟩))
    · have h : (!decS (wrap64 u) == c :: r) = true := by assumption
      go_ret2
      exact post_no (by rw [Ho.out]; simpa using h) (below1 hb)
    · have h : (!decS (wrap64 u) == c :: r) = false := by assumption
      go_ret2
      rw [← Hv.out]
      exact post_yes (by rw [Ho.out]; simpa using h) (below1 hb)
theorem readOk_nil : readOk 10 ⟨#[]⟩ = false := by simp [readOk, ByteArray.toList_eq]
theorem undOk_nil : undOk [] = false := by simp [undOk, undD, readOk, ByteArray.toList_eq]
set_option maxHeartbeats 400000 in
theorem undec_nil (w : World) : Calls Try.prog 7 #[.string ⟨#[]⟩] w (UndPost [] w) := by
  have hr : Calls Try.prog 20 #[.string (⟨#[]⟩ : ByteArray), .pointer (some ⟨w.heap.size, 0, none⟩)] (w.alloc (.cells #[.int .u64 10] 34)) fun e w' => e = .returned (.tuple #[.int .u64 (readVal 10 ⟨#[]⟩), .bool false]) ∧ w.alloc (.cells #[.int .u64 10] 34) = w' :=
    readOk_nil ▸ read_any 10 w.heap.size ⟨#[]⟩ _ (by omega) (by omega) (Nat.zero_le _) (cell10 w 10)
  go_enter Try.func7, Try.ntmps7
  go_wp2_with (first | (go_at_call 16; refine (reader_any _ _).mono ?_; rintro e w' ⟨rfl, rfl⟩) | (go_at_call 20; refine hr.mono ?_; rintro e w' ⟨rfl, rfl⟩))
  go_ret2
  exact post_no undOk_nil ((Below.refl w.heap.size w).alloc (Nat.le_refl _) _)
theorem undec_any (l : List UInt8) (w : World) (hs : l.length ≤ 999999) : Calls Try.prog 7 #[.string ⟨l.toArray⟩] w (UndPost l w) := by
  cases l with
  | nil => exact undec_nil w
  | cons c r =>
    by_cases hc : c = 45
    · subst hc; exact undec_neg r w (by simp at hs; omega) _ rfl
    · exact undec_pos c r w hc (by simp at hs; omega) _ rfl
end Go.Proofs.Ytecffaidpiadoaa
