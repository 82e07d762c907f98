/-
  Joined: W2 C1 C2 C3 C4 C5 E1 E2.
-/
import Derived.Test.YtgpcflpeddnfcaaDoorJA01
import Derived.Test.YtgpcflpeddnfcaaDoorRows
import Derived.WalkKit
import Derived.WalkSpells
import Derived.WalkLawsBesides
import Derived.Handy
import Derived.Lib.Hide
import Derived.Deep.QuietTactic
import Derived.BigQuiet
import Derived.Test.YtgpcflpeddnfcaaDoorShelf
import Derived.Lib.OthersKept
import Derived.Laws.BytesArg
set_option maxRecDepth 100000
set_option linter.unusedVariables false
set_option linter.unusedSimpArgs false
namespace Go.Proofs.YtgpcflpeddnfcaaDoor
set_option linter.unusedVariables false
set_option linter.unusedSimpArgs false
open Go.RowKit
/-- What the reader answers. -/
def readOk (b : Nat) (s : ByteArray) : Bool := digs b s.data.toList && !s.toList.isEmpty
def readVal (b : Nat) (s : ByteArray) : Int := if digs b s.data.toList then rdv b s.data.toList else 0
theorem readOk_bad {b : Nat} {s : ByteArray} (h : digs b s.data.toList = false) : readOk b s = false := by simp [readOk, h]
theorem readVal_bad {b : Nat} {s : ByteArray} (h : digs b s.data.toList = false) : readVal b s = 0 := by simp [readVal, h]
theorem readOk_good {b : Nat} {s : ByteArray} (h : digs b s.data.toList = true) : readOk b s = !s.toList.isEmpty := by simp [readOk, h]
theorem readVal_good {b : Nat} {s : ByteArray} (h : digs b s.data.toList = true) : readVal b s = rdv b s.data.toList := by simp [readVal, h]
theorem digs_bad {b : Nat} {s : ByteArray} {k : Nat} (hk : k < s.size) (h : ¬ worth (s[k].toNat : Int) < b) : digs b s.data.toList = false := by
  cases hd : digs b s.data.toList with
  | false => rfl
  | true =>
    exfalso; apply h
    rw [digs, List.all_eq_true] at hd
    have := hd s[k] (by show s.data[k] ∈ _; simp)
    simpa using this
set_option maxHeartbeats 400000 in
theorem read_any (b p : Nat) (s : ByteArray) (w : World) (hb : 2 ≤ b) (hb' : b ≤ 16) (hs : s.size ≤ 1000000) (hc : w.cell? ⟨p, 0, none⟩ = some (.int .u64 (b : Int))) :
    Calls Tryd.prog 189 #[.string s, .pointer (some ⟨p, 0, none⟩)] w fun e w' => e = .returned (.tuple #[.int .u64 (readVal b s), .bool (readOk b s)]) ∧ w = w' := by
  go_enter Tryd.func189, Tryd.ntmps189
  go_wp2
  go_loop [5, 6] (fun n i => ∃ k : Nat, k ≤ s.size ∧ i = .int .i64 k ∧ n = .int .u64 (rdv b (s.data.toList.take k)) ∧ digs b (s.data.toList.take k) = true) (fun _ i => s.size - (intOf i).toNat)
  case atStart => exact ⟨0, Nat.zero_le _, rfl, rfl, rfl⟩
  case round =>
    obtain ⟨k, hk, rfl, rfl, hd⟩ := hrel
    have Hd := Lib.hid hd; clear hd
    by_cases hlt : k < s.size
    · have hts := take_snoc s k hlt
      have hrs := rdv_snoc b (s.data.toList.take k) s[k]
      have hds := digs_snoc b (s.data.toList.take k) s[k]
      have hbad := @digs_bad b s k hlt
      rw [← hts] at hrs hds
      have Hr := Lib.hid hrs; have Hs := Lib.hid hds; have Hb := Lib.hid hbad; clear hts hrs hds hbad
      by_cases hw : worth (s[k].toNat : Int) < b
      · go_wp2_with (go_at_call 190; refine (digit_any _ _ (u8_nn _) (u8_lt _)).mono ?_; rintro e w' ⟨rfl, rfl⟩)
        go_round
        case rel => exact ⟨k + 1, by omega, by go_num, by rw [Hr.out], by rw [Hs.out, Hd.out]; simpa using hw⟩
        case measure => simp [intOf]; omega
      · go_wp2_with (go_at_call 190; refine (digit_any _ _ (u8_nn _) (u8_lt _)).mono ?_; rintro e w' ⟨rfl, rfl⟩)
        go_ret2
        rw [readVal_bad (Hb.out hw), readOk_bad (Hb.out hw)]
        exact ⟨rfl, rfl⟩
    · have hta := take_all s k (by omega)
      have hdt := Hd.out
      rw [hta] at hdt
      have Ht := Lib.hid hta; have Hdt := Lib.hid hdt; clear hta hdt
      go_wp2
      go_ret2
      rw [readVal_good Hdt.out, readOk_good Hdt.out, Ht.out]
      exact ⟨rfl, rfl⟩

/-- A number's digits. -/
def decS (n : Int) : List UInt8 := if n < 0 then 45 :: tell 10 20 n.natAbs 1 else tell 10 20 n.toNat 1
theorem tell_int (b : Nat) (x l : Int) (p : Nat) (w : World) (hb : 2 ≤ b) (hb' : b ≤ 16) (hx0 : 0 ≤ x) (hn : x.toNat < b ^ 20) (hn' : x.toNat < 18446744073709551616) (hl0 : 0 ≤ l) (hl : l ≤ 20) (hp : p < w.heap.size) (hc : w.cell? ⟨p, 0, none⟩ = some (.int .u64 (b : Int))) :
    Calls Tryd.prog 183 #[.int .u64 x, .int .i64 l, .pointer (some ⟨p, 0, none⟩)] w fun e w' => e = .returned (.string ⟨(tell b 20 x.toNat l.toNat).toArray⟩) ∧ Below w.heap.size w w' := by
  have h := tell_any b x.toNat l.toNat p w hb hb' hn hn' (by omega) hp hc
  rw [Int.toNat_of_nonneg hx0, Int.toNat_of_nonneg hl0] at h
  exact h
theorem cell10 (w : World) (b : Int) : (w.alloc (.cells #[.int .u64 b] 192)).cell? ⟨w.heap.size, 0, none⟩ = some (.int .u64 b) := by rw [World.cell?_alloc_new]; rfl
set_option maxHeartbeats 400000 in
theorem dec_any (n : Int) (w : World) (h0 : -9223372036854775808 ≤ n) (h1 : n ≤ 9223372036854775807) : Calls Tryd.prog 95 #[.int .i64 n] w fun e w' => e = .returned (.string ⟨(decS n).toArray⟩) ∧ Below w.heap.size w w' := by
  by_cases h : n < 0
  · have hd : decS n = 45 :: tell 10 20 n.natAbs 1 := by unfold decS; rw [if_pos h]
    have e := u64_neg n h0 h
    have e2 : (IntKind.u64.wrap (-IntKind.u64.wrap n)).toNat = n.natAbs := by rw [e]; rfl
    have ht := tell_int 10 (IntKind.u64.wrap (-IntKind.u64.wrap n)) 1 w.heap.size (w.alloc (.cells #[.int .u64 10] 192)) (by omega) (by omega) (by omega) (by rw [e2]; omega) (by rw [e2]; omega) (by omega) (by omega) (by simp) (cell10 w 10)
    rw [e2] at ht
    have hl := tell_len 10 20 n.natAbs 1
    rw [show (1 : Int).toNat = 1 from rfl] at ht
    have Hd := Lib.hid hd; clear hd e e2
    generalize tell 10 20 n.natAbs 1 = t at *
    go_enter Tryd.func95, Tryd.ntmps95
    go_wp2_with (first | (go_at_call 140; refine (teller_any _ _).mono ?_; rintro e w' ⟨rfl, rfl⟩) | (go_at_call 183; refine ht.mono ?_; rintro e w1 ⟨rfl, hb⟩))
    go_ret
    rw [Hd.out]
    refine ⟨?_, ((Below.refl w.heap.size w).alloc (Nat.le_refl _) _).trans (hb.mono (by simp))⟩
    exact congrArg (fun x => Ending.returned (.string x)) (ba_app [45] t)
  · have hd : decS n = tell 10 20 n.toNat 1 := by unfold decS; rw [if_neg h]
    have ht := tell_int 10 n 1 w.heap.size (w.alloc (.cells #[.int .u64 10] 192)) (by omega) (by omega) (by omega) (by omega) (by omega) (by omega) (by omega) (by simp) (cell10 w 10)
    rw [show (1 : Int).toNat = 1 from rfl] at ht
    have Hd := Lib.hid hd; clear hd
    go_enter Tryd.func95, Tryd.ntmps95
    go_wp2_with (first | (go_at_call 140; refine (teller_any _ _).mono ?_; rintro e w' ⟨rfl, rfl⟩) | (go_at_call 183; refine ht.mono ?_; rintro e w1 ⟨rfl, hb⟩))
    go_ret
    rw [Hd.out]
    refine ⟨rfl, ?_⟩
    exact ((Below.refl w.heap.size w).alloc (Nat.le_refl _) _).trans (hb.mono (by simp))
end Go.Proofs.YtgpcflpeddnfcaaDoor
namespace Go.Proofs.YtgpcflpeddnfcaaDoor
open Go.RowKit
/-- The class tables lie in memory. -/
structure Tabs (w : World) : Prop where
  r : ∀ i, i < 159 → w.cell? ⟨3, i, none⟩ = some (.int .i32 (rng.getD i 0))
  l : ∀ i, i < 102 → w.cell? ⟨5, i, none⟩ = some (.int .i32 (lks.getD i 0))
  s : 3 < w.heap.size
  s2 : 5 < w.heap.size
theorem Tabs.below {w w' : World} (h : Tabs w) (hb : Below w.heap.size w w') : Tabs w' :=
  ⟨fun i hi => (hb.cell (p := ⟨3, i, none⟩) h.s).trans (h.r i hi), fun i hi => (hb.cell (p := ⟨5, i, none⟩) h.s2).trans (h.l i hi), Nat.lt_of_lt_of_le h.s hb.size, Nat.lt_of_lt_of_le h.s2 hb.size⟩
theorem Tabs.alloc {w : World} (h : Tabs w) (o : Obj) : Tabs (w.alloc o) := h.below ((Below.refl _ _).alloc (Nat.le_refl _) _)
theorem finder_any (v : Int) (w : World) : Calls Tryd.prog 205 #[.int .i64 v] w fun e w' => e = .returned (.func (.func 225) #[] #[.pointer (some ⟨w.heap.size, 0, none⟩)]) ∧ w.alloc (.cells #[.int .i64 v] 3) = w' := by
  have hmf : ∀ (fn : Fn) (first cap : Array Value) (w : World), (Instr.makeFunc fn first cap).run Tryd.prog w = .ok (.func fn first cap) w := fun _ _ _ _ => rfl
  go_enter Tryd.func205, Tryd.ntmps205
  go_wp2
  go_ret
  exact ⟨rfl, rfl⟩
theorem in_any (v a b : Int) (p : Nat) (w : World) (hc : w.cell? ⟨p, 0, none⟩ = some (.int .i64 v)) (ha : -2147483648 ≤ a) (ha' : a ≤ 2147483647) (hb : -2147483648 ≤ b) (hb' : b ≤ 2147483647) :
    Calls Tryd.prog 225 #[.int .i32 a, .int .i32 b, .pointer (some ⟨p, 0, none⟩)] w fun e w' => e = .returned (.bool (inb v a b)) ∧ w' = w := by
  rcases (show v < a ∨ (a ≤ v ∧ b < v) ∨ (a ≤ v ∧ v ≤ b) by omega) with h | ⟨h, h'⟩ | ⟨h, h'⟩
  · have H : Hid (inb v a b = false) := Lib.hid (by unfold inb; rw [decide_eq_false (by omega)]; rfl)
    go_enter Tryd.func225, Tryd.ntmps225
    go_wp2
    go_ret
    rw [H.out]; exact ⟨rfl, rfl⟩
  · have H : Hid (inb v a b = false) := Lib.hid (by unfold inb; rw [decide_eq_false (show ¬ v ≤ b by omega), Bool.and_false])
    have hd : decide (v ≤ b) = false := decide_eq_false (by omega)
    go_enter Tryd.func225, Tryd.ntmps225
    go_wp2
    go_ret
    rw [H.out]; exact ⟨rfl, rfl⟩
  · have H : Hid (inb v a b = true) := Lib.hid (by unfold inb; rw [decide_eq_true h, decide_eq_true h']; rfl)
    go_enter Tryd.func225, Tryd.ntmps225
    go_wp2
    go_ret
    rw [H.out]; exact ⟨rfl, rfl⟩
theorem lks_rng (i : Nat) : -2147483648 ≤ lks.getD i 0 ∧ lks.getD i 0 ≤ 2147483647 := by
  rcases Nat.lt_or_ge i 102 with h | h
  · have key : ∀ j : Fin 102, -2147483648 ≤ lks.getD j 0 ∧ lks.getD j 0 ≤ 2147483647 := by decide +kernel
    exact key ⟨i, h⟩
  · rw [List.getD, List.getElem?_eq_none (by exact h)]; exact ⟨by decide, by decide⟩
theorem rng_rng (i : Nat) : -2147483648 ≤ rng.getD i 0 ∧ rng.getD i 0 ≤ 2147483647 := by
  rcases Nat.lt_or_ge i 159 with h | h
  · have key : ∀ j : Fin 159, -2147483648 ≤ rng.getD j 0 ∧ rng.getD j 0 ≤ 2147483647 := by decide +kernel
    exact key ⟨i, h⟩
  · rw [List.getD, List.getElem?_eq_none (by exact h)]; exact ⟨by decide, by decide⟩
set_option maxHeartbeats 400000 in
theorem skel_any (v : Int) (w : World) (hT : Tabs w) : Calls Tryd.prog 206 #[.int .i64 v] w fun e w' => e = .returned (.int .i64 (skel v)) ∧ Below w.heap.size w w' := by
  have HT := Lib.hid hT; clear hT
  go_enter Tryd.func206, Tryd.ntmps206
  go_wp2_with (go_at_call 205; refine (finder_any _ _).mono ?_; rintro e w' ⟨rfl, rfl⟩)
  go_loopw [4] (fun i wr => ∃ (k n : Nat), k ≤ 51 ∧ i = .int .i64 ((2 * k : Nat) : Int) ∧ Hid (∀ j, j < k → hitL v j = false) ∧ wr = (w.alloc (.cells #[.int .i64 v] 3)).drewN n) (fun i _ => 102 - (intOf i).toNat)
  case atStart => exact ⟨0, 0, by omega, rfl, Lib.hid (by intro j hj; omega), rfl⟩
  case round =>
    obtain ⟨k, n, hk, rfl, hno, rfl⟩ := hrel
    by_cases hlt : k < 51
    · have hT2 : Tabs (w.alloc (.cells #[.int .i64 v] 3)) := HT.out.alloc _
      have c0 := hT2.l (2 * k) (by omega)
      have c1 := hT2.l (2 * k + 1) (by omega)
      have hp : (w.alloc (.cells #[.int .i64 v] 3)).cell? ⟨w.heap.size, 0, none⟩ = some (.int .i64 v) := by rw [World.cell?_alloc_new]; rfl
      have r0 := lks_rng (2 * k)
      have r1 := lks_rng (2 * k + 1)
      have hh : hitL v k = inb v (lks.getD (2 * k) 0) (lks.getD (2 * k) 0) := rfl
      have hs : hitL v k = true → skel v = lks.getD (2 * k + 1) 0 := fun h => by unfold skel; rw [find_first hlt h hno.out]
      generalize lks.getD (2 * k) 0 = x at *
      generalize lks.getD (2 * k + 1) 0 = y at *
      rw [hh] at hs
      have Hs := Lib.hid hs; have Hh := Lib.hid hh; clear hs hh hT2
      have hin := fun n => in_any v x x w.heap.size ((w.alloc (.cells #[.int .i64 v] 3)).drewN n) hp r0.1 r0.2 r0.1 r0.2
      have Hin := Lib.hid hin; clear hin
      have hk1 : 2 * k < 101 := by omega
      have hm : 2 * (k + 1) = 2 * k + 2 := by omega
      rw [show ((2 * k : Nat) : Int) = ((2 * k : Nat) : Int) from rfl]
      generalize 2 * k = m at *
      have Hm := Lib.hid hm; clear hm
      cases hb : inb v x x
      · rw [hb] at Hin Hh
        clear hb
        go_wp2
        go_quiet ((go_at_call 225; exact qsame (Hin.out _)))
        go_wp2
        go_roundw
        case rel => exact ⟨k + 1, _, by omega, by rw [Hm.out]; go_num, Lib.hid (by intro j hj; rcases Nat.lt_succ_iff_lt_or_eq.1 hj with h | rfl; exact hno.out j h; exact Hh.out), rfl⟩
        case measure => simp [intOf]; omega
      · rw [hb] at Hin
        have hsk := Hs.out hb
        have Hsk := Lib.hid hsk
        clear hb hsk
        go_wp2
        go_quiet ((go_at_call 225; exact qsame (Hin.out _)))
        go_wp2
        go_ret
        rw [Hsk.out]
        exact ⟨rfl, drewN_below (below_alloc _ _) _⟩
    · obtain rfl : k = 51 := by omega
      have Hsk : Hid (skel v = v) := Lib.hid (by unfold skel; rw [find_none hno.out])
      clear hlt
      go_wp2
      go_ret
      rw [Hsk.out]
      exact ⟨rfl, drewN_below (below_alloc _ _) _⟩
end Go.Proofs.YtgpcflpeddnfcaaDoor
namespace Go.Proofs.YtgpcflpeddnfcaaDoor
open Go.RowKit
theorem Tabs.drewN {w : World} (h : Tabs w) (n : Nat) : Tabs (w.drewN n) := ⟨h.r, h.l, h.s, h.s2⟩
set_option maxRecDepth 100000 in
set_option maxHeartbeats 800000 in
theorem told_any (v : Int) (w : World) (hT : Tabs w) : Calls Tryd.prog 166 #[.int .i64 v] w fun e w' => e = .returned (.int .i64 (told v)) ∧ Below w.heap.size w w' := by
  have HT := Lib.hid hT; clear hT
  go_enter Tryd.func166, Tryd.ntmps166
  go_wp2_with (go_at_call 205; refine (finder_any _ _).mono ?_; rintro e w' ⟨rfl, rfl⟩)
  go_loopw [4] (fun i wr => ∃ (k n : Nat), k ≤ 53 ∧ i = .int .i64 ((3 * k : Nat) : Int) ∧ Hid (∀ j, j < k → hitR v j = false) ∧ wr = (w.alloc (.cells #[.int .i64 v] 3)).drewN n) (fun i _ => 159 - (intOf i).toNat)
  case atStart => exact ⟨0, 0, by omega, rfl, Lib.hid (by intro j hj; omega), rfl⟩
  case round =>
    obtain ⟨k, n, hk, rfl, hno, rfl⟩ := hrel
    by_cases hlt : k < 53
    · have hT2 : Tabs (w.alloc (.cells #[.int .i64 v] 3)) := HT.out.alloc _
      have c0 := hT2.r (3 * k) (by omega)
      have c1 := hT2.r (3 * k + 1) (by omega)
      have c2 := hT2.r (3 * k + 2) (by omega)
      have hp : (w.alloc (.cells #[.int .i64 v] 3)).cell? ⟨w.heap.size, 0, none⟩ = some (.int .i64 v) := by rw [World.cell?_alloc_new]; rfl
      have r0 := rng_rng (3 * k)
      have r1 := rng_rng (3 * k + 1)
      have r2 := rng_rng (3 * k + 2)
      have hh : hitR v k = inb v (rng.getD (3 * k + 1) 0) (rng.getD (3 * k + 2) 0) := rfl
      have hs : hitR v k = true → told v = rng.getD (3 * k) 0 := fun h => by unfold told; rw [find_first hlt h hno.out]
      generalize rng.getD (3 * k) 0 = x at *
      generalize rng.getD (3 * k + 1) 0 = y at *
      generalize rng.getD (3 * k + 2) 0 = z at *
      rw [hh] at hs
      have Hs := Lib.hid hs; have Hh := Lib.hid hh; clear hs hh hT2
      have hin := fun n => in_any v y z w.heap.size ((w.alloc (.cells #[.int .i64 v] 3)).drewN n) hp r1.1 r1.2 r2.1 r2.2
      have Hin := Lib.hid hin; clear hin
      have hk1 : 3 * k < 157 := by omega
      have hm : 3 * (k + 1) = 3 * k + 3 := by omega
      generalize 3 * k = m at *
      have Hm := Lib.hid hm; clear hm
      cases hb : inb v y z
      · rw [hb] at Hin Hh
        clear hb
        go_wp2
        go_quiet ((go_at_call 225; exact qsame (Hin.out _)))
        go_wp2
        go_roundw
        case rel => exact ⟨k + 1, _, by omega, by rw [Hm.out]; go_num, Lib.hid (by intro j hj; rcases Nat.lt_succ_iff_lt_or_eq.1 hj with h | rfl; exact hno.out j h; exact Hh.out), rfl⟩
        case measure => simp [intOf]; omega
      · rw [hb] at Hin
        have hsk := Hs.out hb
        have Hsk := Lib.hid hsk
        clear hb hsk
        go_wp2
        go_quiet ((go_at_call 225; exact qsame (Hin.out _)))
        go_wp2
        go_ret
        rw [Hsk.out]
        exact ⟨rfl, drewN_below (below_alloc _ _) _⟩
    · obtain rfl : k = 53 := by omega
      have ht : told v = if skel v = v then 1 else 3 := by unfold told; rw [find_none hno.out]
      have hS : Tabs ((w.alloc (.cells #[.int .i64 v] 3)).drewN n) := (HT.out.alloc _).drewN _
      have hsk := skel_any v _ hS
      clear hlt
      by_cases he : skel v = v
      · have Ht : Hid (told v = 1) := Lib.hid (by rw [ht, if_pos he])
        have hb : (skel v != v) = false := by rw [he]; simp
        clear ht he hS
        generalize skel v = x at *
        have Hsk := Lib.hid hsk; clear hsk
        go_wp2_with (go_at_call 206; refine Hsk.out.mono ?_; rintro e w1 ⟨rfl, hb1⟩)
        go_ret
        rw [Ht.out]
        exact ⟨rfl, seqB (drewN_below (below_alloc _ _) _) hb1⟩
      · have Ht : Hid (told v = 3) := Lib.hid (by rw [ht, if_neg he])
        have hb : (skel v != v) = true := by simpa using he
        clear ht he hS
        generalize skel v = x at *
        have Hsk := Lib.hid hsk; clear hsk
        go_wp2_with (go_at_call 206; refine Hsk.out.mono ?_; rintro e w1 ⟨rfl, hb1⟩)
        go_ret
        rw [Ht.out]
        exact ⟨rfl, seqB (drewN_below (below_alloc _ _) _) hb1⟩
end Go.Proofs.YtgpcflpeddnfcaaDoor
namespace Go.Proofs.YtgpcflpeddnfcaaDoor
open Go.RowKit
theorem ret_bool {a b : Bool} (h : a = b) : Ending.returned (.bool a) = .returned (.bool b) := by rw [h]
theorem cpoint_any (v : Int) (w : World) : Calls Tryd.prog 161 #[.int .i64 v] w fun e w' => e = .returned (.bool (pnt v)) ∧ w = w' := by
  rcases pnt_cases v with ⟨e, h | h⟩ | ⟨e, h | h | h⟩
  all_goals
    rw [e]; clear e
    go_enter Tryd.func161, Tryd.ntmps161
    go_wp2
    all_goals
      go_ret
      first | exact ⟨rfl, rfl⟩ | exact ⟨ret_bool (by simp; omega), rfl⟩
theorem cstray_any (v : Int) (w : World) : Calls Tryd.prog 163 #[.int .i64 v] w fun e w' => e = .returned (.bool (stry v)) ∧ w = w' := by
  rcases stry_cases v with ⟨e, h, h'⟩ | ⟨e, h | h⟩
  all_goals
    rw [e]; clear e
    go_enter Tryd.func163, Tryd.ntmps163
    go_wp2
    all_goals
      go_ret
      first | exact ⟨rfl, rfl⟩ | exact ⟨ret_bool (by simp; omega), rfl⟩
theorem cright_any (v : Int) (w : World) : Calls Tryd.prog 164 #[.int .i64 v] w fun e w' => e = .returned (.bool (rght v)) ∧ w = w' := by
  have hp := fun w => cpoint_any v w
  have hs := fun w => cstray_any v w
  have hr : rght v = (pnt v || stry v) := rfl
  rw [hr]; clear hr
  generalize pnt v = a at *
  generalize stry v = b at *
  have Hp := Lib.hid hp; have Hs := Lib.hid hs; clear hp hs
  cases a <;> cases b
  all_goals
    go_enter Tryd.func164, Tryd.ntmps164
    go_wp2_with (first | (go_at_call 161; refine (Hp.out _).mono ?_; rintro e w' ⟨rfl, rfl⟩) | (go_at_call 163; refine (Hs.out _).mono ?_; rintro e w' ⟨rfl, rfl⟩))
    go_ret
    exact ⟨rfl, rfl⟩
theorem rght_cases (v : Int) : (rght v = true ∧ (0 ≤ v ∧ v < 55296 ∨ 57343 < v ∧ v ≤ 1114111 ∨ 1114240 ≤ v ∧ v ≤ 1114367)) ∨ (rght v = false ∧ (v < 0 ∨ 55296 ≤ v ∧ v ≤ 57343 ∨ 1114111 < v ∧ v < 1114240 ∨ 1114367 < v)) := by
  unfold rght
  rcases pnt_cases v with ⟨e, h⟩ | ⟨e, h⟩ <;> rcases stry_cases v with ⟨e2, h2⟩ | ⟨e2, h2⟩ <;> rw [e, e2] <;> simp <;> omega
set_option maxHeartbeats 800000 in
theorem of_any (v : Int) (w : World) (hT : Tabs w) : Calls Tryd.prog 127 #[.int .i64 v] w fun e w' => e = .returned (.int .i64 (cls v)) ∧ Below w.heap.size w w' := by
  have hr := fun w => cright_any v w
  have ht := fun w h => told_any v w h
  have HT := Lib.hid hT; clear hT
  rcases rght_cases v with ⟨e, h⟩ | ⟨e, h⟩
  · rw [e] at hr
    have Hr := Lib.hid hr; clear hr
    rcases (show 1114112 ≤ v ∨ (0 ≤ v ∧ v < 32) ∨ v = 127 ∨ (128 ≤ v ∧ v < 160) ∨ (32 ≤ v ∧ v < 127) ∨ (160 ≤ v ∧ v < 1114112) by omega) with c | ⟨c, c2⟩ | rfl | ⟨c, c2⟩ | ⟨c, c2⟩ | ⟨c, c2⟩
    · have Hc : Hid (cls v = 12) := Lib.hid (by unfold cls; rw [e, if_neg (by simp), if_pos c])
      clear e h ht
      go_enter Tryd.func127, Tryd.ntmps127
      go_wp2_with (go_at_call 164; refine (Hr.out _).mono ?_; rintro e w' ⟨rfl, rfl⟩)
      go_ret
      rw [Hc.out]; exact ⟨rfl, Below.refl _ _⟩
    · have Hc : Hid (cls v = 4) := Lib.hid (by unfold cls; rw [e, if_neg (by simp), if_neg (by omega), if_pos (by omega)])
      clear e h ht
      go_enter Tryd.func127, Tryd.ntmps127
      go_wp2_with (go_at_call 164; refine (Hr.out _).mono ?_; rintro e w' ⟨rfl, rfl⟩)
      go_ret
      rw [Hc.out]; exact ⟨rfl, Below.refl _ _⟩
    · have Hc : Hid (cls 127 = 5) := Lib.hid (by unfold cls; rw [e, if_neg (by simp), if_neg (by omega), if_neg (by omega), if_pos rfl])
      clear e h ht
      go_enter Tryd.func127, Tryd.ntmps127
      go_wp2_with (go_at_call 164; refine (Hr.out _).mono ?_; rintro e w' ⟨rfl, rfl⟩)
      go_ret
      rw [Hc.out]; exact ⟨rfl, Below.refl _ _⟩
    · have Hc : Hid (cls v = 6) := Lib.hid (by unfold cls; rw [e, if_neg (by simp), if_neg (by omega), if_neg (by omega), if_neg (by omega), if_pos (by omega)])
      have h7 : (v == 127) = false := by rw [beq_eq_false_iff_ne]; omega
      clear e h ht
      go_enter Tryd.func127, Tryd.ntmps127
      go_wp2_with (go_at_call 164; refine (Hr.out _).mono ?_; rintro e w' ⟨rfl, rfl⟩)
      go_ret
      rw [Hc.out]; exact ⟨rfl, Below.refl _ _⟩
    · have Hc : Hid (cls v = 1) := Lib.hid (by unfold cls; rw [e, if_neg (by simp), if_neg (by omega), if_neg (by omega), if_neg (by omega), if_neg (by omega), if_pos (by omega)])
      have h7 : (v == 127) = false := by rw [beq_eq_false_iff_ne]; omega
      clear e h ht
      go_enter Tryd.func127, Tryd.ntmps127
      go_wp2_with (go_at_call 164; refine (Hr.out _).mono ?_; rintro e w' ⟨rfl, rfl⟩)
      go_ret
      rw [Hc.out]; exact ⟨rfl, Below.refl _ _⟩
    · have Hc : Hid (cls v = told v) := Lib.hid (by unfold cls; rw [e, if_neg (by simp), if_neg (by omega), if_neg (by omega), if_neg (by omega), if_neg (by omega), if_neg (by omega)])
      have h7 : (v == 127) = false := by rw [beq_eq_false_iff_ne]; omega
      have Ht := Lib.hid ht
      clear e h ht
      go_enter Tryd.func127, Tryd.ntmps127
      go_wp2_with (first | (go_at_call 164; refine (Hr.out _).mono ?_; rintro e w' ⟨rfl, rfl⟩) | (go_at_call 166; refine (Ht.out _ HT.out).mono ?_; rintro e w1 ⟨rfl, hb1⟩))
      go_ret
      rw [Hc.out]; exact ⟨rfl, hb1⟩
  · rw [e] at hr
    have Hr := Lib.hid hr; clear hr
    have Hc : Hid (cls v = 0) := Lib.hid (by unfold cls; rw [e, if_pos rfl])
    clear e h ht
    go_enter Tryd.func127, Tryd.ntmps127
    go_wp2_with (go_at_call 164; refine (Hr.out _).mono ?_; rintro e w' ⟨rfl, rfl⟩)
    go_ret
    rw [Hc.out]; exact ⟨rfl, Below.refl _ _⟩
theorem cls_rng (v : Int) : 0 ≤ cls v ∧ cls v ≤ 12 := by
  have ht : 0 ≤ told v ∧ told v ≤ 12 := by
    unfold told
    split
    · rename_i j _
      rcases Nat.lt_or_ge j 53 with h | h
      · have key : ∀ j : Fin 53, 0 ≤ rng.getD (3 * j.val) 0 ∧ rng.getD (3 * j.val) 0 ≤ 12 := by decide +kernel
        exact key ⟨j, h⟩
      · rw [List.getD, List.getElem?_eq_none (show rng.length ≤ 3 * j by show 159 ≤ 3 * j; omega)]; exact ⟨by decide, by decide⟩
    · split <;> omega
  unfold cls
  repeat' split
  all_goals omega
theorem danger_any (v : Int) (w : World) (hT : Tabs w) : Calls Tryd.prog 149 #[.int .i64 v] w fun e w' => e = .returned (.bool (dng v)) ∧ Below w.heap.size w w' := by
  have ho := of_any v w hT
  have hw : dng v = decide (3 < cls v) := rfl
  have hr := cls_rng v
  generalize cls v = c at *
  have Ho := Lib.hid ho; clear ho hT
  rcases (show c = 0 ∨ c = 1 ∨ c = 2 ∨ c = 3 ∨ 3 < c by omega) with rfl | rfl | rfl | rfl | h
  all_goals try
    have Hw : Hid (dng v = false) := Lib.hid (by rw [hw]; rfl)
    clear hw
    go_enter Tryd.func149, Tryd.ntmps149
    go_wp2_with (go_at_call 127; refine Ho.out.mono ?_; rintro e w1 ⟨rfl, hb1⟩)
    go_ret
    rw [Hw.out]; exact ⟨rfl, hb1⟩
  have Hw : Hid (dng v = true) := Lib.hid (by rw [hw, decide_eq_true h])
  have e0 : (c == 0) = false := by rw [beq_eq_false_iff_ne]; omega
  have e1 : (c == 1) = false := by rw [beq_eq_false_iff_ne]; omega
  have e2 : (c == 2) = false := by rw [beq_eq_false_iff_ne]; omega
  have e3 : (c == 3) = false := by rw [beq_eq_false_iff_ne]; omega
  clear hw
  go_enter Tryd.func149, Tryd.ntmps149
  go_wp2_with (go_at_call 127; refine Ho.out.mono ?_; rintro e w1 ⟨rfl, hb1⟩)
  go_ret
  rw [Hw.out]; exact ⟨rfl, hb1⟩
end Go.Proofs.YtgpcflpeddnfcaaDoor
namespace Go.Proofs.YtgpcflpeddnfcaaDoor
open Go.RowKit
/-- Is v in one of some ranges: from, to, from, to? -/
def hitW (l : List Int) (v : Int) (j : Nat) : Bool := inb v (l.getD (2 * j) 0) (l.getD (2 * j + 1) 0)
def wthn (l : List Int) (v : Int) : Bool := (List.range (l.length / 2)).any (hitW l v)
theorem wthn_yes {l : List Int} {v : Int} {k : Nat} (hk : k < l.length / 2) (h : hitW l v k = true) : wthn l v = true := by
  unfold wthn; rw [List.any_eq_true]; exact ⟨k, by simpa using hk, h⟩
theorem wthn_no {l : List Int} {v : Int} (h : ∀ j, j < l.length / 2 → hitW l v j = false) : wthn l v = false := by
  unfold wthn; rw [List.any_eq_false]; intro j hj; rw [h j (by simpa using hj)]; simp
set_option maxHeartbeats 800000 in
theorem within_any (v : Int) (l : List Int) (b off cap : Nat) (w : World) (hl : l.length ≤ 1000) (hc : ∀ i, i < l.length → w.cell? ⟨b, off + i, none⟩ = some (.int .i64 (l.getD i 0))) :
    Calls Tryd.prog 170 #[.int .i64 v, .slice (some ⟨b, off, none⟩) l.length cap] w fun e w' => e = .returned (.bool (wthn l v)) ∧ w = w' := by
  have Hc := Lib.hid hc; clear hc
  go_enter Tryd.func170, Tryd.ntmps170
  go_wp2
  go_loop [5] (fun i => ∃ k : Nat, k ≤ l.length / 2 ∧ i = .int .i64 ((2 * k : Nat) : Int) ∧ Hid (∀ j, j < k → hitW l v j = false)) (fun i => l.length + 2 - (intOf i).toNat)
  case atStart => exact ⟨0, by omega, rfl, Lib.hid (by intro j hj; omega)⟩
  case round =>
    obtain ⟨k, hk, rfl, hno⟩ := hrel
    have hlen : l.length = l.length := rfl
    by_cases hlt : k < l.length / 2
    · have c0 := Hc.out (2 * k) (by omega)
      have c1 := Hc.out (2 * k + 1) (by omega)
      have hh : hitW l v k = inb v (l.getD (2 * k) 0) (l.getD (2 * k + 1) 0) := rfl
      have Hy : Hid (hitW l v k = true → wthn l v = true) := Lib.hid (fun h => wthn_yes hlt h)
      have hm : 2 * (k + 1) = 2 * k + 2 := by omega
      have hm1 : 2 * k + 1 < l.length := by omega
      generalize l.getD (2 * k) 0 = x at *
      generalize l.getD (2 * k + 1) 0 = y at *
      have Hk := Lib.hid hlt; clear hlt hk
      generalize 2 * k = m at *
      have Hm := Lib.hid hm; have Hh := Lib.hid hh; clear hm hh hlen
      rcases (show v < x ∨ (x ≤ v ∧ y < v) ∨ (x ≤ v ∧ v ≤ y) by omega) with h | ⟨h, h'⟩ | ⟨h, h'⟩
      · have Hb : Hid (inb v x y = false) := Lib.hid (by unfold inb; rw [decide_eq_false (by omega)]; rfl)
        rw [Hb.out] at Hh
        go_wp2
        go_round
        case rel => exact ⟨k + 1, by have := Hk.out; omega, by rw [Hm.out]; go_num, Lib.hid (by intro j hj; rcases Nat.lt_succ_iff_lt_or_eq.1 hj with h | rfl; exact hno.out j h; exact Hh.out)⟩
        case measure => simp [intOf]; omega
      · have Hb : Hid (inb v x y = false) := Lib.hid (by unfold inb; rw [decide_eq_false (show ¬ v ≤ y by omega), Bool.and_false])
        have hd : decide (v ≤ y) = false := decide_eq_false (by omega)
        rw [Hb.out] at Hh
        go_wp2
        go_round
        case rel => exact ⟨k + 1, by have := Hk.out; omega, by rw [Hm.out]; go_num, Lib.hid (by intro j hj; rcases Nat.lt_succ_iff_lt_or_eq.1 hj with h | rfl; exact hno.out j h; exact Hh.out)⟩
        case measure => simp [intOf]; omega
      · have Hb : Hid (inb v x y = true) := Lib.hid (by unfold inb; rw [decide_eq_true h, decide_eq_true h']; rfl)
        have hd : decide (v ≤ y) = true := decide_eq_true h'
        have Hy2 := Lib.hid (Hy.out (by rw [Hh.out]; exact Hb.out))
        clear Hy
        go_wp2
        go_ret
        rw [Hy2.out]
        exact ⟨rfl, rfl⟩
    · obtain rfl : k = l.length / 2 := by omega
      have Hn : Hid (wthn l v = false) := Lib.hid (wthn_no hno.out)
      have hge : l.length ≤ 2 * (l.length / 2) + 1 := by omega
      have hme : 2 * (l.length / 2) ≤ 1000 := by omega
      clear hlt hk hlen hno
      generalize 2 * (l.length / 2) = m at *
      go_wp2
      go_ret
      rw [Hn.out]
      exact ⟨rfl, rfl⟩
theorem within_new (v : Int) (l : List Int) (w : World) (hl : l.length ≤ 1000) :
    Calls Tryd.prog 170 #[.int .i64 v, .slice (some ⟨w.heap.size, 0, none⟩) l.length l.length] (w.alloc (.cells (l.map (Value.int .i64)).toArray 3)) fun e w' => e = .returned (.bool (wthn l v)) ∧ w.alloc (.cells (l.map (Value.int .i64)).toArray 3) = w' := by
  refine within_any v l w.heap.size 0 l.length _ hl fun i hi => ?_
  rw [World.cell?_alloc_new, Nat.zero_add, List.getElem?_toArray, List.getElem?_map, List.getD, List.getElem?_eq_getElem hi]
  rfl
def lSpace : List Int := [160, 160, 5760, 5760, 8192, 8202, 8232, 8233, 8239, 8239, 8287, 8287, 12288, 12288]
def lZero : List Int := [173, 173, 6155, 6158, 8203, 8205, 8288, 8292, 65279, 65279, 65529, 65531]
def lBidi : List Int := [1564, 1564, 8206, 8207, 8234, 8238, 8294, 8297]
def lMark : List Int := [768, 879, 1155, 1161, 1425, 1469, 1552, 1562, 1611, 1631, 1750, 1756, 6832, 6862, 7616, 7679, 8400, 8432, 12330, 12335, 12441, 12442, 65024, 65039, 65056, 65071]
def lOther : List Int := [57344, 63743, 64976, 65007, 65520, 65528, 65534, 65535, 131070, 131071, 262142, 1114111]
def lWide : List Int := [4352, 4447, 8986, 8987, 11904, 12287, 12289, 12350, 12353, 13311, 13312, 19903, 19968, 42191, 43360, 43391, 44032, 55203, 63744, 64255, 65072, 65135, 65280, 65376, 65504, 65510, 127744, 128591, 128640, 128767, 129280, 129535, 131072, 262141]
def lSk : List Int := [913, 914, 917, 918, 919, 921, 922, 924, 925, 927, 929, 932, 933, 935, 957, 959, 961, 1029, 1030, 1032, 1040, 1042, 1045, 1050, 1052, 1053, 1054, 1056, 1057, 1058, 1061, 1072, 1077, 1086, 1088, 1089, 1091, 1093, 1109, 1110, 1112, 1281, 1307, 1309, 894, 8208, 8722, 8260, 8725, 8228, 8218]
def sSk : List UInt8 := [65, 66, 69, 90, 72, 73, 75, 77, 78, 79, 80, 84, 89, 88, 118, 111, 112, 83, 73, 74, 65, 66, 69, 75, 77, 72, 79, 80, 67, 84, 88, 97, 101, 111, 112, 99, 121, 120, 115, 105, 106, 100, 113, 119, 59, 45, 45, 47, 47, 46, 44]
theorem w_lSpace (v : Int) (w : World) (B : Nat) (hB : w.heap.size = B) : Calls Tryd.prog 170 #[.int .i64 v, .slice (some ⟨B, 0, none⟩) 14 14] (w.alloc (.cells #[.int .i64 160, .int .i64 160, .int .i64 5760, .int .i64 5760, .int .i64 8192, .int .i64 8202, .int .i64 8232, .int .i64 8233, .int .i64 8239, .int .i64 8239, .int .i64 8287, .int .i64 8287, .int .i64 12288, .int .i64 12288] 3)) fun e w' => e = .returned (.bool (wthn lSpace v)) ∧ w.alloc (.cells #[.int .i64 160, .int .i64 160, .int .i64 5760, .int .i64 5760, .int .i64 8192, .int .i64 8202, .int .i64 8232, .int .i64 8233, .int .i64 8239, .int .i64 8239, .int .i64 8287, .int .i64 8287, .int .i64 12288, .int .i64 12288] 3) = w' := hB ▸ within_new v lSpace w (by decide)
theorem w_lZero (v : Int) (w : World) (B : Nat) (hB : w.heap.size = B) : Calls Tryd.prog 170 #[.int .i64 v, .slice (some ⟨B, 0, none⟩) 12 12] (w.alloc (.cells #[.int .i64 173, .int .i64 173, .int .i64 6155, .int .i64 6158, .int .i64 8203, .int .i64 8205, .int .i64 8288, .int .i64 8292, .int .i64 65279, .int .i64 65279, .int .i64 65529, .int .i64 65531] 3)) fun e w' => e = .returned (.bool (wthn lZero v)) ∧ w.alloc (.cells #[.int .i64 173, .int .i64 173, .int .i64 6155, .int .i64 6158, .int .i64 8203, .int .i64 8205, .int .i64 8288, .int .i64 8292, .int .i64 65279, .int .i64 65279, .int .i64 65529, .int .i64 65531] 3) = w' := hB ▸ within_new v lZero w (by decide)
theorem w_lBidi (v : Int) (w : World) (B : Nat) (hB : w.heap.size = B) : Calls Tryd.prog 170 #[.int .i64 v, .slice (some ⟨B, 0, none⟩) 8 8] (w.alloc (.cells #[.int .i64 1564, .int .i64 1564, .int .i64 8206, .int .i64 8207, .int .i64 8234, .int .i64 8238, .int .i64 8294, .int .i64 8297] 3)) fun e w' => e = .returned (.bool (wthn lBidi v)) ∧ w.alloc (.cells #[.int .i64 1564, .int .i64 1564, .int .i64 8206, .int .i64 8207, .int .i64 8234, .int .i64 8238, .int .i64 8294, .int .i64 8297] 3) = w' := hB ▸ within_new v lBidi w (by decide)
theorem w_lMark (v : Int) (w : World) (B : Nat) (hB : w.heap.size = B) : Calls Tryd.prog 170 #[.int .i64 v, .slice (some ⟨B, 0, none⟩) 26 26] (w.alloc (.cells #[.int .i64 768, .int .i64 879, .int .i64 1155, .int .i64 1161, .int .i64 1425, .int .i64 1469, .int .i64 1552, .int .i64 1562, .int .i64 1611, .int .i64 1631, .int .i64 1750, .int .i64 1756, .int .i64 6832, .int .i64 6862, .int .i64 7616, .int .i64 7679, .int .i64 8400, .int .i64 8432, .int .i64 12330, .int .i64 12335, .int .i64 12441, .int .i64 12442, .int .i64 65024, .int .i64 65039, .int .i64 65056, .int .i64 65071] 3)) fun e w' => e = .returned (.bool (wthn lMark v)) ∧ w.alloc (.cells #[.int .i64 768, .int .i64 879, .int .i64 1155, .int .i64 1161, .int .i64 1425, .int .i64 1469, .int .i64 1552, .int .i64 1562, .int .i64 1611, .int .i64 1631, .int .i64 1750, .int .i64 1756, .int .i64 6832, .int .i64 6862, .int .i64 7616, .int .i64 7679, .int .i64 8400, .int .i64 8432, .int .i64 12330, .int .i64 12335, .int .i64 12441, .int .i64 12442, .int .i64 65024, .int .i64 65039, .int .i64 65056, .int .i64 65071] 3) = w' := hB ▸ within_new v lMark w (by decide)
theorem w_lOther (v : Int) (w : World) (B : Nat) (hB : w.heap.size = B) : Calls Tryd.prog 170 #[.int .i64 v, .slice (some ⟨B, 0, none⟩) 12 12] (w.alloc (.cells #[.int .i64 57344, .int .i64 63743, .int .i64 64976, .int .i64 65007, .int .i64 65520, .int .i64 65528, .int .i64 65534, .int .i64 65535, .int .i64 131070, .int .i64 131071, .int .i64 262142, .int .i64 1114111] 3)) fun e w' => e = .returned (.bool (wthn lOther v)) ∧ w.alloc (.cells #[.int .i64 57344, .int .i64 63743, .int .i64 64976, .int .i64 65007, .int .i64 65520, .int .i64 65528, .int .i64 65534, .int .i64 65535, .int .i64 131070, .int .i64 131071, .int .i64 262142, .int .i64 1114111] 3) = w' := hB ▸ within_new v lOther w (by decide)
theorem w_lWide (v : Int) (w : World) (B : Nat) (hB : w.heap.size = B) : Calls Tryd.prog 170 #[.int .i64 v, .slice (some ⟨B, 0, none⟩) 34 34] (w.alloc (.cells #[.int .i64 4352, .int .i64 4447, .int .i64 8986, .int .i64 8987, .int .i64 11904, .int .i64 12287, .int .i64 12289, .int .i64 12350, .int .i64 12353, .int .i64 13311, .int .i64 13312, .int .i64 19903, .int .i64 19968, .int .i64 42191, .int .i64 43360, .int .i64 43391, .int .i64 44032, .int .i64 55203, .int .i64 63744, .int .i64 64255, .int .i64 65072, .int .i64 65135, .int .i64 65280, .int .i64 65376, .int .i64 65504, .int .i64 65510, .int .i64 127744, .int .i64 128591, .int .i64 128640, .int .i64 128767, .int .i64 129280, .int .i64 129535, .int .i64 131072, .int .i64 262141] 3)) fun e w' => e = .returned (.bool (wthn lWide v)) ∧ w.alloc (.cells #[.int .i64 4352, .int .i64 4447, .int .i64 8986, .int .i64 8987, .int .i64 11904, .int .i64 12287, .int .i64 12289, .int .i64 12350, .int .i64 12353, .int .i64 13311, .int .i64 13312, .int .i64 19903, .int .i64 19968, .int .i64 42191, .int .i64 43360, .int .i64 43391, .int .i64 44032, .int .i64 55203, .int .i64 63744, .int .i64 64255, .int .i64 65072, .int .i64 65135, .int .i64 65280, .int .i64 65376, .int .i64 65504, .int .i64 65510, .int .i64 127744, .int .i64 128591, .int .i64 128640, .int .i64 128767, .int .i64 129280, .int .i64 129535, .int .i64 131072, .int .i64 262141] 3) = w' := hB ▸ within_new v lWide w (by decide)
end Go.Proofs.YtgpcflpeddnfcaaDoor
namespace Go.Proofs.YtgpcflpeddnfcaaDoor
open Go.RowKit
/-- The reference's: the class of code points that are told; 0: none of these. -/
def oddR (v : Int) : Int := if v ≤ 31 then 4 else if v = 127 then 5 else if 128 ≤ v ∧ v ≤ 159 then 6 else if wthn lSpace v then 10 else if wthn lZero v then 8 else if wthn lBidi v then 7 else if wthn lMark v then 9 else if wthn lOther v then 11 else 0
set_option maxRecDepth 100000 in
set_option maxHeartbeats 4000000 in
theorem odd_any (v : Int) (w : World) : Calls Tryd.prog 168 #[.int .i64 v] w fun e w' => e = .returned (.int .i64 (oddR v)) ∧ Below w.heap.size w w' := by
  rcases (show v ≤ 31 ∨ v = 127 ∨ (128 ≤ v ∧ v ≤ 159) ∨ (31 < v ∧ v < 127) ∨ 159 < v by omega) with h | rfl | ⟨h, h'⟩ | h | h
  · have Hd : Hid (oddR v = 4) := Lib.hid (by unfold oddR; rw [if_pos h])
    go_enter Tryd.func168, Tryd.ntmps168
    go_wp2
    go_ret
    rw [Hd.out]; exact ⟨rfl, Below.refl _ _⟩
  · have Hd : Hid (oddR 127 = 5) := Lib.hid (by unfold oddR; rw [if_neg (by omega), if_pos rfl])
    go_enter Tryd.func168, Tryd.ntmps168
    go_wp2
    go_ret
    rw [Hd.out]; exact ⟨rfl, Below.refl _ _⟩
  · have Hd : Hid (oddR v = 6) := Lib.hid (by unfold oddR; rw [if_neg (by omega), if_neg (by omega), if_pos (by omega)])
    have h7 : (v == 127) = false := by rw [beq_eq_false_iff_ne]; omega
    go_enter Tryd.func168, Tryd.ntmps168
    go_wp2
    go_ret
    rw [Hd.out]; exact ⟨rfl, Below.refl _ _⟩
  all_goals
    have h7 : (v == 127) = false := by rw [beq_eq_false_iff_ne]; omega
    have ho : oddR v = if wthn lSpace v then 10 else if wthn lZero v then 8 else if wthn lBidi v then 7 else if wthn lMark v then 9 else if wthn lOther v then 11 else 0 := by unfold oddR; rw [if_neg (by omega), if_neg (by omega), if_neg (by omega)]
    have w1 := w_lSpace v
    have w2 := w_lZero v
    have w3 := w_lBidi v
    have w4 := w_lMark v
    have w5 := w_lOther v
    generalize wthn lSpace v = b1 at *
    generalize wthn lZero v = b2 at *
    generalize wthn lBidi v = b3 at *
    generalize wthn lMark v = b4 at *
    generalize wthn lOther v = b5 at *
    have W1 := Lib.hid w1; have W2 := Lib.hid w2; have W3 := Lib.hid w3; have W4 := Lib.hid w4; have W5 := Lib.hid w5; have Ho := Lib.hid ho
    clear w1 w2 w3 w4 w5 ho
    cases b1
    case' false => cases b2
    case' false.false => cases b3
    case' false.false.false => cases b4
    case' false.false.false.false => cases b5
    all_goals
      go_enter Tryd.func168, Tryd.ntmps168
      go_wp2_with (first | (go_at_call 170; (with_reducible refine (W1.out _ _ (by simp)).mono ?_); rintro e w' ⟨rfl, rfl⟩) | (go_at_call 170; (with_reducible refine (W2.out _ _ (by simp)).mono ?_); rintro e w' ⟨rfl, rfl⟩) | (go_at_call 170; (with_reducible refine (W3.out _ _ (by simp)).mono ?_); rintro e w' ⟨rfl, rfl⟩) | (go_at_call 170; (with_reducible refine (W4.out _ _ (by simp)).mono ?_); rintro e w' ⟨rfl, rfl⟩) | (go_at_call 170; (with_reducible refine (W5.out _ _ (by simp)).mono ?_); rintro e w' ⟨rfl, rfl⟩))
      go_ret
      rw [Ho.out]
      exact ⟨rfl, by go_grown⟩
end Go.Proofs.YtgpcflpeddnfcaaDoor
set_option linter.unusedVariables false
set_option linter.unusedSimpArgs false
namespace Go.Proofs.YtgpcflpeddnfcaaDoor
open Go.RowKit
theorem ret_boolU {a b : Bool} (h : a = b) : Ending.returned (.bool a) = .returned (.bool b) := by rw [h]
theorem infoByte : (Tryd.prog.info? 5).map (fun i => (i.zero, i.size, i.bytes)) = some (some (.int .u8 0), 1, 1) := by kernel_rfl
/-- A row of ints that can be read. -/
def Row (w : World) (a : Option Addr) (l : List Int) : Prop := ∀ j, j < l.length → ∃ b off, a = some ⟨b, off, none⟩ ∧ w.cell? ⟨b, off + j, none⟩ = some (.int .i64 (l.getD j 0)) ∧ b < w.heap.size
theorem Row.below {w w' : World} {a : Option Addr} {l : List Int} (h : Row w a l) (hb : Below w.heap.size w w') : Row w' a l := by
  intro j hj
  obtain ⟨b, off, ha, hc, hlt⟩ := h j hj
  exact ⟨b, off, ha, (hb.cell (p := ⟨b, off + j, none⟩) hlt).trans hc, Nat.lt_of_lt_of_le hlt hb.size⟩
theorem stray_any (v : Int) (w : World) : Calls Tryd.prog 163 #[.int .i64 v] w fun e w' => e = .returned (.bool (stB v)) ∧ w' = w := by
  have e1 := stB_iff v
  by_cases h1 : 1114240 ≤ v
  · by_cases h2 : v ≤ 1114367
    · have H := Lib.hid (e1.2 ⟨h1, h2⟩); clear e1
      go_enter Tryd.func163, Tryd.ntmps163
      go_wp2
      go_ret
      exact ⟨ret_boolU H.out.symm, rfl⟩
    · have H : Hid (stB v = false) := Lib.hid (by rw [← Bool.not_eq_true]; intro h; exact h2 (e1.1 h).2); clear e1
      go_enter Tryd.func163, Tryd.ntmps163
      go_wp2
      go_ret
      exact ⟨ret_boolU H.out.symm, rfl⟩
  · have H : Hid (stB v = false) := Lib.hid (by rw [← Bool.not_eq_true]; intro h; exact h1 (e1.1 h).1); clear e1
    go_enter Tryd.func163, Tryd.ntmps163
    go_wp2
    go_ret
    exact ⟨ret_boolU H.out.symm, rfl⟩
theorem point_any (v : Int) (w : World) : Calls Tryd.prog 161 #[.int .i64 v] w fun e w' => e = .returned (.bool (ptB v)) ∧ w' = w := by
  have e1 := ptB_iff v
  have hf : ¬ ((0 ≤ v ∧ v < 55296) ∨ (57343 < v ∧ v ≤ 1114111)) → ptB v = false := by intro h; rw [← Bool.not_eq_true]; intro h2; exact h (e1.1 h2)
  by_cases h1 : 0 ≤ v
  · by_cases h2 : v ≤ 1114111
    · by_cases h3 : v < 55296
      · have H := Lib.hid (e1.2 (Or.inl ⟨h1, h3⟩)); clear e1 hf
        go_enter Tryd.func161, Tryd.ntmps161
        go_wp2
        go_ret
        exact ⟨ret_boolU H.out.symm, rfl⟩
      · by_cases h4 : 57343 < v
        · have H := Lib.hid (e1.2 (Or.inr ⟨h4, h2⟩)); clear e1 hf
          go_enter Tryd.func161, Tryd.ntmps161
          go_wp2
          go_ret
          exact ⟨ret_boolU H.out.symm, rfl⟩
        · have h5 : decide (57343 < v) = false := decide_eq_false h4
          have H := Lib.hid (hf (by omega)); clear e1 hf
          go_enter Tryd.func161, Tryd.ntmps161
          go_wp2
          go_ret
          exact ⟨ret_boolU H.out.symm, rfl⟩
    · have H := Lib.hid (hf (by omega)); clear e1 hf
      go_enter Tryd.func161, Tryd.ntmps161
      go_wp2
      go_ret
      exact ⟨ret_boolU H.out.symm, rfl⟩
  · have H := Lib.hid (hf (by omega)); clear e1 hf
    go_enter Tryd.func161, Tryd.ntmps161
    go_wp2
    go_ret
    exact ⟨ret_boolU H.out.symm, rfl⟩
def rightB (v : Int) : Bool := ptB v || stB v
theorem right_any (v : Int) (w : World) : Calls Tryd.prog 164 #[.int .i64 v] w fun e w' => e = .returned (.bool (rightB v)) ∧ w' = w := by
  have P := Lib.hid (fun w => point_any v w)
  have S := Lib.hid (fun w => stray_any v w)
  have e0 : rightB v = (ptB v || stB v) := rfl
  generalize stB v = s at *
  cases h : ptB v
  · rw [h] at P e0
    have H := Lib.hid e0; clear e0 h
    go_enter Tryd.func164, Tryd.ntmps164
    go_wp2_with (first
      | (go_at_call 161; refine (P.out _).mono ?_; rintro e w1 ⟨rfl, rfl⟩)
      | (go_at_call 163; refine (S.out _).mono ?_; rintro e w1 ⟨rfl, rfl⟩))
    go_ret
    exact ⟨ret_boolU (H.out.trans (Bool.false_or _)).symm, rfl⟩
  · rw [h] at P e0
    have H := Lib.hid e0; clear e0 h
    go_enter Tryd.func164, Tryd.ntmps164
    go_wp2_with (first
      | (go_at_call 161; refine (P.out _).mono ?_; rintro e w1 ⟨rfl, rfl⟩)
      | (go_at_call 163; refine (S.out _).mono ?_; rintro e w1 ⟨rfl, rfl⟩))
    go_ret
    exact ⟨ret_boolU (H.out.trans (Bool.true_or _)).symm, rfl⟩
theorem right_ref (v : Int) (w : World) : Calls Tryd.prog 167 #[.int .i64 v] w fun e w' => e = .returned (.bool (rightB v)) ∧ w' = w := by
  have e1 : rightB v = true ↔ ((0 ≤ v ∧ v < 55296) ∨ (57343 < v ∧ v ≤ 1114111)) ∨ (1114240 ≤ v ∧ v ≤ 1114367) := by unfold rightB; rw [Bool.or_eq_true, ptB_iff, stB_iff]
  have hf : ¬ (((0 ≤ v ∧ v < 55296) ∨ (57343 < v ∧ v ≤ 1114111)) ∨ (1114240 ≤ v ∧ v ≤ 1114367)) → rightB v = false := by intro h; rw [← Bool.not_eq_true]; intro h2; exact h (e1.1 h2)
  have E : Hid (∀ b : Bool, rightB v = b → (Calls Tryd.prog 167 #[.int .i64 v] w fun e w' => e = .returned (.bool b) ∧ w' = w) → (Calls Tryd.prog 167 #[.int .i64 v] w fun e w' => e = .returned (.bool (rightB v)) ∧ w' = w)) := Lib.hid (fun b h k => by rw [h]; exact k)
  rcases (by omega : v < 0 ∨ (0 ≤ v ∧ v < 55296) ∨ (55296 ≤ v ∧ v ≤ 57343) ∨ (57343 < v ∧ v ≤ 1114111) ∨ (1114111 < v ∧ v < 1114240) ∨ (1114240 ≤ v ∧ v ≤ 1114367) ∨ 1114367 < v) with h | ⟨h, h'⟩ | ⟨h, h'⟩ | ⟨h, h'⟩ | ⟨h, h'⟩ | ⟨h, h'⟩ | h
  · refine E.out _ (hf (by omega)) ?_; clear e1 hf E
    go_enter Tryd.func167, Tryd.ntmps167
    go_wp2
    go_ret
    exact ⟨rfl, rfl⟩
  · refine E.out _ (e1.2 (by omega)) ?_; clear e1 hf E
    go_enter Tryd.func167, Tryd.ntmps167
    go_wp2
    go_ret
    exact ⟨rfl, rfl⟩
  · refine E.out _ (hf (by omega)) ?_; clear e1 hf E
    go_enter Tryd.func167, Tryd.ntmps167
    go_wp2
    go_ret
    exact ⟨rfl, rfl⟩
  · refine E.out _ (e1.2 (by omega)) ?_; clear e1 hf E
    go_enter Tryd.func167, Tryd.ntmps167
    go_wp2
    go_ret
    exact ⟨rfl, rfl⟩
  · refine E.out _ (hf (by omega)) ?_; clear e1 hf E
    go_enter Tryd.func167, Tryd.ntmps167
    go_wp2
    go_ret
    exact ⟨rfl, rfl⟩
  · refine E.out _ (e1.2 (by omega)) ?_; clear e1 hf E
    go_enter Tryd.func167, Tryd.ntmps167
    go_wp2
    go_ret
    exact ⟨rfl, rfl⟩
  · refine E.out _ (hf (by omega)) ?_; clear e1 hf E
    have hn : decide (v ≤ 1114367) = false := decide_eq_false (by omega)
    go_enter Tryd.func167, Tryd.ntmps167
    go_wp2
    go_ret
    exact ⟨rfl, rfl⟩
theorem ext_getD (a b : List Int) (h : a.length = b.length) (h2 : ∀ j, j < a.length → a.getD j 0 = b.getD j 0) : a = b := by
  apply List.ext_getElem h
  intro j h1 h3
  have := h2 j h1
  simpa [List.getD, List.getElem?_eq_getElem h1, List.getElem?_eq_getElem h3] using this
set_option maxRecDepth 100000 in
set_option maxHeartbeats 2000000 in
theorem ints_ref (a b : List Int) (pa pb : Option Addr) (ca cb : Nat) (w : World) (ha : Row w pa a) (hb : Row w pb b) (hla : a.length ≤ 100000000) (hlb : b.length ≤ 100000000) :
    Calls Tryd.prog 26 #[.slice pa a.length ca, .slice pb b.length cb] w fun e w' => e = .returned (.bool (decide (a = b))) ∧ ∃ n, w' = w.drewN n := by
  by_cases hl : a.length = b.length
  · have hext := ext_getD a b hl
    rw [← hl]
    have Ha := Lib.hid ha; have Hb := Lib.hid hb; have He := Lib.hid hext
    have Hn' : Hid (a.length = b.length) := Lib.hid hl
    clear ha hb hext hl hlb
    generalize hn : a.length = n at *
    have Hn := Lib.hid hn
    clear hn
    go_enter Tryd.func26, Tryd.ntmps26
    go_wp2
    go_loopw [5] (fun iv wr => ∃ (k q : Nat), iv = .int .i64 (k : Int) ∧ k ≤ n ∧ wr = w.drewN q ∧ Hid (∀ j, j < k → a.getD j 0 = b.getD j 0)) (fun iv _ => n - (intOf iv).toNat)
    case atStart => exact ⟨0, 0, rfl, Nat.zero_le _, rfl, Lib.hid (fun j h => absurd h (Nat.not_lt_zero _))⟩
    case round =>
      obtain ⟨k, q, rfl, hk, rfl, hj⟩ := hrel
      by_cases hlt : k < n
      · obtain ⟨ba, oa, rfl, hca, hba⟩ := Ha.out k (by rw [Hn.out]; exact hlt)
        obtain ⟨bb, ob, rfl, hcb, hbb⟩ := Hb.out k (by rw [← Hn'.out]; exact hlt)
        have hlti : (k : Int) < (n : Int) := by omega
        by_cases hx : a.getD k 0 = b.getD k 0
        · have hj2 : Hid (∀ j, j < k + 1 → a.getD j 0 = b.getD j 0) := Lib.hid (fun j h => by
            rcases Nat.lt_succ_iff_lt_or_eq.1 h with h | rfl
            · exact hj.out j h
            · exact hx)
          have hxx : (a.getD k 0 == b.getD k 0) = true := by rw [hx]; simp
          generalize a.getD k 0 = x at *
          generalize b.getD k 0 = y at *
          subst hx
          clear hj Ha Hb
          go_wp2
          go_quiet (fail)
          go_wp2
          go_roundw
          case rel => exact ⟨k + 1, _, by go_num, by omega, rfl, hj2⟩
          case measure => simp [intOf]; omega
        · have hfin : Hid (decide (a = b) = false) := Lib.hid (decide_eq_false (fun h => hx (by rw [h])))
          have hxx : (a.getD k 0 == b.getD k 0) = false := by simpa using hx
          generalize a.getD k 0 = x at *
          generalize b.getD k 0 = y at *
          clear hj Ha Hb
          go_wp2
          go_quiet (fail)
          go_wp2
          go_ret
          rw [hfin.out]
          exact ⟨rfl, _, World.drewN_drewN _ _ _⟩
      · obtain rfl : k = n := by omega
        have hfin : Hid (decide (a = b) = true) := Lib.hid (decide_eq_true (He.out (fun j h => hj.out j h)))
        clear hj Ha Hb
        go_wp2
        go_ret
        rw [hfin.out]
        exact ⟨rfl, _, rfl⟩
  · have hne : decide (a = b) = false := decide_eq_false (fun h => hl (by rw [h]))
    rw [hne]; clear hne ha hb
    generalize a.length = n at *; generalize b.length = m at *
    have hz : ((n : Int) == (m : Int)) = false := by simp; omega
    go_enter Tryd.func26, Tryd.ntmps26
    go_wp2
    go_ret
    exact ⟨rfl, 0, rfl⟩
theorem cell_new (w : World) (v : Value) (e : TypeId) : (w.alloc (Obj.cells #[v] e)).cell? ({ block := w.heap.size, off := 0 } : Addr) = some v := by
  have h : (w.alloc (Obj.cells #[v] e)).heap[w.heap.size]? = some (Obj.cells #[v] e) := Array.getElem?_push_size
  simp only [World.cell?, h]; rfl
end Go.Proofs.YtgpcflpeddnfcaaDoor
namespace Go.Proofs.YtgpcflpeddnfcaaDoor
open Go.RowKit
def u8s (l : List Int) : List Value := l.map (Value.int .u8)
structure EncInv (l : List Int) (a : Option Addr) (w : World) (k : Nat) (v : Value) (wr : World) : Prop where
  own : wr.ownsRow w.heap.size 5 1 v (encI (l.take k)).length (u8s (encI (l.take k)))
  bl : Below w.heap.size w wr
  le : k ≤ l.length
theorem enc_take (l : List Int) (k : Nat) (h : k < l.length) : encI (l.take (k + 1)) = encI (l.take k) ++ oneI (l.getD k 0) := by
  rw [List.take_add_one, encI_append, List.getElem?_eq_getElem h]
  simp [encI, List.getD, List.getElem?_eq_getElem h]
theorem enc_take_len (l : List Int) (k : Nat) (h : l.length ≤ 1000000) : (encI (l.take k)).length ≤ 4000000 := by
  have := encI_len (l.take k); simp at this; omega
theorem conv_own {w : World} {B : Nat} {v : Value} {l : List Int} (h : w.ownsRow B 5 1 v (encI l).length (u8s (encI l))) :
    ∀ dst, Tryd.prog.underlying dst = some .string → (convert 179 dst v).run Tryd.prog w = .ok (.string (encS l)) w := by
  intro dst hd
  rcases h.2 with ⟨rfl, h0⟩ | ⟨g, cap, cur, rfl, _, _, _⟩
  · have e : encI l = [] := List.eq_nil_of_length_eq_zero h0
    rw [run_convert_bytes_nil w _ 5 Tryd.underlying179 Tryd.underlying5 0 0 dst hd, encS, e]
    rfl
  · rw [run_convert_bytes_arg w _ 5 Tryd.underlying179 Tryd.underlying5 g 0 _ _ (encI l) rfl (fun i hi => ?_) dst hd]
    · rfl
    · have := h.cells (g := g) rfl i (.int .u8 ((encI l).getD i 0)) (by simp [u8s, List.getElem?_eq_getElem hi, List.getD])
      have hadd : (⟨g, 0, none⟩ : Addr).add i = ⟨g, 0 + i, none⟩ := by unfold Addr.add; split <;> simp_all
      rw [← hadd]; exact this
set_option maxRecDepth 100000 in
set_option maxHeartbeats 2000000 in
theorem encode_any (l : List Int) (a : Option Addr) (c : Nat) (w : World) (hl : l.length ≤ 1000000) (hr : Row w a l) :
    Calls Tryd.prog 118 #[.slice a l.length c] w fun e w' => e = .returned (.string (encS l)) ∧ Below w.heap.size w w' := by
  obtain ⟨i0, hi, hz0, hz1, hz2⟩ := info_parts infoByte
  have Hr := Lib.hid hr; clear hr
  go_enter Tryd.func118, Tryd.ntmps118
  go_wp2_with (at_make; refine wpList_make_own _ rfl _ _ 179 rfl w.heap.size 5 i0 (.int .u8 0) 1 Tryd.underlying179 hi hz0 hz1 _ _ _ l.length rfl rfl (by omega) ?b2 ?b3 (Nat.le_refl _) ?_)
  case b2 => rw [hz2]; omega
  case b3 => unfold maxLen; omega
  intro w0 hown0 hgrow0
  have hb0 : Below w.heap.size w w0 := (Below.refl _ _).grown hgrow0 (Nat.le_refl _) (fun k h => by cases h)
  go_wp2
  have hb8 := hb0.size
  go_loopw [3, 11] (fun v iv wr => ∃ k : Nat, iv = .int .i64 (k : Int) ∧ EncInv l a w k v wr) (fun _ iv _ => l.length - (intOf iv).toNat)
  case atStart => exact ⟨0, rfl, hown0, hb0, Nat.zero_le _⟩
  case round =>
    obtain ⟨k, rfl, hI⟩ := hrel
    have hbl := hI.bl; have hown := hI.own; have hle := hI.le; have hsz := hbl.size
    have hlen := enc_take_len l k hl
    clear hI
    by_cases hlt : k < l.length
    · obtain ⟨ba, oa, rfl, hca, hba⟩ := (Hr.out.below hbl) k hlt
      have hlti : (k : Int) < (l.length : Int) := by omega
      have hnext := enc_take l k hlt
      have P := fun w => point_any (l.getD k 0) w
      have S := fun w => stray_any (l.getD k 0) w
      have hp := ptB_iff (l.getD k 0)
      have hs := stB_iff (l.getD k 0)
      have e1 := fun h => oneI_pt (v := l.getD k 0) h
      have e2 := fun h => oneI_st (v := l.getD k 0) h
      have e3 := fun h => oneI_no (v := l.getD k 0) h
      generalize l.getD k 0 = x at *
      generalize encI (l.take k) = acc at *
      cases hpt : ptB x
      · rw [hpt] at P e3
        cases hst : stB x
        · rw [hst] at S e3
          have hn := hnext.trans (by rw [e3 rfl rfl, List.append_nil])
          have Hn := Lib.hid hn
          replace P := Lib.hid P; replace S := Lib.hid S
          clear hn hnext e1 e2 e3 hp hs hpt hst
          go_wp2_with (first
            | (go_at_call 161; refine (P.out _).mono ?_; rintro e w1 ⟨rfl, rfl⟩)
            | (go_at_call 163; refine (S.out _).mono ?_; rintro e w1 ⟨rfl, rfl⟩))
          go_roundw
          case rel => exact ⟨k + 1, by go_num, by rw [Hn.out]; exact hown, hbl, by omega⟩
          case measure => simp [intOf]; omega
        · rw [hst] at S
          have hx := hs.1 hst
          have hn := hnext.trans (by rw [e2 hst])
          have Hn := Lib.hid hn
          replace P := Lib.hid P; replace S := Lib.hid S
          clear hn hnext e1 e2 e3 hp hs hpt hst
          go_wp2_with (first
            | (go_at_call 161; refine (P.out _).mono ?_; rintro e w1 ⟨rfl, rfl⟩)
            | (go_at_call 163; refine (S.out _).mono ?_; rintro e w1 ⟨rfl, rfl⟩)
            | (at_builtin; refine wpList_append_own _ rfl _ _ 179 rfl w.heap.size 5 i0 (.int .u8 0) 1 1 Tryd.underlying179 hi hz0 hz1 hz2 rfl (by decide) _ _ _ rfl (hown.alloc _) ⟨w1.heap.size, 0, none⟩ 1 1 [.int .u8 (x - 1114112)] rfl rfl ?c1 ?c2 ?c3 ?c4 ?c5 ?_))
          case c1 =>
            intro j u hj
            match j, hj with
            | 0, hj => simp at hj; subst hj; exact cell_new w1 _ _
          case c2 => intro u hu; simp at hu; subst hu; rfl
          case c3 => unfold maxLen; omega
          case c4 => omega
          case c5 => have := (below_alloc w1 (Obj.cells #[Value.int IntKind.u8 (x - 1114112)] 5)).size; omega
          intro v' w3 hown3 hgrow3 _
          have hbl3 : Below w.heap.size w w3 := (hbl.alloc hsz _).grown hgrow3 (by have := (below_alloc w1 (Obj.cells #[Value.int IntKind.u8 (x - 1114112)] 5)).size; omega) (fun k hk => (hown.lt k hk).1)
          have hown3' : w3.ownsRow w.heap.size 5 1 v' (encI (l.take (k + 1))).length (u8s (encI (l.take (k + 1)))) := by
            rw [Hn.out]; simpa [u8s] using hown3
          clear hown3 hgrow3 hown
          go_wp2
          go_roundw
          case rel => exact ⟨k + 1, by go_num, hown3', hbl3, by omega⟩
          case measure => simp [intOf]; omega
      · rw [hpt] at P
        have hx := hp.1 hpt
        have hn := hnext.trans (by rw [e1 hpt])
        have Hn := Lib.hid hn
        have hx2 : 0 ≤ x ∧ x ≤ 1114111 := by omega
        replace P := Lib.hid P
        clear hn hnext e1 e2 e3 hp hs hpt hx S
        go_wp2_with (first
          | (go_at_call 161; refine (P.out _).mono ?_; rintro e w1 ⟨rfl, rfl⟩)
          | (go_at_call 162; refine (Tryd.utf8_AppendRune_plain w.heap.size _ _ _ x (by omega) (by omega) _ hown (by omega) (by omega)).mono ?_; rintro e w2 ⟨v2, rfl, hown2, o, hg2⟩)
          | fail)
        have hbl3 : Below w.heap.size w w2 := (hbl.alloc hsz o).grown hg2 (by have := (below_alloc w1 o).size; omega) (fun k hk => (hown.lt k hk).1)
        have hown3' : w2.ownsRow w.heap.size 5 1 v2 (encI (l.take (k + 1))).length (u8s (encI (l.take (k + 1)))) := by
          rw [Hn.out]; simpa [u8s, Lib.runeCells] using hown2
        clear hown2 hg2 hown
        go_wp2
        go_roundw
        case rel => exact ⟨k + 1, by go_num, hown3', hbl3, by omega⟩
        case measure => simp [intOf]; omega
    · obtain rfl : k = l.length := by omega
      rw [List.take_length] at hown
      have hcv := conv_own hown
      clear hown
      go_wp2
      go_ret
      exact ⟨rfl, hbl⟩
end Go.Proofs.YtgpcflpeddnfcaaDoor
