import Derived.Test.YtecffaidpiadoaaDoorSg4
set_option linter.unusedVariables false
set_option linter.unusedSimpArgs false
namespace Go.Proofs.YtecffaidpiadoaaDoor
open Go.RowKit
theorem finder_any (l part : List (Int × Int)) (a b : Option Addr) (c d : Nat) (w : World) (ha : Signs w a l) (hb : Signs w b part) :
    Calls Tryd.prog 73 #[.slice a l.length c, .slice b part.length d] w fun e w' => e = .returned (.func (.func 79) #[] #[.pointer (some ⟨w.heap.size + 1, 0, none⟩), .pointer (some ⟨w.heap.size, 0, none⟩)]) ∧ Fin2 w' (w.heap.size + 1) w.heap.size a b l part c d ∧ Below w.heap.size w w' := by
  have h2 := seqB (below_alloc w (.cells #[.slice a l.length c] 38)) (below_alloc _ (.cells #[.slice b part.length d] 38))
  have hF : Fin2 ((w.alloc (.cells #[.slice a l.length c] 38)).alloc (.cells #[.slice b part.length d] 38)) (w.heap.size + 1) w.heap.size a b l part c d :=
    ⟨by simp, by simp, ha.below h2, hb.below h2, by simp, by simp; omega⟩
  have HF := Lib.hid hF
  clear hF ha hb
  go_enter Tryd.func73, Tryd.ntmps73
  go_wp2
  go_ret
  exact ⟨rfl, HF.out, h2⟩
def findM (l part : List (Int × Int)) (from_ : Int) : Int := upF (atM l part) (-1) ((l.length : Int) - part.length + 1 - max from_ 0).toNat (max from_ 0)
def backS (l part : List (Int × Int)) (from_ : Int) : Int := dnF (atM l part) (-1) (min from_ ((l.length : Int) - part.length) + 1).toNat (min from_ ((l.length : Int) - part.length))
set_option maxRecDepth 100000 in
set_option maxHeartbeats 2000000 in
theorem find_any (l part : List (Int × Int)) (a b : Option Addr) (c d : Nat) (i : Int) (w : World) (hi : i ≤ 9223372036854775807) (hl : l.length ≤ 1000000000000000000) (hp : part.length ≤ 1000000000000000000) (ha : Signs w a l) (hb : Signs w b part) :
    Calls Tryd.prog 54 #[.slice a l.length c, .slice b part.length d, .int .i64 i] w fun e w' => e = .returned (.int .i64 (findM l part i)) ∧ Below w.heap.size w w' := by
  have F := Lib.hid (finder_any l part a b c d w ha hb)
  have hf : findM l part i = upF (atM l part) (-1) ((l.length : Int) - part.length + 1 - max i 0).toNat (max i 0) := rfl
  obtain ⟨m, hm⟩ : ∃ m : Nat, max i 0 = (m : Int) := ⟨(max i 0).toNat, by omega⟩
  have hmi : (m : Int) ≤ 9223372036854775807 := by omega
  have hm1 : i ≤ 0 → (0 : Int) = m := fun h => by omega
  have hm2 : ¬ i ≤ 0 → i = m := fun h => by omega
  rw [hm] at hf
  have Hf := Lib.hid hf
  have HM1 := Lib.hid hm1; have HM2 := Lib.hid hm2
  have C := Lib.hid fun m w1 hm hK => finder1_any m (w.heap.size + 1) w.heap.size a b l part c d w1 hl hm hK
  clear ha hb hf hm hm1 hm2
  generalize findM l part i = R at *
  go_enter Tryd.func54, Tryd.ntmps54
  go_wp2_with (go_at_call 73; refine F.out.mono ?_; rintro e w0 ⟨rfl, hK, hb0⟩; have HK := Lib.hid hK; clear hK)
  all_goals
    go_loopw [8] (fun iv wr => ∃ k : Nat, iv = .int .i64 (k : Int) ∧ m ≤ k ∧ (k ≤ m ∨ (k : Int) ≤ l.length + 1) ∧ Hid (R = upF (atM l part) (-1) ((l.length : Int) - part.length + 1 - k).toNat (k : Int)) ∧ Hid (Fin2 wr (w.heap.size + 1) w.heap.size a b l part c d) ∧ Below w.heap.size w wr) (fun iv _ => (l.length + 2 - intOf iv).toNat)
    case atStart => exact ⟨m, retV (by first | exact HM1.out (by assumption) | exact HM2.out (by assumption) | (have := HM1.out; have := HM2.out; omega)), Nat.le_refl _, Or.inl (Nat.le_refl _), Hf, HK, hb0⟩
    case round =>
      obtain ⟨k, rfl, hmk, hkl, hR, hK, hbl⟩ := hrel
      by_cases hlt : (k : Int) ≤ (l.length : Int) - part.length
      · have C1 := fun w1 h => C.out k w1 (by omega) h
        cases ht : atM l part k
        · have HR : Hid (R = upF (atM l part) (-1) ((l.length : Int) - part.length + 1 - ((k + 1 : Nat) : Int)).toNat ((k + 1 : Nat) : Int)) := Lib.hid (by
            rw [hR.out, up_miss (by omega) ht]
            congr 1; omega)
          rw [ht] at C1
          replace C1 := Lib.hid C1
          clear ht
          go_wp2_with (go_at_call 79; refine (C1.out _ hK.out).mono ?_; rintro e w1 ⟨rfl, hb1⟩; have K1 := Lib.hid (hK.out.below hb1))
          go_roundw
          case rel => exact ⟨k + 1, by go_num, by omega, Or.inr (by omega), HR, K1, hbl.trans (hb1.mono hbl.size)⟩
          case measure => simp [intOf]; omega
        · have HR : Hid (R = k) := Lib.hid (by rw [hR.out, up_hit (by omega) ht])
          rw [ht] at C1
          replace C1 := Lib.hid C1
          clear ht
          go_wp2_with (go_at_call 79; refine (C1.out _ hK.out).mono ?_; rintro e w1 ⟨rfl, hb1⟩)
          go_ret
          rw [HR.out]
          exact ⟨rfl, hbl.trans (hb1.mono hbl.size)⟩
      · have HR : Hid (R = -1) := Lib.hid (by rw [hR.out, up_end (by omega)])
        go_wp2
        go_ret
        rw [HR.out]
        exact ⟨rfl, hbl⟩
set_option maxRecDepth 100000 in
set_option maxHeartbeats 2000000 in
theorem sback_any (l part : List (Int × Int)) (a b : Option Addr) (c d : Nat) (i : Int) (w : World) (hi : -9223372036854775808 ≤ i) (hl : l.length ≤ 1000000000000000000) (hp : part.length ≤ 1000000000000000000) (ha : Signs w a l) (hb : Signs w b part) :
    Calls Tryd.prog 55 #[.slice a l.length c, .slice b part.length d, .int .i64 i] w fun e w' => e = .returned (.int .i64 (backS l part i)) ∧ Below w.heap.size w w' := by
  have F := Lib.hid (finder_any l part a b c d w ha hb)
  have hf : backS l part i = dnF (atM l part) (-1) (min i ((l.length : Int) - part.length) + 1).toNat (min i ((l.length : Int) - part.length)) := rfl
  obtain ⟨m, hm⟩ : ∃ m : Int, min i ((l.length : Int) - part.length) = m := ⟨_, rfl⟩
  have hmi : m ≤ (l.length : Int) - part.length := by omega
  have hmj : -9223372036854775808 ≤ m := by omega
  have hm1 : i ≤ (l.length : Int) - part.length → i = m := fun h => by omega
  have hm2 : ¬ i ≤ (l.length : Int) - part.length → (l.length : Int) - part.length = m := fun h => by omega
  rw [hm] at hf
  have Hf := Lib.hid hf
  have HM1 := Lib.hid hm1; have HM2 := Lib.hid hm2
  have C := Lib.hid fun m w1 hm hK => finder1_any m (w.heap.size + 1) w.heap.size a b l part c d w1 hl hm hK
  clear ha hb hf hm hm1 hm2
  generalize backS l part i = R at *
  go_enter Tryd.func55, Tryd.ntmps55
  go_wp2_with (go_at_call 73; refine F.out.mono ?_; rintro e w0 ⟨rfl, hK, hb0⟩; have HK := Lib.hid hK; clear hK)
  all_goals
    go_loopw [8] (fun iv wr => ∃ k : Int, iv = .int .i64 k ∧ k ≤ m ∧ (k = m ∨ -1 ≤ k) ∧ Hid (R = dnF (atM l part) (-1) (k + 1).toNat k) ∧ Hid (Fin2 wr (w.heap.size + 1) w.heap.size a b l part c d) ∧ Below w.heap.size w wr) (fun iv _ => (intOf iv + 1).toNat)
    case atStart => exact ⟨m, retV (by first | exact HM1.out (by assumption) | exact HM2.out (by assumption) | (have := HM1.out; have := HM2.out; omega)), Int.le_refl _, Or.inl rfl, Hf, HK, hb0⟩
    case round =>
      obtain ⟨k, rfl, hmk, hkl, hR, hK, hbl⟩ := hrel
      have hkr : -9223372036854775808 ≤ k := by omega
      clear hkl
      by_cases hlt : 0 ≤ k
      · obtain ⟨n, rfl⟩ := Int.eq_ofNat_of_zero_le hlt
        have C1 := fun w1 h => C.out n w1 (by omega) h
        cases ht : atM l part n
        · have HR : Hid (R = dnF (atM l part) (-1) ((n : Int) - 1 + 1).toNat ((n : Int) - 1)) := Lib.hid (by
            rw [hR.out, dn_miss (by omega) ht]
            exact congrArg (fun f => dnF (atM l part) (-1) f ((n : Int) - 1)) (by omega))
          rw [ht] at C1
          replace C1 := Lib.hid C1
          clear ht
          go_wp2_with (go_at_call 79; refine (C1.out _ hK.out).mono ?_; rintro e w1 ⟨rfl, hb1⟩; have K1 := Lib.hid (hK.out.below hb1))
          go_roundw
          case rel => exact ⟨(n : Int) - 1, rfl, by omega, Or.inr (by omega), HR, K1, hbl.trans (hb1.mono hbl.size)⟩
          case measure => (simp [intOf]; try omega)
        · have HR : Hid (R = n) := Lib.hid (by rw [hR.out, dn_hit (by omega) ht])
          rw [ht] at C1
          replace C1 := Lib.hid C1
          clear ht
          go_wp2_with (go_at_call 79; refine (C1.out _ hK.out).mono ?_; rintro e w1 ⟨rfl, hb1⟩)
          go_ret
          rw [HR.out]
          exact ⟨rfl, hbl.trans (hb1.mono hbl.size)⟩
      · have HR : Hid (R = -1) := Lib.hid (by rw [hR.out, dn_end (by omega)])
        go_wp2
        go_ret
        rw [HR.out]
        exact ⟨rfl, hbl⟩
end Go.Proofs.YtecffaidpiadoaaDoor
