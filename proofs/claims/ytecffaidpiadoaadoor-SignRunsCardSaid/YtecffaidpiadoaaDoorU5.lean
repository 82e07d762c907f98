import Derived.Test.YtecffaidpiadoaaDoorU4
set_option linter.unusedVariables false
set_option linter.unusedSimpArgs false
namespace Go.Proofs.YtecffaidpiadoaaDoor
open Go.RowKit
/-- Does another byte belong to it? -/
def more (s : ByteArray) (m : Nat) : Prop := m < sizeB (s.get! 0).toNat ∧ m < s.size ∧ mayB (s.get! 0).toNat (s.get! m).toNat m = true
/-- How many bytes belong to what the first one begins, from m on. -/
def bgF (s : ByteArray) : Nat → Nat → Nat
  | 0, m => m
  | f + 1, m => if m < sizeB (s.get! 0).toNat ∧ m < s.size ∧ mayB (s.get! 0).toNat (s.get! m).toNat m = true then bgF s f (m + 1) else m
def begS (s : ByteArray) : Nat := bgF s 4 1
theorem sizeB_le (c : Nat) : sizeB c ≤ 4 := by unfold sizeB; repeat' split
                                               all_goals omega
theorem begS_B (s : ByteArray) : begS s = begB s.size (s.get! 0).toNat (s.get! 1).toNat (s.get! 2).toNat (s.get! 3).toNat := by
  have h4 : ¬ (4 < sizeB (s.get! 0).toNat ∧ 4 < s.size ∧ mayB (s.get! 0).toNat (s.get! 4).toNat 4 = true) := by have := sizeB_le (s.get! 0).toNat; omega
  unfold begS begB
  simp only [bgF]
  rw [if_neg h4]
theorem bgF_le (s : ByteArray) (hs : 0 < s.size) : ∀ f m, m ≤ s.size → bgF s f m ≤ s.size := by
  intro f
  induction f with
  | zero => intro m h; exact h
  | succ f ih =>
    intro m h
    rw [bgF]
    split
    · rename_i hm; exact ih (m + 1) hm.2.1
    · exact h
theorem begS_rng (s : ByteArray) (hs : 0 < s.size) : 1 ≤ begS s ∧ begS s ≤ 4 ∧ begS s ≤ s.size := by
  refine ⟨?_, ?_, bgF_le s hs 4 1 (by omega)⟩
  · rw [begS_B]; unfold begB; repeat' split
    all_goals omega
  · rw [begS_B]; unfold begB; repeat' split
    all_goals omega
set_option maxRecDepth 100000 in
set_option maxHeartbeats 4000000 in
theorem begins_ref (s : ByteArray) (w : World) (hs : 0 < s.size) (hs' : s.size ≤ 1000000) : Calls Tryd.prog 46 #[.string s] w fun e w' => e = .returned (.int .i64 (begS s : Int)) ∧ ∃ n, w' = w.drewN n := by
  go_enter Tryd.func46, Tryd.ntmps46
  go_wp2
  go_loopw [3] (fun n wr => ∃ (m f k : Nat), n = .int .i64 (m : Int) ∧ Hid (bgF s f m = begS s) ∧ m + f = 5 ∧ 1 ≤ m ∧ wr = w.drewN k) (fun n _ => 5 - (intOf n).toNat)
  case atStart => exact ⟨1, 4, 0, rfl, Lib.hid rfl, rfl, Nat.le_refl _, rfl⟩
  case round =>
    obtain ⟨m, f, k, rfl, hb, hf, hm, rfl⟩ := hrel
    have g0 := get_get s 0 hs
    have S0 := Lib.hid fun w => size_ref (s[0]) w
    have hsz := sizeB_le (s.get! 0).toNat
    rw [g0] at hsz
    have hbm : Hid (f = 0 → m = begS s) := Lib.hid fun h => by have := hb.out; rw [h] at this; exact this
    have hbs : Hid (∀ f', f = f' + 1 → (if m < sizeB (s.get! 0).toNat ∧ m < s.size ∧ mayB (s.get! 0).toNat (s.get! m).toNat m = true then bgF s f' (m + 1) else m) = begS s) := Lib.hid fun f' h => by have := hb.out; rw [h] at this; exact this
    rw [g0] at hbs
    clear g0
    have hs0 : (0 : Int) < (s.size : Int) := by omega
    generalize hz : sizeB (s[0]).toNat = z at *
    have Hz := Lib.hid hz; clear hz
    by_cases t1 : m < z
    · obtain ⟨f', rfl⟩ : ∃ f', f = f' + 1 := ⟨f - 1, by omega⟩
      have hB := Lib.hid (hbs.out f' rfl)
      clear hbs hbm hb
      by_cases t2 : m < s.size
      · have M0 := fun w => may_ref (s[0]) (s[m]) (m : Int) w
        have hB2 := hB.out
        rw [get_get s m t2] at hB2
        simp only [Int.toNat_natCast] at M0
        have t2i : (m : Int) < (s.size : Int) := by omega
        clear hB
        generalize hy : mayB (s[0]).toNat (s[m]).toNat m = y at *
        have Hy := Lib.hid hy; clear hy
        replace M0 := Lib.hid M0
        have t1i : (m : Int) < (z : Int) := by omega
        cases y
        · have hfin : Hid (m = begS s) := Lib.hid (by rw [← hB2, if_neg (by simp)])
          clear hB2
          go_wp2
          go_quiet (((first | (go_at_call 47; exact qsame (S0.out _)) | (go_at_call 71; exact qsame (M0.out _)))))
          go_wp2
          go_ret
          rw [← hfin.out]
          exact ⟨rfl, _, World.drewN_drewN _ _ _⟩
        · have hnext : Hid (bgF s f' (m + 1) = begS s) := Lib.hid (by rw [← hB2, if_pos ⟨t1, t2, rfl⟩])
          clear hB2
          go_wp2
          go_quiet (((first | (go_at_call 47; exact qsame (S0.out _)) | (go_at_call 71; exact qsame (M0.out _)))))
          go_wp2
          go_roundw
          case rel => exact ⟨m + 1, f', _, by go_num, hnext, by omega, by omega, rfl⟩
          case measure => simp [intOf]; omega
      · have hfin : Hid (m = begS s) := Lib.hid (by rw [← hB.out, if_neg (by omega)])
        have t2d : decide ((m : Int) < (s.size : Int)) = false := decide_eq_false (by omega)
        have t2e : decide (m < s.size) = false := decide_eq_false (by omega)
        have t1i : (m : Int) < (z : Int) := by omega
        clear hB
        go_wp2
        go_quiet ((go_at_call 47; exact qsame (S0.out _)))
        go_wp2
        go_ret
        rw [← hfin.out]
        exact ⟨rfl, _, World.drewN_drewN _ _ _⟩
    · have hfin : Hid (m = begS s) := Lib.hid (by
        rcases Nat.eq_zero_or_pos f with e | e
        · exact hbm.out e
        · have := hbs.out (f - 1) (by omega)
          rw [if_neg (by omega)] at this; exact this)
      have t1d : decide ((m : Int) < (z : Int)) = false := decide_eq_false (by omega)
      have t1e : decide (m < z) = false := decide_eq_false (by omega)
      clear hbm hbs hb
      go_wp2
      go_quiet ((go_at_call 47; exact qsame (S0.out _)))
      go_wp2
      go_ret
      rw [← hfin.out]
      exact ⟨rfl, _, World.drewN_drewN _ _ _⟩
end Go.Proofs.YtecffaidpiadoaaDoor
