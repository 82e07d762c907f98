/-
  vfs: what was synced stays.
-/
import Derived.Test.YtlkocmnnchgdeaaVf12
set_option linter.unusedVariables false
set_option linter.unusedSimpArgs false
namespace Go.Proofs.Ytlkocmnnchgdeaa
set_option maxRecDepth 100000
open Go.RowKit
section
variable {B P b1 b2 kn kc : Nat} {cv : Value} {ka : Option Addr} {K : List Int} {w : World} {s t : ByteArray} {v : Value}
theorem vcut_stays (k n : Nat) (W : List ChR) (hW : ∀ i, i < W.length → (W.getD i c0).2.1.data.toList ≠ [97]) (f : Fls) (hf : f [97] = some s) : ∀ i, i ≤ W.length → (cutF k W (f, n) i).1 [97] = some s
  | 0, _ => hf
  | i + 1, hi => by
    have ih := vcut_stays k n W hW f hf i (by omega)
    show (cutS k (W.getD i c0) (cutF k W (f, n) i)).1 [97] = some s
    unfold cutS
    split
    · show fput _ _ _ [97] = some s
      unfold fput
      rw [if_neg (fun e => hW i (by omega) e.symm)]
      exact ih
    · exact ih
theorem vst5 (h : DkS B P (vS3 b1 b2 cv ka kn kc K s t v) 3 false w) (hK : 0 < kn → 0 ≤ K.getD 0 0 ∧ K.getD 0 0 ≤ 255) (ht : t.size ≤ 1000) : Calls Try.prog 9 #[.pointer (some ⟨P, 0, none⟩)] w fun e w' => e = .returned (.int .i64 9) ∧ (∃ D, D.f2 nA.data.toList = some s ∧ DkS B P D 4 true w') ∧ Below B w w' := by
  obtain ⟨k, hk, hk2⟩ : ∃ k : Nat, (k : Int) = (if kn = 0 then 0 else K.getD 0 0) ∧ k < 256 := by
    by_cases h0 : kn = 0
    · exact ⟨0, by rw [if_pos h0]; rfl, by decide⟩
    · have := hK (by omega)
      exact ⟨(K.getD 0 0).toNat, by rw [if_neg h0]; omega, by omega⟩
  refine (vsync_cut (k := k) h (fun e => by cases e) (show 1 ≤ 5 by decide) (show 1 ≤ 100 by decide) (fun i hi _ => ?_) hk hk2 ?_).mono ?_
  · obtain rfl : i = 0 := by have : i < 1 := hi; omega
    exact Nat.zero_mod _
  · intro i hi
    obtain rfl : i = 0 := by have : i < 1 := hi; omega
    exact ⟨show nB.size ≤ maxLen by decide, Nat.le_trans ht (by decide), Or.inl rfl⟩
  · rintro e w' ⟨he, ⟨b, v', hD⟩, hb⟩
    refine ⟨he, ⟨_, ?_, hD⟩, hb⟩
    exact vcut_stays k 1 [(0, nB, nE, t)] (fun i hi => by
      obtain rfl : i = 0 := by have : i < 1 := hi; omega
      show nB.data.toList ≠ [97]
      decide) (fput (fun _ => none) [97] s) rfl 1 (Nat.le_refl _)
end
set_option maxHeartbeats 8000000 in
theorem vnone_any (s t : ByteArray) (l : List Int) (a : Option Addr) (c n : Nat) (w : World) (hln : l.length = n) (hl : n ≤ 140737488355328) (hu : U8sIn w a l) :
    Calls Try.prog 3 #[.string s, .string t, .slice a n c] w fun e w' => e = .returned (.bool true) ∧ Below w.heap.size w w' := by
  have AW := Lib.hid vawake
  have HU := Lib.hid hu; have HLN := Lib.hid hln; have HL := Lib.hid hl
  have HK : Hid (0 < n → 0 ≤ l.getD 0 0 ∧ l.getD 0 0 ≤ 255) := Lib.hid fun h0 => by obtain ⟨_, _, _, _, _, h1, h2⟩ := hu 0 (by omega); exact ⟨h1, h2⟩
  clear hu hln hl
  by_cases h1 : 300 < s.size
  · have h1' : (300 : Int) < (s.size : Int) := by omega
    go_enter Try.func3, Try.ntmps3
    go_wp2_with (go_at_call 4; refine (AW.out _).mono ?_; rintro e w1 ⟨rfl, hb⟩)
    go_ret
    exact ⟨rfl, hb⟩
  · by_cases h2 : 300 < t.size
    · have h1' : ¬ (300 : Int) < (s.size : Int) := by omega
      have h2' : (300 : Int) < (t.size : Int) := by omega
      go_enter Try.func3, Try.ntmps3
      go_wp2_with (go_at_call 4; with_reducible refine (AW.out _).mono ?_; rintro e w1 ⟨rfl, hb⟩)
      go_ret
      exact ⟨rfl, hb⟩
    · have h1' : ¬ (300 : Int) < (s.size : Int) := by omega
      have h2' : ¬ (300 : Int) < (t.size : Int) := by omega
      have HS : Hid (s.size ≤ 1000) := Lib.hid (by omega)
      have HT : Hid (t.size ≤ 1000) := Lib.hid (by omega)
      clear h1 h2
      go_enter Try.func3, Try.ntmps3
      go_wp2_with (first
        | (go_at_call 4; with_reducible refine (AW.out _).mono ?_; rintro e w1 ⟨rfl, hb⟩; have b2 := below_alloc w1 (.cells #[.int .i64 3, .slice a n c] 30); have NW := Lib.hid (vnew_any l a n c 1 w1.heap.size (w1.alloc (.cells #[.int .i64 3, .slice a n c] 30)) HLN.out HL.out ((HU.out.below hb).below b2) (heap_alloc_new w1 _)); have BW := Lib.hid (seqB hb b2); obtain ⟨B, hB⟩ : ∃ B, (w1.alloc (.cells #[.int .i64 3, .slice a n c] 30)).heap.size = B := ⟨_, rfl⟩; rw [hB] at NW; have HB := Lib.hid hB; clear hb b2 hB)
        | (go_at_call 7; refine NW.out.mono ?_; rintro e w2 ⟨P, b1, b2, cv, ka, kc, rfl, hD, hb⟩; have H0 := Lib.hid (show DkS B P (vS0 b1 b2 cv ka n kc l) 0 false w2 from hD); have B0 := Lib.hid hb; clear hD hb)
        | (go_at_call 5; with_reducible refine (vpower_any H4.out).mono ?_; rintro e w7 ⟨rfl, hD, hb⟩; have H5 := Lib.hid hD; have B5 := Lib.hid (B4.out.trans hb); clear hD hb)
        | (go_at_call 5; with_reducible refine (vpower_nil _).mono ?_; rintro e w7 ⟨rfl, hb⟩; subst hb)
        | (go_at_call 6; with_reducible refine (vread_yes H5.out (by decide) HF.out).mono ?_; rintro e w8 ⟨rfl, hb⟩; have B6 := Lib.hid (B5.out.trans (hb.mono H5.out.hB)); have H6 := Lib.hid (H5.out.below hb); clear hb)
        | (go_at_call 6; with_reducible refine (vread_nil _ _).mono ?_; rintro e w7 ⟨rfl, hb⟩; subst hb)
        | (go_at_call 8; with_reducible refine (vwrite_nil _ _ _).mono ?_; rintro e w4 ⟨rfl, hb⟩; subst hb)
        | (go_at_call 8; with_reducible refine (vst3 H2.out HT.out).mono ?_; rintro e w4 ⟨rfl, ⟨v4, hD⟩, hb⟩; have H3 := Lib.hid hD; have B3 := Lib.hid (B2.out.trans hb); clear hD hb)
        | (go_at_call 8; with_reducible refine (vst1 H0.out HS.out).mono ?_; rintro e w2 ⟨rfl, ⟨v2, hD⟩, hb⟩; have H1 := Lib.hid hD; have B1 := Lib.hid (B0.out.trans hb); clear hD hb)
        | (go_at_call 9; with_reducible refine (vsync_nil _).mono ?_; rintro e w9 ⟨rfl, hb⟩; have B7 := Lib.hid (B6.out.trans (hb.mono H6.out.hB)); clear hb)
        | (go_at_call 9; with_reducible refine (vst5 H3.out HK.out HT.out).mono ?_; rintro e w5 ⟨rfl, ⟨D, hf, hD⟩, hb⟩; have HF := Lib.hid hf; have H4 := Lib.hid hD; have B4 := Lib.hid (B3.out.trans hb); clear hD hb hf)
        | (go_at_call 9; with_reducible refine (vst2 H1.out).mono ?_; rintro e w3 ⟨rfl, ⟨v3, hD⟩, hb⟩; have H2 := Lib.hid hD; have B2 := Lib.hid (B1.out.trans hb); clear hD hb)
        | (go_at_call 10; with_reducible refine (vrename_nil _ _ _).mono ?_; rintro e w4 ⟨rfl, hb⟩; subst hb)
        | (go_at_call 11; with_reducible refine (vremove_nil _ _).mono ?_; rintro e w4 ⟨rfl, hb⟩; subst hb)
        | (go_at_call 12; with_reducible refine (vdown_nil _).mono ?_; rintro e w4 ⟨rfl, hb⟩; subst hb)
        | (go_at_call 13; with_reducible refine (vops_nil _).mono ?_; rintro e w4 ⟨rfl, hb⟩; subst hb)
        | (go_at_call 14; with_reducible refine (vnames_nil _).mono ?_; rintro e w4 ⟨rfl, hb⟩; subst hb))
      go_ret
      exact ⟨rfl, seqB BW.out (by rw [HB.out]; exact B7.out)⟩
end Go.Proofs.Ytlkocmnnchgdeaa
