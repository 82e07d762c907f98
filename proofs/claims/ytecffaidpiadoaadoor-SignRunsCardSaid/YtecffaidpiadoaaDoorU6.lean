import Derived.Test.YtecffaidpiadoaaDoorU5
namespace Go.Proofs.YtecffaidpiadoaaDoor
open Go.RowKit
theorem get0 (s : ByteArray) (i : Nat) : (s.get! i).toNat < 256 := (s.get! i).toNat_lt
theorem vAt_one (s : ByteArray) (hs : 0 < s.size) : vAt s 0 = oneB s.size (s.get! 0).toNat (s.get! 1).toNat (s.get! 2).toNat (s.get! 3).toNat := by
  rw [vAt_val, one_val _ _ _ _ _ (by omega) (get0 _ _) (get0 _ _) (get0 _ _) (get0 _ _)]; simp
theorem beg_m1 {n b0 b1 b2 b3 : Nat} (h : 2 ≤ begB n b0 b1 b2 b3) : 128 ≤ b1 := by
  unfold begB at h
  split at h
  · rename_i h1; exact ((mayB_iff _ _ _).1 h1.2.2).1.1
  · omega
theorem beg_m2 {n b0 b1 b2 b3 : Nat} (h : 3 ≤ begB n b0 b1 b2 b3) : 128 ≤ b2 := by
  unfold begB at h
  split at h
  · split at h
    · rename_i h1; exact ((mayB_iff _ _ _).1 h1.2.2).1.1
    · omega
  · omega
theorem beg_m3 {n b0 b1 b2 b3 : Nat} (h : 4 ≤ begB n b0 b1 b2 b3) : 128 ≤ b3 := by
  unfold begB at h
  split at h
  · split at h
    · split at h
      · rename_i h1; exact ((mayB_iff _ _ _).1 h1.2.2).1.1
      · omega
    · omega
  · omega
theorem wv2 (a b : Nat) (h0 : 194 ≤ a) (h1 : a ≤ 223) (h2 : 128 ≤ b) (h3 : b < 256) :
    wrap64 (wrap64 (wrap64 (wrap64 (wrap64 (a : Int) - 192) * 64) + wrap64 (b : Int)) - 128) = (((a - 192) * 64 + b - 128 : Nat) : Int) := by
  simp (disch := omega) only [IntWalk.wrap64_in]; omega
theorem wv3 (a b c : Nat) (h0 : 224 ≤ a) (h1 : a ≤ 239) (h2 : 128 ≤ b) (h3 : b < 256) (h4 : 128 ≤ c) (h5 : c < 256) :
    wrap64 (wrap64 (wrap64 (wrap64 (wrap64 (wrap64 (wrap64 (wrap64 (a : Int) - 224) * 64) + wrap64 (b : Int)) - 128) * 64) + wrap64 (c : Int)) - 128) = ((((a - 224) * 64 + b - 128) * 64 + c - 128 : Nat) : Int) := by
  simp (disch := omega) only [IntWalk.wrap64_in]; omega
theorem wv4 (a b c d : Nat) (h0 : 240 ≤ a) (h1 : a ≤ 244) (h2 : 128 ≤ b) (h3 : b < 256) (h4 : 128 ≤ c) (h5 : c < 256) (h6 : 128 ≤ d) (h7 : d < 256) :
    wrap64 (wrap64 (wrap64 (wrap64 (wrap64 (wrap64 (wrap64 (wrap64 (wrap64 (wrap64 (wrap64 (a : Int) - 240) * 64) + wrap64 (b : Int)) - 128) * 64) + wrap64 (c : Int)) - 128) * 64) + wrap64 (d : Int)) - 128) = (((((a - 240) * 64 + b - 128) * 64 + c - 128) * 64 + d - 128 : Nat) : Int) := by
  simp (disch := omega) only [IntWalk.wrap64_in]; omega
set_option maxRecDepth 100000 in
set_option maxHeartbeats 4000000 in
theorem one_ref (s : ByteArray) (w : World) (hs : 0 < s.size) (hs' : s.size ≤ 1000000) : Calls Tryd.prog 22 #[.string s] w fun e w' => e = .returned (.tuple #[.int .i64 ((vAt s 0).1 : Int), .int .i64 ((vAt s 0).2 : Int)]) ∧ ∃ n, w' = w.drewN n := by
  have Bg := Lib.hid fun w => begins_ref s w hs hs'
  have S0 := fun w => size_ref (s[0]) w
  have hv := vAt_one s hs
  have hb := begS_B s
  have hr := begS_rng s hs
  rw [get_get s 0 hs] at hv hb
  have hlt := (s[0]).toNat_lt
  have h0 := sizeB_cases (s[0]).toNat (by omega)
  generalize hz : sizeB (s[0]).toNat = z at *
  generalize hm : begS s = m at *
  have Hm := Lib.hid hm
  by_cases hne : m = z
  · subst hne
    have hmm : ((m : Int) != (m : Int)) = false := by simp
    have hz' : sizeB (s[0]).toNat = m := hz
    have hm4 : m = 1 ∨ m = 2 ∨ m = 3 ∨ m = 4 := by omega
    rcases hm4 with rfl | rfl | rfl | rfl
    · have Hv : Hid (vAt s 0 = ((s[0]).toNat, 1)) := Lib.hid (by rw [hv]; exact one_1 hb.symm hz')
      have hw : wrap64 (((s[0]).toNat : Nat) : Int) = (((s[0]).toNat : Nat) : Int) := by unfold wrap64; omega
      have Hw := Lib.hid hw
      replace S0 := Lib.hid S0
      clear hv hb hw hz hz' hm h0 hlt
      go_enter Tryd.func22, Tryd.ntmps22
      go_wp2_with (first | (go_at_call 46; refine (Bg.out _).mono ?_; rintro e w1 ⟨rfl, n, rfl⟩) | (go_at_call 47; refine (S0.out _).mono ?_; rintro e w1 ⟨rfl, rfl⟩))
      refine wp_loop_rounds 1 ?_
      rw [rounds_succ]
      go_wp2
      go_ret2
      rw [Hv.out]
      exact ⟨ret_ii Hw.out rfl, _, rfl⟩
    · rw [get_get s 1 (by omega)] at hv hb
      have k1 := beg_m1 (n := s.size) (b0 := (s[0]).toNat) (b1 := _) (b2 := _) (b3 := _) (by rw [← hb]; omega)
      have l1 := (s[1]'(by omega)).toNat_lt
      have hv2 := hv.trans (one_2 hb.symm hz')
      have hw := wv2 (s[0]'(by omega)).toNat (s[1]'(by omega)).toNat (by omega) (by omega) (by omega) (by omega)
      have Hv := Lib.hid hv2; have Hw := Lib.hid hw
      have hs4 : 2 ≤ s.size := by omega
      replace S0 := Lib.hid S0
      clear hv hb hw hz hz' hm h0 hlt hv2 k1 l1
      go_enter Tryd.func22, Tryd.ntmps22
      go_wp2_with (first | (go_at_call 46; refine (Bg.out _).mono ?_; rintro e w1 ⟨rfl, n, rfl⟩) | (go_at_call 47; refine (S0.out _).mono ?_; rintro e w1 ⟨rfl, rfl⟩))
      refine wp_loop_rounds 2 ?_
      rw [rounds_succ]
      go_wp2
      rw [rounds_succ]
      go_wp2
      go_ret2
      rw [Hv.out]
      exact ⟨ret_ii Hw.out rfl, _, rfl⟩
    · rw [get_get s 1 (by omega)] at hv hb
      rw [get_get s 2 (by omega)] at hv hb
      have k1 := beg_m1 (n := s.size) (b0 := (s[0]).toNat) (b1 := _) (b2 := _) (b3 := _) (by rw [← hb]; omega)
      have l1 := (s[1]'(by omega)).toNat_lt
      have k2 := beg_m2 (n := s.size) (b0 := (s[0]).toNat) (b1 := _) (b2 := _) (b3 := _) (by rw [← hb]; omega)
      have l2 := (s[2]'(by omega)).toNat_lt
      have hv2 := hv.trans (one_3 hb.symm hz')
      have hw := wv3 (s[0]'(by omega)).toNat (s[1]'(by omega)).toNat (s[2]'(by omega)).toNat (by omega) (by omega) (by omega) (by omega) (by omega) (by omega)
      have Hv := Lib.hid hv2; have Hw := Lib.hid hw
      have hs4 : 3 ≤ s.size := by omega
      replace S0 := Lib.hid S0
      clear hv hb hw hz hz' hm h0 hlt hv2 k1 l1 k2 l2
      go_enter Tryd.func22, Tryd.ntmps22
      go_wp2_with (first | (go_at_call 46; refine (Bg.out _).mono ?_; rintro e w1 ⟨rfl, n, rfl⟩) | (go_at_call 47; refine (S0.out _).mono ?_; rintro e w1 ⟨rfl, rfl⟩))
      refine wp_loop_rounds 3 ?_
      rw [rounds_succ]
      go_wp2
      rw [rounds_succ]
      go_wp2
      rw [rounds_succ]
      go_wp2
      go_ret2
      rw [Hv.out]
      exact ⟨ret_ii Hw.out rfl, _, rfl⟩
    · rw [get_get s 1 (by omega)] at hv hb
      rw [get_get s 2 (by omega)] at hv hb
      rw [get_get s 3 (by omega)] at hv hb
      have k1 := beg_m1 (n := s.size) (b0 := (s[0]).toNat) (b1 := _) (b2 := _) (b3 := _) (by rw [← hb]; omega)
      have l1 := (s[1]'(by omega)).toNat_lt
      have k2 := beg_m2 (n := s.size) (b0 := (s[0]).toNat) (b1 := _) (b2 := _) (b3 := _) (by rw [← hb]; omega)
      have l2 := (s[2]'(by omega)).toNat_lt
      have k3 := beg_m3 (n := s.size) (b0 := (s[0]).toNat) (b1 := _) (b2 := _) (b3 := _) (by rw [← hb]; omega)
      have l3 := (s[3]'(by omega)).toNat_lt
      have hv2 := hv.trans (one_4 hb.symm hz')
      have hw := wv4 (s[0]'(by omega)).toNat (s[1]'(by omega)).toNat (s[2]'(by omega)).toNat (s[3]'(by omega)).toNat (by omega) (by omega) (by omega) (by omega) (by omega) (by omega) (by omega) (by omega)
      have Hv := Lib.hid hv2; have Hw := Lib.hid hw
      have hs4 : 4 ≤ s.size := by omega
      replace S0 := Lib.hid S0
      clear hv hb hw hz hz' hm h0 hlt hv2 k1 l1 k2 l2 k3 l3
      go_enter Tryd.func22, Tryd.ntmps22
      go_wp2_with (first | (go_at_call 46; refine (Bg.out _).mono ?_; rintro e w1 ⟨rfl, n, rfl⟩) | (go_at_call 47; refine (S0.out _).mono ?_; rintro e w1 ⟨rfl, rfl⟩))
      refine wp_loop_rounds 4 ?_
      rw [rounds_succ]
      go_wp2
      rw [rounds_succ]
      go_wp2
      rw [rounds_succ]
      go_wp2
      rw [rounds_succ]
      go_wp2
      go_ret2
      rw [Hv.out]
      exact ⟨ret_ii Hw.out rfl, _, rfl⟩
  · have hne2 : ((m : Int) != (z : Int)) = true := by rw [bne_iff_ne]; omega
    have Hv : Hid (vAt s 0 = (1114112 + (s[0]).toNat, 1)) := Lib.hid (by rw [hv]; unfold oneB; rw [if_pos (by rw [← hb, hz]; exact hne)])
    have hw : wrap64 (1114112 + wrap64 (((s[0]).toNat : Nat) : Int)) = ((1114112 + (s[0]).toNat : Nat) : Int) := by unfold wrap64; omega
    have Hw := Lib.hid hw
    replace S0 := Lib.hid S0
    clear hv hb hw hz hm h0 hlt hne
    go_enter Tryd.func22, Tryd.ntmps22
    go_wp2_with (first | (go_at_call 46; refine (Bg.out _).mono ?_; rintro e w1 ⟨rfl, n, rfl⟩) | (go_at_call 47; refine (S0.out _).mono ?_; rintro e w1 ⟨rfl, rfl⟩))
    go_ret2
    rw [Hv.out]
    exact ⟨ret_ii Hw.out rfl, _, rfl⟩
end Go.Proofs.YtecffaidpiadoaaDoor
