import Derived.Test.YtecffaidpiadoaaDoorP4
set_option linter.unusedVariables false
set_option linter.unusedSimpArgs false
namespace Go.Proofs.YtecffaidpiadoaaDoor
open Go.RowKit
set_option maxRecDepth 100000 in
set_option maxHeartbeats 2000000 in
theorem start_any (l : List (Int × Int)) (a : Option Addr) (c : Nat) (i : Int) (big : Bool) (w : World) (hl : l.length ≤ 1000000000000000000) (hT : Tabs w) (hs : Signs w a l) :
    Calls Tryd.prog 65 #[.slice a l.length c, .int .i64 i, .bool big] w fun e w' => e = .returned (.int .i64 (startM l i big)) ∧ Below w.heap.size w w' := by
  have K := kinder_kin a l c big w hT hs
  have W := fun w => plc_any a l.length c i w (by omega)
  have hn : startM l i big = upF (tRun l big) l.length (l.length - (plc l.length i).toNat - 1) (plc l.length i + 1) := rfl
  obtain ⟨m, hm, hml⟩ := plc_cases l.length i
  rw [hm] at W hn
  rw [Int.toNat_natCast] at hn
  have Hn := Lib.hid hn
  replace K := Lib.hid K; replace W := Lib.hid W
  clear hn hm hT hs
  generalize startM l i big = R at *
  go_enter Tryd.func65, Tryd.ntmps65
  go_wp2_with (first
    | (go_at_call 76; refine (K.out).mono ?_; rintro e w0 ⟨rfl, hK, hb0⟩; have HK := Lib.hid hK; clear hK)
    | (go_at_call 77; refine (W.out _).mono ?_; rintro e w' ⟨rfl, rfl⟩))
  go_loopw [8] (fun pv wr => ∃ k : Nat, 1 ≤ k ∧ k ≤ l.length + 1 ∧ pv = .int .i64 (k : Int) ∧ Hid (R = upF (tRun l big) l.length (l.length - k) (k : Int)) ∧ Hid (Kin wr w.heap.size (w.heap.size + 1) a l c big) ∧ Below w.heap.size w wr) (fun pv _ => l.length + 1 - (intOf pv).toNat)
  case atStart => exact ⟨m + 1, by omega, by omega, by go_num, Lib.hid (by rw [Hn.out, Nat.sub_sub]; rfl), HK, hb0⟩
  case round =>
    obtain ⟨k, hk1, hk2, rfl, hR, hK, hb⟩ := hrel
    by_cases hlt : k < l.length
    · have ht : tRun l big k = ((kAt l big k != 0) && (kAt l big k != kAt l big ((k : Int) - 1))) := rfl
      have hlt2 : (k : Int) < l.length := by omega
      have C := Lib.hid fun i w1 hK => kinder1_any i w.heap.size (w.heap.size + 1) a l c big w1 (by omega) hK
      cases h1 : (kAt l big k != 0)
      · have HR : Hid (R = upF (tRun l big) l.length (l.length - (k + 1)) ((k : Int) + 1)) := Lib.hid (by rw [hR.out, up_miss (by omega) (by rw [ht, h1]; rfl), Nat.sub_sub])
        clear ht
        go_wp2_with (first
          | (go_at_call 80; (with_reducible refine (C.out _ _ hK.out).mono ?_); rintro e w1 ⟨rfl, hb1⟩; have K1 := Lib.hid (hK.out.below hb1)))
        go_roundw
        case rel => exact ⟨k + 1, by omega, by omega, by go_num, HR, K1, hb.trans (hb1.mono hb.size)⟩
        case measure => simp [intOf]; omega
      · cases h2 : (kAt l big k != kAt l big ((k : Int) - 1))
        · have HR : Hid (R = upF (tRun l big) l.length (l.length - (k + 1)) ((k : Int) + 1)) := Lib.hid (by rw [hR.out, up_miss (by omega) (by rw [ht, h1, h2]; rfl), Nat.sub_sub])
          clear ht
          go_wp2_with (first
            | (go_at_call 80; (with_reducible refine (C.out _ _ hK.out).mono ?_); rintro e w1 ⟨rfl, hb1⟩; have K1 := Lib.hid (hK.out.below hb1))
            | (go_at_call 80; (with_reducible refine (C.out _ _ K1.out).mono ?_); rintro e w2 ⟨rfl, hb2⟩; have K2 := Lib.hid (K1.out.below hb2))
            | (go_at_call 80; (with_reducible refine (C.out _ _ K2.out).mono ?_); rintro e w3 ⟨rfl, hb3⟩; have K3 := Lib.hid (K2.out.below hb3)))
          go_roundw
          case rel => exact ⟨k + 1, by omega, by omega, by go_num, HR, K3, hb.trans ((seqB (seqB hb1 hb2) hb3).mono hb.size)⟩
          case measure => simp [intOf]; omega
        · have HR : Hid (R = k) := Lib.hid (by rw [hR.out, up_hit (by omega) (by rw [ht, h1, h2]; rfl)])
          clear ht
          go_wp2_with (first
            | (go_at_call 80; (with_reducible refine (C.out _ _ hK.out).mono ?_); rintro e w1 ⟨rfl, hb1⟩; have K1 := Lib.hid (hK.out.below hb1))
            | (go_at_call 80; (with_reducible refine (C.out _ _ K1.out).mono ?_); rintro e w2 ⟨rfl, hb2⟩; have K2 := Lib.hid (K1.out.below hb2))
            | (go_at_call 80; (with_reducible refine (C.out _ _ K2.out).mono ?_); rintro e w3 ⟨rfl, hb3⟩; have K3 := Lib.hid (K2.out.below hb3)))
          go_ret
          rw [HR.out]
          exact ⟨rfl, hb.trans ((seqB (seqB hb1 hb2) hb3).mono hb.size)⟩
    · have HR : Hid (R = l.length) := Lib.hid (by rw [hR.out, up_end (by omega)])
      go_wp2
      go_ret
      rw [HR.out]
      exact ⟨rfl, hb⟩
set_option maxRecDepth 100000 in
set_option maxHeartbeats 2000000 in
theorem end_any (l : List (Int × Int)) (a : Option Addr) (c : Nat) (i : Int) (big : Bool) (w : World) (hl : l.length ≤ 1000000000000000000) (hT : Tabs w) (hs : Signs w a l) :
    Calls Tryd.prog 67 #[.slice a l.length c, .int .i64 i, .bool big] w fun e w' => e = .returned (.int .i64 (endM l i big)) ∧ Below w.heap.size w w' := by
  have K := kinder_kin a l c big w hT hs
  have W := fun w => plc_any a l.length c i w (by omega)
  have hn : endM l i big = upF (tEnd l big) (plc l.length i) (l.length - (plc l.length i).toNat - 1) (plc l.length i + 1) := rfl
  obtain ⟨m, hm, hml⟩ := plc_cases l.length i
  rw [hm] at W hn
  rw [Int.toNat_natCast] at hn
  have Hn := Lib.hid hn
  replace K := Lib.hid K; replace W := Lib.hid W
  clear hn hm hT hs
  generalize endM l i big = R at *
  go_enter Tryd.func67, Tryd.ntmps67
  go_wp2_with (first
    | (go_at_call 76; refine (K.out).mono ?_; rintro e w0 ⟨rfl, hK, hb0⟩; have HK := Lib.hid hK; clear hK)
    | (go_at_call 77; refine (W.out _).mono ?_; rintro e w' ⟨rfl, rfl⟩))
  go_loopw [9] (fun pv wr => ∃ k : Nat, 1 ≤ k ∧ k ≤ l.length + 1 ∧ pv = .int .i64 (k : Int) ∧ Hid (R = upF (tEnd l big) ((m : Int)) (l.length - k) (k : Int)) ∧ Hid (Kin wr w.heap.size (w.heap.size + 1) a l c big) ∧ Below w.heap.size w wr) (fun pv _ => l.length + 1 - (intOf pv).toNat)
  case atStart => exact ⟨m + 1, by omega, by omega, by go_num, Lib.hid (by rw [Hn.out, Nat.sub_sub]; rfl), HK, hb0⟩
  case round =>
    obtain ⟨k, hk1, hk2, rfl, hR, hK, hb⟩ := hrel
    by_cases hlt : k < l.length
    · have ht : tEnd l big k = ((kAt l big k != 0) && (kAt l big k != kAt l big ((k : Int) + 1))) := rfl
      have hlt2 : (k : Int) < l.length := by omega
      have C := Lib.hid fun i w1 hK => kinder1_any i w.heap.size (w.heap.size + 1) a l c big w1 (by omega) hK
      cases h1 : (kAt l big k != 0)
      · have HR : Hid (R = upF (tEnd l big) ((m : Int)) (l.length - (k + 1)) ((k : Int) + 1)) := Lib.hid (by rw [hR.out, up_miss (by omega) (by rw [ht, h1]; rfl), Nat.sub_sub])
        clear ht
        go_wp2_with (first
          | (go_at_call 80; (with_reducible refine (C.out _ _ hK.out).mono ?_); rintro e w1 ⟨rfl, hb1⟩; have K1 := Lib.hid (hK.out.below hb1)))
        go_roundw
        case rel => exact ⟨k + 1, by omega, by omega, by go_num, HR, K1, hb.trans (hb1.mono hb.size)⟩
        case measure => simp [intOf]; omega
      · cases h2 : (kAt l big k != kAt l big ((k : Int) + 1))
        · have HR : Hid (R = upF (tEnd l big) ((m : Int)) (l.length - (k + 1)) ((k : Int) + 1)) := Lib.hid (by rw [hR.out, up_miss (by omega) (by rw [ht, h1, h2]; rfl), Nat.sub_sub])
          clear ht
          go_wp2_with (first
            | (go_at_call 80; (with_reducible refine (C.out _ _ hK.out).mono ?_); rintro e w1 ⟨rfl, hb1⟩; have K1 := Lib.hid (hK.out.below hb1))
            | (go_at_call 80; (with_reducible refine (C.out _ _ K1.out).mono ?_); rintro e w2 ⟨rfl, hb2⟩; have K2 := Lib.hid (K1.out.below hb2))
            | (go_at_call 80; (with_reducible refine (C.out _ _ K2.out).mono ?_); rintro e w3 ⟨rfl, hb3⟩; have K3 := Lib.hid (K2.out.below hb3)))
          go_roundw
          case rel => exact ⟨k + 1, by omega, by omega, by go_num, HR, K3, hb.trans ((seqB (seqB hb1 hb2) hb3).mono hb.size)⟩
          case measure => simp [intOf]; omega
        · have HR : Hid (R = k) := Lib.hid (by rw [hR.out, up_hit (by omega) (by rw [ht, h1, h2]; rfl)])
          clear ht
          go_wp2_with (first
            | (go_at_call 80; (with_reducible refine (C.out _ _ hK.out).mono ?_); rintro e w1 ⟨rfl, hb1⟩; have K1 := Lib.hid (hK.out.below hb1))
            | (go_at_call 80; (with_reducible refine (C.out _ _ K1.out).mono ?_); rintro e w2 ⟨rfl, hb2⟩; have K2 := Lib.hid (K1.out.below hb2))
            | (go_at_call 80; (with_reducible refine (C.out _ _ K2.out).mono ?_); rintro e w3 ⟨rfl, hb3⟩; have K3 := Lib.hid (K2.out.below hb3)))
          go_ret
          rw [HR.out]
          exact ⟨rfl, hb.trans ((seqB (seqB hb1 hb2) hb3).mono hb.size)⟩
    · have HR : Hid (R = ((m : Int))) := Lib.hid (by rw [hR.out, up_end (by omega)])
      go_wp2
      go_ret
      rw [HR.out]
      exact ⟨rfl, hb⟩
end Go.Proofs.YtecffaidpiadoaaDoor
