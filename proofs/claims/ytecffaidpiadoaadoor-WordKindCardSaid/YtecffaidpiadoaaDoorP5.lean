import Derived.Test.YtecffaidpiadoaaDoorP4
set_option linter.unusedVariables false
set_option linter.unusedSimpArgs false
namespace Go.Proofs.YtecffaidpiadoaaDoor
open Go.RowKit
set_option maxRecDepth 100000 in
set_option maxHeartbeats 2000000 in
theorem back_any (l : List (Int × Int)) (a : Option Addr) (c : Nat) (i : Int) (w : World) (hl : l.length ≤ 1000000000000000000) (hT : Tabs w) (hs : Signs w a l) :
    Calls Tryd.prog 64 #[.slice a l.length c, .int .i64 i] w fun e w' => e = .returned (.int .i64 (backM l i)) ∧ Below w.heap.size w w' := by
  have K := kinder_kin a l c false w hT hs
  have W := fun w => plc_any a l.length c i w (by omega)
  have hn : backM l i = dnF (tBack l) 0 ((plc l.length i).toNat - 1) (plc l.length i - 1) := rfl
  obtain ⟨m, hm, hml⟩ := plc_cases l.length i
  rw [hm] at W hn
  rw [Int.toNat_natCast] at hn
  have Hn := Lib.hid hn
  replace K := Lib.hid K; replace W := Lib.hid W
  clear hn hm hT hs
  generalize backM l i = R at *
  by_cases hm1 : 1 < m
  · go_enter Tryd.func64, Tryd.ntmps64
    go_wp2_with (first
      | (go_at_call 76; refine (K.out).mono ?_; rintro e w0 ⟨rfl, hK, hb0⟩; have HK := Lib.hid hK; clear hK)
      | (go_at_call 77; refine (W.out _).mono ?_; rintro e w' ⟨rfl, rfl⟩))
    go_loopw [6] (fun pv wr => ∃ k : Nat, k < m ∧ pv = .int .i64 (k : Int) ∧ Hid (R = dnF (tBack l) 0 k (k : Int)) ∧ Hid (Kin wr w.heap.size (w.heap.size + 1) a l c false) ∧ Below w.heap.size w wr) (fun pv _ => (intOf pv).toNat)
    case atStart => exact ⟨m - 1, by omega, by go_num, Lib.hid (by rw [Hn.out, show ((m - 1 : Nat) : Int) = (m : Int) - 1 by omega]), HK, hb0⟩
    case round =>
      obtain ⟨k, hk2, rfl, hR, hK, hb⟩ := hrel
      by_cases hlt : 0 < k
      · have ht : tBack l k = ((kAt l false k == 1) && (kAt l false ((k : Int) - 1) != 1)) := rfl
        have hlt2 : (0 : Int) < (k : Int) := by omega
        have C := Lib.hid fun i w1 hK => kinder1_any i w.heap.size (w.heap.size + 1) a l c false w1 (by omega) hK
        cases h1 : (kAt l false k == 1)
        · have HR : Hid (R = dnF (tBack l) 0 ((k - 1)) (((k - 1 : Nat) : Int))) := Lib.hid (by rw [hR.out, dn_miss (by omega) (by rw [ht, h1]; rfl), show ((k - 1 : Nat) : Int) = (k : Int) - 1 by omega])
          clear ht
          go_wp2_with (first
            | (go_at_call 80; (with_reducible refine (C.out _ _ hK.out).mono ?_); rintro e w1 ⟨rfl, hb1⟩; have K1 := Lib.hid (hK.out.below hb1)))
          go_roundw
          case rel => exact ⟨k - 1, by omega, by go_num, HR, K1, hb.trans (hb1.mono hb.size)⟩
          case measure => simp [intOf]; omega
        · cases h2 : (kAt l false ((k : Int) - 1) != 1)
          · have HR : Hid (R = dnF (tBack l) 0 ((k - 1)) (((k - 1 : Nat) : Int))) := Lib.hid (by rw [hR.out, dn_miss (by omega) (by rw [ht, h1, h2]; rfl), show ((k - 1 : Nat) : Int) = (k : Int) - 1 by omega])
            clear ht
            go_wp2_with (first
              | (go_at_call 80; (with_reducible refine (C.out _ _ hK.out).mono ?_); rintro e w1 ⟨rfl, hb1⟩; have K1 := Lib.hid (hK.out.below hb1))
              | (go_at_call 80; (with_reducible refine (C.out _ _ K1.out).mono ?_); rintro e w2 ⟨rfl, hb2⟩; have K2 := Lib.hid (K1.out.below hb2)))
            go_roundw
            case rel => exact ⟨k - 1, by omega, by go_num, HR, K2, hb.trans ((seqB hb1 hb2).mono hb.size)⟩
            case measure => simp [intOf]; omega
          · have HR : Hid (R = k) := Lib.hid (by rw [hR.out, dn_hit (by omega) (by rw [ht, h1, h2]; rfl)])
            clear ht
            go_wp2_with (first
              | (go_at_call 80; (with_reducible refine (C.out _ _ hK.out).mono ?_); rintro e w1 ⟨rfl, hb1⟩; have K1 := Lib.hid (hK.out.below hb1))
              | (go_at_call 80; (with_reducible refine (C.out _ _ K1.out).mono ?_); rintro e w2 ⟨rfl, hb2⟩; have K2 := Lib.hid (K1.out.below hb2)))
            go_ret
            rw [HR.out]
            exact ⟨rfl, hb.trans ((seqB hb1 hb2).mono hb.size)⟩
      · have HR : Hid (R = 0) := Lib.hid (by rw [hR.out, dn_end (by omega)])
        go_wp2
        go_ret
        rw [HR.out]
        exact ⟨rfl, hb⟩
  · have HR : Hid (R = 0) := Lib.hid (by rw [Hn.out, dn_end (by omega)])
    go_enter Tryd.func64, Tryd.ntmps64
    go_wp2_with (first
      | (go_at_call 76; refine (K.out).mono ?_; rintro e w0 ⟨rfl, hK, hb0⟩; have HK := Lib.hid hK; clear hK)
      | (go_at_call 77; refine (W.out _).mono ?_; rintro e w' ⟨rfl, rfl⟩))
    go_loopw [6] (fun pv wr => pv = .int .i64 ((m : Int) - 1) ∧ wr = w0) (fun pv _ => 0)
    case atStart => exact ⟨rfl, rfl⟩
    case round =>
      obtain ⟨rfl, rfl⟩ := hrel
      go_wp2
      go_ret
      rw [HR.out]
      exact ⟨rfl, hb0⟩
end Go.Proofs.YtecffaidpiadoaaDoor
