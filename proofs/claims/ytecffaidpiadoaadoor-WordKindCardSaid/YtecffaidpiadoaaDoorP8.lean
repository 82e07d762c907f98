import Derived.Test.YtecffaidpiadoaaDoorP4
set_option linter.unusedVariables false
set_option linter.unusedSimpArgs false
namespace Go.Proofs.YtecffaidpiadoaaDoor
open Go.RowKit
def tTo (l : List (Int × Int)) (f p : Int) : Bool := !(kAt l false p == kAt l false f)
def tFrom (l : List (Int × Int)) (p : Int) : Bool := !(kAt l false (p - 1) == kAt l false p)
def toM (l : List (Int × Int)) (i : Int) : Int := upF (tTo l (plc l.length i)) l.length (l.length - (plc l.length i).toNat) (plc l.length i)
def fromM (l : List (Int × Int)) (i : Int) : Int := if plc l.length i < toM l i then dnF (tFrom l) 0 (plc l.length i).toNat (plc l.length i) else plc l.length i
theorem retII {a b c d : Int} (h : a = b) (h2 : c = d) : Ending.returned (.tuple #[.int .i64 a, .int .i64 c]) = .returned (.tuple #[.int .i64 b, .int .i64 d]) := by rw [h, h2]
set_option maxRecDepth 100000 in
set_option maxHeartbeats 2000000 in
theorem around_any (l : List (Int × Int)) (a : Option Addr) (c : Nat) (i : Int) (w : World) (hl : l.length ≤ 1000000000000000000) (hT : Tabs w) (hs : Signs w a l) :
    Calls Tryd.prog 62 #[.slice a l.length c, .int .i64 i] w fun e w' => e = .returned (.tuple #[.int .i64 (fromM l i), .int .i64 (toM l i)]) ∧ Below w.heap.size w w' := by
  have K := kinder_kin a l c false w hT hs
  have W := fun w => plc_any a l.length c i w (by omega)
  have hn : toM l i = upF (tTo l (plc l.length i)) l.length (l.length - (plc l.length i).toNat) (plc l.length i) := rfl
  have hf : fromM l i = if plc l.length i < toM l i then dnF (tFrom l) 0 (plc l.length i).toNat (plc l.length i) else plc l.length i := rfl
  obtain ⟨m, hm, hml⟩ := plc_cases l.length i
  rw [hm] at W hn hf
  rw [Int.toNat_natCast] at hn hf
  have Hn := Lib.hid hn
  have Hf := Lib.hid hf
  replace K := Lib.hid K; replace W := Lib.hid W
  clear hn hf hm hT hs
  generalize toM l i = R at *
  generalize fromM l i = R2 at *
  go_enter Tryd.func62, Tryd.ntmps62
  go_wp2_with (first
    | (go_at_call 76; refine (K.out).mono ?_; rintro e w0 ⟨rfl, hK, hb0⟩; have HK := Lib.hid hK; clear hK)
    | (go_at_call 77; refine (W.out _).mono ?_; rintro e w' ⟨rfl, rfl⟩))
  go_loopw [8] (fun pv wr => ∃ k : Nat, m ≤ k ∧ k ≤ l.length ∧ pv = .int .i64 (k : Int) ∧ Hid (R = upF (tTo l m) l.length (l.length - k) (k : Int)) ∧ Hid (Kin wr w.heap.size (w.heap.size + 1) a l c false) ∧ Below w.heap.size w wr) (fun pv _ => l.length - (intOf pv).toNat)
  case atStart => exact ⟨m, by omega, by omega, rfl, Hn, HK, hb0⟩
  case round =>
    obtain ⟨k, hk1, hk2, rfl, hR, hK, hb⟩ := hrel
    have C := Lib.hid fun i w1 hK => kinder1_any i w.heap.size (w.heap.size + 1) a l c false w1 (by omega) hK
    have ht : tTo l m k = !(kAt l false k == kAt l false m) := rfl
    by_cases hlt : k < l.length ∧ (kAt l false k == kAt l false m) = true
    · obtain ⟨hlt, h1⟩ := hlt
      have hlt2 : (k : Int) < l.length := by omega
      have HR : Hid (R = upF (tTo l m) l.length (l.length - (k + 1)) ((k : Int) + 1)) := Lib.hid (by rw [hR.out, up_miss (by omega) (by rw [ht, h1]; rfl), Nat.sub_sub])
      clear ht
      go_wp2_with (first
        | (go_at_call 80; (with_reducible refine (C.out _ _ hK.out).mono ?_); rintro e w1 ⟨rfl, hb1⟩; have K1 := Lib.hid (hK.out.below hb1))
        | (go_at_call 80; (with_reducible refine (C.out _ _ K1.out).mono ?_); rintro e w2 ⟨rfl, hb2⟩; have K2 := Lib.hid (K1.out.below hb2)))
      go_roundw
      case rel => exact ⟨k + 1, by omega, by omega, by go_num, HR, K2, hb.trans ((seqB hb1 hb2).mono hb.size)⟩
      case measure => simp [intOf]; omega
    · have HR : Hid (R = k) := Lib.hid (by
        by_cases h : k < l.length
        · have h1 : (kAt l false k == kAt l false m) = false := by simpa using fun h2 => hlt ⟨h, by simpa using h2⟩
          rw [hR.out, up_hit (by omega) (by rw [ht, h1]; rfl)]
        · rw [hR.out, up_end (by omega)]; omega)
      have Hlt := Lib.hid hlt
      clear ht hlt hR
      by_cases hlt : k < l.length
      all_goals
        first
          | (have h1 : (kAt l false k == kAt l false m) = false := by
               have hh := Hlt.out
               simpa using fun h2 => hh ⟨hlt, by simpa using h2⟩
             have hlt2 : (k : Int) < l.length := by omega
             go_wp2_with (first
               | (go_at_call 80; (with_reducible refine (C.out _ _ hK.out).mono ?_); rintro e w1 ⟨rfl, hb1⟩; have K1 := Lib.hid (hK.out.below hb1))
               | (go_at_call 80; (with_reducible refine (C.out _ _ K1.out).mono ?_); rintro e w2 ⟨rfl, hb2⟩; have K2 := Lib.hid (K1.out.below hb2)))
             have KK := K2
             have BB := hb.trans ((seqB hb1 hb2).mono hb.size)
             clear K1 K2 hb1 hb2 h1)
          | (have hlt2 : ¬ (k : Int) < l.length := by omega
             go_wp2
             have KK := hK
             have BB := hb)
        clear Hlt hK hb hlt hlt2
        obtain ⟨wq, rfl⟩ : ∃ wq : World, wq = wr := ⟨_, rfl⟩
        go_loopw [7] (fun pv ws => ∃ j : Nat, j ≤ m ∧ pv = .int .i64 (j : Int) ∧ Hid (R2 = if m < k then dnF (tFrom l) 0 j (j : Int) else (m : Int)) ∧ (m < k ∨ j = m) ∧ Hid (Kin ws w.heap.size (w.heap.size + 1) a l c false) ∧ Below w.heap.size w ws) (fun pv _ => (intOf pv).toNat)
        case atStart => exact ⟨m, by omega, rfl, Lib.hid (by rw [Hf.out, HR.out]; simp), Or.inr rfl, KK, BB⟩
        case round =>
          obtain ⟨j, hj, rfl, hR2, hor, hK, hb⟩ := hrel
          clear KK BB
          have ht : tFrom l j = !(kAt l false ((j : Int) - 1) == kAt l false j) := rfl
          by_cases hmk : m < k
          · have hjk : (j : Int) < (k : Int) := by omega
            have HR2 : Hid (R2 = dnF (tFrom l) 0 j (j : Int)) := Lib.hid (by rw [hR2.out, if_pos hmk])
            clear hor
            by_cases h0 : 0 < j
            · have h0' : (0 : Int) < (j : Int) := by omega
              cases h1 : (kAt l false ((j : Int) - 1) == kAt l false j)
              · have HF : Hid (R2 = j) := Lib.hid (by rw [HR2.out, dn_hit h0 (by rw [ht, h1]; rfl)])
                clear ht HR2 hR2
                go_wp2_with (first
                  | (go_at_call 80; (with_reducible refine (C.out _ _ hK.out).mono ?_); rintro e w1 ⟨rfl, hb1⟩; have K1 := Lib.hid (hK.out.below hb1))
                  | (go_at_call 80; (with_reducible refine (C.out _ _ K1.out).mono ?_); rintro e w2 ⟨rfl, hb2⟩; have K2 := Lib.hid (K1.out.below hb2)))
                go_ret2
                rw [HF.out, HR.out]
                exact ⟨rfl, hb.trans ((seqB hb1 hb2).mono hb.size)⟩
              · have HF : Hid (R2 = if m < k then dnF (tFrom l) 0 (j - 1) ((j - 1 : Nat) : Int) else (m : Int)) := Lib.hid (by
                  rw [if_pos hmk, HR2.out, dn_miss h0 (by rw [ht, h1]; rfl), show ((j - 1 : Nat) : Int) = (j : Int) - 1 by omega])
                clear ht HR2 hR2
                go_wp2_with (first
                  | (go_at_call 80; (with_reducible refine (C.out _ _ hK.out).mono ?_); rintro e w1 ⟨rfl, hb1⟩; have K1 := Lib.hid (hK.out.below hb1))
                  | (go_at_call 80; (with_reducible refine (C.out _ _ K1.out).mono ?_); rintro e w2 ⟨rfl, hb2⟩; have K2 := Lib.hid (K1.out.below hb2)))
                go_roundw
                case rel => exact ⟨j - 1, by omega, by go_num, HF, Or.inl hmk, K2, hb.trans ((seqB hb1 hb2).mono hb.size)⟩
                case measure => simp [intOf]; omega
            · have HF : Hid (R2 = j) := Lib.hid (by rw [HR2.out, dn_end (by omega)]; omega)
              have h0' : ¬ (0 : Int) < (j : Int) := by omega
              clear ht HR2 hR2
              go_wp2
              go_ret2
              rw [HF.out, HR.out]
              exact ⟨rfl, hb⟩
          · have hjm : j = m := by omega
            have HF : Hid (R2 = j) := Lib.hid (by rw [hR2.out, if_neg hmk, hjm])
            have hjk : ¬ (j : Int) < (k : Int) := by omega
            clear ht hR2 hjm hor
            go_wp2
            go_ret2
            rw [HF.out, HR.out]
            exact ⟨rfl, hb⟩
end Go.Proofs.YtecffaidpiadoaaDoor
