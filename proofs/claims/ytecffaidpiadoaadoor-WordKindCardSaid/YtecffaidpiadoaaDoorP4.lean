import Derived.Test.YtecffaidpiadoaaDoorP3
set_option linter.unusedVariables false
set_option linter.unusedSimpArgs false
namespace Go.Proofs.YtecffaidpiadoaaDoor
open Go.RowKit
/-- The first place from p on, of f ones, that meets t; else d. -/
def upF (t : Int → Bool) (d : Int) : Nat → Int → Int
  | 0, _ => d
  | f + 1, p => if t p = true then p else upF t d f (p + 1)
/-- .. downwards. -/
def dnF (t : Int → Bool) (d : Int) : Nat → Int → Int
  | 0, _ => d
  | f + 1, p => if t p = true then p else dnF t d f (p - 1)
theorem up_hit {t : Int → Bool} {d p : Int} {f : Nat} (hf : 0 < f) (h : t p = true) : upF t d f p = p := by
  obtain ⟨g, rfl⟩ : ∃ g, f = g + 1 := ⟨f - 1, by omega⟩
  show (if t p = true then p else _) = p
  rw [if_pos h]
theorem up_miss {t : Int → Bool} {d p : Int} {f : Nat} (hf : 0 < f) (h : t p = false) : upF t d f p = upF t d (f - 1) (p + 1) := by
  obtain ⟨g, rfl⟩ : ∃ g, f = g + 1 := ⟨f - 1, by omega⟩
  show (if t p = true then p else _) = _
  rw [if_neg (by rw [h]; simp)]; rfl
theorem up_end {t : Int → Bool} {d p : Int} {f : Nat} (hf : f = 0) : upF t d f p = d := by subst hf; rfl
theorem dn_hit {t : Int → Bool} {d p : Int} {f : Nat} (hf : 0 < f) (h : t p = true) : dnF t d f p = p := by
  obtain ⟨g, rfl⟩ : ∃ g, f = g + 1 := ⟨f - 1, by omega⟩
  show (if t p = true then p else _) = p
  rw [if_pos h]
theorem dn_miss {t : Int → Bool} {d p : Int} {f : Nat} (hf : 0 < f) (h : t p = false) : dnF t d f p = dnF t d (f - 1) (p - 1) := by
  obtain ⟨g, rfl⟩ : ∃ g, f = g + 1 := ⟨f - 1, by omega⟩
  show (if t p = true then p else _) = _
  rw [if_neg (by rw [h]; simp)]; rfl
theorem dn_end {t : Int → Bool} {d p : Int} {f : Nat} (hf : f = 0) : dnF t d f p = d := by subst hf; rfl
theorem plc_cases (n : Nat) (i : Int) : ∃ m : Nat, plc n i = m ∧ m ≤ n := ⟨(plc n i).toNat, by unfold plc; omega, by unfold plc; omega⟩
def tNext (l : List (Int × Int)) (p : Int) : Bool := kAt l false (p - 1) == 1 && kAt l false p != 1
def tBack (l : List (Int × Int)) (p : Int) : Bool := kAt l false p == 1 && kAt l false (p - 1) != 1
def tRun (l : List (Int × Int)) (big : Bool) (p : Int) : Bool := kAt l big p != 0 && kAt l big p != kAt l big (p - 1)
def tEnd (l : List (Int × Int)) (big : Bool) (p : Int) : Bool := kAt l big p != 0 && kAt l big p != kAt l big (p + 1)
def nextM (l : List (Int × Int)) (i : Int) : Int := upF (tNext l) l.length (l.length - (plc l.length i).toNat - 1) (plc l.length i + 1)
def backM (l : List (Int × Int)) (i : Int) : Int := dnF (tBack l) 0 ((plc l.length i).toNat - 1) (plc l.length i - 1)
def startM (l : List (Int × Int)) (i : Int) (big : Bool) : Int := upF (tRun l big) l.length (l.length - (plc l.length i).toNat - 1) (plc l.length i + 1)
def prevM (l : List (Int × Int)) (i : Int) (big : Bool) : Int := dnF (tRun l big) 0 ((plc l.length i).toNat - 1) (plc l.length i - 1)
def endM (l : List (Int × Int)) (i : Int) (big : Bool) : Int := upF (tEnd l big) (plc l.length i) (l.length - (plc l.length i).toNat - 1) (plc l.length i + 1)
/-- The closure, at blocks p and q. -/
theorem kinder_kin (a : Option Addr) (l : List (Int × Int)) (c : Nat) (big : Bool) (w : World) (hT : Tabs w) (hs : Signs w a l) :
    Calls Tryd.prog 76 #[.slice a l.length c, .bool big] w fun e w' => e = .returned (.func (.func 80) #[] #[.pointer (some ⟨w.heap.size, 0, none⟩), .pointer (some ⟨w.heap.size + 1, 0, none⟩)]) ∧ Kin w' w.heap.size (w.heap.size + 1) a l c big ∧ Below w.heap.size w w' :=
  (kinder_any a l.length c big w).mono fun _ _ ⟨h1, h2⟩ => ⟨h1, by rw [← h2]; exact kin_new hT hs c big, by rw [← h2]; exact seqB (below_alloc w (.cells #[.slice a l.length c] 38)) (below_alloc _ (.cells #[.bool big] 4))⟩
set_option maxRecDepth 100000 in
set_option maxHeartbeats 2000000 in
theorem next_any (l : List (Int × Int)) (a : Option Addr) (c : Nat) (i : Int) (w : World) (hl : l.length ≤ 1000000000000000000) (hT : Tabs w) (hs : Signs w a l) :
    Calls Tryd.prog 63 #[.slice a l.length c, .int .i64 i] w fun e w' => e = .returned (.int .i64 (nextM l i)) ∧ Below w.heap.size w w' := by
  have K := kinder_kin a l c false w hT hs
  have W := fun w => plc_any a l.length c i w (by omega)
  have hn : nextM l i = upF (tNext l) l.length (l.length - (plc l.length i).toNat - 1) (plc l.length i + 1) := rfl
  obtain ⟨m, hm, hml⟩ := plc_cases l.length i
  rw [hm] at W hn
  rw [Int.toNat_natCast] at hn
  have Hn := Lib.hid hn
  replace K := Lib.hid K; replace W := Lib.hid W
  clear hn hm hT hs
  generalize nextM l i = R at *
  go_enter Tryd.func63, Tryd.ntmps63
  go_wp2_with (first
    | (go_at_call 76; refine (K.out).mono ?_; rintro e w0 ⟨rfl, hK, hb0⟩; have HK := Lib.hid hK; clear hK)
    | (go_at_call 77; refine (W.out _).mono ?_; rintro e w' ⟨rfl, rfl⟩))
  go_loopw [6] (fun pv wr => ∃ k : Nat, 1 ≤ k ∧ k ≤ l.length + 1 ∧ pv = .int .i64 (k : Int) ∧ Hid (R = upF (tNext l) l.length (l.length - k) (k : Int)) ∧ Hid (Kin wr w.heap.size (w.heap.size + 1) a l c false) ∧ Below w.heap.size w wr) (fun pv _ => l.length + 1 - (intOf pv).toNat)
  case atStart => exact ⟨m + 1, by omega, by omega, by go_num, Lib.hid (by rw [Hn.out, Nat.sub_sub]; rfl), HK, hb0⟩
  case round =>
    obtain ⟨k, hk1, hk2, rfl, hR, hK, hb⟩ := hrel
    by_cases hlt : k < l.length
    · have ht : tNext l k = (kAt l false ((k : Int) - 1) == 1 && kAt l false k != 1) := rfl
      have hlt2 : (k : Int) < l.length := by omega
      have C := Lib.hid fun i w1 hK => kinder1_any i w.heap.size (w.heap.size + 1) a l c false w1 (by omega) hK
      cases h1 : (kAt l false ((k : Int) - 1) == 1)
      · have HR : Hid (R = upF (tNext l) l.length (l.length - (k + 1)) ((k : Int) + 1)) := Lib.hid (by
          rw [hR.out, up_miss (by omega) (by rw [ht, h1]; rfl), Nat.sub_sub])
        clear ht
        go_wp2_with (first
          | (go_at_call 80; (with_reducible refine (C.out _ _ hK.out).mono ?_); rintro e w1 ⟨rfl, hb1⟩; have K1 := Lib.hid (hK.out.below hb1)))
        go_roundw
        case rel => exact ⟨k + 1, by omega, by omega, by go_num, HR, K1, hb.trans (hb1.mono hb.size)⟩
        case measure => simp [intOf]; omega
      · cases h2 : (kAt l false k != 1)
        · have HR : Hid (R = upF (tNext l) l.length (l.length - (k + 1)) ((k : Int) + 1)) := Lib.hid (by
            rw [hR.out, up_miss (by omega) (by rw [ht, h1, h2]; rfl), Nat.sub_sub])
          clear ht
          go_wp2_with (first
            | (go_at_call 80; (with_reducible refine (C.out _ _ hK.out).mono ?_); rintro e w1 ⟨rfl, hb1⟩; have K1 := Lib.hid (hK.out.below hb1))
            | (go_at_call 80; (with_reducible refine (C.out _ _ K1.out).mono ?_); rintro e w2 ⟨rfl, hb2⟩; have K2 := Lib.hid (K1.out.below hb2)))
          go_roundw
          case rel => exact ⟨k + 1, by omega, by omega, by go_num, HR, K2, hb.trans ((seqB hb1 hb2).mono hb.size)⟩
          case measure => simp [intOf]; omega
        · have HR : Hid (R = k) := Lib.hid (by
            rw [hR.out, up_hit (by omega) (by rw [ht, h1, h2]; rfl)])
          clear ht
          go_wp2_with (first
            | (go_at_call 80; (with_reducible refine (C.out _ _ hK.out).mono ?_); rintro e w1 ⟨rfl, hb1⟩; have K1 := Lib.hid (hK.out.below hb1))
            | (go_at_call 80; (with_reducible refine (C.out _ _ K1.out).mono ?_); rintro e w2 ⟨rfl, hb2⟩; have K2 := Lib.hid (K1.out.below hb2)))
          go_ret
          rw [HR.out]
          exact ⟨rfl, hb.trans ((seqB hb1 hb2).mono hb.size)⟩
    · have HR : Hid (R = l.length) := Lib.hid (by rw [hR.out, up_end (by omega)])
      go_wp2
      go_ret
      rw [HR.out]
      exact ⟨rfl, hb⟩
end Go.Proofs.YtecffaidpiadoaaDoor
