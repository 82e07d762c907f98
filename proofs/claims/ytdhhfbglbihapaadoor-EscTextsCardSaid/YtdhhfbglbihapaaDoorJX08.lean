/-
  Joined: Es10 Es11 Es12 ArgC ArgH Es13.
-/
import Derived.Test.YtdhhfbglbihapaaDoorJX04
import Derived.Test.YtdhhfbglbihapaaDoorJX06
import Derived.BigQuiet
set_option linter.unusedVariables false
set_option linter.unusedSimpArgs false
set_option maxRecDepth 100000
set_option linter.unusedVariables false
set_option linter.unusedSimpArgs false
namespace Go.Proofs.YtdhhfbglbihapaaDoor
open Go.RowKit
theorem rletters_ref (v : Int) (w : World) (hr : rightB v = true) : Calls Tryd.prog 69 #[.int .i64 v] w fun e w' => e = .returned (.string (mkL (leF v))) ∧ Below w.heap.size w w' := by
  have hg := right_rng hr
  unfold leF
  by_cases h1 : v = 92
  · subst h1
    rw [if_pos rfl]
    go_enter Tryd.func69, Tryd.ntmps69
    go_wp2
    go_ret
    exact ⟨rfl, Below.refl _ _⟩
  · have h1b : (v == 92) = false := beq_eq_false_iff_ne.2 h1
    rw [if_neg h1]
    by_cases h2 : 32 ≤ v ∧ v ≤ 126
    · rw [if_pos h2]
      have h3 : (32 : Int) ≤ v := h2.1
      have h4 : v ≤ (126 : Int) := h2.2
      have hcv : ∀ dst, Tryd.prog.underlying dst = some .string → (convert 44 dst (.slice (some ⟨w.heap.size, 0, none⟩) 1 1)).run Tryd.prog (w.alloc (Obj.cells #[.int .u8 v] 5)) = .ok (.string (mkL [v.toNat.toUInt8])) (w.alloc (Obj.cells #[.int .u8 v] 5)) := conv_new w [v] 1 rfl
      clear h2 hr hg h1
      go_enter Tryd.func69, Tryd.ntmps69
      go_wp2
      go_ret
      exact ⟨rfl, below_alloc _ _⟩
    · rw [if_neg h2]
      have HX := fun w => hex_ref 16 v 6 w (by omega) (by omega) (Nat.lt_of_le_of_lt (show v.toNat ≤ 1114367 by omega) (by decide)) (by omega) (by omega) (by omega)
      rw [hexN_L v 6 (by omega)] at HX
      obtain ⟨he, hl6, _⟩ := hex6 hr
      have hcat : (⟨#[92, 117]⟩ : ByteArray) ++ ⟨(hexL v 6).toArray⟩ = mkL (92 :: 117 :: hexS v 6) := by rw [he]; exact ba_app [92, 117] _
      have hsz : (⟨(hexL v 6).toArray⟩ : ByteArray).size ≤ 20 := by
        rw [size_list]
        omega
      rw [← hcat]
      clear hcat he hl6
      generalize (⟨(hexL v 6).toArray⟩ : ByteArray) = u at *
      replace HX := Lib.hid HX
      clear hr
      by_cases h3 : (32 : Int) ≤ v
      · have h4 : ¬ v ≤ (126 : Int) := fun h => h2 ⟨h3, h⟩
        clear h2 hg h1
        go_enter Tryd.func69, Tryd.ntmps69
        go_wp2_with (go_at_call 105; refine (HX.out _).mono ?_; rintro e w1 ⟨rfl, rfl⟩)
        go_ret
        exact ⟨rfl, Below.refl _ _⟩
      · clear h2 hg h1
        go_enter Tryd.func69, Tryd.ntmps69
        go_wp2_with (go_at_call 105; refine (HX.out _).mono ?_; rintro e w1 ⟨rfl, rfl⟩)
        go_ret
        exact ⟨rfl, Below.refl _ _⟩
theorem mkL_app (a b : List UInt8) : mkL a ++ mkL b = mkL (a ++ b) := ba_app a b
set_option maxHeartbeats 2000000 in
theorem rline_ref (l : List (Int × Int)) (a : Option Addr) (c : Nat) (w : World) (hl : l.length ≤ 100000) (hs : Signs w a l) (hok : sgC l = true) : Calls Tryd.prog 30 #[.slice a l.length c] w fun e w' => e = .returned (.string (mkL (lnL l))) ∧ Below w.heap.size w w' := by
  have HS := Lib.hid hs
  have HR := Lib.hid (sg_right hok)
  clear hs hok
  go_enter Tryd.func30, Tryd.ntmps30
  go_wp2
  go_loopw [3, 4] (fun sv iv wr => ∃ (k : Nat) (t : ByteArray), k ≤ l.length ∧ sv = .string t ∧ iv = .int .i64 (k : Int) ∧ Hid (t = mkL (lnL (l.take k))) ∧ Hid (Below w.heap.size w wr)) (fun _ iv _ => l.length - (intOf iv).toNat)
  case atStart => exact ⟨0, ⟨#[]⟩, Nat.zero_le _, rfl, rfl, Lib.hid rfl, Lib.hid (Below.refl _ _)⟩
  case round =>
    obtain ⟨k, t, hk, rfl, rfl, HT, HB⟩ := hrel
    by_cases hlt : k < l.length
    · have hk1 : (k : Int) < l.length := by omega
      have hk0 : (0 : Int) ≤ k := by omega
      obtain ⟨bb, off, rfl, hblt, c0, c1⟩ := (HS.out.below HB.out) k hlt
      have htk := ln_take l k hlt
      have hr := HR.out (l.getD k (0, 0)) (by rw [List.getD, List.getElem?_eq_getElem hlt]; exact List.getElem_mem hlt)
      have hlen := lnL_len (l := l.take k) (fun p hp => HR.out p (List.mem_of_mem_take hp))
      rw [List.length_take] at hlen
      have hle := leF_len hr
      have ht8 : t.size ≤ 1000000 := by rw [HT.out, mkL_size]; omega
      have hs8 : (mkL (leF (l.getD k (0, 0)).1)).size ≤ 8 := by rw [mkL_size]; exact hle.2
      have LE := fun w => rletters_ref (l.getD k (0, 0)).1 w hr
      have hnx : Hid (t ++ mkL (leF (l.getD k (0, 0)).1) = mkL (lnL (l.take (k + 1)))) := Lib.hid (by rw [htk, HT.out, mkL_app])
      clear htk hlen hle hr HT
      generalize (l.getD k (0, 0)).1 = v at *
      generalize mkL (leF v) = u at *
      replace LE := Lib.hid LE
      go_wp2_with (go_at_call 69; refine (LE.out _).mono ?_; rintro e w2 ⟨rfl, hb2⟩; have N2 := Lib.hid (seqB HB.out hb2); clear hb2)
      go_roundw
      case rel => exact ⟨k + 1, _, by omega, rfl, by go_num, hnx, N2⟩
      case measure => (simp [intOf]; try omega)
    · obtain rfl : k = l.length := by omega
      rw [List.take_length] at HT
      have hkl : ¬ (l.length : Int) < (l.length : Int) := by omega
      go_wp2
      go_ret
      exact ⟨by rw [HT.out]; rfl, HB.out⟩
set_option maxHeartbeats 2000000 in
theorem rtext_ref (h : List (List (Int × Int))) (a : Option Addr) (c : Nat) (w : World) (hl : h.length ≤ 1000) (hs : SgsIn w a h) (hok : ∀ l ∈ h, l.length ≤ 100 ∧ sgC l = true) : Calls Tryd.prog 28 #[.slice a h.length c] w fun e w' => e = .returned (.string (mkL (txL h))) ∧ Below w.heap.size w w' := by
  have HS := Lib.hid hs
  have HR := Lib.hid hok
  clear hs hok
  go_enter Tryd.func28, Tryd.ntmps28
  go_wp2
  go_loopw [3, 4] (fun sv iv wr => ∃ (k : Nat) (t : ByteArray), k ≤ h.length ∧ sv = .string t ∧ iv = .int .i64 (k : Int) ∧ Hid (t = mkL (txL (h.take k))) ∧ Hid (Below w.heap.size w wr)) (fun _ iv _ => h.length - (intOf iv).toNat)
  case atStart => exact ⟨0, ⟨#[]⟩, Nat.zero_le _, rfl, rfl, Lib.hid rfl, Lib.hid (Below.refl _ _)⟩
  case round =>
    obtain ⟨k, t, hk, rfl, rfl, HT, HB⟩ := hrel
    by_cases hlt : k < h.length
    · have hk1 : (k : Int) < h.length := by omega
      have hk0 : (0 : Int) ≤ k := by omega
      obtain ⟨bb, off, ai, ci, rfl, hblt, c0, hsi⟩ := (HS.out.below HB.out) k hlt
      have htk := tx_take h k hlt
      have hri := HR.out _ (getD_memL hlt)
      have hlen := tx_len (h := h.take k) (fun l hl => HR.out l (List.mem_of_mem_take hl))
      rw [List.length_take] at hlen
      have hle := lnL_len (sg_right hri.2)
      have ht8 : t.size ≤ 1000000 := by rw [HT.out, mkL_size]; omega
      have hs8 : (mkL (lnL (h.getD k []))).size ≤ 800 := by rw [mkL_size]; omega
      have LE := Lib.hid fun w hs => rline_ref (h.getD k []) ai ci w (by omega) hs hri.2
      have hnx : Hid (t ++ mkL (lnL (h.getD k [])) ++ ⟨#[10]⟩ = mkL (txL (h.take (k + 1)))) := Lib.hid (by rw [htk, HT.out, mkL_app]; exact mkL_app _ [10])
      have HSI := Lib.hid hsi
      have hcs : (t ++ mkL (lnL (h.getD k []))).size ≤ 2000000 := by rw [ByteArray.size_append]; omega
      clear htk hlen hle hri HT hsi
      generalize hm : (h.getD k []).length = m at *
      generalize mkL (lnL (h.getD k [])) = u at *
      go_wp2_with (go_at_call 30; refine (LE.out _ HSI.out).mono ?_; rintro e w2 ⟨rfl, hb2⟩; have N2 := Lib.hid (seqB HB.out hb2); clear hb2)
      go_roundw
      case rel => exact ⟨k + 1, _, by omega, rfl, by go_num, hnx, N2⟩
      case measure => (simp [intOf]; try omega)
    · obtain rfl : k = h.length := by omega
      rw [List.take_length] at HT
      have hkl : ¬ (h.length : Int) < (h.length : Int) := by omega
      go_wp2
      go_ret
      exact ⟨by rw [HT.out]; rfl, HB.out⟩
/-- May all signs be? -/
def sgA (h : List (List (Int × Int))) : Bool := h.all sgC
set_option maxHeartbeats 2000000 in
theorem rall_ref (h : List (List (Int × Int))) (a : Option Addr) (c : Nat) (w : World) (hl : h.length ≤ 1000) (hs : SgsIn w a h) (hok : ∀ l ∈ h, l.length ≤ 100) : Calls Tryd.prog 27 #[.slice a h.length c] w fun e w' => e = .returned (.bool (sgA h)) ∧ Below w.heap.size w w' := by
  have HS := Lib.hid hs
  have HR := Lib.hid hok
  clear hs hok
  go_enter Tryd.func27, Tryd.ntmps27
  go_wp2
  go_loopw [3] (fun iv wr => ∃ k : Nat, k ≤ h.length ∧ iv = .int .i64 (k : Int) ∧ Hid (∀ j, j < k → sgC (h.getD j []) = true) ∧ Hid (Below w.heap.size w wr)) (fun iv _ => h.length - (intOf iv).toNat)
  case atStart => exact ⟨0, Nat.zero_le _, rfl, Lib.hid (fun j hj => absurd hj (Nat.not_lt_zero j)), Lib.hid (Below.refl _ _)⟩
  case round =>
    obtain ⟨k, hk, rfl, HA, HB⟩ := hrel
    by_cases hlt : k < h.length
    · have hk1 : (k : Int) < h.length := by omega
      have hk0 : (0 : Int) ≤ k := by omega
      obtain ⟨bb, off, ai, ci, rfl, hblt, c0, hsi⟩ := (HS.out.below HB.out) k hlt
      have hri := HR.out _ (getD_memL hlt)
      have SA := sgall_ref (h.getD k []) ai ci wr (by omega) hsi
      cases hx : sgC (h.getD k []) with
      | true =>
        rw [hx] at SA
        have HA2 : Hid (∀ j, j < k + 1 → sgC (h.getD j []) = true) := Lib.hid (fun j hj => by
          rcases Nat.lt_succ_iff_lt_or_eq.1 hj with h | rfl
          · exact HA.out j h
          · exact hx)
        replace SA := Lib.hid SA
        clear hx hsi hri HA
        generalize (h.getD k []).length = m at *
        go_wp2_with (go_at_call 16; refine SA.out.mono ?_; rintro e w2 ⟨rfl, hb2⟩; have N2 := Lib.hid (seqB HB.out hb2); clear hb2)
        go_roundw
        case rel => exact ⟨k + 1, by omega, by go_num, HA2, N2⟩
        case measure => (simp [intOf]; try omega)
      | false =>
        rw [hx] at SA
        have hF : Hid (sgA h = false) := Lib.hid (by
          unfold sgA
          rw [List.all_eq_false]
          exact ⟨_, getD_memL hlt, by rw [hx]; decide⟩)
        replace SA := Lib.hid SA
        clear hx hsi hri HA
        generalize (h.getD k []).length = m at *
        go_wp2_with (go_at_call 16; refine SA.out.mono ?_; rintro e w2 ⟨rfl, hb2⟩; have N2 := Lib.hid (seqB HB.out hb2); clear hb2)
        go_ret
        exact ⟨by rw [hF.out]; rfl, N2.out⟩
    · obtain rfl : k = h.length := by omega
      have hF : Hid (sgA h = true) := Lib.hid (by
        unfold sgA
        rw [List.all_eq_true]
        intro l hl
        obtain ⟨j, hj, rfl⟩ := List.getElem_of_mem hl
        have := HA.out j hj
        rwa [List.getD, List.getElem?_eq_getElem hj] at this)
      have hkl : ¬ (h.length : Int) < (h.length : Int) := by omega
      go_wp2
      go_ret
      exact ⟨by rw [hF.out]; rfl, HB.out⟩
/-- Signs of another label. -/
def wiL (l : List (Int × Int)) (u : Int) : List (Int × Int) := l.map fun p => (p.1, u)
set_option maxHeartbeats 4000000 in
theorem with_ref (l : List (Int × Int)) (u : Int) (a : Option Addr) (c : Nat) (w : World) (hl : l.length ≤ 100000) (hs : Signs w a l) :
    Calls Tryd.prog 32 #[.slice a l.length c, .int .i64 u] w fun e w' => ∃ x, e = .returned x ∧ OwS w' w.heap.size x (wiL l u) ∧ Below w.heap.size w w' := by
  have HS := Lib.hid hs; clear hs
  go_enter Tryd.func32, Tryd.ntmps32
  go_wp2
  go_loopw [5, 6] (fun ov iv wr => ∃ k : Nat, k ≤ l.length ∧ iv = .int .i64 (k : Int) ∧ Hid (OwS wr w.heap.size ov (wiL (l.take k) u)) ∧ Hid (Below w.heap.size w wr)) (fun _ iv _ => l.length - (intOf iv).toNat)
  case atStart => exact ⟨0, Nat.zero_le _, rfl, Lib.hid (World.ownsRow_nil _ _ _ _), Lib.hid (Below.refl _ _)⟩
  case round =>
    obtain ⟨k, hk, rfl, hO, hb⟩ := hrel
    by_cases hlt : k < l.length
    · obtain ⟨b, off, rfl, hblk, c1, c2⟩ := (HS.out.below hb.out) k hlt
      have hk1 : (k : Int) < l.length := by omega
      have hk0 : (0 : Int) ≤ k := by omega
      have hnext : wiL (l.take (k + 1)) u = wiL (l.take k) u ++ [((l.getD k (0, 0)).1, u)] := by
        unfold wiL
        rw [List.take_add_one, List.getElem?_eq_getElem hlt, List.map_append]
        simp [List.getD, List.getElem?_eq_getElem hlt]
      have hlen : (wiL (l.take k) u).length = k := by unfold wiL; simp; omega
      have Hn := Lib.hid hnext
      have Hl := Lib.hid hlen
      have BA := fun o => below_alloc wr o
      generalize (l.getD k (0, 0)).1 = v at *
      generalize wiL (l.take k) u = Y at *
      have O1 := Lib.hid (ows_below hO.out (BA (.cells #[.int .i64 v, .int .i64 u] 89)))
      have N1 := Lib.hid (seqB hb.out (BA (.cells #[.int .i64 v, .int .i64 u] 89)))
      have S1 := Lib.hid (sg_new1 wr v u _ (Below.refl _ _))
      obtain ⟨ay, cy, rfl⟩ := hO.out.form Hl.out
      clear hnext hlen hO hb BA
      go_wp2_with (at_builtin; refine wpList_app_signs rfl _ _ rfl w.heap.size _ k Y rfl Hl.out O1.out (some ⟨wr.heap.size, 0, none⟩) 1 1 [(v, u)] rfl rfl S1.out (fun e => (by cases e)) ?g3 ?g4 ?_)
      case g3 => omega
      case g4 => exact N1.out.size
      intro ad5 c5 w5 hown5 hgrow5
      have N5 := Lib.hid (N1.out.grown hgrow5 N1.out.size (fun j hj => (O1.out.lt j hj).1))
      have HO := Lib.hid hown5
      clear hown5 hgrow5
      go_wp2
      go_roundw
      case rel => exact ⟨k + 1, by omega, by go_num, Lib.hid (by rw [Hn.out]; exact HO.out), N5⟩
      case measure => (simp [intOf]; try omega)
    · obtain rfl : k = l.length := by omega
      rw [List.take_length] at hO
      have hkl : ¬ (l.length : Int) < (l.length : Int) := by omega
      go_wp2
      go_ret
      exact ⟨_, rfl, hO.out, hb.out⟩
/-- Entries that are not far too many. -/
def ltB (h : List (List (Int × Int))) : Bool := decide (h.length ≤ 30) && h.all fun l => decide (l.length ≤ 60)
end Go.Proofs.YtdhhfbglbihapaaDoor
set_option linter.unusedVariables false
set_option linter.unusedSimpArgs false
namespace Go.Proofs.YtdhhfbglbihapaaDoor
open Go.RowKit
theorem eline_no (l : List (Int × Int)) (a : Option Addr) (c : Nat) (w : World) (hl : l.length ≤ 100000) (hs : Signs w a l) (hno : sgC l = false) : Calls Tryd.prog 29 #[.slice a l.length c] w fun e w' => e = .returned (.tuple #[.string ⟨#[]⟩, .int .i64 2]) ∧ Below w.heap.size w w' := by
  have CH := scheck_any l a c w (by omega) hs
  rw [sgE_no hno] at CH
  replace CH := Lib.hid CH
  clear hs hno
  go_enter Tryd.func29, Tryd.ntmps29
  go_wp2_with (go_at_call 60; refine CH.out.mono ?_; rintro e w0 ⟨rfl, hb0⟩)
  refine bodyPost_ret (v := .tuple #[.string ⟨#[]⟩, .int .i64 2]) (by simp [results, Tryd.results29, go_sem]) rfl ?_
  exact ⟨rfl, hb0⟩
theorem tk_good {h : List (List (Int × Int))} {k : Nat} (h1 : ∀ l ∈ h, l.length ≤ 100) (h2 : ∀ j, j < k → sgC (h.getD j []) = true) : ∀ l ∈ h.take k, l.length ≤ 100 ∧ sgC l = true := by
  intro l hl
  refine ⟨h1 l (List.mem_of_mem_take hl), ?_⟩
  obtain ⟨j, hj, rfl⟩ := List.getElem_of_mem hl
  rw [List.length_take] at hj
  have := h2 j (by omega)
  rw [List.getD, List.getElem?_eq_getElem (by omega)] at this
  rw [List.getElem_take]; exact this
set_option maxRecDepth 100000 in
set_option maxHeartbeats 4000000 in
theorem etext_no (h : List (List (Int × Int))) (a : Option Addr) (c : Nat) (w : World) (hl : h.length ≤ 1000) (hs : SgsIn w a h) (hok : ∀ l ∈ h, l.length ≤ 100) (hno : sgA h = false) : Calls Tryd.prog 26 #[.slice a h.length c] w fun e w' => e = .returned (.tuple #[.string ⟨#[]⟩, .int .i64 2]) ∧ Below w.heap.size w w' := by
  have HNo := Lib.hid hno; clear hno
  have HS := Lib.hid hs
  have HR := Lib.hid hok
  clear hs hok
  have B0 := below_alloc w (.cells #[.pointer none, .slice none 0 0] 102)
  have I0 := blS_new w
  obtain ⟨W0, hW0⟩ : ∃ W0, w.alloc (.cells #[.pointer none, .slice none 0 0] 102) = W0 := ⟨_, rfl⟩
  rw [hW0] at B0 I0
  obtain ⟨B, hB⟩ : ∃ B, w.heap.size = B := ⟨_, rfl⟩
  have hBW : B ≤ W0.heap.size := by have := B0.size; omega
  rw [hB] at I0
  have HI0 := Lib.hid I0
  have HN0 := Lib.hid B0
  have HS0 := Lib.hid hBW
  have HBq := Lib.hid hB
  clear B0 I0 hBW
  go_enter Tryd.func26, Tryd.ntmps26
  go_upto_region 3 with fail
  clear hW0
  go_loopw [11] (fun iv wr => ∃ k : Nat, k ≤ h.length ∧ iv = .int .i64 (k : Int) ∧ Hid (∀ j, j < k → sgC (h.getD j []) = true) ∧ Hid (IsBld B B (Lib.byteCells (txL (h.take k))) wr) ∧ Hid (B ≤ wr.heap.size) ∧ Hid (Below w.heap.size w wr)) (fun iv _ => h.length - (intOf iv).toNat)
  case atStart => exact ⟨0, Nat.zero_le _, rfl, Lib.hid (fun j hj => absurd hj (Nat.not_lt_zero j)), HI0, HS0, HN0⟩
  case round =>
    obtain ⟨k, hk, rfl, HG, HI, HBs, HB⟩ := hrel
    clear HI0 HN0 HS0 hB
    by_cases hlt : k < h.length
    · have hk1 : (k : Int) < h.length := by omega
      have hk0 : (0 : Int) ≤ k := by omega
      obtain ⟨bb, off, ai, ci, rfl, hblt, c0, hsi⟩ := (HS.out.below HB.out) k hlt
      have hxl := HR.out _ (getD_memL hlt)
      cases hx : sgC (h.getD k []) with
      | true =>
          have hri : (h.getD k []).length ≤ 100 ∧ sgC (h.getD k []) = true := ⟨hxl, hx⟩
          have HG2 : Hid (∀ j, j < k + 1 → sgC (h.getD j []) = true) := Lib.hid (fun j hj => by
            rcases Nat.lt_succ_iff_lt_or_eq.1 hj with h | rfl
            · exact HG.out j h
            · exact hx)
          have htk := tx_take h k hlt
          have hlen := tx_len (h := h.take k) (tk_good HR.out HG.out)
          rw [List.length_take] at hlen
          have EL := Lib.hid (eline_any (h.getD k []) ai ci wr (by omega) hsi hri.2)
          have hle := lnL_len (sg_right hri.2)
          have hs8 : (mkL (lnL (h.getD k []))).size = (lnL (h.getD k [])).length := size_list _
          have hcell : Hid (Lib.byteCells (txL (h.take (k + 1))) = Lib.byteCells (txL (h.take k)) ++ Lib.strCells (mkL (lnL (h.getD k []))) ++ [.int .u8 10]) := Lib.hid (by rw [htk, Lib.byteCells_append, Lib.byteCells_append]; rfl)
          have hbl : (Lib.byteCells (txL (h.take k))).length + (mkL (lnL (h.getD k []))).size ≤ 100000000 := by rw [Lib.byteCells_length]; omega
          have WR := Lib.hid (fun (w : World) h2 hB => bwrite_any B B (Lib.byteCells (txL (h.take k))) (mkL (lnL (h.getD k []))) w h2 (Nat.le_trans hbl (by decide)) hB)
          have WB := Lib.hid (fun (w : World) h2 hB => bbyte_any B B (Lib.byteCells (txL (h.take k)) ++ Lib.strCells (mkL (lnL (h.getD k [])))) 10 w h2 (by rw [List.length_append, Lib.strCells_length]; omega) hB)
          clear htk hlen hle hs8 hbl hsi hri hx hxl
          generalize hm : (h.getD k []).length = m at *
          generalize mkL (lnL (h.getD k [])) = t at *
          generalize Lib.byteCells (txL (h.take k)) = bs at *
          go_wp2_with (first
            | (go_at_call 29; refine EL.out.mono ?_; rintro e w2 ⟨rfl, hb2⟩; have I2 := Lib.hid (blS_below HI.out hb2); have N2 := Lib.hid (seqB HB.out hb2); have S2 := Lib.hid (Nat.le_trans HBs.out hb2.size); clear hb2)
            | (go_at_call 65; refine (WR.out _ I2.out S2.out).mono ?_; rintro e w3 ⟨rfl, hI3, hb3⟩; have N3 := Lib.hid (N2.out.trans (hb3.mono (Nat.le_of_eq HBq.out))); have I3 := Lib.hid (show IsBld B B _ w3 from Or.inr hI3); have S3 := Lib.hid (Nat.le_trans S2.out hb3.size); clear hI3 hb3)
            | (go_at_call 66; refine (WB.out _ I3.out S3.out).mono ?_; rintro e w4 ⟨rfl, hI4, hb4⟩; have N4 := Lib.hid (N3.out.trans (hb4.mono (Nat.le_of_eq HBq.out))); have I4 := Lib.hid (show IsBld B B _ w4 from Or.inr hI4); have S4 := Lib.hid (Nat.le_trans S3.out hb4.size); clear hI4 hb4))
          go_roundw
          case rel => exact ⟨k + 1, by omega, by go_num, HG2, Lib.hid (by rw [hcell.out]; exact I4.out), S4, N4⟩
          case measure => (simp [intOf]; try omega)
      | false =>
          have EL := Lib.hid (eline_no (h.getD k []) ai ci wr (by omega) hsi hx)
          clear hsi hx hxl
          generalize hm : (h.getD k []).length = m at *
          go_wp2_with (go_at_call 29; refine EL.out.mono ?_; rintro e w2 ⟨rfl, hb2⟩; have N2 := Lib.hid (seqB HB.out hb2); clear hb2)
          refine bodyPost_ret (v := .tuple #[.string ⟨#[]⟩, .int .i64 2]) (by simp [results, Tryd.results26, go_sem]) rfl ?_
          exact ⟨rfl, N2.out⟩
    · obtain rfl : k = h.length := by omega
      exfalso
      have hF : sgA h = true := by
        unfold sgA
        rw [List.all_eq_true]
        intro l hl
        obtain ⟨j, hj, rfl⟩ := List.getElem_of_mem hl
        have := HG.out j hj
        rwa [List.getD, List.getElem?_eq_getElem hj] at this
      rw [HNo.out] at hF; cases hF
set_option maxHeartbeats 2000000 in
theorem light_ref (h : List (List (Int × Int))) (a : Option Addr) (c : Nat) (w : World) (hl : h.length ≤ 9223372036854775807) (hs : SgsIn w a h) : Calls Tryd.prog 24 #[.slice a h.length c] w fun e w' => e = .returned (.bool (ltB h)) ∧ w = w' := by
  have HS := Lib.hid hs
  clear hs
  go_enter Tryd.func24, Tryd.ntmps24
  go_wp2
  go_loopw [3] (fun iv wr => ∃ k : Nat, k ≤ h.length ∧ iv = .int .i64 (k : Int) ∧ Hid (∀ j, j < k → (h.getD j []).length ≤ 60) ∧ w = wr) (fun iv _ => h.length - (intOf iv).toNat)
  case atStart => exact ⟨0, Nat.zero_le _, rfl, Lib.hid (fun j hj => absurd hj (Nat.not_lt_zero j)), rfl⟩
  case round =>
    obtain ⟨k, hk, rfl, HA, rfl⟩ := hrel
    by_cases hlt : k < h.length
    · have hk1 : (k : Int) < h.length := by omega
      have hk0 : (0 : Int) ≤ k := by omega
      obtain ⟨bb, off, ai, ci, rfl, hblt, c0, hsi⟩ := HS.out k hlt
      by_cases hx : (h.getD k []).length ≤ 60
      · have HA2 : Hid (∀ j, j < k + 1 → (h.getD j []).length ≤ 60) := Lib.hid (fun j hj => by
          rcases Nat.lt_succ_iff_lt_or_eq.1 hj with h | rfl
          · exact HA.out j h
          · exact hx)
        clear hsi HA
        generalize (h.getD k []).length = m at *
        go_wp2
        go_roundw
        case rel => exact ⟨k + 1, by omega, by go_num, HA2, trivial⟩
        case measure => (simp [intOf]; try omega)
      · have hF : Hid (ltB h = false) := Lib.hid (by
          unfold ltB
          rw [Bool.and_eq_false_iff]
          refine Or.inr (List.all_eq_false.2 ⟨_, getD_memL hlt, ?_⟩)
          rw [decide_eq_false hx]; decide)
        clear hsi HA
        generalize (h.getD k []).length = m at *
        go_wp2
        go_ret
        exact ⟨by rw [hF.out]; rfl, rfl⟩
    · obtain rfl : k = h.length := by omega
      have hF : Hid (ltB h = decide (h.length ≤ 30)) := Lib.hid (by
        unfold ltB
        rw [show (h.all fun l => decide (l.length ≤ 60)) = true from List.all_eq_true.2 fun l hl => by
          obtain ⟨j, hj, rfl⟩ := List.getElem_of_mem hl
          have := HA.out j hj
          rw [List.getD, List.getElem?_eq_getElem hj] at this
          exact decide_eq_true this, Bool.and_true])
      have hkl : ¬ (h.length : Int) < (h.length : Int) := by omega
      by_cases h30 : h.length ≤ 30
      · have h30i : (h.length : Int) ≤ 30 := by omega
        go_wp2
        go_ret
        exact ⟨by rw [hF.out, decide_eq_true h30]; rfl, rfl⟩
      · have h30i : ¬ (h.length : Int) ≤ 30 := by omega
        go_wp2
        go_ret
        exact ⟨by rw [hF.out, decide_eq_false h30]; rfl, rfl⟩
theorem ix_at (a r : List UInt8) (h : ∀ c ∈ a, c ≠ 10) : Lib.indexByte (a ++ 10 :: r) 10 = (a.length : Int) := by
  induction a with
  | nil => rfl
  | cons c a ih =>
    have h1 := h c (List.mem_cons_self ..)
    have h2 := ih (fun x hx => h x (List.mem_cons_of_mem _ hx))
    rw [List.cons_append]
    unfold Lib.indexByte
    rw [if_neg (by simpa using h1), h2, if_neg (by simp), List.length_cons]
    omega
theorem ln_ten {l : List (Int × Int)} (h : sgC l = true) : ∀ c ∈ lnL l, c ≠ 10 := fun c hc e => by
  have := lnL_ascii h c hc
  rw [e] at this
  exact absurd this.1 (by decide)
theorem tx_cons (l : List (Int × Int)) (h : List (List (Int × Int))) : txL (l :: h) = lnL l ++ 10 :: txL h := by
  unfold txL; rw [List.flatMap_cons, List.append_assoc]; rfl
theorem sp_k {h : List (List (Int × Int))} (hok : ∀ l ∈ h, sgC l = true) : Lib.splitK [10] 0 h.length (txL h) = h.map lnL ++ [[]] := by
  induction h with
  | nil => rfl
  | cons l h ih =>
    have h1 := ln_ten (hok l (List.mem_cons_self ..))
    have ix : Lib.index (lnL l ++ 10 :: txL h) [10] = ((lnL l).length : Int) := by rw [Lib.index_one, ix_at _ _ h1]
    rw [tx_cons, List.length_cons]
    unfold Lib.splitK
    rw [ix, if_neg (by simp), Int.toNat_natCast, Nat.add_zero, List.take_left, List.length_singleton, List.map_cons, List.cons_append]
    congr 1
    rw [show (lnL l ++ 10 :: txL h).drop ((lnL l).length + 1) = txL h by
      rw [List.drop_append, List.drop_of_length_le (by omega), show (lnL l).length + 1 - (lnL l).length = 1 by omega]; rfl]
    exact ih (fun m hm => hok m (List.mem_cons_of_mem _ hm))
theorem tx_count {h : List (List (Int × Int))} (hok : ∀ l ∈ h, sgC l = true) : Lib.countB (mkL (txL h)) nlB = h.length := by
  show Lib.count (txL h) [10] = h.length
  rw [Lib.count_one]
  induction h with
  | nil => rfl
  | cons l h ih =>
    have h1 := ln_ten (hok l (List.mem_cons_self ..))
    rw [tx_cons, List.count_append, List.count_cons_self, ih (fun m hm => hok m (List.mem_cons_of_mem _ hm)), List.count_eq_zero_of_not_mem (fun e => h1 10 e rfl), List.length_cons]
    omega
theorem tx_pi {h : List (List (Int × Int))} (hok : ∀ l ∈ h, sgC l = true) : PiOf (txL h) (h.map lnL ++ [[]]) := by
  unfold PiOf
  rw [tx_count hok]
  have hd := Lib.splitB_data nlB 0 h.length (mkL (txL h))
  have hm : ∀ L : List ByteArray, L = (L.map (·.data.toList)).map mkL := fun L => by
    rw [List.map_map]
    conv => lhs; rw [← List.map_id L]
    exact List.map_congr_left fun b _ => by
      show b = mkL b.data.toList
      unfold mkL
      rw [Array.toArray_toList]
  rw [hm (Lib.splitB nlB 0 h.length (mkL (txL h))), hd]
  congr 1
  exact sp_k hok
/-- What a text of entries reads. -/
def neL (h : List (List (Int × Int))) : List (List (Int × Int)) := h.filter fun l => !l.isEmpty
theorem wi_hs (l : List (Int × Int)) : hsL (l.map (·.1)) = wiL l 3 := by unfold hsL wiL; rw [List.map_map]; rfl
theorem tx_rd {h : List (List (Int × Int))} (hok : ∀ l ∈ h, l.length ≤ 60 ∧ sgC l = true) : rdE (h.map lnL ++ [[]]) 60 = (neL h).map fun l => wiL l 3 := by
  unfold rdE neL
  rw [List.map_append, List.filter_append, List.map_map]
  rw [show (List.map (fun p => hsL (unS p 60)) [[]] : List (List (Int × Int))).filter (fun l => !l.isEmpty) = [] from rfl, List.append_nil]
  rw [show h.map ((fun p => hsL (unS p 60)) ∘ lnL) = h.map fun l => wiL l 3 from List.map_congr_left fun l hl => by
    show hsL (unS (lnL l) 60) = _
    rw [unS_ln (sg_right (hok l hl).2) 60 (hok l hl).1, wi_hs]]
  rw [List.filter_map]
  congr 1
  refine List.filter_congr fun l _ => ?_
  show (!(wiL l 3).isEmpty) = !l.isEmpty
  cases l <;> rfl
theorem ne_len (h : List (List (Int × Int))) : (neL h).length ≤ h.length := List.length_filter_le _ _
theorem ne_take (h : List (List (Int × Int))) (k : Nat) (hk : k < h.length) : (neL (h.take (k + 1))).length = (neL (h.take k)).length + (if h.getD k [] = [] then 0 else 1) := by
  unfold neL
  rw [List.take_succ_eq_append_getElem hk, List.filter_append, List.length_append, List.getD, List.getElem?_eq_getElem hk]
  congr 1
  simp only [Option.getD_some]
  cases hx : h[k] with
  | nil => simp
  | cons a b => simp
theorem ne_at (h : List (List (Int × Int))) (k : Nat) (hk : k < h.length) (hne : h.getD k [] ≠ []) : (neL (h.take k)).length < (neL h).length ∧ (neL h).getD (neL (h.take k)).length [] = h.getD k [] := by
  have e : neL h = neL (h.take k) ++ neL (h.drop k) := by
    unfold neL; rw [← List.filter_append, List.take_append_drop]
  have e2 : neL (h.drop k) = h.getD k [] :: neL (h.drop (k + 1)) := by
    unfold neL
    rw [List.drop_eq_getElem_cons hk, List.getD, List.getElem?_eq_getElem hk]
    rw [List.getD, List.getElem?_eq_getElem hk] at hne
    simp only [Option.getD_some] at hne ⊢
    rw [List.filter_cons_of_pos (by cases hx : h[k] with | nil => exact absurd hx hne | cons a b => rfl)]
  rw [e, e2]
  refine ⟨by rw [List.length_append, List.length_cons]; omega, ?_⟩
  rw [List.getD, List.getElem?_append_right (Nat.le_refl _), Nat.sub_self]; rfl
end Go.Proofs.YtdhhfbglbihapaaDoor
set_option linter.unusedVariables false
set_option linter.unusedSimpArgs false
namespace Go.Proofs.YtdhhfbglbihapaaDoor
open Go.RowKit
theorem lt_facts {h : List (List (Int × Int))} (hl : ltB h = true) : h.length ≤ 30 ∧ ∀ l ∈ h, l.length ≤ 60 := by
  unfold ltB at hl
  rw [Bool.and_eq_true, decide_eq_true_eq, List.all_eq_true] at hl
  exact ⟨hl.1, fun l hm => of_decide_eq_true (hl.2 l hm)⟩
set_option maxHeartbeats 4000000 in
theorem esctexts_far (h : List (List (Int × Int))) (a : Option Addr) (c : Nat) (w : World) (hT : UT w) (hl : h.length ≤ 9223372036854775807) (hs : SgsIn w a h) (hno : ltB h = false) :
    Calls Tryd.prog 5 #[.slice a h.length c] w fun e w' => e = .returned (.bool true) ∧ Below w.heap.size w w' := by
  have HT := Lib.hid hT
  have AW := Lib.hid fun w h => eawake_any w h
  have LI := light_ref h a c w hl hs
  rw [hno] at LI
  replace LI := Lib.hid LI
  clear hT hs hno
  go_enter Tryd.func5, Tryd.ntmps5
  go_wp2_with (first
    | (go_at_call 24; refine LI.out.mono ?_; rintro e w0 ⟨rfl, rfl⟩)
    | (go_at_call 25; refine (AW.out _ HT.out).mono ?_; rintro e w1 ⟨rfl, hb1⟩))
  go_ret
  exact ⟨rfl, hb1⟩
set_option maxHeartbeats 4000000 in
theorem esctexts_bad (h : List (List (Int × Int))) (a : Option Addr) (c : Nat) (w : World) (hT : UT w) (hs : SgsIn w a h) (hl : ltB h = true) (hno : sgA h = false) :
    Calls Tryd.prog 5 #[.slice a h.length c] w fun e w' => e = .returned (.bool true) ∧ Below w.heap.size w w' := by
  have HT := Lib.hid hT
  have HS := Lib.hid hs
  have AW := Lib.hid fun w h => eawake_any w h
  have hlt := lt_facts hl
  have LI := light_ref h a c w (by omega) hs
  rw [hl] at LI
  have TX := Lib.hid fun w hs => etext_no h a c w (by omega) hs (fun l hm => by have := hlt.2 l hm; omega) hno
  have AL : Hid (∀ w, SgsIn w a h → Calls Tryd.prog 27 #[.slice a h.length c] w fun e w' => e = .returned (.bool false) ∧ Below w.heap.size w w') := Lib.hid fun w hs => by
    have := rall_ref h a c w (by omega) hs (fun l hm => by have := hlt.2 l hm; omega)
    rw [hno] at this; exact this
  replace LI := Lib.hid LI
  clear hT hs hno hl hlt
  go_enter Tryd.func5, Tryd.ntmps5
  go_wp2_with (first
    | (go_at_call 24; refine LI.out.mono ?_; rintro e w0 ⟨rfl, rfl⟩)
    | (go_at_call 26; refine (TX.out _ HS.out).mono ?_; rintro e w1 ⟨rfl, hb1⟩; have N1 := Lib.hid hb1; clear hb1)
    | (go_at_call 27; refine (AL.out _ (HS.out.below N1.out)).mono ?_; rintro e w2 ⟨rfl, hb2⟩; have N2 := Lib.hid (seqB N1.out hb2); clear hb2)
    | (go_at_call 25; refine (AW.out _ (HT.out.below N2.out)).mono ?_; rintro e w3 ⟨rfl, hb3⟩; have N3 := Lib.hid (seqB N2.out hb3); clear hb3))
  go_ret
  exact ⟨rfl, N3.out⟩
theorem wi_len (l : List (Int × Int)) (u : Int) : (wiL l u).length = l.length := by simp [wiL]
theorem wi_call (l : List (Int × Int)) (a : Option Addr) (c m : Nat) (w : World) (hm : l.length = m) (hl : m ≤ 100000) (hs : Signs w a l) :
    Calls Tryd.prog 32 #[.slice a m c, .int .i64 3] w fun e w' => ∃ ax cx, e = .returned (.slice ax m cx) ∧ Signs w' ax (wiL l 3) ∧ Below w.heap.size w w' := by
  subst hm
  refine (with_ref l 3 a c w hl hs).mono ?_
  rintro e w' ⟨x, rfl, ho, hb⟩
  obtain ⟨ax, cx, rfl, hsx⟩ := ho.sl
  exact ⟨ax, cx, by rw [wi_len], hsx.s, hb⟩
theorem un_call (l : List (Int × Int)) (m : Nat) (w : World) (hT : UT w) (hm : l.length = m) (hl : m ≤ 60) (hok : sgC l = true) :
    Calls Tryd.prog 31 #[.string (mkL (lnL l)), .int .i64 60] w fun e w' => ∃ ax cx, e = .returned (.slice ax m cx) ∧ Signs w' ax (wiL l 3) ∧ Below w.heap.size w w' := by
  subst hm
  have hln := lnL_len (sg_right hok)
  refine (unline_any (lnL l) 60 w hT (fun c hc => by have := lnL_ascii hok c hc; omega) (by omega) (by omega)).mono ?_
  rintro e w' ⟨x, rfl, ho, hb⟩
  rw [unS_ln (sg_right hok) 60 hl, wi_hs] at ho
  obtain ⟨ax, cx, rfl, hsx⟩ := ho.sl
  exact ⟨ax, cx, by rw [wi_len], hsx.s, hb⟩
theorem sm_call (M : List (Int × Int)) (a b : Option Addr) (c d m : Nat) (w : World) (hm : M.length = m) (hl : m ≤ 100000) (ha : Signs w a M) (hb : Signs w b M) :
    Calls Tryd.prog 19 #[.slice a m c, .slice b m d] w fun e w' => e = .returned (.bool true) ∧ Below w.heap.size w w' := by
  subst hm
  have := sgsame_ref M M a b c d w (by omega) (by omega) ha hb
  rw [decide_eq_true rfl] at this
  exact this
set_option maxRecDepth 100000 in
set_option maxHeartbeats 4000000 in
theorem esctexts_good (h : List (List (Int × Int))) (a : Option Addr) (c : Nat) (w : World) (hT : UT w) (hs : SgsIn w a h) (hl : ltB h = true) (hok : sgA h = true) :
    Calls Tryd.prog 5 #[.slice a h.length c] w fun e w' => e = .returned (.bool true) ∧ Below w.heap.size w w' := by
  have HT := Lib.hid hT
  have HS := Lib.hid hs
  have AW := Lib.hid fun w h => eawake_any w h
  have hlt := lt_facts hl
  have hgd : ∀ l ∈ h, l.length ≤ 60 ∧ sgC l = true := fun l hm => ⟨hlt.2 l hm, List.all_eq_true.1 hok l hm⟩
  have LI := light_ref h a c w (by omega) hs
  rw [hl] at LI
  have hgd2 : ∀ l ∈ h, l.length ≤ 100 ∧ sgC l = true := fun l hm => ⟨by have := (hgd l hm).1; omega, (hgd l hm).2⟩
  have TX := Lib.hid fun w hs => etext_any h a c w (by omega) hs hgd2
  have RT := Lib.hid fun w hs => rtext_ref h a c w (by omega) hs hgd2
  have AL : Hid (∀ w, SgsIn w a h → Calls Tryd.prog 27 #[.slice a h.length c] w fun e w' => e = .returned (.bool true) ∧ Below w.heap.size w w') := Lib.hid fun w hs => by
    have := rall_ref h a c w (by omega) hs (fun l hm => (hgd2 l hm).1)
    rw [hok] at this; exact this
  have hE : (rdE (h.map lnL ++ [[]]) 60).drop ((rdE (h.map lnL ++ [[]]) 60).length - 30) = (neL h).map fun l => wiL l 3 := by
    rw [tx_rd hgd, show ((neL h).map fun l => wiL l 3).length - 30 = 0 by rw [List.length_map]; have := ne_len h; omega, List.drop_zero]
  have htl := tx_len hgd2
  have hta : ∀ p ∈ h.map lnL ++ [[]], Asc p ∧ p.length ≤ 100000 := by
    intro p hp
    rw [List.mem_append] at hp
    rcases hp with hp | hp
    · obtain ⟨l, hm, rfl⟩ := List.mem_map.1 hp
      have := lnL_len (sg_right (hgd l hm).2)
      have := (hgd l hm).1
      exact ⟨fun c hc => by have := lnL_ascii (hgd l hm).2 c hc; omega, by omega⟩
    · rw [List.mem_singleton] at hp
      subst hp
      exact ⟨fun c hc => absurd hc (List.not_mem_nil), by simp⟩
  have RD : Hid (∀ w, UT w → Calls Tryd.prog 33 #[.string (mkL (txL h)), .int .i64 30, .int .i64 60] w fun e w' => ∃ a c, e = .returned (.slice a ((neL h).map fun l => wiL l 3).length c) ∧ SgsIn w' a ((neL h).map fun l => wiL l 3) ∧ Below w.heap.size w w') := Lib.hid fun w hT => by
    have := eread_any (txL h) (h.map lnL ++ [[]]) 30 60 w hT (tx_pi fun l hm => (hgd l hm).2) (by omega) hta (by omega) (by omega) (by simp; omega)
    rw [hE] at this
    exact this
  have HG := Lib.hid hgd
  have hh := hlt.1
  have hne := ne_len h
  replace LI := Lib.hid LI
  clear hT hs hok hl hlt hgd hgd2 hE htl hta
  go_enter Tryd.func5, Tryd.ntmps5
  generalize hTX : mkL (txL h) = tx at *
  go_upto_region 9 with (first
    | (go_at_call 24; refine LI.out.mono ?_; rintro e w0 ⟨rfl, rfl⟩)
    | (go_at_call 26; refine (TX.out _ HS.out).mono ?_; rintro e w1 ⟨rfl, hb1⟩; have N1 := Lib.hid hb1; clear hb1 TX)
    | (go_at_call 27; refine (AL.out _ (HS.out.below N1.out)).mono ?_; rintro e w2 ⟨rfl, hb2⟩; have N2 := Lib.hid (seqB N1.out hb2); clear hb2 AL)
    | (go_at_call 28; refine (RT.out _ (HS.out.below N2.out)).mono ?_; rintro e w3 ⟨rfl, hb3⟩; have N3 := Lib.hid (seqB N2.out hb3); clear hb3 RT))
  clear AW LI
  go_loopw [5] (fun iv wr => ∃ k : Nat, k ≤ h.length ∧ iv = .int .i64 (k : Int) ∧ Hid (Below w.heap.size w wr)) (fun iv _ => h.length - (intOf iv).toNat)
  case atStart => exact ⟨0, Nat.zero_le _, rfl, N3⟩
  case round =>
    obtain ⟨k, hk, rfl, HB⟩ := hrel
    by_cases hlt : k < h.length
    · have hk1 : (k : Int) < h.length := by omega
      have hk0 : (0 : Int) ≤ k := by omega
      obtain ⟨bb, off, ai, ci, rfl, hblt, c0, hsi⟩ := (HS.out.below HB.out) k hlt
      have hgl := HG.out _ (getD_memL hlt)
      have EL := Lib.hid (eline_any (h.getD k []) ai ci wr (by omega) hsi hgl.2)
      obtain ⟨m, hm⟩ : ∃ m, (h.getD k []).length = m := ⟨_, rfl⟩
      have UN := Lib.hid fun w hT => un_call (h.getD k []) m w hT hm (by omega) hgl.2
      have WI := Lib.hid fun w hs => wi_call (h.getD k []) ai ci m w hm (by omega) hs
      have SM := Lib.hid fun a b c d w ha hb => sm_call (wiL (h.getD k []) 3) a b c d m w (by rw [wi_len]; exact hm) (by omega) ha hb
      have RL : Hid (∀ w, Signs w ai (h.getD k []) → Calls Tryd.prog 30 #[.slice ai m ci] w fun e w' => e = .returned (.string (mkL (lnL (h.getD k [])))) ∧ Below w.heap.size w w') := Lib.hid fun w hs => by
        rw [← hm]; exact rline_ref (h.getD k []) ai ci w (by omega) hs hgl.2
      have HSI := Lib.hid hsi
      rw [hm] at EL c0
      clear hm hgl hsi RD N3 N2 N1
      generalize mkL (lnL (h.getD k [])) = u at *
      generalize h.getD k [] = l at *
      go_upto_region 12 with (go_at_call 29; refine EL.out.mono ?_; rintro e w4 ⟨rfl, hb4⟩; have N4 := Lib.hid (seqB HB.out hb4); have S4 := Lib.hid (HSI.out.below hb4); have c4 := (hb4.cell (p := ⟨bb, off + k, none⟩) hblt).trans c0; have hblt4 := Nat.lt_of_lt_of_le hblt hb4.size; clear hb4 EL)
      have N5 := Lib.hid (N4.out.drew)
      have S5 : Hid (Signs w4.drew ai l) := S4
      have d0 : w4.drew.cell? ⟨bb, off + k, none⟩ = some (.slice ai m ci) := c4
      have T5 : Hid (UT w4.drew) := Lib.hid (HT.out.below N5.out)
      clear c0 HSI N4 S4
      go_region_held3 (fun w' => w'.cell? ⟨bb, off + k, none⟩ = some (.slice ai m ci)) (first | exact d0 | exact d6 | exact d7 | exact d8 | exact d9 | go_keep)
        (first
          | (go_at_call 30; refine (RL.out _ S5.out).mono ?_; rintro e w6 ⟨rfl, hb6⟩; have N6 := Lib.hid (seqB N5.out hb6); have S6 := Lib.hid (S5.out.below hb6); have T6 := Lib.hid (T5.out.below hb6); have d6 := (hb6.cell (p := ⟨bb, off + k, none⟩) hblt4).trans d0; have hblt6 := Nat.lt_of_lt_of_le hblt4 hb6.size; clear hb6 RL)
          | (go_at_call 31; refine (UN.out _ T6.out).mono ?_; rintro e w7 ⟨ax, cx, rfl, hsx, hb7⟩; have N7 := Lib.hid (seqB N6.out hb7); have S7 := Lib.hid (S6.out.below hb7); have X7 := Lib.hid hsx; have d7 := (hb7.cell (p := ⟨bb, off + k, none⟩) hblt6).trans d6; have hblt7 := Nat.lt_of_lt_of_le hblt6 hb7.size; clear hb7 hsx UN)
          | (go_at_call 32; refine (WI.out _ S7.out).mono ?_; rintro e w8 ⟨ay, cy, rfl, hsy, hb8⟩; have N8 := Lib.hid (seqB N7.out hb8); have X8 := Lib.hid (X7.out.below hb8); have Y8 := Lib.hid hsy; have d8 := (hb8.cell (p := ⟨bb, off + k, none⟩) hblt7).trans d7; have hblt8 := Nat.lt_of_lt_of_le hblt7 hb8.size; clear hb8 hsy WI)
          | (go_at_call 19; refine (SM.out _ _ _ _ _ X8.out Y8.out).mono ?_; rintro e w9 ⟨rfl, hb9⟩; have N9 := Lib.hid (seqB N8.out hb9); have d9 := (hb9.cell (p := ⟨bb, off + k, none⟩) hblt8).trans d8; clear hb9 SM))
      all_goals go_wp2
      all_goals go_roundw
      case rel => exact ⟨k + 1, by omega, by go_num, N9⟩
      case measure => (simp [intOf]; try omega)
    · obtain rfl : k = h.length := by omega
      have hkl : ¬ (h.length : Int) < (h.length : Int) := by omega
      have hEl : ((neL h).map fun l => wiL l 3).length = (neL h).length := List.length_map ..
      rw [hEl] at RD
      have hEg : ∀ j, j < (neL h).length → ((neL h).map fun l => wiL l 3).getD j [] = wiL ((neL h).getD j []) 3 := fun j hj => by
        rw [List.getD, List.getElem?_map, List.getD, List.getElem?_eq_getElem hj]; rfl
      have HEG := Lib.hid hEg
      have HEL := Lib.hid hEl
      have hn1 : (neL h).length ≤ 30 := by omega
      have HNT := Lib.hid (ne_take h)
      have HNA := Lib.hid (ne_at h)
      have hnil : Hid ((neL (h.take 0)).length = 0) := Lib.hid rfl
      have hall : Hid ((neL (h.take h.length)).length = (neL h).length) := Lib.hid (by rw [List.take_length])
      clear hEl hEg hne N3 N2 N1
      generalize hnn : (neL h).length = n at *
      have HNN := Lib.hid hnn; clear hnn
      generalize (neL h).map (fun l => wiL l 3) = E at *
      go_upto_region 17 with (go_at_call 33; refine (RD.out _ (HT.out.below HB.out)).mono ?_; rintro e w5 ⟨ae, ce, rfl, hse, hb5⟩; have N5 := Lib.hid (seqB HB.out hb5); have SE := Lib.hid hse; clear hb5 hse RD)
      clear HB
      have N0 : Hid (Below w5.heap.size w5 w5) := Lib.hid (Below.refl _ _)
      go_loopw [9, 10] (fun kv iv wr => ∃ i q : Nat, i ≤ h.length ∧ Hid ((neL (h.take i)).length = q) ∧ kv = .int .i64 (q : Int) ∧ iv = .int .i64 (i : Int) ∧ Hid (Below w5.heap.size w5 wr)) (fun _ iv _ => h.length - (intOf iv).toNat)
      case atStart => exact ⟨0, 0, Nat.zero_le _, hnil, rfl, rfl, N0⟩
      case round =>
        obtain ⟨i, q, hi, HQ, rfl, rfl, HB⟩ := hrel
        have NB := Lib.hid (seqB N5.out HB.out)
        clear N0
        by_cases hlt2 : i < h.length
        · have hi1 : (i : Int) < h.length := by omega
          have hi0 : (0 : Int) ≤ i := by omega
          obtain ⟨bb, off, ai, ci, rfl, hblt, c0, hsi⟩ := (HS.out.below NB.out) i hlt2
          have hgl := HG.out _ (getD_memL hlt2)
          have hnt := HNT.out i hlt2
          rw [HQ.out] at hnt
          obtain ⟨m, hm⟩ : ∃ m, (h.getD i []).length = m := ⟨_, rfl⟩
          rw [hm] at c0
          by_cases hm0 : m = 0
          · subst hm0
            rw [if_pos (List.length_eq_zero_iff.1 hm)] at hnt
            have HQ2 := Lib.hid hnt
            clear hnt hm hgl hsi
            go_wp2
            go_roundw
            case rel => exact ⟨i + 1, q, by omega, HQ2, rfl, by go_num, HB⟩
            case measure => (simp [intOf]; try omega)
          · have hm1 : ¬ (m : Int) = 0 := by omega
            have hnel : h.getD i [] ≠ [] := fun e => hm0 (by rw [← hm, e]; rfl)
            rw [if_neg hnel] at hnt
            have HQ2 := Lib.hid hnt
            obtain ⟨hqn, hqa⟩ := HNA.out i hlt2 hnel
            rw [HQ.out] at hqn hqa
            have hq1 : (q : Int) < (n : Int) := by omega
            have hq0 : (0 : Int) ≤ q := by omega
            have hge : ¬ (n : Int) ≤ (q : Int) := by omega
            obtain ⟨be, oe, aj, cj, rfl, hblte, ce0, hsj⟩ := (SE.out.below HB.out) q (by rw [HEL.out]; exact hqn)
            have hEq : E.getD q [] = wiL (h.getD i []) 3 := by rw [HEG.out q (by omega), hqa]
            rw [hEq] at ce0 hsj
            rw [wi_len, hm] at ce0
            have WI := Lib.hid fun w hs => wi_call (h.getD i []) ai ci m w hm (by omega) hs
            have SM := Lib.hid fun a b c d w ha hb => sm_call (wiL (h.getD i []) 3) a b c d m w (by rw [wi_len]; exact hm) (by omega) ha hb
            have HSI : Hid (Signs wr.drew ai (h.getD i [])) := Lib.hid hsi
            have HSJ : Hid (Signs wr.drew aj (wiL (h.getD i []) 3)) := Lib.hid hsj
            have d0 : wr.drew.cell? ⟨bb, off + i, none⟩ = some (.slice ai m ci) := c0
            have g0 : wr.drew.cell? ⟨be, oe + q, none⟩ = some (.slice aj m cj) := ce0
            have NB5 := Lib.hid HB.out.drew
            clear hnt hm hgl hsi hsj hqa hEq hnel HQ
            generalize h.getD i [] = l at *
            go_upto_region 20 with fail
            go_region_held3 (fun w' => w'.cell? ⟨bb, off + i, none⟩ = some (.slice ai m ci) ∧ w'.cell? ⟨be, oe + q, none⟩ = some (.slice aj m cj)) (first | exact ⟨d0, g0⟩ | exact ⟨d8, g8⟩ | exact ⟨d9, g9⟩ | go_keep)
              (first
                | (go_at_call 32; refine (WI.out _ HSI.out).mono ?_; rintro e w8 ⟨ay, cy, rfl, hsy, hb8⟩; have N8 := Lib.hid (NB5.out.trans (hb8.mono NB5.out.size)); have X8 := Lib.hid (HSJ.out.below hb8); have Y8 := Lib.hid hsy; have d8 := (hb8.cell (p := ⟨bb, off + i, none⟩) hblt).trans d0; have g8 := (hb8.cell (p := ⟨be, oe + q, none⟩) hblte).trans g0; have hx8 := Nat.lt_of_lt_of_le hblt hb8.size; have hy8 := Nat.lt_of_lt_of_le hblte hb8.size; clear hb8 hsy WI)
                | (go_at_call 19; refine (SM.out _ _ _ _ _ X8.out Y8.out).mono ?_; rintro e w9 ⟨rfl, hb9⟩; have N9 := Lib.hid (N8.out.trans (hb9.mono N8.out.size)); have d9 := (hb9.cell (p := ⟨bb, off + i, none⟩) hx8).trans d8; have g9 := (hb9.cell (p := ⟨be, oe + q, none⟩) hy8).trans g8; clear hb9 SM))
            all_goals go_wp2
            all_goals go_roundw
            case rel => exact ⟨i + 1, q + 1, by omega, HQ2, by go_num, by go_num, N9⟩
            case measure => (simp [intOf]; try omega)
        · obtain rfl : i = h.length := by omega
          have hq := HQ.out
          rw [hall.out] at hq
          subst hq
          have AW := Lib.hid (eawake_any wr (HT.out.below NB.out))
          go_wp2_with (go_at_call 25; refine AW.out.mono ?_; rintro e w6 ⟨rfl, hb6⟩)
          go_ret
          exact ⟨rfl, seqB NB.out hb6⟩
theorem esctexts_any (h : List (List (Int × Int))) (a : Option Addr) (c : Nat) (w : World) (hT : UT w) (hl : h.length ≤ 9223372036854775807) (hs : SgsIn w a h) :
    Calls Tryd.prog 5 #[.slice a h.length c] w fun e w' => e = .returned (.bool true) ∧ Below w.heap.size w w' := by
  cases h1 : ltB h with
  | false => exact esctexts_far h a c w hT hl hs h1
  | true =>
    cases h2 : sgA h with
    | false => exact esctexts_bad h a c w hT hs h1 h2
    | true => exact esctexts_good h a c w hT hs h1 h2
end Go.Proofs.YtdhhfbglbihapaaDoor
set_option linter.unusedVariables false
set_option linter.unusedSimpArgs false
namespace Go.Proofs.YtdhhfbglbihapaaDoor
open Go.ChangeShapes Go.WideShapes Go.ChangeAt Go.RowKit Go.Deep Go.Joins
/-- Signs that came in: where, what, and their room. -/
structure SgArg where
  a : Option Addr
  l : List (Int × Int)
  c : Nat
def SgArg.zero : SgArg := ⟨none, [], 0⟩
def SgArg.In (w : World) (B : Nat) (x : SgArg) : Prop := SlS (fun k => k < B) w x.a x.l x.c ∧ x.l.length ≤ 9223372036854775807
theorem SgArg.In.below {w w' : World} {x : SgArg} (h : x.In w w.heap.size) (hb : Below w.heap.size w w') : x.In w' w.heap.size := ⟨h.1.below hb, h.2⟩
section
variable {H : Type} {enc : TypeId × Value → H} {W : World}
theorem trod_sgarg {v0 : Value} {fuel : Nat} {x : DataW H × List MemPlace} (hf : DataW.trod enc Tryd.prog W 0 (fun _ => true) true fuel 31 [v0] = some x) :
    ∃ y : SgArg, v0 = .slice y.a y.l.length y.c ∧ y.In W W.heap.size := by
  rcases open_slice_pairs Tryd.underlying31 Tryd.underlying89 cellsSign rfl rfl cellsIntS cellsIntS hf with ⟨hcs, _⟩ | ⟨a, len, cap, m, n, V0, V1, D0, D1, P0, P1, hcs, _, hl, hm, hmm, _, hcell⟩
  · obtain rfl : v0 = .slice none 0 0 := by simpa using hcs
    exact ⟨⟨none, [], 0⟩, rfl, ⟨fun j hj => absurd hj (Nat.not_lt_zero j), Nat.le_refl _, fun _ => rfl, fun ad e => by cases e⟩, by simp⟩
  · obtain rfl : v0 = .slice (some a) len cap := by simpa using hcs
    have hlm : len ≤ m := by rw [hmm]; split <;> omega
    have key : ∀ i, i < len → ∃ q : Int × Int, V0 i = .int .i64 q.1 ∧ V1 i = .int .i64 q.2 := fun i hi => by
      obtain ⟨_, _, h1, h2⟩ := hcell i (by omega)
      obtain ⟨x, hx, _, _⟩ := DataW.trod_int Tryd.underlying3 h1
      obtain ⟨y, hy, _, _⟩ := DataW.trod_int Tryd.underlying3 h2
      exact ⟨(x, y), by simpa using hx, by simpa using hy⟩
    obtain ⟨F, hF⟩ : ∃ F : Nat → Int × Int, ∀ i, i < len → V0 i = .int .i64 (F i).1 ∧ V1 i = .int .i64 (F i).2 :=
      ⟨fun i => if h : i < len then (key i h).choose else (0, 0), fun i hi => by simp only [dif_pos hi]; exact (key i hi).choose_spec⟩
    clear key
    have hs : Signs W (some a) ((List.range len).map F) := by
      intro j hj
      have hj2 : j < len := by simpa using hj
      obtain ⟨c0, c1, _, _⟩ := hcell j (by omega)
      have hk := hF j hj2
      obtain ⟨b, off, sp⟩ := a
      have hsp : sp = none := by
        obtain ⟨c00, _⟩ := hcell 0 (by omega)
        have h1 : W.cell? ⟨b, off, sp⟩ = some (V0 0) := by simpa [Addr.add] using c00
        exact cell_spot h1
      subst hsp
      rw [addS_none] at c0 c1
      have hg : ((List.range len).map F).getD j (0, 0) = F j := by
        rw [List.getD, List.getElem?_map, List.getElem?_range hj2]; rfl
      rw [hg]
      refine ⟨b, off, rfl, block_lt_of_cell c0, ?_, ?_⟩
      · rw [c0, hk.1]
      · rw [show off + j * 2 + 1 = off + (j * 2 + 1) by omega, c1, hk.2]
    refine ⟨⟨some a, (List.range len).map F, cap⟩, by simp, ⟨hs, by simpa using hl, fun e => (by cases e), fun ad e hn => ?_⟩, by simp; unfold maxLen at hm; omega⟩
    obtain ⟨b, off, e2, hb, _⟩ := hs 0 (List.length_pos_iff.2 hn)
    have e3 : some a = some ad := e
    rw [e3] at e2; cases e2; exact hb
/-- Calls lie in memory: two numbers and signs each. -/
def CallsIn (w : World) (B : Nat) (a : Option Addr) (l : List (Int × Int × SgArg)) : Prop :=
  ∀ i, i < l.length → ∃ b off, a = some ⟨b, off, none⟩ ∧ b < B ∧ w.cell? ⟨b, off + i * 3, none⟩ = some (.int .i64 (l.getD i (0, 0, SgArg.zero)).1) ∧ w.cell? ⟨b, off + i * 3 + 1, none⟩ = some (.int .i64 (l.getD i (0, 0, SgArg.zero)).2.1) ∧
    w.cell? ⟨b, off + i * 3 + 2, none⟩ = some (.slice (l.getD i (0, 0, SgArg.zero)).2.2.a (l.getD i (0, 0, SgArg.zero)).2.2.l.length (l.getD i (0, 0, SgArg.zero)).2.2.c) ∧ (l.getD i (0, 0, SgArg.zero)).2.2.In w B ∧
    (-9223372036854775808 ≤ (l.getD i (0, 0, SgArg.zero)).2.1 ∧ (l.getD i (0, 0, SgArg.zero)).2.1 ≤ 9223372036854775807)
theorem CallsIn.below {w0 w' : World} {a : Option Addr} {l : List (Int × Int × SgArg)} (h : CallsIn w0 w0.heap.size a l) (hb : Below w0.heap.size w0 w') : CallsIn w' w0.heap.size a l := fun i hi => by
  obtain ⟨b, off, e, hlt, h1, h2, h3, h4, h5⟩ := h i hi
  exact ⟨b, off, e, hlt, (hb.cell (p := ⟨b, off + i * 3, none⟩) hlt).trans h1, (hb.cell (p := ⟨b, off + i * 3 + 1, none⟩) hlt).trans h2, (hb.cell (p := ⟨b, off + i * 3 + 2, none⟩) hlt).trans h3, h4.below hb, h5⟩
set_option maxRecDepth 100000 in
theorem cellsSgs : Tryd.prog.cellsOf 31 = 1 := by kernel_rfl
end
end Go.Proofs.YtdhhfbglbihapaaDoor
set_option linter.unusedVariables false
set_option linter.unusedSimpArgs false
namespace Go.Proofs.YtdhhfbglbihapaaDoor
open Go.ChangeShapes Go.WideShapes Go.ChangeAt Go.RowKit Go.Deep Go.Joins
/-- Lists of signs that came in. -/
def HistIn (w : World) (B : Nat) (a : Option Addr) (H : List SgArg) : Prop :=
  ∀ i, i < H.length → ∃ b off, a = some ⟨b, off, none⟩ ∧ b < B ∧ w.cell? ⟨b, off + i, none⟩ = some (.slice (H.getD i SgArg.zero).a (H.getD i SgArg.zero).l.length (H.getD i SgArg.zero).c) ∧ (H.getD i SgArg.zero).In w B
theorem HistIn.below {w w' : World} {a : Option Addr} {H : List SgArg} (h : HistIn w w.heap.size a H) (hb : Below w.heap.size w w') : HistIn w' w.heap.size a H := fun i hi => by
  obtain ⟨b, off, e, hlt, h1, h2⟩ := h i hi
  exact ⟨b, off, e, hlt, (hb.cell (p := ⟨b, off + i, none⟩) hlt).trans h1, h2.below hb⟩
section
variable {H : Type} {enc : TypeId × Value → H} {W : World}
set_option maxRecDepth 100000 in
theorem cellsSgs1 : Tryd.prog.cellsOf 31 = 1 := by kernel_rfl
theorem cell_spotS {w : World} {b off : Nat} {sp : Option Nat} {x : Option Addr} {n c : Nat} (h : w.cell? ⟨b, off, sp⟩ = some (.slice x n c)) : sp = none := by
  cases sp with
  | none => rfl
  | some k =>
    exfalso
    unfold World.cell? at h
    split at h <;> simp_all
set_option maxRecDepth 100000 in
theorem arg_hist {base : Nat} {v0 : Value} {d0 : DataW H} {p : List MemPlace} (hv : Value.okWide Tryd.prog W .any base 28 v0) (h : DataW.Trod enc Tryd.prog W 0 (fun _ => true) true 28 v0 d0 p) :
    ∃ (l : List SgArg) (a : Option Addr) (c : Nat), v0 = .slice a l.length c ∧ HistIn W W.heap.size a l ∧ l.length ≤ 9223372036854775807 := by
  obtain ⟨a0, len, cap, rfl⟩ := okWide_slice Tryd.underlying28 hv
  obtain ⟨fuel, hf⟩ := h
  rcases open_slice Tryd.underlying28 hf with ⟨hcs, _⟩ | ⟨a, len', cap', m, n, D, Pl, hcs, _, hl, hm, hmm, _, hx⟩
  · simp [Value.cells] at hcs
    obtain ⟨rfl, rfl, rfl⟩ := hcs
    exact ⟨[], none, 0, rfl, fun j hj => absurd hj (Nat.not_lt_zero j), by simp⟩
  · simp [Value.cells] at hcs
    obtain ⟨rfl, rfl, rfl⟩ := hcs
    have hlm : len ≤ m := by rw [hmm]; split <;> omega
    have key : ∀ i, i < len → ∃ q : SgArg, W.cell? (a.add i) = some (.slice q.a q.l.length q.c) ∧ q.In W W.heap.size := by
      intro i hi
      obtain ⟨cs', h1, h2⟩ := hx i (by omega)
      rw [cellsSgs1] at h1
      obtain ⟨_, hlen, hcell⟩ := World.cells?_some h1
      match cs', hlen with
      | [u0], _ =>
        have e0 := hcell 0 (by omega)
        rw [add_add] at e0
        obtain ⟨y, hy, hin⟩ := trod_sgarg h2
        subst hy
        exact ⟨y, by simpa using e0, hin⟩
    obtain ⟨F, hF⟩ : ∃ F : Nat → SgArg, ∀ i, i < len → W.cell? (a.add i) = some (.slice (F i).a (F i).l.length (F i).c) ∧ (F i).In W W.heap.size :=
      ⟨fun i => if h : i < len then (key i h).choose else SgArg.zero, fun i hi => by simp only [dif_pos hi]; exact (key i hi).choose_spec⟩
    clear key
    refine ⟨(List.range len).map F, some a, cap, by simp, ?_, by simp; unfold maxLen at hm; omega⟩
    intro j hj
    have hj2 : j < len := by simpa using hj
    obtain ⟨c0, c1⟩ := hF j hj2
    obtain ⟨b, off, sp⟩ := a
    have hsp : sp = none := by
      obtain ⟨c00, _⟩ := hF 0 (by omega)
      have h1 : W.cell? ⟨b, off, sp⟩ = some (.slice (F 0).a (F 0).l.length (F 0).c) := by simpa [Addr.add] using c00
      exact cell_spotS h1
    subst hsp
    rw [addS_none] at c0
    have hg : ((List.range len).map F).getD j SgArg.zero = F j := by
      rw [List.getD, List.getElem?_map, List.getElem?_range hj2]; rfl
    rw [hg]
    exact ⟨b, off, rfl, block_lt_of_cell c0, c0, c1⟩
end
end Go.Proofs.YtdhhfbglbihapaaDoor
set_option linter.unusedVariables false
set_option linter.unusedSimpArgs false
namespace Go.Proofs.YtdhhfbglbihapaaDoor
open Go.RowKit
theorem HistIn.sgs {w : World} {B : Nat} {a : Option Addr} {H : List SgArg} (h : HistIn w B a H) (hB : B ≤ w.heap.size) : SgsIn w a (H.map (·.l)) := fun i hi => by
  rw [List.length_map] at hi
  obtain ⟨b, off, e, hlt, h1, h2⟩ := h i hi
  have hg : (H.map (·.l)).getD i [] = (H.getD i SgArg.zero).l := by
    rw [List.getD, List.getElem?_map, List.getD, List.getElem?_eq_getElem hi]; rfl
  rw [hg]
  exact ⟨b, off, _, _, e, by omega, h1, h2.1.s⟩
theorem esctexts_hist (H : List SgArg) (a : Option Addr) (c : Nat) (w : World) (hT : UT w) (hl : H.length ≤ 9223372036854775807) (hs : HistIn w w.heap.size a H) :
    Calls Tryd.prog 5 #[.slice a H.length c] w fun e w' => e = .returned (.bool true) ∧ Below w.heap.size w w' := by
  have := esctexts_any (H.map (·.l)) a c w hT (by rw [List.length_map]; exact hl) (hs.sgs (Nat.le_refl _))
  rw [List.length_map] at this
  exact this
end Go.Proofs.YtdhhfbglbihapaaDoor
