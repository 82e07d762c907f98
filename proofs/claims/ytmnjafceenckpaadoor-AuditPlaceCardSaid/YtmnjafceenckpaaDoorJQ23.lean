/-
  Joined: Fr2 Fr3 Fr4 Fr5 Fr6 Au12 Au13 Au14.
-/
import Derived.Test.YtmnjafceenckpaaDoorJQ07
import Derived.Test.YtmnjafceenckpaaDoorJQ18
import Derived.Test.YtmnjafceenckpaaDoorJQ21
import Derived.Test.YtmnjafceenckpaaDoorJQ22
import Derived.RangeFuncNested
import Derived.RangeFuncBound
import Derived.RangeFuncCalls
import Derived.RangeFuncLeaves
import Derived.Shelf.Abstract
import Derived.Shelf.RegionOpen
import Derived.WalkKit
import Derived.OwnWalkIn
import Derived.TacticsInMore
import Derived.LoopNIn
import Derived.LoopIn
import Derived.Maps.AppendAt
set_option linter.unusedVariables false
set_option linter.unusedSimpArgs false
set_option maxRecDepth 100000
set_option linter.unusedVariables false
set_option linter.unusedSimpArgs false
namespace Go.Proofs.YtmnjafceenckpaaDoor
open Go.RowKit Go.Shelf
attribute [local go_sem] Oper.semAt_some
/-- What is told of an item, as the values of a round. -/
def encF (l : List It) (n : Nat) (i : Fin n) : Array Value := #[.int .i64 (i.val : Int), .agg #[.bool (plA l i.val).1, .bool (plA l i.val).2.1, .bool (plA l i.val).2.2]]
def upN (n i : Nat) : List (Fin n) := (List.finRange n).take i
theorem upN_succ {n i : Nat} (h : i < n) : upN n (i + 1) = upN n i ++ [⟨i, h⟩] := by
  unfold upN
  rw [List.take_succ_eq_append_getElem (by simpa using h)]
  simp
theorem upN_all (n : Nat) : upN n n = List.finRange n := by
  unfold upN
  rw [List.take_of_length_le (by simp)]
theorem upN_len {n i : Nat} (h : i ≤ n) : (upN n i).length = i := by
  unfold upN
  rw [List.length_take]; simp; omega
theorem items_on {n₀ : Nat} {w w' : World} {a : Option Addr} {l : List It} (h : ItemsIn (fun j => j < n₀) w a l) (k : Below n₀ w w') : ItemsIn (fun j => j < n₀) w' a l := fun i hi => by
  obtain ⟨b, off, e, hb, h1, h2⟩ := h i hi
  exact ⟨b, off, e, hb, (k.cell (p := ⟨b, off + i * 2, none⟩) hb).trans h1, (k.cell (p := ⟨b, off + i * 2 + 1, none⟩) hb).trans h2⟩
set_option maxRecDepth 100000 in
set_option maxHeartbeats 4000000 in
theorem walk_stops (k : Nat) (hk : 1 ≤ k) (l : List It) (a : Option Addr) (n c bx n₀ : Nat) (w : World) (hn : l.length = n) (hl : n ≤ 400) (hbx : w.heap[bx]? = some (.cells #[.slice a n c] 37 (0, 0))) (hI : ItemsIn (fun j => j < n₀) w a l) (hw : n₀ ≤ w.heap.size) :
    SeqStopsK Fence.wide k Tryd.prog 47 #[.pointer (some ⟨bx, 0, none⟩)] (encF l n) (Below n₀) (fun ys => ys = List.finRange n) (fun _ => True) n w := fun L J Jx W hW hJ hJx hY h0 => by
  have grow := Lib.hid fun (pre : List (Fin n)) (W1 W2 : World) (h : J pre W1) (b : Below W1.heap.size W1 W2) (hz : W.heap.size ≤ W1.heap.size) => hJ pre W1 W2 none h ⟨b.os, b.tape, b.output, b.size, fun k hk _ => b.block k hk⟩ (fun r e => by cases e)
  have HY := Lib.hid hY
  have c0 := cell_of_row _ _ 0 _ _ _ (blk_below hbx hW)
  dsimp at c0
  have HI : Hid (ItemsIn (fun j => j < n₀) W a l) := Lib.hid (fun i hi => by
    obtain ⟨b, off, e, hb, h1, h2⟩ := hI i hi
    have hbw := Nat.lt_of_lt_of_le hb hw
    exact ⟨b, off, e, hb, (hW.cell (p := ⟨b, off + i * 2, none⟩) hbw).trans h1, (hW.cell (p := ⟨b, off + i * 2 + 1, none⟩) hbw).trans h2⟩)
  have HW : Hid (n₀ ≤ W.heap.size) := Lib.hid (Nat.le_trans hw hW.size)
  have HN := Lib.hid hn
  have H0 := Lib.hid h0
  have FU := Lib.hid further_any
  have OT := Lib.hid other_any
  clear hY hJ hJx hbx hI hw hW hn h0
  refine callsIn_of_wp Tryd.func47 rfl trivial ?_ rfl
  simp only [Tryd.ntmps47, List.size_toArray, List.length_cons, List.length_nil, Nat.reduceAdd, Nat.reduceSub, Array.replicate_succ, Array.replicate_zero, List.push_toArray, List.append_toArray, List.nil_append, List.cons_append]
  gi_wp2
  gi_loopw [3, 4, 10] (fun mv sv iv wr => ∃ (i st : Nat) (ins : Bool), i ≤ n ∧ iv = .int .i64 (i : Int) ∧ mv = .string (mkL (mkM ins)) ∧ sv = .int .i64 (st : Int) ∧ Hid (wkA (false, 0) (l.take i) = (ins, st)) ∧ Hid (ItemsIn (fun j => j < n₀) wr a l) ∧ Hid (W.heap.size ≤ wr.heap.size) ∧ Hid (J (upN n i) wr)) (fun _ _ iv _ => n - (intOf iv).toNat)
  case atStart => exact ⟨0, 0, false, Nat.zero_le _, rfl, rfl, rfl, Lib.hid rfl, HI, Lib.hid (Nat.le_refl _), H0⟩
  case round =>
    clear HI H0
    obtain ⟨i, st, ins, hi, rfl, rfl, rfl, HA, HI, HZ, HJ⟩ := hrel
    by_cases hlt : i < n
    · have hil : i < l.length := by rw [HN.out]; exact hlt
      obtain ⟨b, off, rfl, hb, i0, i1⟩ := HI.out i hil
      have hi1 : (i : Int) < n := by omega
      have hi0 : (0 : Int) ≤ i := by omega
      have hst := wkA_lt (s := (false, 0)) (by decide) (l.take i)
      rw [HA.out] at hst
      dsimp only at hst
      have htk : l.take (i + 1) = l.take i ++ [l.getD i (false, 0)] := by
        rw [List.take_succ_eq_append_getElem hil, List.getD, List.getElem?_eq_getElem hil]; rfl
      generalize hx : l.getD i (false, 0) = x at *
      obtain ⟨t, u⟩ := x
      dsimp only at i0 i1
      clear hil
      cases ins
      · cases t
        · by_cases h6 : fuR beL st u = 6
          · have hw1 : wkS (false, st) (false, u) = fuR beL st u := rfl
            rw [h6] at hw1
            have hpl : plA l i = (false, true, false) := by unfold plA; rw [HA.out, hx]; unfold wkP; rw [decide_eq_true hw1]; rfl
            have hnx : wkA (false, 0) (l.take (i + 1)) = (!false, 0) := by rw [htk, wkA_snoc, HA.out]; unfold wkN; rw [if_pos hw1]
            have b2 := seqB (below_alloc wr (.cells #[.bool false, .int .u8 (u.toNat : Int)] 56)) (below_alloc (wr.alloc (.cells #[.bool false, .int .u8 (u.toNat : Int)] 56)) (.cells #[.bool false, .bool true, .bool false] 68))
            have hj := grow.out _ _ _ HJ.out b2 HZ.out
            obtain ⟨fn, tmps, assign, body, hy, hR⟩ := HY.out _ ⟨i, hlt⟩ _ hj (by rw [upN_len hi]; exact hlt)
            unfold encF at hy
            dsimp only at hy
            rw [hpl] at hy
            dsimp only at hy
            have HR := Lib.hid hR
            have NX := Lib.hid hnx
            have B2 := Lib.hid b2
            have FUi : Hid (∀ w, Calls Tryd.prog 48 #[.string ⟨#[27, 91, 50, 48, 48, 126]⟩, .int .i64 (st : Int), .int .u8 (u.toNat : Int)] w fun e w' => e = .returned (.int .i64 (fuR beL st u : Int)) ∧ w = w') := Lib.hid (fun w => FU.out beL rfl st hst u w)
            rw [h6] at FUi
            have OTi : Hid (∀ w, Calls Tryd.prog 49 #[.string ⟨#[27, 91, 50, 48, 48, 126]⟩] w fun e w' => e = .returned (.string ⟨#[27, 91, 50, 48, 49, 126]⟩) ∧ w = w') := Lib.hid (fun w => OT.out false w)
            clear hR hj hnx hpl htk b2 hw1 HJ h6
            rw [show mkL (mkM false) = ⟨#[27, 91, 50, 48, 48, 126]⟩ from rfl]
            gi_wp2_with (first
              | (refine ⟨trivial, ?_⟩; gi_at_call 48; refine (callsIn_wide.2 (FUi.out _)).mono ?_; rintro e w3 ⟨rfl, rfl⟩)
              | (refine ⟨trivial, ?_⟩; gi_at_call 49; refine (callsIn_wide.2 (OTi.out _)).mono ?_; rintro e w4 ⟨rfl, rfl⟩))
            refine HR.out.mono ?_
            rintro e W3 (⟨rfl, hJ3, hk3⟩ | ⟨rfl, hJx3⟩)
            · have J3 := Lib.hid hJ3
              have I3 : Hid (ItemsIn (fun j => j < n₀) W3 _ l) := Lib.hid (items_on (items_on HI.out (B2.out.mono (Nat.le_trans HW.out HZ.out))) hk3)
              have Z3 := Lib.hid (Nat.le_trans (Nat.le_trans HZ.out B2.out.size) hk3.size)
              clear hJ3 hk3
              gi_wp2
              go_roundw
              case rel => exact ⟨i + 1, 0, true, by omega, by go_num, rfl, rfl, NX, I3, Z3, Lib.hid (by rw [upN_succ hlt]; exact J3.out)⟩
              case measure => (simp [intOf]; try omega)
            · have JX := Lib.hid hJx3
              clear hJx3
              gi_wp2
              refine bodyPost_ret (results_none rfl _ _ _) rfl ?_
              exact ⟨⟨_, rfl⟩, .inr ⟨_, trivial, JX.out⟩⟩
          · have hw1 : wkS (false, st) (false, u) = fuR beL st u := rfl
            have h6' : ¬ wkS (false, st) (false, u) = 6 := by rw [hw1]; exact h6
            have hpl : plA l i = (false, false, false) := by unfold plA; rw [HA.out, hx]; unfold wkP; rw [decide_eq_false h6']; rfl
            have hnx : wkA (false, 0) (l.take (i + 1)) = (false, fuR beL st u) := by rw [htk, wkA_snoc, HA.out]; unfold wkN; rw [if_neg h6', hw1]
            have b2 := seqB (below_alloc wr (.cells #[.bool false, .int .u8 (u.toNat : Int)] 56)) (below_alloc (wr.alloc (.cells #[.bool false, .int .u8 (u.toNat : Int)] 56)) (.cells #[.bool false, .bool false, .bool false] 68))
            have hj := grow.out _ _ _ HJ.out b2 HZ.out
            obtain ⟨fn, tmps, assign, body, hy, hR⟩ := HY.out _ ⟨i, hlt⟩ _ hj (by rw [upN_len hi]; exact hlt)
            unfold encF at hy
            dsimp only at hy
            rw [hpl] at hy
            dsimp only at hy
            have HR := Lib.hid hR
            have NX := Lib.hid hnx
            have B2 := Lib.hid b2
            have FUi : Hid (∀ w, Calls Tryd.prog 48 #[.string ⟨#[27, 91, 50, 48, 48, 126]⟩, .int .i64 (st : Int), .int .u8 (u.toNat : Int)] w fun e w' => e = .returned (.int .i64 (fuR beL st u : Int)) ∧ w = w') := Lib.hid (fun w => FU.out beL rfl st hst u w)
            have h6b : ((fuR beL st u : Int) == 6) = false := by rw [beq_eq_false_iff_ne]; omega
            generalize fuR beL st u = z at *
            clear hR hj hnx hpl htk b2 hw1 HJ h6' h6
            rw [show mkL (mkM false) = ⟨#[27, 91, 50, 48, 48, 126]⟩ from rfl]
            gi_wp2_with (first
              | (refine ⟨trivial, ?_⟩; gi_at_call 48; refine (callsIn_wide.2 (FUi.out _)).mono ?_; rintro e w3 ⟨rfl, rfl⟩)
              | (refine ⟨trivial, ?_⟩; gi_at_call 49; refine (callsIn_wide.2 (OTi.out _)).mono ?_; rintro e w4 ⟨rfl, rfl⟩))
            refine HR.out.mono ?_
            rintro e W3 (⟨rfl, hJ3, hk3⟩ | ⟨rfl, hJx3⟩)
            · have J3 := Lib.hid hJ3
              have I3 : Hid (ItemsIn (fun j => j < n₀) W3 _ l) := Lib.hid (items_on (items_on HI.out (B2.out.mono (Nat.le_trans HW.out HZ.out))) hk3)
              have Z3 := Lib.hid (Nat.le_trans (Nat.le_trans HZ.out B2.out.size) hk3.size)
              clear hJ3 hk3
              gi_wp2
              go_roundw
              case rel => exact ⟨i + 1, z, false, by omega, by go_num, rfl, rfl, NX, I3, Z3, Lib.hid (by rw [upN_succ hlt]; exact J3.out)⟩
              case measure => (simp [intOf]; try omega)
            · have JX := Lib.hid hJx3
              clear hJx3
              gi_wp2
              refine bodyPost_ret (results_none rfl _ _ _) rfl ?_
              exact ⟨⟨_, rfl⟩, .inr ⟨_, trivial, JX.out⟩⟩
        · have hw1 : wkS (false, st) (true, u) = 0 := rfl
          have h6' : ¬ wkS (false, st) (true, u) = 6 := by rw [hw1]; omega
          have hpl : plA l i = (false, false, false) := by unfold plA; rw [HA.out, hx]; unfold wkP; rw [decide_eq_false h6']; rfl
          have hnx : wkA (false, 0) (l.take (i + 1)) = (false, 0) := by rw [htk, wkA_snoc, HA.out]; unfold wkN; rw [if_neg h6', hw1]
          have b2 := seqB (below_alloc wr (.cells #[.bool true, .int .u8 (u.toNat : Int)] 56)) (below_alloc (wr.alloc (.cells #[.bool true, .int .u8 (u.toNat : Int)] 56)) (.cells #[.bool false, .bool false, .bool false] 68))
          have hj := grow.out _ _ _ HJ.out b2 HZ.out
          obtain ⟨fn, tmps, assign, body, hy, hR⟩ := HY.out _ ⟨i, hlt⟩ _ hj (by rw [upN_len hi]; exact hlt)
          unfold encF at hy
          dsimp only at hy
          rw [hpl] at hy
          dsimp only at hy
          have HR := Lib.hid hR
          have NX := Lib.hid hnx
          have B2 := Lib.hid b2
          clear hR hj hnx hpl htk b2 hw1 HJ h6'
          rw [show mkL (mkM false) = ⟨#[27, 91, 50, 48, 48, 126]⟩ from rfl]
          gi_wp2_with (first
            | (refine ⟨trivial, ?_⟩; gi_at_call 48; refine (callsIn_wide.2 (FUi.out _)).mono ?_; rintro e w3 ⟨rfl, rfl⟩)
            | (refine ⟨trivial, ?_⟩; gi_at_call 49; refine (callsIn_wide.2 (OTi.out _)).mono ?_; rintro e w4 ⟨rfl, rfl⟩))
          refine HR.out.mono ?_
          rintro e W3 (⟨rfl, hJ3, hk3⟩ | ⟨rfl, hJx3⟩)
          · have J3 := Lib.hid hJ3
            have I3 : Hid (ItemsIn (fun j => j < n₀) W3 _ l) := Lib.hid (items_on (items_on HI.out (B2.out.mono (Nat.le_trans HW.out HZ.out))) hk3)
            have Z3 := Lib.hid (Nat.le_trans (Nat.le_trans HZ.out B2.out.size) hk3.size)
            clear hJ3 hk3
            gi_wp2
            go_roundw
            case rel => exact ⟨i + 1, 0, false, by omega, by go_num, rfl, rfl, NX, I3, Z3, Lib.hid (by rw [upN_succ hlt]; exact J3.out)⟩
            case measure => (simp [intOf]; try omega)
          · have JX := Lib.hid hJx3
            clear hJx3
            gi_wp2
            refine bodyPost_ret (results_none rfl _ _ _) rfl ?_
            exact ⟨⟨_, rfl⟩, .inr ⟨_, trivial, JX.out⟩⟩
      · cases t
        · by_cases h6 : fuR peL st u = 6
          · have hw1 : wkS (true, st) (false, u) = fuR peL st u := rfl
            rw [h6] at hw1
            have hpl : plA l i = (true, false, true) := by unfold plA; rw [HA.out, hx]; unfold wkP; rw [decide_eq_true hw1]; rfl
            have hnx : wkA (false, 0) (l.take (i + 1)) = (!true, 0) := by rw [htk, wkA_snoc, HA.out]; unfold wkN; rw [if_pos hw1]
            have b2 := seqB (below_alloc wr (.cells #[.bool false, .int .u8 (u.toNat : Int)] 56)) (below_alloc (wr.alloc (.cells #[.bool false, .int .u8 (u.toNat : Int)] 56)) (.cells #[.bool true, .bool false, .bool true] 68))
            have hj := grow.out _ _ _ HJ.out b2 HZ.out
            obtain ⟨fn, tmps, assign, body, hy, hR⟩ := HY.out _ ⟨i, hlt⟩ _ hj (by rw [upN_len hi]; exact hlt)
            unfold encF at hy
            dsimp only at hy
            rw [hpl] at hy
            dsimp only at hy
            have HR := Lib.hid hR
            have NX := Lib.hid hnx
            have B2 := Lib.hid b2
            have FUi : Hid (∀ w, Calls Tryd.prog 48 #[.string ⟨#[27, 91, 50, 48, 49, 126]⟩, .int .i64 (st : Int), .int .u8 (u.toNat : Int)] w fun e w' => e = .returned (.int .i64 (fuR peL st u : Int)) ∧ w = w') := Lib.hid (fun w => FU.out peL rfl st hst u w)
            rw [h6] at FUi
            have OTi : Hid (∀ w, Calls Tryd.prog 49 #[.string ⟨#[27, 91, 50, 48, 49, 126]⟩] w fun e w' => e = .returned (.string ⟨#[27, 91, 50, 48, 48, 126]⟩) ∧ w = w') := Lib.hid (fun w => OT.out true w)
            clear hR hj hnx hpl htk b2 hw1 HJ h6
            rw [show mkL (mkM true) = ⟨#[27, 91, 50, 48, 49, 126]⟩ from rfl]
            gi_wp2_with (first
              | (refine ⟨trivial, ?_⟩; gi_at_call 48; refine (callsIn_wide.2 (FUi.out _)).mono ?_; rintro e w3 ⟨rfl, rfl⟩)
              | (refine ⟨trivial, ?_⟩; gi_at_call 49; refine (callsIn_wide.2 (OTi.out _)).mono ?_; rintro e w4 ⟨rfl, rfl⟩))
            refine HR.out.mono ?_
            rintro e W3 (⟨rfl, hJ3, hk3⟩ | ⟨rfl, hJx3⟩)
            · have J3 := Lib.hid hJ3
              have I3 : Hid (ItemsIn (fun j => j < n₀) W3 _ l) := Lib.hid (items_on (items_on HI.out (B2.out.mono (Nat.le_trans HW.out HZ.out))) hk3)
              have Z3 := Lib.hid (Nat.le_trans (Nat.le_trans HZ.out B2.out.size) hk3.size)
              clear hJ3 hk3
              gi_wp2
              go_roundw
              case rel => exact ⟨i + 1, 0, false, by omega, by go_num, rfl, rfl, NX, I3, Z3, Lib.hid (by rw [upN_succ hlt]; exact J3.out)⟩
              case measure => (simp [intOf]; try omega)
            · have JX := Lib.hid hJx3
              clear hJx3
              gi_wp2
              refine bodyPost_ret (results_none rfl _ _ _) rfl ?_
              exact ⟨⟨_, rfl⟩, .inr ⟨_, trivial, JX.out⟩⟩
          · have hw1 : wkS (true, st) (false, u) = fuR peL st u := rfl
            have h6' : ¬ wkS (true, st) (false, u) = 6 := by rw [hw1]; exact h6
            have hpl : plA l i = (true, false, false) := by unfold plA; rw [HA.out, hx]; unfold wkP; rw [decide_eq_false h6']; rfl
            have hnx : wkA (false, 0) (l.take (i + 1)) = (true, fuR peL st u) := by rw [htk, wkA_snoc, HA.out]; unfold wkN; rw [if_neg h6', hw1]
            have b2 := seqB (below_alloc wr (.cells #[.bool false, .int .u8 (u.toNat : Int)] 56)) (below_alloc (wr.alloc (.cells #[.bool false, .int .u8 (u.toNat : Int)] 56)) (.cells #[.bool true, .bool false, .bool false] 68))
            have hj := grow.out _ _ _ HJ.out b2 HZ.out
            obtain ⟨fn, tmps, assign, body, hy, hR⟩ := HY.out _ ⟨i, hlt⟩ _ hj (by rw [upN_len hi]; exact hlt)
            unfold encF at hy
            dsimp only at hy
            rw [hpl] at hy
            dsimp only at hy
            have HR := Lib.hid hR
            have NX := Lib.hid hnx
            have B2 := Lib.hid b2
            have FUi : Hid (∀ w, Calls Tryd.prog 48 #[.string ⟨#[27, 91, 50, 48, 49, 126]⟩, .int .i64 (st : Int), .int .u8 (u.toNat : Int)] w fun e w' => e = .returned (.int .i64 (fuR peL st u : Int)) ∧ w = w') := Lib.hid (fun w => FU.out peL rfl st hst u w)
            have h6b : ((fuR peL st u : Int) == 6) = false := by rw [beq_eq_false_iff_ne]; omega
            generalize fuR peL st u = z at *
            clear hR hj hnx hpl htk b2 hw1 HJ h6' h6
            rw [show mkL (mkM true) = ⟨#[27, 91, 50, 48, 49, 126]⟩ from rfl]
            gi_wp2_with (first
              | (refine ⟨trivial, ?_⟩; gi_at_call 48; refine (callsIn_wide.2 (FUi.out _)).mono ?_; rintro e w3 ⟨rfl, rfl⟩)
              | (refine ⟨trivial, ?_⟩; gi_at_call 49; refine (callsIn_wide.2 (OTi.out _)).mono ?_; rintro e w4 ⟨rfl, rfl⟩))
            refine HR.out.mono ?_
            rintro e W3 (⟨rfl, hJ3, hk3⟩ | ⟨rfl, hJx3⟩)
            · have J3 := Lib.hid hJ3
              have I3 : Hid (ItemsIn (fun j => j < n₀) W3 _ l) := Lib.hid (items_on (items_on HI.out (B2.out.mono (Nat.le_trans HW.out HZ.out))) hk3)
              have Z3 := Lib.hid (Nat.le_trans (Nat.le_trans HZ.out B2.out.size) hk3.size)
              clear hJ3 hk3
              gi_wp2
              go_roundw
              case rel => exact ⟨i + 1, z, true, by omega, by go_num, rfl, rfl, NX, I3, Z3, Lib.hid (by rw [upN_succ hlt]; exact J3.out)⟩
              case measure => (simp [intOf]; try omega)
            · have JX := Lib.hid hJx3
              clear hJx3
              gi_wp2
              refine bodyPost_ret (results_none rfl _ _ _) rfl ?_
              exact ⟨⟨_, rfl⟩, .inr ⟨_, trivial, JX.out⟩⟩
        · have hw1 : wkS (true, st) (true, u) = st := rfl
          have h6' : ¬ wkS (true, st) (true, u) = 6 := by rw [hw1]; omega
          have hpl : plA l i = (true, false, false) := by unfold plA; rw [HA.out, hx]; unfold wkP; rw [decide_eq_false h6']; rfl
          have hnx : wkA (false, 0) (l.take (i + 1)) = (true, st) := by rw [htk, wkA_snoc, HA.out]; unfold wkN; rw [if_neg h6', hw1]
          have b2 := seqB (below_alloc wr (.cells #[.bool true, .int .u8 (u.toNat : Int)] 56)) (below_alloc (wr.alloc (.cells #[.bool true, .int .u8 (u.toNat : Int)] 56)) (.cells #[.bool true, .bool false, .bool false] 68))
          have hj := grow.out _ _ _ HJ.out b2 HZ.out
          obtain ⟨fn, tmps, assign, body, hy, hR⟩ := HY.out _ ⟨i, hlt⟩ _ hj (by rw [upN_len hi]; exact hlt)
          unfold encF at hy
          dsimp only at hy
          rw [hpl] at hy
          dsimp only at hy
          have HR := Lib.hid hR
          have NX := Lib.hid hnx
          have B2 := Lib.hid b2
          have h6b : ((st : Int) == 6) = false := by rw [beq_eq_false_iff_ne]; omega
          clear hR hj hnx hpl htk b2 hw1 HJ h6'
          rw [show mkL (mkM true) = ⟨#[27, 91, 50, 48, 49, 126]⟩ from rfl]
          gi_wp2_with (first
            | (refine ⟨trivial, ?_⟩; gi_at_call 48; refine (callsIn_wide.2 (FUi.out _)).mono ?_; rintro e w3 ⟨rfl, rfl⟩)
            | (refine ⟨trivial, ?_⟩; gi_at_call 49; refine (callsIn_wide.2 (OTi.out _)).mono ?_; rintro e w4 ⟨rfl, rfl⟩))
          refine HR.out.mono ?_
          rintro e W3 (⟨rfl, hJ3, hk3⟩ | ⟨rfl, hJx3⟩)
          · have J3 := Lib.hid hJ3
            have I3 : Hid (ItemsIn (fun j => j < n₀) W3 _ l) := Lib.hid (items_on (items_on HI.out (B2.out.mono (Nat.le_trans HW.out HZ.out))) hk3)
            have Z3 := Lib.hid (Nat.le_trans (Nat.le_trans HZ.out B2.out.size) hk3.size)
            clear hJ3 hk3
            gi_wp2
            go_roundw
            case rel => exact ⟨i + 1, st, true, by omega, by go_num, rfl, rfl, NX, I3, Z3, Lib.hid (by rw [upN_succ hlt]; exact J3.out)⟩
            case measure => (simp [intOf]; try omega)
          · have JX := Lib.hid hJx3
            clear hJx3
            gi_wp2
            refine bodyPost_ret (results_none rfl _ _ _) rfl ?_
            exact ⟨⟨_, rfl⟩, .inr ⟨_, trivial, JX.out⟩⟩
    · obtain rfl : i = n := by omega
      have hi1 : ¬ ((i : Int) < (i : Int)) := by omega
      gi_wp2
      go_end0
      have h := HJ.out
      rw [upN_all] at h
      first | exact ⟨⟨_, rfl⟩, .inl h⟩ | exact ⟨⟨_, rfl⟩, .inl ⟨_, rfl, h⟩⟩
end Go.Proofs.YtmnjafceenckpaaDoor
set_option linter.unusedVariables false
set_option linter.unusedSimpArgs false
namespace Go.Proofs.YtmnjafceenckpaaDoor
open Go.RowKit Go.Shelf
attribute [local go_sem] Oper.semAt_some
theorem fwalk_any (a : Option Addr) (n c : Nat) (w : World) : Calls Tryd.prog 32 #[.slice a n c] w fun e w' => e = .returned (.func (.func 47) #[] #[.pointer (some ⟨w.heap.size, 0, none⟩)]) ∧ w'.heap[w.heap.size]? = some (.cells #[.slice a n c] 37 (0, 0)) ∧ Below w.heap.size w w' := by
  have hmf : ∀ (fn : Fn) (first cap : Array Value) (w : World), (Instr.makeFunc fn first cap).run Tryd.prog w = .ok (.func fn first cap) w := fun _ _ _ _ => rfl
  have B := Lib.hid (below_alloc w (.cells #[.slice a n c] 37))
  have R := Lib.hid (heap_alloc_new w (.cells #[.slice a n c] 37))
  go_enter Tryd.func32, Tryd.ntmps32
  go_wp2
  go_ret
  exact ⟨rfl, R.out, B.out⟩
theorem blk_ownF {β : Type} (B : Nat) (t : TypeId) (f : β → Array Value) : Own (fun (s : β) W => W.heap[B]? = some (Obj.cells (f s) t (0, 0))) := fun s X Y row hs hg hrow =>
  (hg.block B (Array.getElem?_eq_some_iff.1 hs).1 (fun e' => by obtain ⟨o, ho, hc⟩ := hrow B e'.symm; rw [show X.heap[B]? = _ from hs] at ho; cases ho; cases hc)).trans hs
theorem keepsO_belowF {W W' : World} (b : Below W.heap.size W W') : KeepsOthers W W' := ⟨b.size, fun k o hk _ => (b.block k (Array.getElem?_eq_some_iff.1 hk).1).trans hk⟩
/-- Whether a paste is open behind some places. -/
def opF (l : List It) {n : Nat} (pre : List (Fin n)) : Bool := pre.foldl (fun acc i => if (plA l i.val).2.1 = true then true else if (plA l i.val).2.2 = true then false else acc) false
theorem opF_snoc (l : List It) {n : Nat} (pre : List (Fin n)) (i : Fin n) : opF l (pre ++ [i]) = if (plA l i.val).2.1 = true then true else if (plA l i.val).2.2 = true then false else opF l pre := by
  unfold opF; rw [List.foldl_append]; rfl
end Go.Proofs.YtmnjafceenckpaaDoor
set_option linter.unusedVariables false
set_option linter.unusedSimpArgs false
namespace Go.Proofs.YtmnjafceenckpaaDoor
open Go.RowKit Go.Shelf
attribute [local go_sem] Oper.semAt_some
/-- What has been told of the places, as a row. -/
def blR (l : List It) {n : Nat} (pre : List (Fin n)) : Array Value := ((List.range n).map fun j => Value.bool (pre.any (fun i => decide (i.val = j)) && (plA l j).1)).toArray
theorem blR_at (l : List It) {n : Nat} (pre : List (Fin n)) (j : Nat) (h : j < n) : (blR l pre)[j]? = some (.bool (pre.any (fun i => decide (i.val = j)) && (plA l j).1)) := by
  unfold blR
  rw [List.getElem?_toArray, List.getElem?_map, List.getElem?_range h]; rfl
theorem blR_set (l : List It) {n : Nat} (pre : List (Fin n)) (x : Fin n) : (blR l pre).setIfInBounds x.val (.bool (plA l x.val).1) = blR l (pre ++ [x]) := by
  apply Array.ext_getElem?
  intro j
  rw [Array.getElem?_setIfInBounds]
  by_cases h : x.val = j
  · subst h
    rw [if_pos rfl, if_pos (by unfold blR; simp), blR_at l _ _ x.isLt, List.any_append]
    simp
  · rw [if_neg h]
    by_cases hj : j < n
    · rw [blR_at l _ _ hj, blR_at l _ _ hj, List.any_append]
      simp [h]
    · unfold blR
      rw [List.getElem?_toArray, List.getElem?_toArray, List.getElem?_eq_none (by simp; omega), List.getElem?_eq_none (by simp; omega)]
theorem blR_nil (l : List It) (n : Nat) : madeCells #[.bool false] (n * 1) = blR l ([] : List (Fin n)) := by
  apply Array.ext'
  rw [toList_madeCells_one]
  unfold blR
  apply List.ext_getElem
  · simp
  · intro i h1 h2; simp
theorem blR_all (l : List It) (n : Nat) : blR l (List.finRange n) = ((List.range n).map fun i => Value.bool (plA l i).1).toArray := by
  apply Array.ext_getElem?
  intro j
  by_cases hj : j < n
  · rw [blR_at l _ _ hj, List.getElem?_toArray, List.getElem?_map, List.getElem?_range hj]
    have : (List.finRange n).any (fun i => decide (i.val = j)) = true := List.any_eq_true.2 ⟨⟨j, hj⟩, List.mem_finRange _, by simp⟩
    rw [this]; rfl
  · unfold blR
    rw [List.getElem?_toArray, List.getElem?_toArray, List.getElem?_eq_none (by simp; omega), List.getElem?_eq_none (by simp; omega)]
theorem infoBl : (Tryd.prog.info? 4).map (fun i => (i.zero, i.size, i.bytes)) = some (some (.bool false), 1, 1) := by kernel_rfl
theorem frozen_blk {w : World} {B i : Nat} {cs : Array Value} {t : TypeId} (h : w.heap[B]? = some (.cells cs t (0, 0))) : w.frozen? ⟨B, i, none⟩ = false := frozen_of_row _ B i _ _ h
set_option maxRecDepth 100000 in
set_option maxHeartbeats 4000000 in
theorem finside_any (l : List It) (a : Option Addr) (n c : Nat) (w : World) (hn : l.length = n) (hl : n ≤ 400) (hI : ItemsIn (fun j => j < w.heap.size) w a l) :
    Calls Tryd.prog 24 #[.slice a n c] w fun e w' => ∃ R, e = .returned (.slice (some ⟨R, 0, none⟩) n n) ∧ w'.heap[R]? = some (.cells ((List.range n).map fun i => Value.bool (plA l i).1).toArray 4 (0, 0)) ∧ Below w.heap.size w w' := by
  rw [← blR_all]
  have hmk : ∀ w : World, (Instr.makeSlice 57 (.int .i64 (n : Int)) (.int .i64 (n : Int))).run Tryd.prog w = .ok (.slice (some ⟨w.heap.size, 0, none⟩) n n) (w.alloc (.cells (blR l ([] : List (Fin n))) 4)) := fun w => by
    obtain ⟨i0, hi, hz0, hz1, hz2⟩ := info_parts infoBl
    have h := make_rowN (P := Tryd.prog) 57 4 i0 _ Tryd.underlying57 hi hz0 n (by rw [hz2]; omega) (by omega) w
    rw [hz1] at h
    rw [show (Value.bool false).cells = #[.bool false] from rfl, blR_nil l] at h
    exact h
  have b0 := below_alloc w (.cells (blR l ([] : List (Fin n))) 4)
  have r0 := heap_alloc_new w (.cells (blR l ([] : List (Fin n))) 4)
  have hs0 : (w.alloc (.cells (blR l ([] : List (Fin n))) 4)).heap.size = w.heap.size + 1 := by simp
  have b1 := below_alloc (w.alloc (.cells (blR l ([] : List (Fin n))) 4)) (.cells #[.slice (some ⟨w.heap.size, 0, none⟩) n n] 57)
  have r1 := Boxed.new (w.alloc (.cells (blR l ([] : List (Fin n))) 4)) 57 (.slice (some ⟨w.heap.size, 0, none⟩) n n)
  have r01 := blk_below r0 b1
  have b01 := seqB b0 b1
  rw [hs0] at r1
  have hs1 : ((w.alloc (.cells (blR l ([] : List (Fin n))) 4)).alloc (.cells #[.slice (some ⟨w.heap.size, 0, none⟩) n n] 57)).heap.size = w.heap.size + 2 := by simp
  have WK := fwalk_any a n c ((w.alloc (.cells (blR l ([] : List (Fin n))) 4)).alloc (.cells #[.slice (some ⟨w.heap.size, 0, none⟩) n n] 57))
  have WK := Lib.hid WK
  have R1 := Lib.hid r1
  have R0 := Lib.hid r01
  have B1 := Lib.hid b01
  have HI := Lib.hid (items_on hI b01)
  have HN := Lib.hid hn
  have HS1 := Lib.hid hs1
  clear b0 r0 hs0 b1 r1 r01 b01 hI hn hs1
  refine (callsIn_wide (n := 6)).1 ?_
  refine callsIn_of_wp_marks Tryd.func24 rfl trivial ?_ rfl
  simp only [Tryd.ntmps24, List.size_toArray, List.length_cons, List.length_nil, Nat.reduceAdd, Nat.reduceSub, Array.replicate_succ, Array.replicate_zero, List.push_toArray, List.append_toArray, List.nil_append, List.cons_append]
  gi_wp2_with (refine ⟨trivial, ?_⟩; gi_at_call 32; refine (callsIn_wide.2 WK.out).mono ?_; rintro e w2 ⟨rfl, hq, hb⟩; have Q2 := Lib.hid hq; have N2 := Lib.hid (seqB B1.out hb); have R2 := Lib.hid (show Boxed w2 (w.heap.size + 1) 57 (.slice (some ⟨w.heap.size, 0, none⟩) n n) from blk_below R1.out hb); have X2 := Lib.hid (blk_below R0.out hb); have I2 := Lib.hid (items_on HI.out (hb.mono B1.out.size)); clear hq hb)
  clear R1 R0 HI WK hmk
  have hws := Lib.hid N2.out.size
  rw [HS1.out] at Q2
  clear HS1
  have Q2 : Hid (w2.heap[w.heap.size + 1 + 1]? = some (.cells #[.slice a n c] 37 (0, 0))) := Lib.hid Q2.out
  refine wpIn_rangeFunc_ownH rfl (by decide) (gf := 47) (lb := #[.pointer (some ⟨w.heap.size + 1 + 1, 0, none⟩)]) rfl trivial (enters_of Tryd.func47 (by kernel_rfl) rfl)
    (walk_stops 5 (by decide) l a n c (w.heap.size + 1 + 1) w.heap.size w2 HN.out hl Q2.out I2.out hws.out) belowK_t (belowK_b hws.out) (Below.refl _ _) (fun _ => rfl)
    (fun pre W => (Boxed W (w.heap.size + 1) 57 (.slice (some ⟨w.heap.size, 0, none⟩) n n) ∧ W.heap[w.heap.size]? = some (Obj.cells (blR l pre) 4 (0, 0))) ∧ Below w.heap.size w W)
    (fun _ _ _ => False)
    (OwnFrom.and (OwnFrom.and (Own.from (boxed_own _ _ _) _) (Own.from (blk_ownF _ _ _) _)) (ownFrom_below (Nat.le_refl _) hws.out))
    (fun _ _ _ _ _ hs _ _ => hs)
    ⟨⟨R2.out, X2.out⟩, N2.out⟩
    (fun x a' W => ∃ Bx, w.heap.size + 1 < Bx ∧ W.heap[Bx]? = some (Obj.cells #[.bool (plA l x.val).1, .bool (plA l x.val).2.1, .bool (plA l x.val).2.2] 68 (0, 0)) ∧ a' = { tmps := #[.slice a n c, undef, .slice none 0 0, .pointer (some ⟨w.heap.size + 1, 0, none⟩), .int .i64 (x.val : Int), .pointer (some ⟨Bx, 0, none⟩), .slice a n c, .int .i64 (n : Int), .slice (some ⟨w.heap.size, 0, none⟩) n n, .slice a n c, .func (.func 47) #[] #[.pointer (some ⟨w.heap.size + 1 + 1, 0, none⟩)], .int .i64 (x.val : Int), .agg #[.bool (plA l x.val).1, .bool (plA l x.val).2.1, .bool (plA l x.val).2.2], undef, undef, undef, undef, undef, undef], defers := [] })
    (fun x a' _ X Y row hs hg hr => by obtain ⟨Bx, e1, e2, e3⟩ := hs; exact ⟨Bx, e1, blk_ownF Bx _ (fun (_ : Unit) => #[.bool (plA l x.val).1, .bool (plA l x.val).2.1, .bool (plA l x.val).2.2]) () X Y row e2 hg (fun r e => (hr r e).2), e3⟩)
    ?assign ?body ?done ?stop
  case assign =>
    rintro L pre x W K ⟨⟨bR, bX⟩, hB⟩ hK
    have bl := bR.lt
    unfold encF
    dsimp only
    gi_wp2
    exact hK _ _ ((KeepsOthers.alloc _ _).from _) ((below_alloc W _).mono hB.size) ⟨⟨bR.alloc _, blk_below bX (below_alloc _ _)⟩, hB.alloc hB.size _⟩ ⟨W.heap.size, bl, heap_alloc_new _ _, rfl⟩
  case body =>
    rintro L pre x a' W hL ⟨r, hr⟩ ⟨⟨bR, bX⟩, hB⟩ ⟨Bx, hBx, bP, rfl⟩ hlt
    have hst := blR_set l pre x
    have hat := blR_at l pre x.val x.isLt
    have hx1 : (x.val : Int) < (n : Int) := by have := x.isLt; omega
    have hx0 : (0 : Int) ≤ (x.val : Int) := by omega
    generalize plA l x.val = pl at *
    obtain ⟨p1, p2, p3⟩ := pl
    dsimp only at bP hst hat
    have d0 := cell_of_row _ _ 0 _ _ _ bP
    dsimp at d0
    have cR := bR.cell
    have cX := (cell_of_row _ _ x.val _ _ _ bX).trans hat
    have fX : W.frozen? ⟨w.heap.size, x.val, none⟩ = false := frozen_blk bX
    have HST := Lib.hid hst
    clear hst hat
    generalize hxv : x.val = xv at *
    gi_wp2
    refine ⟨(KeepsOthers.setCell _ _ _).from _, (Below.refl w.heap.size W).setCell (p := ⟨w.heap.size, xv, none⟩) (Nat.le_refl _) _, ⟨⟨?_, ?_⟩, hB.setCell (p := ⟨w.heap.size, xv, none⟩) (Nat.le_refl _) _⟩⟩
    · exact (Below.heap_setCell _ _ _ _ (by show w.heap.size + 1 ≠ w.heap.size; omega)).trans bR
    · rw [← HST.out]; exact blk_set bX xv _
  case done =>
    rintro D xs W hD rfl ⟨⟨bR, bX⟩, hB⟩ hK
    have cR := bR.cell
    gi_wp2
    refine ⟨by simp, .inl ⟨_, _, rfl, run_takeDeferred hK, ?_⟩⟩
    have hne : w.heap.size ≠ D := fun e => by
      rw [e] at bX
      rw [hK] at bX
      cases bX
    exact ⟨_, results_tmp rfl _ _ _, _, rfl, ((grownBy_putObj' W D (.deferred none)).block w.heap.size (blk_lt bX) (fun e => hne (by cases e; rfl))).trans bX, hB.trans (belowK_b (w := w) (Nat.le_refl _) W D _ _ (Nat.le_trans hws.out hD) hK rfl rfl)⟩
  case stop =>
    rintro D c' pre W _ _ h _
    exact h.elim
end Go.Proofs.YtmnjafceenckpaaDoor
set_option linter.unusedVariables false
set_option linter.unusedSimpArgs false
namespace Go.Proofs.YtmnjafceenckpaaDoor
open Go.RowKit Go.Shelf
attribute [local go_sem] Oper.semAt_some
/-- Is an Enter at a place? -/
def enB (l : List It) (i : Nat) : Bool := !(plA l i).1 && (!(l.getD i (false, 0)).1 && (decide ((l.getD i (false, 0)).2.toNat = 13) || decide ((l.getD i (false, 0)).2.toNat = 10)))
def enL (l : List It) {n : Nat} (pre : List (Fin n)) : List Int := (pre.filter fun i => enB l i.val).map fun i => (i.val : Int)
theorem enL_snoc (l : List It) {n : Nat} (pre : List (Fin n)) (i : Fin n) : enL l (pre ++ [i]) = if enB l i.val = true then enL l pre ++ [(i.val : Int)] else enL l pre := by
  unfold enL
  rw [List.filter_append, List.map_append]
  by_cases h : enB l i.val = true
  · rw [if_pos h, List.filter_cons_of_pos (p := fun i : Fin n => enB l i.val) h]; rfl
  · rw [if_neg h, List.filter_cons_of_neg (p := fun i : Fin n => enB l i.val) h]; simp
theorem enL_len (l : List It) {n : Nat} (pre : List (Fin n)) : (enL l pre).length ≤ pre.length := by
  unfold enL
  rw [List.length_map]; exact List.length_filter_le _ _
def enI (l : List It) (B n₀ : Nat) {n : Nat} (pre : List (Fin n)) (W : World) : Prop := ∃ v, Boxed W B 41 v ∧ W.ownsRow n₀ 3 1 v (enL l pre).length ((enL l pre).map (Value.int .i64)) ∧ True
theorem enI_own (l : List It) (B n₀ n : Nat) : Own (fun (pre : List (Fin n)) W => enI l B n₀ pre W) := holdsRow_own n₀ B 41 3 1 (fun pre => (enL l pre).length) (fun pre => (enL l pre).map (Value.int .i64)) (fun _ _ => True)
theorem enI.below {l : List It} {B n₀ n : Nat} {pre : List (Fin n)} {W W' : World} (h : enI l B n₀ pre W) (b : Below W.heap.size W W') : enI l B n₀ pre W' := by
  obtain ⟨v, h1, h2, _⟩ := h
  exact ⟨v, blk_below h1 b, World.ownsRow.kept h2 (row := none) ⟨b.os, b.tape, b.output, b.size, fun k hk _ => b.block k hk⟩ (by cases v.ownBlock <;> simp), trivial⟩
end Go.Proofs.YtmnjafceenckpaaDoor
set_option linter.unusedVariables false
set_option linter.unusedSimpArgs false
namespace Go.Proofs.YtmnjafceenckpaaDoor
open Go.RowKit Go.Shelf
attribute [local go_sem] Oper.semAt_some
/-- Where the last paste began, and the pastes that ended. -/
def psS (l : List It) (s : Int × List (Int × Int)) (i : Nat) : Int × List (Int × Int) := if (plA l i).2.1 = true then ((i : Int) + 1, s.2) else if (plA l i).2.2 = true then (s.1, s.2 ++ [(s.1, (i : Int))]) else s
def psF (l : List It) {n : Nat} (pre : List (Fin n)) : Int × List (Int × Int) := pre.foldl (fun s i => psS l s i.val) (0, [])
theorem psF_snoc (l : List It) {n : Nat} (pre : List (Fin n)) (i : Fin n) : psF l (pre ++ [i]) = psS l (psF l pre) i.val := by
  unfold psF; rw [List.foldl_append]; rfl
theorem psS_len (l : List It) (s : Int × List (Int × Int)) (i : Nat) : (psS l s i).2.length ≤ s.2.length + 1 := by
  unfold psS
  repeat' split
  all_goals simp
theorem psF_len (l : List It) {n : Nat} (pre : List (Fin n)) : (psF l pre).2.length ≤ pre.length := by
  have h : ∀ (pre : List (Fin n)) (s : Int × List (Int × Int)), (pre.foldl (fun s i => psS l s i.val) s).2.length ≤ s.2.length + pre.length := by
    intro pre
    induction pre with
    | nil => intro s; exact Nat.le_refl _
    | cons i pre ih =>
      intro s
      rw [List.foldl_cons, List.length_cons]
      exact Nat.le_trans (ih _) (by have := psS_len l s i.val; omega)
  have := h pre (0, [])
  simpa [psF] using this
def twC (L : List (Int × Int)) : List Value := L.flatMap fun p => [Value.int .i64 p.1, Value.int .i64 p.2]
theorem twC_app (a b : List (Int × Int)) : twC (a ++ b) = twC a ++ twC b := by simp [twC]
theorem infoTw : (Tryd.prog.info? 53).map (fun i => (i.zero, i.size, i.bytes)) = some (some (.agg #[.int .i64 0, .int .i64 0]), 2, 16) := by kernel_rfl
def psI (l : List It) (B n₀ : Nat) {n : Nat} (pre : List (Fin n)) (W : World) : Prop := ∃ v, Boxed W B 51 v ∧ W.ownsRow n₀ 53 2 v (psF l pre).2.length (twC (psF l pre).2) ∧ True
theorem psI_own (l : List It) (B n₀ n : Nat) : Own (fun (pre : List (Fin n)) W => psI l B n₀ pre W) := holdsRow_own n₀ B 51 53 2 (fun pre => (psF l pre).2.length) (fun pre => twC (psF l pre).2) (fun _ _ => True)
theorem psI.below {l : List It} {B n₀ n : Nat} {pre : List (Fin n)} {W W' : World} (h : psI l B n₀ pre W) (b : Below W.heap.size W W') : psI l B n₀ pre W' := by
  obtain ⟨v, h1, h2, _⟩ := h
  exact ⟨v, blk_below h1 b, World.ownsRow.kept h2 (row := none) ⟨b.os, b.tape, b.output, b.size, fun k hk _ => b.block k hk⟩ (by cases v.ownBlock <;> simp), trivial⟩
set_option maxRecDepth 100000 in
set_option maxHeartbeats 8000000 in
theorem fpastes_any (l : List It) (a : Option Addr) (n c : Nat) (w : World) (hn : l.length = n) (hl : n ≤ 400) (hI : ItemsIn (fun j => j < w.heap.size) w a l) :
    Calls Tryd.prog 21 #[.slice a n c] w fun e w' => ∃ v, e = .returned v ∧ w'.ownsRow w.heap.size 53 2 v (psF l (List.finRange n)).2.length (twC (psF l (List.finRange n)).2) ∧ Below w.heap.size w w' := by
  have b0 := below_alloc w (.cells #[.slice none 0 0] 51)
  have r0 := Boxed.new w 51 (.slice none 0 0)
  have b1 := below_alloc (w.alloc (.cells #[.slice none 0 0] 51)) (.cells #[.int .i64 0] 3)
  have r1 := Boxed.new (w.alloc (.cells #[.slice none 0 0] 51)) 3 (.int .i64 0)
  have hs0 : (w.alloc (.cells #[.slice none 0 0] 51)).heap.size = w.heap.size + 1 := by simp
  rw [hs0] at r1
  have r01 := r0.alloc (.cells #[.int .i64 0] 3)
  have b01 := seqB b0 b1
  have hs1 : ((w.alloc (.cells #[.slice none 0 0] 51)).alloc (.cells #[.int .i64 0] 3)).heap.size = w.heap.size + 2 := by simp
  have WK := Lib.hid (fwalk_any a n c ((w.alloc (.cells #[.slice none 0 0] 51)).alloc (.cells #[.int .i64 0] 3)))
  have R1 := Lib.hid r1
  have R0 := Lib.hid r01
  have B1 := Lib.hid b01
  have HI := Lib.hid (items_on hI b01)
  have HN := Lib.hid hn
  have HS1 := Lib.hid hs1
  clear b0 r0 hs0 b1 r1 r01 b01 hI hn hs1
  refine (callsIn_wide (n := 6)).1 ?_
  refine callsIn_of_wp_marks Tryd.func21 rfl trivial ?_ rfl
  simp only [Tryd.ntmps21, List.size_toArray, List.length_cons, List.length_nil, Nat.reduceAdd, Nat.reduceSub, Array.replicate_succ, Array.replicate_zero, List.push_toArray, List.append_toArray, List.nil_append, List.cons_append]
  gi_wp2_with (refine ⟨trivial, ?_⟩; gi_at_call 32; refine (callsIn_wide.2 WK.out).mono ?_; rintro e w2 ⟨rfl, hq, hb⟩; have Q2 := Lib.hid hq; have N2 := Lib.hid (seqB B1.out hb); have R2 := Lib.hid (show Boxed w2 (w.heap.size + 1) 3 (.int .i64 0) from blk_below R1.out hb); have X2 := Lib.hid (show Boxed w2 w.heap.size 51 (.slice none 0 0) from blk_below R0.out hb); have I2 := Lib.hid (items_on HI.out (hb.mono B1.out.size)); clear hq hb)
  clear R1 R0 HI WK
  have hws := Lib.hid N2.out.size
  rw [HS1.out] at Q2
  clear HS1
  have Q2 : Hid (w2.heap[w.heap.size + 1 + 1]? = some (.cells #[.slice a n c] 37 (0, 0))) := Lib.hid Q2.out
  refine wpIn_rangeFunc_ownH rfl (by decide) (gf := 47) (lb := #[.pointer (some ⟨w.heap.size + 1 + 1, 0, none⟩)]) rfl trivial (enters_of Tryd.func47 (by kernel_rfl) rfl)
    (walk_stops 5 (by decide) l a n c (w.heap.size + 1 + 1) w.heap.size w2 HN.out hl Q2.out I2.out hws.out) belowK_t (belowK_b hws.out) (Below.refl _ _) (fun _ => rfl)
    (fun pre W => (psI l w.heap.size w.heap.size pre W ∧ Boxed W (w.heap.size + 1) 3 (.int .i64 (psF l pre).1)) ∧ Below w.heap.size w W)
    (fun _ _ _ => False)
    (OwnFrom.and (OwnFrom.and (Own.from (psI_own _ _ _ _) _) (Own.from (boxed_own _ _ _) _)) (ownFrom_below (Nat.le_refl _) hws.out))
    (fun _ _ _ _ _ hs _ _ => hs)
    ⟨⟨⟨_, X2.out, World.ownsRow_nil _ _ _ _, trivial⟩, R2.out⟩, N2.out⟩
    (fun x a' W => ∃ Bx, w.heap.size + 1 < Bx ∧ W.heap[Bx]? = some (Obj.cells #[.bool (plA l x.val).1, .bool (plA l x.val).2.1, .bool (plA l x.val).2.2] 68 (0, 0)) ∧ a' = { tmps := #[.slice a n c, undef, .slice none 0 0, .pointer (some ⟨w.heap.size, 0, none⟩), .pointer (some ⟨w.heap.size + 1, 0, none⟩), .int .i64 (x.val : Int), .pointer (some ⟨Bx, 0, none⟩), .slice a n c, .func (.func 47) #[] #[.pointer (some ⟨w.heap.size + 1 + 1, 0, none⟩)], .int .i64 (x.val : Int), .agg #[.bool (plA l x.val).1, .bool (plA l x.val).2.1, .bool (plA l x.val).2.2], undef, undef, undef, undef, undef, undef, undef, undef, undef, undef, undef, undef, undef, undef, undef], defers := [] })
    (fun x a' _ X Y row hs hg hr => by obtain ⟨Bx, e1, e2, e3⟩ := hs; exact ⟨Bx, e1, blk_ownF Bx _ (fun (_ : Unit) => #[.bool (plA l x.val).1, .bool (plA l x.val).2.1, .bool (plA l x.val).2.2]) () X Y row e2 hg (fun r e => (hr r e).2), e3⟩)
    ?assign ?body ?done ?stop
  case assign =>
    rintro L pre x W K ⟨⟨bR, bF⟩, hB⟩ hK
    have bl := bF.lt
    unfold encF
    dsimp only
    gi_wp2
    exact hK _ _ ((KeepsOthers.alloc _ _).from _) ((below_alloc W _).mono hB.size) ⟨⟨bR.below (below_alloc _ _), bF.alloc _⟩, hB.alloc hB.size _⟩ ⟨W.heap.size, bl, heap_alloc_new _ _, rfl⟩
  case body =>
    rintro L pre x a' W hL ⟨r, hr⟩ ⟨⟨bR, bF⟩, hB⟩ ⟨Bx, hBx, bP, rfl⟩ hlt
    have hsn := psF_snoc l pre x
    have hcl := psF_len l pre
    have hx400 : x.val < 400 := Nat.lt_of_lt_of_le x.isLt hl
    unfold psS at hsn
    generalize plA l x.val = pl at *
    obtain ⟨p1, p2, p3⟩ := pl
    dsimp only at bP hsn
    have d0 := cell_of_row _ _ 0 _ _ _ bP
    have d1 := cell_of_row _ _ 1 _ _ _ bP
    have d2 := cell_of_row _ _ 2 _ _ _ bP
    dsimp at d0 d1 d2
    have cF := bF.cell
    have fF := bF.frozen
    have HCL := Lib.hid (show (psF l pre).2.length ≤ 400 by omega)
    have hbs := Lib.hid hB.size
    clear hcl
    generalize hxv : x.val = xv at *
    generalize hps : psF l pre = ps at *
    obtain ⟨fs, PS⟩ := ps
    dsimp only at hsn cF HCL bF
    cases p2
    · cases p3
      · rw [if_neg (by decide), if_neg (by decide)] at hsn
        have HO := Lib.hid hsn
        have bR' : ∃ v, Boxed W w.heap.size 51 v ∧ W.ownsRow w.heap.size 53 2 v PS.length (twC PS) ∧ True := by unfold psI at bR; rw [hps] at bR; exact bR
        clear hsn
        gi_wp2
        exact ⟨(KeepsOthers.refl _).from _, Below.refl _ _, ⟨⟨by unfold psI; rw [HO.out]; exact bR', by rw [HO.out]; exact bF⟩, hB⟩⟩
      · rw [if_neg (by decide), if_pos rfl] at hsn
        have HO := Lib.hid hsn
        have bR' : ∃ v, Boxed W w.heap.size 51 v ∧ W.ownsRow w.heap.size 53 2 v PS.length (twC PS) ∧ True := by unfold psI at bR; rw [hps] at bR; exact bR
        clear hsn hps bR
        obtain ⟨v0, hb0, ho0, _⟩ := bR'
        obtain ⟨i0, hi, hz0, hz1, hz2⟩ := info_parts infoTw
        have cV := hb0.cell
        have bA := below_alloc W (.cells #[.int .i64 fs, .int .i64 (xv : Int)] 53)
        have cV2 := (hb0.alloc (.cells #[.int .i64 fs, .int .i64 (xv : Int)] 53)).cell
        have ho6 : (W.alloc (.cells #[.int .i64 fs, .int .i64 (xv : Int)] 53)).ownsRow w.heap.size 53 2 v0 PS.length (twC PS) := World.ownsRow.kept ho0 (row := none) ⟨bA.os, bA.tape, bA.output, bA.size, fun k hk _ => bA.block k hk⟩ (by cases v0.ownBlock <;> simp)
        have hnew : ∀ j u, [Value.int .i64 fs, Value.int .i64 (xv : Int)][j]? = some u → (W.alloc (.cells #[.int .i64 fs, .int .i64 (xv : Int)] 53)).cell? ((⟨W.heap.size, 0, none⟩ : Addr).add j) = some u := fun j u hj => app_cells (L := [Value.int .i64 fs, Value.int .i64 (xv : Int)]) rfl hj
        gi_wp2_with (gi_at_builtin; refine wpListIn_append_own _ rfl _ _ 51 rfl w.heap.size 53 i0 _ 2 16 Tryd.underlying51 hi hz0 hz1 hz2 rfl (by decide) _ _ _ rfl ho6 ⟨W.heap.size, 0, none⟩ 1 1 [.int .i64 fs, .int .i64 (xv : Int)] rfl rfl hnew (by simp [Value.oneCell']) (by have := HCL.out; unfold maxLen; omega) (by have := HCL.out; omega) (by have := hbs.out; simp; omega) ?_)
        intro v' w7 hown' hgrow _
        obtain ⟨g', cap', rfl⟩ := ownsRow_succ hown'
        obtain ⟨q1, q2, q3, q4, q5⟩ := hb0.appended (by decide) ho0 hB.size (Nat.le_refl _) hown' hgrow
        have c7 := q1.cell
        have f7 := q1.frozen
        have bF7 : Boxed w7 (w.heap.size + 1) 3 (.int .i64 fs) := (bF.alloc (.cells #[.int .i64 fs, .int .i64 (xv : Int)] 53)).kept hgrow (bF.not_row (by decide) ho0)
        have bF8 := bF7.other (B' := w.heap.size) (by omega) (.slice (some ⟨g', 0, none⟩) (PS.length + 1) cap')
        gi_wp2
        exact ⟨q4.from _, q5, ⟨⟨⟨_, q2, by rw [HO.out]; dsimp only; rw [List.length_append, twC_app]; exact q3, trivial⟩, by rw [HO.out]; exact bF8⟩, hB.trans q5⟩⟩
    · rw [if_pos rfl] at hsn
      have HO := Lib.hid hsn
      have bR' : ∃ v, Boxed W w.heap.size 51 v ∧ W.ownsRow w.heap.size 53 2 v PS.length (twC PS) ∧ True := by unfold psI at bR; rw [hps] at bR; exact bR
      clear hsn hps bR
      obtain ⟨v0, hb0, ho0, _⟩ := bR'
      gi_wp2
      refine ⟨(KeepsOthers.setCell _ _ _).from _, (Below.refl w.heap.size W).setCell (p := ⟨w.heap.size + 1, 0, none⟩) (by simp) _, ⟨⟨⟨v0, hb0.other (by omega) _, ?_, trivial⟩, by rw [HO.out]; exact bF.set _⟩, hB.setCell (p := ⟨w.heap.size + 1, 0, none⟩) (by simp) _⟩⟩
      rw [HO.out]
      refine World.ownsRow.kept ho0 (grownBy_setCell' W (w.heap.size + 1) _) (Or.inr ?_)
      exact fun e => bF.not_row (by decide) ho0 e.symm
  case done =>
    rintro D xs W hD rfl ⟨⟨bR, bF⟩, hB⟩ hK
    obtain ⟨v0, hb0, ho0, _⟩ := bR
    have cR := hb0.cell
    gi_wp2
    refine ⟨by simp, .inl ⟨_, _, rfl, run_takeDeferred hK, ?_⟩⟩
    refine ⟨_, results_tmp rfl _ _ _, v0, rfl, World.ownsRow.kept ho0 (grownBy_putObj' W D (.deferred none)) ?_, hB.trans (belowK_b (w := w) (Nat.le_refl _) W D _ _ (Nat.le_trans hws.out hD) hK rfl rfl)⟩
    cases hv : v0.ownBlock with
    | none => exact Or.inl rfl
    | some q =>
      refine Or.inr fun e => ?_
      rcases ho0.2 with ⟨rfl, _⟩ | ⟨g, cap, cur, rfl, _, hg, _⟩
      · simp [Value.ownBlock] at hv
      · have e1 : g = q := by simpa [Value.ownBlock] using hv
        have e2 : q = D := by simpa using e
        rw [e1, e2, hK] at hg
        cases hg
  case stop =>
    rintro D c' pre W _ _ h _
    exact h.elim
end Go.Proofs.YtmnjafceenckpaaDoor
set_option linter.unusedVariables false
set_option linter.unusedSimpArgs false
namespace Go.Proofs.YtmnjafceenckpaaDoor
open Go.RowKit
def u8Y (l : List UInt8) : List Value := l.map fun b => Value.int .u8 (b.toNat : Int)
theorem u8Y_one (l : List UInt8) : ∀ u ∈ u8Y l, u.oneCell' = true := by
  intro u hu
  obtain ⟨x, _, rfl⟩ := List.mem_map.1 hu
  rfl
/-- A row of bytes of the call's own. -/
def OwY (w : World) (B : Nat) (v : Value) (L : List UInt8) : Prop := w.ownsRow B 5 1 v L.length (u8Y L)
theorem infoY8 : (Tryd.prog.info? 5).map (fun i => (i.zero, i.size, i.bytes)) = some (some (.int .u8 0), 1, 1) := by kernel_rfl
theorem OwY.form {w : World} {B : Nat} {v : Value} {L : List UInt8} {n : Nat} (h : OwY w B v L) (hn : L.length = n) : ∃ a c, v = .slice a n c := by
  subst hn
  rcases h.2 with ⟨rfl, h0⟩ | ⟨g, cap, cur, rfl, _⟩
  · exact ⟨none, 0, by rw [h0]⟩
  · exact ⟨_, cap, rfl⟩
theorem owy_below {w w' : World} {B : Nat} {v : Value} {L : List UInt8} (h : OwY w B v L) (hb : Below w.heap.size w w') : OwY w' B v L := own_below h hb
theorem wpList_app_yb {w : World} {ops : Array Oper} {rest : List Oper} {o : Oper} {a : Act} {Q : Exit → Act → World → Prop} (hgd : Region.wanted o (yielded ops a.tmps) = true) (s x : Operand)
    (ho : o.op = .call { callee := .builtin .append, args := #[s, x], argTypes := #[54, 54] }) (base : Nat)
    (v : Value) (L : List UInt8) (hs : a.eval s = v) (hown : OwY w base v L) (r : Nat) (q : UInt8) (T : TypeId) (hx : a.eval x = .slice (some ⟨r, 0, none⟩) 1 1) (hr : w.heap[r]? = some (.cells #[.int .u8 (q.toNat : Int)] T (0, 0)))
    (hlen : L.length ≤ 1000) (hbase : base ≤ w.heap.size)
    (h : ∀ v' w', OwY w' base v' (L ++ [q]) → w.grownBy w' v.ownBlock → wpList Tryd.prog ops Q rest (a.put o.dst v') w') : wpList Tryd.prog ops Q (o :: rest) a w := by
  obtain ⟨i0, hi, hz0, hz1, hz2⟩ := info_parts infoY8
  refine wpList_step fun K hK => ?_
  rw [if_pos hgd]
  refine wp_append_own w s x 54 ho base 5 i0 _ 1 1 Tryd.underlying54 hi hz0 hz1 hz2 rfl (by decide) _ L.length _ hs hown ⟨r, 0, none⟩ 1 1 (u8Y [q]) hx rfl (fun j u hj => by
    have hj2 : j < 1 := (List.getElem?_eq_some_iff.1 hj).1
    have hadd : (⟨r, 0, none⟩ : Addr).add j = ⟨r, j, none⟩ := by unfold Addr.add; split <;> simp_all
    rw [hadd, cell_of_row _ _ j _ _ _ hr, ← hj]
    match j, hj2 with
    | 0, _ => rfl) (u8Y_one _) (by unfold maxLen; omega) (by omega) hbase (fun v' w' a1 a2 _ => ?_)
  rw [show u8Y L ++ u8Y [q] = u8Y (L ++ [q]) by simp [u8Y]] at a1
  have hO : OwY w' base v' (L ++ [q]) := by unfold OwY; rw [List.length_append]; exact a1
  exact hK _ _ (h v' w' hO a2)
/-- The text of the first bytes of a row. -/
theorem conv_ownY {w : World} {B : Nat} {v : Value} {l : List UInt8} (h : OwY w B v l) (hne : l ≠ []) : ∃ g c, v = .slice (some ⟨g, 0, none⟩) l.length c ∧ l.length ≤ c ∧
    ∀ k, k ≤ l.length → ∀ c' dst, Tryd.prog.underlying dst = some .string → (convert 54 dst (.slice (some ⟨g, 0, none⟩) k c')).run Tryd.prog w = .ok (.string (mkL (l.take k))) w := by
  unfold OwY at h
  rcases h.2 with ⟨rfl, h0⟩ | ⟨g, cap, cur, rfl, hB, hg, hle, hr⟩
  · exact absurd (List.eq_nil_of_length_eq_zero h0) hne
  · refine ⟨g, cap, rfl, hle, fun k hk c' dst hd => ?_⟩
    have hl : (l.take k).length = k := by rw [List.length_take]; omega
    have := run_convert_bytes_back (P := Tryd.prog) w 54 dst 5 ⟨g, 0, none⟩ c' (l.take k) Tryd.underlying54 Tryd.underlying5 hd (fun j hj => by
      rw [hl] at hj
      have hc := h.cellAt j (by omega)
      have e : (⟨g, 0, none⟩ : Addr).add j = ⟨g, j, none⟩ := by unfold Addr.add; split <;> simp_all
      rw [e, hc]
      have hj2 : j < l.length := by omega
      simp [u8Y, List.getElem?_eq_getElem hj2])
    rw [hl] at this
    exact this
/-- The bytes that are not inside a paste. -/
def tyL (l : List It) (k : Nat) : List UInt8 := ((List.range k).filter fun i => !(plA l i).1 && !(l.getD i (false, 0)).1).map fun i => (l.getD i (false, 0)).2
theorem tyL_succ (l : List It) (k : Nat) : tyL l (k + 1) = if (!(plA l k).1 && !(l.getD k (false, 0)).1) = true then tyL l k ++ [(l.getD k (false, 0)).2] else tyL l k := by
  unfold tyL
  rw [List.range_succ, List.filter_append, List.map_append]
  by_cases h : (!(plA l k).1 && !(l.getD k (false, 0)).1) = true
  · rw [if_pos h, List.filter_cons, if_pos h]; rfl
  · rw [if_neg h, List.filter_cons, if_neg h]; simp
theorem tyL_len (l : List It) (k : Nat) : (tyL l k).length ≤ k := by
  unfold tyL
  rw [List.length_map]
  have := List.length_filter_le (fun i => !(plA l i).1 && !(l.getD i (false, 0)).1) (List.range k)
  rw [List.length_range] at this; exact this
set_option maxRecDepth 100000 in
set_option maxHeartbeats 8000000 in
theorem atyped_any (l : List It) (a : Option Addr) (n c : Nat) (w : World) (hn : l.length = n) (hl : n ≤ 400) (hI : ItemsIn (fun j => j < w.heap.size) w a l) (hS : ItsIn w a l) (hne : tyL l n ≠ []) :
    Calls Tryd.prog 13 #[.slice a n c] w fun e w' => e = .returned (.string (mkL (tyL l n))) ∧ Below w.heap.size w w' := by
  have FI := Lib.hid (finside_any l a n c w hn hl hI)
  have HS := Lib.hid hS
  have HN := Lib.hid (And.intro hn (And.intro hl hne))
  clear hI hS hn hne
  go_enter Tryd.func13, Tryd.ntmps13
  go_wp2_with fail
  go_at_call 24
  refine FI.out.mono ?_
  rintro e w1 ⟨R, rfl, hR, hb⟩
  have HR1 := Lib.hid hR
  have N1 := Lib.hid hb
  have HB1 := Lib.hid (And.intro (blk_lt hR) hb.size)
  clear hR hb
  go_upto_region 4 with fail
  go_loopw [4, 11] (fun bv iv wr => ∃ k : Nat, k ≤ n ∧ iv = .int .i64 (k : Int) ∧ Hid (OwY wr w1.heap.size bv (tyL l k)) ∧ Hid (Below w1.heap.size w1 wr)) (fun _ iv _ => n - (intOf iv).toNat)
  case atStart => exact ⟨0, Nat.zero_le _, rfl, Lib.hid (World.ownsRow_nil _ _ _ _), Lib.hid (Below.refl _ _)⟩
  case round =>
    obtain ⟨k, hk, rfl, HO, HB⟩ := hrel
    by_cases hlt : k < n
    · have hk1 : (k : Int) < (n : Int) := by omega
      have hk0 : (0 : Int) ≤ (k : Int) := by omega
      obtain ⟨bb, off, rfl, hblt, y0', y1'⟩ := HS.out k (by rw [HN.out.1]; exact hlt)
      have y0 := (HB.out.cell (p := ⟨bb, off + k * 2, none⟩) (Nat.lt_of_lt_of_le hblt HB1.out.2)).trans ((N1.out.cell (p := ⟨bb, off + k * 2, none⟩) hblt).trans y0')
      have y1 := (HB.out.cell (p := ⟨bb, off + k * 2 + 1, none⟩) (Nat.lt_of_lt_of_le hblt HB1.out.2)).trans ((N1.out.cell (p := ⟨bb, off + k * 2 + 1, none⟩) hblt).trans y1')
      clear y0' y1'
      have z0 : wr.cell? ⟨R, k, none⟩ = some (.bool (plA l k).1) := by
        rw [cell_of_row _ _ k _ _ _ ((HB.out.block R HB1.out.1).trans HR1.out), List.getElem?_toArray, List.getElem?_map, List.getElem?_range hlt]; rfl
      have hts := tyL_succ l k
      have htl := tyL_len l k
      obtain ⟨pb, hpb⟩ : ∃ b, (plA l k).1 = b := ⟨_, rfl⟩
      obtain ⟨⟨tk, by_⟩, hq⟩ : ∃ q, l.getD k (false, 0) = q := ⟨_, rfl⟩
      rw [hpb, hq] at hts
      rw [hpb] at z0
      rw [hq] at y0 y1
      dsimp at y0 y1 hts
      have hb7 := below_alloc wr (.cells #[.bool tk, .int .u8 (by_.toNat : Int)] 56)
      have r7 := heap_alloc_new wr (.cells #[.bool tk, .int .u8 (by_.toNat : Int)] 56)
      have HO7 := owy_below HO.out hb7
      have HB7 := HB.out.trans (hb7.mono HB.out.size)
      have z7 := (hb7.cell (p := ⟨R, k, none⟩) (Nat.lt_of_lt_of_le HB1.out.1 HB.out.size)).trans z0
      obtain ⟨W7, hW7⟩ : ∃ W7, wr.alloc (.cells #[.bool tk, .int .u8 (by_.toNat : Int)] 56) = W7 := ⟨_, rfl⟩
      rw [hW7] at r7 HO7 HB7 z7
      have x0 := cell_of_row _ _ 0 _ _ _ r7
      have x1 := cell_of_row _ _ 1 _ _ _ r7
      dsimp at x0 x1
      have HO8 := Lib.hid HO7
      have HB8 := Lib.hid HB7
      have HQ := Lib.hid (And.intro hlt htl)
      have HTS := Lib.hid hts
      clear hlt hpb hq hb7 r7 HO7 HB7 hts htl hblt
      cases pb with
      | true =>
        have HE : Hid (tyL l (k + 1) = tyL l k) := Lib.hid (by rw [HTS.out]; rfl)
        go_wp2_with fail
        go_roundw
        case rel => exact ⟨k + 1, by have := HQ.out.1; omega, by go_num, by rw [HE.out]; exact HO8, HB8⟩
        case measure => (have := HQ.out.1; simp [intOf]; try omega)
      | false =>
        cases tk with
        | true =>
          have HE : Hid (tyL l (k + 1) = tyL l k) := Lib.hid (by rw [HTS.out]; rfl)
          go_wp2_with fail
          go_roundw
          case rel => exact ⟨k + 1, by have := HQ.out.1; omega, by go_num, by rw [HE.out]; exact HO8, HB8⟩
          case measure => (have := HQ.out.1; simp [intOf]; try omega)
        | false =>
          have HE : Hid (tyL l (k + 1) = tyL l k ++ [by_]) := Lib.hid (by rw [HTS.out]; rfl)
          have hb9 := below_alloc W7 (.cells #[.int .u8 (by_.toNat : Int)] 5)
          have r9 := heap_alloc_new W7 (.cells #[.int .u8 (by_.toNat : Int)] 5)
          have HO9 := owy_below HO8.out hb9
          have HB9 := HB8.out.trans (hb9.mono HB8.out.size)
          have F9 := Lib.hid (And.intro HO9 (And.intro r9 HB9))
          obtain ⟨bs, hbs⟩ : ∃ bs, tyL l k = bs := ⟨_, rfl⟩
          rw [hbs] at HE
          have HBS := Lib.hid hbs
          clear hb9 r9 HO9 HB9 hbs
          go_wp2_with (at_builtin; refine wpList_app_yb rfl _ _ rfl w1.heap.size _ bs rfl ?g1 W7.heap.size by_ _ rfl F9.out.2.1 ?g2 F9.out.2.2.size ?_)
          case g1 => rw [← HBS.out]; exact F9.out.1
          case g2 => have := HQ.out.2; rw [HBS.out] at this; omega
          intro v9 w9 ho9 hg9
          have N9 := Lib.hid (F9.out.2.2.grown hg9 F9.out.2.2.size (fun j hj => (F9.out.1.lt j hj).1))
          have O9 := Lib.hid ho9
          clear ho9 hg9
          go_wp2_with fail
          go_roundw
          case rel => exact ⟨k + 1, by have := HQ.out.1; omega, by go_num, by rw [HE.out]; exact O9, N9⟩
          case measure => (have := HQ.out.1; simp [intOf]; try omega)
    · obtain rfl : k = n := by omega
      have hkl : ¬ (k : Int) < (k : Int) := by omega
      obtain ⟨bs, hbs⟩ : ∃ bs, tyL l k = bs := ⟨_, rfl⟩
      have hne := HN.out.2.2
      rw [hbs] at HO hne
      obtain ⟨g, c', rfl, hcl, hcv0⟩ := conv_ownY HO.out hne
      have hun : Tryd.prog.underlying 9 = some .string := Tryd.underlying9
      have hcv := hcv0 bs.length (Nat.le_refl _) c' _ hun
      rw [List.take_length] at hcv
      have HBS := Lib.hid hbs
      clear hcv0 hbs hne hcl hlt hun
      generalize bs.length = nb at *
      go_wp2_with fail
      go_ret
      exact ⟨by rw [HBS.out] <;> rfl, N1.out.trans (HB.out.mono HB1.out.2)⟩
end Go.Proofs.YtmnjafceenckpaaDoor
set_option linter.unusedVariables false
set_option linter.unusedSimpArgs false
namespace Go.Proofs.YtmnjafceenckpaaDoor
open Go.RowKit
def awP : List UInt8 := [120, 27, 91, 50, 48, 48, 126, 121, 27, 91, 50, 48, 49, 126, 122]
theorem awP_len : (biL awP).length = 15 := by kernel_rfl
theorem awP_p : (psF (biL awP) (List.finRange 15)).2 = [(7, 13)] := by kernel_rfl
theorem awP_t : tyL (biL awP) 15 = [120, 27, 91, 50, 48, 48, 126, 122] := by decide +kernel
def awB : List UInt8 := [121, 27, 91, 50, 48, 49, 126]
theorem awP_at (j : Nat) (h : j < 7) : (biL awP).getD (7 + j) (false, 0) = (false, awB.getD j 0) := by
  match j, h with
  | 0, _ => rfl
  | 1, _ => rfl
  | 2, _ => rfl
  | 3, _ => rfl
  | 4, _ => rfl
  | 5, _ => rfl
  | 6, _ => rfl
theorem awB_take (j : Nat) (h : j < 7) : awB.take (j + 1) = awB.take j ++ [awB.getD j 0] := by
  rw [List.take_add_one, List.getElem?_eq_getElem (show j < awB.length from h), List.getD, List.getElem?_eq_getElem (show j < awB.length from h)]; rfl
theorem sizeIt (w : World) : (sizeOf 56).run Tryd.prog w = .ok 2 w := by kernel_rfl
theorem elemIt : Tryd.prog.elem 37 = 56 := by kernel_rfl
theorem cutIt (w : World) (b off n c f t : Nat) (h1 : f ≤ t) (h2 : t ≤ c) (h3 : f < c) : (Instr.slice 37 (.slice (some ⟨b, off, none⟩) n c) (some (.int .i64 (f : Int))) (some (.int .i64 (t : Int))) none).run Tryd.prog w = .ok (.slice (some ⟨b, off + f * 2, none⟩) (t - f) (c - f)) w := by
  rw [run_slice_lh (P := Tryd.prog) w 37 _ n c (by kernel_rfl) .i64 .i64 (f : Int) (t : Int) (by omega) (by omega) (by omega), elemIt, sizeIt]
  show Result.ok (Value.slice (if c = f then _ else _) _ _) w = _
  rw [if_neg (by omega)]
  simp only [Option.map_some, Int.toNat_natCast]
  rw [show (⟨b, off, none⟩ : Addr).add (f * 2) = ⟨b, off + f * 2, none⟩ by unfold Addr.add; split <;> simp_all]
theorem awP_ps (a : Option Addr) (c : Nat) (w : World) (h : ItsIn w a (biL awP)) : Calls Tryd.prog 21 #[.slice a 15 c] w fun e w' => ∃ g k, e = .returned (.slice (some ⟨g, 0, none⟩) 1 k) ∧ w'.ownsRow w.heap.size 53 2 (.slice (some ⟨g, 0, none⟩) 1 k) 1 [.int .i64 7, .int .i64 13] ∧ Below w.heap.size w w' := by
  refine (fpastes_any (biL awP) a 15 c _ awP_len (by decide) h).mono ?_
  rw [awP_p]
  rintro e w2 ⟨v2, rfl, o2, b2⟩
  have o2' : World.ownsRow w2 w.heap.size 53 2 v2 1 [.int .i64 7, .int .i64 13] := o2
  obtain ⟨g, k, rfl⟩ := ownsRow_pos o2' (by decide)
  exact ⟨g, k, rfl, o2', b2⟩
theorem infoSt : (Tryd.prog.info? 9).map (fun i => (i.zero, i.size, i.bytes)) = some (some (.string ⟨#[]⟩), 1, 16) := by kernel_rfl
theorem wpList_app_st {w : World} {ops : Array Oper} {rest : List Oper} {o : Oper} {a : Act} {Q : Exit → Act → World → Prop} (hgd : Region.wanted o (yielded ops a.tmps) = true) (s x : Operand)
    (ho : o.op = .call { callee := .builtin .append, args := #[s, x], argTypes := #[35, 35] }) (base : Nat)
    (hs : a.eval s = .slice none 0 0) (r : Nat) (q : ByteArray) (T : TypeId) (hx : a.eval x = .slice (some ⟨r, 0, none⟩) 1 1) (hr : w.heap[r]? = some (.cells #[.string q] T (0, 0))) (hbase : base ≤ w.heap.size)
    (h : ∀ v' w', w'.ownsRow base 9 1 v' 1 [.string q] → w.grownBy w' none → wpList Tryd.prog ops Q rest (a.put o.dst v') w') : wpList Tryd.prog ops Q (o :: rest) a w := by
  obtain ⟨i0, hi, hz0, hz1, hz2⟩ := info_parts infoSt
  refine wpList_step fun K hK => ?_
  rw [if_pos hgd]
  refine wp_append_own w s x 35 ho base 9 i0 _ 1 16 Tryd.underlying35 hi hz0 hz1 hz2 rfl (by decide) _ 0 [] hs (World.ownsRow_nil _ _ _ _) ⟨r, 0, none⟩ 1 1 [.string q] hx rfl (fun j u hj => by
    have hj2 : j < 1 := (List.getElem?_eq_some_iff.1 hj).1
    have hadd : (⟨r, 0, none⟩ : Addr).add j = ⟨r, j, none⟩ := by unfold Addr.add; split <;> simp_all
    rw [hadd, cell_of_row _ _ j _ _ _ hr, ← hj]
    match j, hj2 with
    | 0, _ => rfl) (by intro u hu; simp at hu; rw [hu]; rfl) (by unfold maxLen; omega) (by omega) hbase (fun v' w' a1 a2 _ => ?_)
  exact hK _ _ (h v' w' a1 a2)
set_option maxRecDepth 100000 in
set_option maxHeartbeats 8000000 in
theorem apasted_any (a : Option Addr) (c : Nat) (w : World) (hS : ItsIn w a (biL awP)) (hc : 15 ≤ c) :
    Calls Tryd.prog 10 #[.slice a 15 c] w fun e w' => ∃ g k, e = .returned (.slice (some ⟨g, 0, none⟩) 1 k) ∧ w'.cell? ⟨g, 0, none⟩ = some (.string ⟨#[121]⟩) ∧ g < w'.heap.size ∧ Below w.heap.size w w' := by
  have PS := Lib.hid (awP_ps a c w hS)
  have HS := Lib.hid hS
  obtain ⟨b0, off0, rfl, hb0, _, _⟩ := hS 0 (by rw [awP_len]; decide)
  have HC := Lib.hid (And.intro hc hb0)
  clear hS hc hb0
  go_enter Tryd.func10, Tryd.ntmps10
  go_wp2_with fail
  go_at_call 21
  refine PS.out.mono ?_
  rintro e w1 ⟨g, k, rfl, ho, hb⟩
  have c0 := ho.cellAt 0 (by decide)
  have c1 := ho.cellAt 1 (by decide)
  have hgl := (ho.lt g rfl)
  have N1 := Lib.hid hb
  have HG := Lib.hid hgl
  dsimp at c0 c1
  have cut : ∀ w, (Instr.slice 37 (.slice (some ⟨b0, off0, none⟩) 15 c) (some (.int .i64 7)) (some (.int .i64 14)) none).run Tryd.prog w = .ok (.slice (some ⟨b0, off0 + 14, none⟩) 7 (c - 7)) w := fun w => cutIt w b0 off0 15 c 7 14 (by decide) (by have := HC.out.1; omega) (by have := HC.out.1; omega)
  have hx0 : w1.cell? ⟨g, 0, none⟩ = some (.int .i64 7) := c0
  have hx1 : w1.cell? ⟨g, 1, none⟩ = some (.int .i64 13) := c1
  clear ho hb hgl c0 c1
  go_upto_region 3 with fail
  go_loopw [3, 12] (fun tv iv wr => (iv = .int .i64 0 ∧ tv = .slice none 0 0 ∧ Hid (Below w1.heap.size w1 wr)) ∨ (iv = .int .i64 1 ∧ ∃ g' c', tv = .slice (some ⟨g', 0, none⟩) 1 c' ∧ Hid (wr.cell? ⟨g', 0, none⟩ = some (.string ⟨#[121]⟩) ∧ g' < wr.heap.size) ∧ Hid (Below w1.heap.size w1 wr))) (fun _ iv _ => 2 - (intOf iv).toNat)
  case atStart => exact .inl ⟨rfl, rfl, Lib.hid (Below.refl _ _)⟩
  case round =>
    rcases hrel with ⟨rfl, rfl, HB⟩ | ⟨rfl, g', c', rfl, HV, HB⟩
    · have x0 := (HB.out.cell (p := ⟨g, 0, none⟩) HG.out.2).trans hx0
      have x1 := (HB.out.cell (p := ⟨g, 1, none⟩) HG.out.2).trans hx1
      have hb7 := below_alloc wr (.cells #[.int .i64 7, .int .i64 13] 53)
      have r7 := heap_alloc_new wr (.cells #[.int .i64 7, .int .i64 13] 53)
      have HB7 := HB.out.trans (hb7.mono HB.out.size)
      obtain ⟨W7, hW7⟩ : ∃ W7, wr.alloc (.cells #[.int .i64 7, .int .i64 13] 53) = W7 := ⟨_, rfl⟩
      rw [hW7] at r7 HB7
      have z0 := cell_of_row _ _ 0 _ _ _ r7
      have z1 := cell_of_row _ _ 1 _ _ _ r7
      dsimp at z0 z1
      have H7 := Lib.hid HB7
      clear hb7 r7 HB7
      go_upto_region 7 with fail
      try rw [hW7]
      clear hW7
      go_loopw [6, 24] (fun bv jv ws => ∃ j : Nat, j ≤ 7 ∧ jv = .int .i64 (j : Int) ∧ Hid (OwY ws W7.heap.size bv (awB.take j)) ∧ Hid (Below W7.heap.size W7 ws)) (fun _ jv _ => 7 - (intOf jv).toNat)
      case atStart => exact ⟨0, Nat.zero_le _, rfl, Lib.hid (World.ownsRow_nil _ _ _ _), Lib.hid (Below.refl _ _)⟩
      case round =>
        obtain ⟨j, hj, rfl, HO, HBj⟩ := hrel
        by_cases hlt : j < 7
        · have hj1 : (j : Int) < 7 := by omega
          have hj0 : (0 : Int) ≤ (j : Int) := by omega
          obtain ⟨bb, off, e, hblt, y0', y1'⟩ := HS.out (7 + j) (by rw [awP_len]; omega)
          injection e with e
          injection e with e1 e2
          subst e1; subst e2
          have N0 : Hid (Below w.heap.size w wr) := Lib.hid ((N1.out.trans (H7.out.mono N1.out.size)).trans (HBj.out.mono (Nat.le_trans N1.out.size H7.out.size)))
          have y0 := (N0.out.cell (p := ⟨b0, off0 + (7 + j) * 2, none⟩) hblt).trans y0'
          have y1 := (N0.out.cell (p := ⟨b0, off0 + (7 + j) * 2 + 1, none⟩) hblt).trans y1'
          rw [awP_at j hlt] at y0 y1
          rw [show off0 + (7 + j) * 2 = off0 + 14 + j * 2 by omega] at y0 y1
          have hts := awB_take j hlt
          have htl : (awB.take j).length = j := by rw [List.length_take]; show min j 7 = j; omega
          obtain ⟨by_, hby⟩ : ∃ b, awB.getD j 0 = b := ⟨_, rfl⟩
          rw [hby] at y0 y1 hts
          dsimp at y0 y1
          have hb8 := below_alloc wr (.cells #[.bool false, .int .u8 (by_.toNat : Int)] 56)
          have r8 := heap_alloc_new wr (.cells #[.bool false, .int .u8 (by_.toNat : Int)] 56)
          have HO8 := owy_below HO.out hb8
          have HB8 := HBj.out.trans (hb8.mono HBj.out.size)
          obtain ⟨W8, hW8⟩ : ∃ W8, wr.alloc (.cells #[.bool false, .int .u8 (by_.toNat : Int)] 56) = W8 := ⟨_, rfl⟩
          rw [hW8] at r8 HO8 HB8
          have q0 := cell_of_row _ _ 0 _ _ _ r8
          have q1 := cell_of_row _ _ 1 _ _ _ r8
          dsimp at q0 q1
          have hb9 := below_alloc W8 (.cells #[.int .u8 (by_.toNat : Int)] 5)
          have r9 := heap_alloc_new W8 (.cells #[.int .u8 (by_.toNat : Int)] 5)
          have HO9 := owy_below HO8 hb9
          have HB9 := HB8.trans (hb9.mono HB8.size)
          have F9 := Lib.hid (And.intro HO9 (And.intro r9 HB9))
          obtain ⟨bs, hbs⟩ : ∃ bs, awB.take j = bs := ⟨_, rfl⟩
          rw [hbs] at hts htl
          have HBS := Lib.hid (And.intro hbs (And.intro hts (And.intro htl hlt)))
          clear hlt hts htl hby hb8 r8 HO8 HB8 hb9 r9 HO9 HB9 hbs y0' y1' hblt
          go_wp2_with (at_builtin; refine wpList_app_yb rfl _ _ rfl W7.heap.size _ bs rfl ?g1 W8.heap.size by_ _ rfl F9.out.2.1 ?g2 F9.out.2.2.size ?_)
          case g1 => rw [← HBS.out.1]; exact F9.out.1
          case g2 => have := HBS.out.2.2; omega
          intro v9 w9 ho9 hg9
          have N9 := Lib.hid (F9.out.2.2.grown hg9 F9.out.2.2.size (fun j hj => (F9.out.1.lt j hj).1))
          have O9 := Lib.hid ho9
          clear ho9 hg9
          go_wp2_with fail
          go_roundw
          case rel => exact ⟨j + 1, by have := HBS.out.2.2.2; omega, by go_num, by rw [HBS.out.2.1]; exact O9, N9⟩
          case measure => (have := HBS.out.2.2.2; simp [intOf]; try omega)
        · obtain rfl : j = 7 := by omega
          have hkl : ¬ ((7 : Nat) : Int) < 7 := by omega
          rw [show awB.take 7 = awB from rfl] at HO
          obtain ⟨gy, cy, rfl, hcl, hcv0⟩ := conv_ownY HO.out (by decide)
          have hun : Tryd.prog.underlying 9 = some .string := Tryd.underlying9
          have hcv := fun c' => hcv0 1 (by decide) c' _ hun
          have hl7 : awB.length = 7 := rfl
          rw [hl7] at HO hcl ⊢
          have hcv1 : ∀ c' : Nat, (convert 54 9 (.slice (some ⟨gy, 0, none⟩) 1 c')).run Tryd.prog wr = .ok (.string ⟨#[121]⟩) wr := hcv
          clear hcv0 hcv hun hlt
          have N0 : Hid (Below w1.heap.size w1 wr) := Lib.hid (H7.out.trans (HBj.out.mono H7.out.size))
          have hb9 := below_alloc wr (.cells #[.string ⟨#[121]⟩] 9)
          have r9 := heap_alloc_new wr (.cells #[.string ⟨#[121]⟩] 9)
          have F9 := Lib.hid (And.intro (N0.out.trans (hb9.mono N0.out.size)) r9)
          clear hb9 r9
          go_wp2_with (at_builtin; refine wpList_app_st rfl _ _ rfl w1.heap.size rfl wr.heap.size ⟨#[121]⟩ _ rfl F9.out.2 F9.out.1.size ?_)
          intro v9 w9 ho9 hg9
          have N9 := Lib.hid (F9.out.1.grown hg9 F9.out.1.size (fun j hj => by cases hj))
          obtain ⟨g', c', rfl⟩ := ownsRow_pos ho9 (by decide)
          have HV : Hid (w9.cell? ⟨g', 0, none⟩ = some (.string ⟨#[121]⟩) ∧ g' < w9.heap.size) := Lib.hid ⟨ho9.cellAt 0 (by decide), (ho9.lt g' rfl).2⟩
          clear ho9 hg9
          go_wp2_with fail
          go_roundw
          case rel => exact .inr ⟨by go_num, g', c', rfl, HV, N9⟩
          case measure => (simp [intOf]; try omega)
    · go_wp2_with fail
      go_ret
      exact ⟨g', c', rfl, HV.out.1, HV.out.2, N1.out.trans (HB.out.mono N1.out.size)⟩
end Go.Proofs.YtmnjafceenckpaaDoor
set_option linter.unusedVariables false
set_option linter.unusedSimpArgs false
namespace Go.Proofs.YtmnjafceenckpaaDoor
open Go.RowKit
def aC1 : ByteArray := ⟨#[97, 7, 226, 128, 174]⟩
def aC2 : ByteArray := ⟨#[97, 27, 91, 75, 7, 27, 99]⟩
def aC4 : ByteArray := ⟨#[97, 27, 99]⟩
def aC5 : ByteArray := ⟨#[27, 194, 133, 97]⟩
def aC6 : ByteArray := ⟨#[97]⟩
def aL2 : List Ot := (prsS (aC2.extract 0 (clZ aC2))).getD []
theorem au_d : fdA aC1 aC1.size 0 = [(1, 7, 4), (2, 8238, 7)] := by decide +kernel
theorem au_l : prsS (aC2.extract 0 (clZ aC2)) = some aL2 := by decide +kernel
theorem au_k : cntK aL2 0 = 1 ∧ cntK aL2 1 = 0 ∧ cntK aL2 2 = 0 ∧ cntK aL2 3 = 1 ∧ cntK aL2 4 = 0 ∧ cntK aL2 5 = 0 ∧ cntK aL2 6 = 1 ∧ cntK aL2 7 = 0 ∧ cntK aL2 8 = 0 := by decide +kernel
theorem au_p4 : plZ aC4 = 1 := by decide +kernel
theorem au_p6 : plZ aC6 = -1 := by decide +kernel
theorem au_o : obA aC5 aC5.size 0 = [0, 1] := by decide +kernel
theorem au_eq (w : World) : (binOp .eql 40 (.agg #[.int .i64 2, .int .i64 8238, .int .i64 7]) (.agg #[.int .i64 2, .int .i64 8238, .int .i64 7])).run Tryd.prog w = .ok (.bool true) w := by kernel_rfl
theorem au_1 (w : World) (hT : ET w) : Calls Tryd.prog 9 #[.string ⟨#[97, 7, 226, 128, 174]⟩] w fun e w' => ∃ g c, e = .returned (.slice (some ⟨g, 0, none⟩) 2 c) ∧ w'.cell? ⟨g, 3, none⟩ = some (.int .i64 2) ∧ w'.cell? ⟨g, 4, none⟩ = some (.int .i64 8238) ∧ w'.cell? ⟨g, 5, none⟩ = some (.int .i64 7) ∧ g < w'.heap.size ∧ Below w.heap.size w w' := by
  refine (adangers_any aC1 w hT (by decide)).mono ?_
  rw [au_d]
  rintro e w' ⟨a, n, c, rfl, hn, ho, hb⟩
  obtain rfl : 2 = n := hn
  obtain ⟨g, c', e⟩ := ownsRow_pos ho (by decide)
  injection e with e1 e2 e3
  subst e1; subst e3
  exact ⟨g, c, rfl, World.ownsRow.cellAt ho 3 (by decide), World.ownsRow.cellAt ho 4 (by decide), World.ownsRow.cellAt ho 5 (by decide), (World.ownsRow.lt ho g rfl).2, hb⟩
theorem au_2 (w : World) (hT : ET w) : Calls Tryd.prog 8 #[.string ⟨#[97, 27, 91, 75, 7, 27, 99]⟩] w fun e w' => e = .returned (.agg #[.int .i64 1, .int .i64 0, .int .i64 0, .int .i64 1, .int .i64 0, .int .i64 0, .int .i64 1, .int .i64 0, .int .i64 0]) ∧ Below w.heap.size w w' := by
  refine (akinds_any aC2 aL2 w hT (by decide) au_l).mono ?_
  rintro e w' ⟨rfl, hb⟩
  refine ⟨?_, hb⟩
  obtain ⟨k0, k1, k2, k3, k4, k5, k6, k7, k8⟩ := au_k
  unfold kdV kRow
  rw [k0, k1, k2, k3, k4, k5, k6, k7, k8]
theorem au_3 (w : World) : Calls Tryd.prog 11 #[.string ⟨#[120, 27, 91, 50, 48, 48, 126, 121, 27, 91, 50, 48, 49, 126, 122]⟩] w fun e w' => ∃ a c, e = .returned (.slice a 15 c) ∧ 15 ≤ c ∧ ItsIn w' a (biL awP) ∧ ItemsIn (fun j => j < w'.heap.size) w' a (biL awP) ∧ Below w.heap.size w w' := by
  refine (rof_ref awP w (by decide)).mono ?_
  rintro e w' ⟨v, rfl, ho, hb⟩
  obtain ⟨a, c, e, h0, h1, h2⟩ := ho.at
  have hl : 15 ≤ c := by
    have h := ho.2
    rw [awP_len] at h
    rcases h with ⟨_, h3⟩ | ⟨g, cap, cur, h3, _, _, h4, _⟩
    · omega
    · rw [e] at h3; injection h3 with x1 x2 x3; omega
  exact ⟨a, c, by rw [e, awP_len], hl, h1, fun i hi => h1 i hi, hb⟩
theorem au_5 (w : World) (hT : ET w) : Calls Tryd.prog 12 #[.string ⟨#[27, 194, 133, 97]⟩] w fun e w' => ∃ a c, e = .returned (.slice a 2 c) ∧ Below w.heap.size w w' := by
  refine (aobeyed_any aC5 w hT (by decide)).mono ?_
  rw [au_o]
  rintro e w' ⟨a, n, c, rfl, hn, ho, hb⟩
  obtain rfl : 2 = n := hn
  exact ⟨a, c, rfl, hb⟩
set_option maxRecDepth 100000 in
set_option maxHeartbeats 8000000 in
theorem auawake_any (w : World) (hT : ET w) : Calls Tryd.prog 4 #[] w fun e w' => e = .returned (.bool true) ∧ Below w.heap.size w w' := by
  have HT := Lib.hid hT
  have D1 := Lib.hid (au_1 w hT)
  clear hT
  go_enter Tryd.func4, Tryd.ntmps4
  go_wp2_with fail
  go_at_call 9
  refine D1.out.mono ?_
  rintro e w1 ⟨gd, cd, rfl, hd3, hd4, hd5, hgd, hb⟩
  have N1 := Lib.hid hb
  have HD := Lib.hid (And.intro hd3 (And.intro hd4 (And.intro hd5 hgd)))
  clear hb hd3 hd4 hd5 hgd
  go_wp2_with fail
  go_at_call 8
  refine (au_2 w1 (HT.out.below N1.out)).mono ?_
  rintro e w2 ⟨rfl, hb⟩
  have hb3 := below_alloc w2 (.cells #[.int .i64 1, .int .i64 0, .int .i64 0, .int .i64 1, .int .i64 0, .int .i64 0, .int .i64 1, .int .i64 0, .int .i64 0] 28)
  have r3 := heap_alloc_new w2 (.cells #[.int .i64 1, .int .i64 0, .int .i64 0, .int .i64 1, .int .i64 0, .int .i64 0, .int .i64 1, .int .i64 0, .int .i64 0] 28)
  obtain ⟨W3, hW3⟩ : ∃ W3, w2.alloc (.cells #[.int .i64 1, .int .i64 0, .int .i64 0, .int .i64 1, .int .i64 0, .int .i64 0, .int .i64 1, .int .i64 0, .int .i64 0] 28) = W3 := ⟨_, rfl⟩
  rw [hW3] at hb3 r3
  obtain ⟨gk, hgk⟩ : ∃ gk, w2.heap.size = gk := ⟨_, rfl⟩
  rw [hgk] at r3
  have M13 := seqB hb hb3
  have N3 := Lib.hid (seqB N1.out M13)
  have HK3 := Lib.hid r3
  have HD3 := Lib.hid (And.intro ((M13.cell (p := ⟨gd, 3, none⟩) HD.out.2.2.2).trans HD.out.1) (And.intro ((M13.cell (p := ⟨gd, 4, none⟩) HD.out.2.2.2).trans HD.out.2.1) (And.intro ((M13.cell (p := ⟨gd, 5, none⟩) HD.out.2.2.2).trans HD.out.2.2.1) (Nat.lt_of_lt_of_le HD.out.2.2.2 M13.size))))
  clear hb hb3 r3 M13
  have HW3 := Lib.hid hW3
  clear hW3
  go_upto_region 3 with fail
  try rw [HW3.out]
  go_wp2_with fail
  go_at_call 11
  refine (au_3 W3).mono ?_
  rintro e w4 ⟨a4, c4, rfl, hc4, hi4, hj4, hb⟩
  have N4 := Lib.hid (seqB N3.out hb)
  have HK4 := Lib.hid (blk_below HK3.out hb)
  have HD4 := Lib.hid (And.intro ((hb.cell (p := ⟨gd, 3, none⟩) HD3.out.2.2.2).trans HD3.out.1) (And.intro ((hb.cell (p := ⟨gd, 4, none⟩) HD3.out.2.2.2).trans HD3.out.2.1) (And.intro ((hb.cell (p := ⟨gd, 5, none⟩) HD3.out.2.2.2).trans HD3.out.2.2.1) (Nat.lt_of_lt_of_le HD3.out.2.2.2 hb.size))))
  clear hb
  go_wp2_with fail
  go_at_call 10
  refine (apasted_any a4 c4 w4 hi4 hc4).mono ?_
  rintro e w5 ⟨gp, cp, rfl, hp, hgp, hb⟩
  have N5 := Lib.hid (seqB N4.out hb)
  have HK5 := Lib.hid (blk_below HK4.out hb)
  have HD5 := Lib.hid (And.intro ((hb.cell (p := ⟨gd, 3, none⟩) HD4.out.2.2.2).trans HD4.out.1) (And.intro ((hb.cell (p := ⟨gd, 4, none⟩) HD4.out.2.2.2).trans HD4.out.2.1) (And.intro ((hb.cell (p := ⟨gd, 5, none⟩) HD4.out.2.2.2).trans HD4.out.2.2.1) (Nat.lt_of_lt_of_le HD4.out.2.2.2 hb.size))))
  have HP5 := Lib.hid (And.intro hp hgp)
  clear hb hp hgp hi4 hj4 hc4
  go_wp2_with fail
  go_at_call 7
  have PL4 := aplace_any aC4 w5 (HT.out.below N5.out) (by decide)
  rw [au_p4] at PL4
  refine PL4.mono ?_
  clear PL4
  rintro e w6 ⟨rfl, hb⟩
  have N6 := Lib.hid (seqB N5.out hb)
  have HK6 := Lib.hid (blk_below HK5.out hb)
  have HD6 := Lib.hid (And.intro ((hb.cell (p := ⟨gd, 3, none⟩) HD5.out.2.2.2).trans HD5.out.1) (And.intro ((hb.cell (p := ⟨gd, 4, none⟩) HD5.out.2.2.2).trans HD5.out.2.1) (And.intro ((hb.cell (p := ⟨gd, 5, none⟩) HD5.out.2.2.2).trans HD5.out.2.2.1) (Nat.lt_of_lt_of_le HD5.out.2.2.2 hb.size))))
  have HP6 := Lib.hid (And.intro ((hb.cell (p := ⟨gp, 0, none⟩) HP5.out.2).trans HP5.out.1) (Nat.lt_of_lt_of_le HP5.out.2 hb.size))
  clear hb
  go_wp2_with fail
  go_at_call 7
  have PL6 := aplace_any aC6 w6 (HT.out.below N6.out) (by decide)
  rw [au_p6] at PL6
  refine PL6.mono ?_
  clear PL6
  rintro e w7 ⟨rfl, hb⟩
  have N7 := Lib.hid (seqB N6.out hb)
  have HK7 := blk_below HK6.out hb
  have HP7 := Lib.hid (And.intro ((hb.cell (p := ⟨gp, 0, none⟩) HP6.out.2).trans HP6.out.1) (Nat.lt_of_lt_of_le HP6.out.2 hb.size))
  have d3 := (hb.cell (p := ⟨gd, 3, none⟩) HD6.out.2.2.2).trans HD6.out.1
  have d4 := (hb.cell (p := ⟨gd, 4, none⟩) HD6.out.2.2.2).trans HD6.out.2.1
  have d5 := (hb.cell (p := ⟨gd, 5, none⟩) HD6.out.2.2.2).trans HD6.out.2.2.1
  have k0 := cell_of_row _ _ 0 _ _ _ HK7
  have k3 := cell_of_row _ _ 3 _ _ _ HK7
  have k6 := cell_of_row _ _ 6 _ _ _ HK7
  dsimp at k0 k3 k6
  have hEq := au_eq
  clear hb HK7
  go_wp2_with fail
  go_at_call 12
  refine (au_5 w7 (HT.out.below N7.out)).mono ?_
  rintro e w8 ⟨a8, c8, rfl, hb⟩
  have N8 := Lib.hid (seqB N7.out hb)
  have p0 := (hb.cell (p := ⟨gp, 0, none⟩) HP7.out.2).trans HP7.out.1
  clear hb d3 d4 d5 k0 k3 k6 hEq
  go_wp2_with fail
  go_at_call 11
  refine (au_3 w8).mono ?_
  rintro e w9 ⟨a9, c9, rfl, hc9, hi9, hj9, hb⟩
  have N9 := Lib.hid (seqB N8.out hb)
  have TY := atyped_any (biL awP) a9 15 c9 w9 awP_len (by decide) hj9 hi9 (by rw [awP_t]; decide)
  rw [awP_t] at TY
  have HTY := Lib.hid TY
  clear hb p0 hc9 hi9 hj9 TY
  go_wp2_with fail
  go_at_call 13
  refine HTY.out.mono ?_
  rintro e w10 ⟨rfl, hb⟩
  have N10 := Lib.hid (seqB N9.out hb)
  rw [show mkL [120, 27, 91, 50, 48, 48, 126, 122] = (⟨#[120, 27, 91, 50, 48, 48, 126, 122]⟩ : ByteArray) from rfl]
  clear hb
  go_wp2_with fail
  go_ret
  exact ⟨rfl, N10.out⟩
end Go.Proofs.YtmnjafceenckpaaDoor
