/-
  Joined: Fr1 Fr2 Fr3 Fr4 Fr5 Fr6.
-/
import Derived.Test.YtdafcjjlkjngmaaDoorJI04
import Derived.Test.YtdafcjjlkjngmaaDoorJI14
import Derived.RangeFuncNested
import Derived.RangeFuncBound
import Derived.RangeFuncCalls
import Derived.RangeFuncLeaves
import Derived.Shelf.Abstract
import Derived.Shelf.RegionOpen
import Derived.WalkKit
import Derived.OwnWalkIn
import Derived.TacticsInMore
import Derived.LoopNIn
import Derived.LoopIn
import Derived.Maps.AppendAt
set_option linter.unusedVariables false
set_option linter.unusedSimpArgs false
set_option maxRecDepth 100000
set_option linter.unusedVariables false
set_option linter.unusedSimpArgs false
namespace Go.Proofs.YtdafcjjlkjngmaaDoor
open Go.RowKit
def beL : List UInt8 := [27, 91, 50, 48, 48, 126]
def fuR (L : List UInt8) (m : Nat) (b : UInt8) : Nat := if b = L.getD m 0 then m + 1 else if b = L.getD 0 0 then 1 else 0
def mkM (ins : Bool) : List UInt8 := if ins = true then peL else beL
/-- How much of a mark stands behind an item. -/
def wkS (s : Bool × Nat) (x : It) : Nat := if x.1 = false then fuR (mkM s.1) s.2 x.2 else if s.1 = true then s.2 else 0
def wkN (s : Bool × Nat) (x : It) : Bool × Nat := if wkS s x = 6 then (!s.1, 0) else (s.1, wkS s x)
/-- What is told of an item: inside, begins, ends. -/
def wkP (s : Bool × Nat) (x : It) : Bool × Bool × Bool := (s.1, decide (wkS s x = 6) && !s.1, decide (wkS s x = 6) && s.1)
def wkA (s : Bool × Nat) : List It → Bool × Nat
  | [] => s
  | x :: l => wkA (wkN s x) l
theorem wkA_app (s : Bool × Nat) (a b : List It) : wkA s (a ++ b) = wkA (wkA s a) b := by
  induction a generalizing s with
  | nil => rfl
  | cons x a ih => exact ih _
theorem wkA_snoc (s : Bool × Nat) (a : List It) (x : It) : wkA s (a ++ [x]) = wkN (wkA s a) x := by rw [wkA_app]; rfl
theorem fuR_le {L : List UInt8} {m : Nat} (h : m < 6) (b : UInt8) : fuR L m b ≤ 6 := by
  unfold fuR
  repeat' split
  all_goals omega
theorem wkN_lt {s : Bool × Nat} (h : s.2 < 6) (x : It) : (wkN s x).2 < 6 := by
  have h1 : wkS s x ≤ 6 := by
    unfold wkS
    split
    · exact fuR_le h _
    · split <;> omega
  unfold wkN
  split
  · show 0 < 6; omega
  · rename_i h2; show wkS s x < 6; omega
theorem wkA_lt {s : Bool × Nat} (h : s.2 < 6) (l : List It) : (wkA s l).2 < 6 := by
  induction l generalizing s with
  | nil => exact h
  | cons x l ih => exact ih (wkN_lt h x)
/-- What is told of the item at a place. -/
def plA (l : List It) (i : Nat) : Bool × Bool × Bool := wkP (wkA (false, 0) (l.take i)) (l.getD i (false, 0))
theorem further_any (L : List UInt8) (hL : L.length = 6) (m : Nat) (hm : m < 6) (b : UInt8) (w : World) :
    Calls Tryd.prog 81 #[.string (mkL L), .int .i64 (m : Int), .int .u8 (b.toNat : Int)] w fun e w' => e = .returned (.int .i64 (fuR L m b : Int)) ∧ w = w' := by
  have i1 := fun w => idx_run L m (by omega) w
  have i0 := fun w => idx_run L 0 (by omega) w
  rw [show ((0 : Nat) : Int) = 0 from rfl] at i0
  unfold fuR
  by_cases h1 : b = L.getD m 0
  · rw [if_pos h1, h1]
    go_enter Tryd.func81, Tryd.ntmps81
    go_wp2
    go_ret
    exact ⟨rfl, rfl⟩
  · have e1 : ((b.toNat : Int) == ((L.getD m 0).toNat : Int)) = false := by
      have : b.toNat ≠ (L.getD m 0).toNat := fun e => h1 (UInt8.toNat_inj.1 e)
      rw [beq_eq_false_iff_ne]; omega
    rw [if_neg h1]
    by_cases h2 : b = L.getD 0 0
    · rw [if_pos h2]
      have e2 : ((b.toNat : Int) == ((L.getD 0 0).toNat : Int)) = true := by rw [h2]; simp
      clear h1 h2
      generalize (L.getD m 0).toNat = x at *
      generalize (L.getD 0 0).toNat = y at *
      generalize b.toNat = z at *
      go_enter Tryd.func81, Tryd.ntmps81
      go_wp2
      go_ret
      exact ⟨rfl, rfl⟩
    · rw [if_neg h2]
      have e2 : ((b.toNat : Int) == ((L.getD 0 0).toNat : Int)) = false := by
        have : b.toNat ≠ (L.getD 0 0).toNat := fun e => h2 (UInt8.toNat_inj.1 e)
        rw [beq_eq_false_iff_ne]; omega
      clear h1 h2
      generalize (L.getD m 0).toNat = x at *
      generalize (L.getD 0 0).toNat = y at *
      generalize b.toNat = z at *
      go_enter Tryd.func81, Tryd.ntmps81
      go_wp2
      go_ret
      exact ⟨rfl, rfl⟩
theorem other_any (ins : Bool) (w : World) : Calls Tryd.prog 82 #[.string (mkL (mkM ins))] w fun e w' => e = .returned (.string (mkL (mkM (!ins)))) ∧ w = w' := by
  cases ins
  · rw [show mkL (mkM false) = ⟨#[27, 91, 50, 48, 48, 126]⟩ from rfl, show mkL (mkM (!false)) = ⟨#[27, 91, 50, 48, 49, 126]⟩ from rfl]
    go_enter Tryd.func82, Tryd.ntmps82
    go_wp2
    go_ret
    exact ⟨rfl, rfl⟩
  · rw [show mkL (mkM true) = ⟨#[27, 91, 50, 48, 49, 126]⟩ from rfl, show mkL (mkM (!true)) = ⟨#[27, 91, 50, 48, 48, 126]⟩ from rfl]
    go_enter Tryd.func82, Tryd.ntmps82
    go_wp2
    go_ret
    exact ⟨rfl, rfl⟩
end Go.Proofs.YtdafcjjlkjngmaaDoor
set_option linter.unusedVariables false
set_option linter.unusedSimpArgs false
namespace Go.Proofs.YtdafcjjlkjngmaaDoor
open Go.RowKit Go.Shelf
attribute [local go_sem] Oper.semAt_some
/-- What is told of an item, as the values of a round. -/
def encF (l : List It) (n : Nat) (i : Fin n) : Array Value := #[.int .i64 (i.val : Int), .agg #[.bool (plA l i.val).1, .bool (plA l i.val).2.1, .bool (plA l i.val).2.2]]
def upN (n i : Nat) : List (Fin n) := (List.finRange n).take i
theorem upN_succ {n i : Nat} (h : i < n) : upN n (i + 1) = upN n i ++ [⟨i, h⟩] := by
  unfold upN
  rw [List.take_succ_eq_append_getElem (by simpa using h)]
  simp
theorem upN_all (n : Nat) : upN n n = List.finRange n := by
  unfold upN
  rw [List.take_of_length_le (by simp)]
theorem upN_len {n i : Nat} (h : i ≤ n) : (upN n i).length = i := by
  unfold upN
  rw [List.length_take]; simp; omega
theorem items_on {n₀ : Nat} {w w' : World} {a : Option Addr} {l : List It} (h : ItemsIn (fun j => j < n₀) w a l) (k : Below n₀ w w') : ItemsIn (fun j => j < n₀) w' a l := fun i hi => by
  obtain ⟨b, off, e, hb, h1, h2⟩ := h i hi
  exact ⟨b, off, e, hb, (k.cell (p := ⟨b, off + i * 2, none⟩) hb).trans h1, (k.cell (p := ⟨b, off + i * 2 + 1, none⟩) hb).trans h2⟩
set_option maxRecDepth 100000 in
set_option maxHeartbeats 4000000 in
theorem walk_stops (k : Nat) (hk : 1 ≤ k) (l : List It) (a : Option Addr) (n c bx n₀ : Nat) (w : World) (hn : l.length = n) (hl : n ≤ 400) (hbx : w.heap[bx]? = some (.cells #[.slice a n c] 22 (0, 0))) (hI : ItemsIn (fun j => j < n₀) w a l) (hw : n₀ ≤ w.heap.size) :
    SeqStopsK Fence.wide k Tryd.prog 80 #[.pointer (some ⟨bx, 0, none⟩)] (encF l n) (Below n₀) (fun ys => ys = List.finRange n) (fun _ => True) n w := fun L J Jx W hW hJ hJx hY h0 => by
  have grow := Lib.hid fun (pre : List (Fin n)) (W1 W2 : World) (h : J pre W1) (b : Below W1.heap.size W1 W2) (hz : W.heap.size ≤ W1.heap.size) => hJ pre W1 W2 none h ⟨b.os, b.tape, b.output, b.size, fun k hk _ => b.block k hk⟩ (fun r e => by cases e)
  have HY := Lib.hid hY
  have c0 := cell_of_row _ _ 0 _ _ _ (blk_below hbx hW)
  dsimp at c0
  have HI : Hid (ItemsIn (fun j => j < n₀) W a l) := Lib.hid (fun i hi => by
    obtain ⟨b, off, e, hb, h1, h2⟩ := hI i hi
    have hbw := Nat.lt_of_lt_of_le hb hw
    exact ⟨b, off, e, hb, (hW.cell (p := ⟨b, off + i * 2, none⟩) hbw).trans h1, (hW.cell (p := ⟨b, off + i * 2 + 1, none⟩) hbw).trans h2⟩)
  have HW : Hid (n₀ ≤ W.heap.size) := Lib.hid (Nat.le_trans hw hW.size)
  have HN := Lib.hid hn
  have H0 := Lib.hid h0
  have FU := Lib.hid further_any
  have OT := Lib.hid other_any
  clear hY hJ hJx hbx hI hw hW hn h0
  refine callsIn_of_wp Tryd.func80 rfl trivial ?_ rfl
  simp only [Tryd.ntmps80, List.size_toArray, List.length_cons, List.length_nil, Nat.reduceAdd, Nat.reduceSub, Array.replicate_succ, Array.replicate_zero, List.push_toArray, List.append_toArray, List.nil_append, List.cons_append]
  gi_wp2
  gi_loopw [3, 4, 10] (fun mv sv iv wr => ∃ (i st : Nat) (ins : Bool), i ≤ n ∧ iv = .int .i64 (i : Int) ∧ mv = .string (mkL (mkM ins)) ∧ sv = .int .i64 (st : Int) ∧ Hid (wkA (false, 0) (l.take i) = (ins, st)) ∧ Hid (ItemsIn (fun j => j < n₀) wr a l) ∧ Hid (W.heap.size ≤ wr.heap.size) ∧ Hid (J (upN n i) wr)) (fun _ _ iv _ => n - (intOf iv).toNat)
  case atStart => exact ⟨0, 0, false, Nat.zero_le _, rfl, rfl, rfl, Lib.hid rfl, HI, Lib.hid (Nat.le_refl _), H0⟩
  case round =>
    clear HI H0
    obtain ⟨i, st, ins, hi, rfl, rfl, rfl, HA, HI, HZ, HJ⟩ := hrel
    by_cases hlt : i < n
    · have hil : i < l.length := by rw [HN.out]; exact hlt
      obtain ⟨b, off, rfl, hb, i0, i1⟩ := HI.out i hil
      have hi1 : (i : Int) < n := by omega
      have hi0 : (0 : Int) ≤ i := by omega
      have hst := wkA_lt (s := (false, 0)) (by decide) (l.take i)
      rw [HA.out] at hst
      dsimp only at hst
      have htk : l.take (i + 1) = l.take i ++ [l.getD i (false, 0)] := by
        rw [List.take_succ_eq_append_getElem hil, List.getD, List.getElem?_eq_getElem hil]; rfl
      generalize hx : l.getD i (false, 0) = x at *
      obtain ⟨t, u⟩ := x
      dsimp only at i0 i1
      clear hil
      cases ins
      · cases t
        · by_cases h6 : fuR beL st u = 6
          · have hw1 : wkS (false, st) (false, u) = fuR beL st u := rfl
            rw [h6] at hw1
            have hpl : plA l i = (false, true, false) := by unfold plA; rw [HA.out, hx]; unfold wkP; rw [decide_eq_true hw1]; rfl
            have hnx : wkA (false, 0) (l.take (i + 1)) = (!false, 0) := by rw [htk, wkA_snoc, HA.out]; unfold wkN; rw [if_pos hw1]
            have b2 := seqB (below_alloc wr (.cells #[.bool false, .int .u8 (u.toNat : Int)] 35)) (below_alloc (wr.alloc (.cells #[.bool false, .int .u8 (u.toNat : Int)] 35)) (.cells #[.bool false, .bool true, .bool false] 87))
            have hj := grow.out _ _ _ HJ.out b2 HZ.out
            obtain ⟨fn, tmps, assign, body, hy, hR⟩ := HY.out _ ⟨i, hlt⟩ _ hj (by rw [upN_len hi]; exact hlt)
            unfold encF at hy
            dsimp only at hy
            rw [hpl] at hy
            dsimp only at hy
            have HR := Lib.hid hR
            have NX := Lib.hid hnx
            have B2 := Lib.hid b2
            have FUi : Hid (∀ w, Calls Tryd.prog 81 #[.string ⟨#[27, 91, 50, 48, 48, 126]⟩, .int .i64 (st : Int), .int .u8 (u.toNat : Int)] w fun e w' => e = .returned (.int .i64 (fuR beL st u : Int)) ∧ w = w') := Lib.hid (fun w => FU.out beL rfl st hst u w)
            rw [h6] at FUi
            have OTi : Hid (∀ w, Calls Tryd.prog 82 #[.string ⟨#[27, 91, 50, 48, 48, 126]⟩] w fun e w' => e = .returned (.string ⟨#[27, 91, 50, 48, 49, 126]⟩) ∧ w = w') := Lib.hid (fun w => OT.out false w)
            clear hR hj hnx hpl htk b2 hw1 HJ h6
            rw [show mkL (mkM false) = ⟨#[27, 91, 50, 48, 48, 126]⟩ from rfl]
            gi_wp2_with (first
              | (refine ⟨trivial, ?_⟩; gi_at_call 81; refine (callsIn_wide.2 (FUi.out _)).mono ?_; rintro e w3 ⟨rfl, rfl⟩)
              | (refine ⟨trivial, ?_⟩; gi_at_call 82; refine (callsIn_wide.2 (OTi.out _)).mono ?_; rintro e w4 ⟨rfl, rfl⟩))
            refine HR.out.mono ?_
            rintro e W3 (⟨rfl, hJ3, hk3⟩ | ⟨rfl, hJx3⟩)
            · have J3 := Lib.hid hJ3
              have I3 : Hid (ItemsIn (fun j => j < n₀) W3 _ l) := Lib.hid (items_on (items_on HI.out (B2.out.mono (Nat.le_trans HW.out HZ.out))) hk3)
              have Z3 := Lib.hid (Nat.le_trans (Nat.le_trans HZ.out B2.out.size) hk3.size)
              clear hJ3 hk3
              gi_wp2
              go_roundw
              case rel => exact ⟨i + 1, 0, true, by omega, by go_num, rfl, rfl, NX, I3, Z3, Lib.hid (by rw [upN_succ hlt]; exact J3.out)⟩
              case measure => (simp [intOf]; try omega)
            · have JX := Lib.hid hJx3
              clear hJx3
              gi_wp2
              refine bodyPost_ret (results_none rfl _ _ _) rfl ?_
              exact ⟨⟨_, rfl⟩, .inr ⟨_, trivial, JX.out⟩⟩
          · have hw1 : wkS (false, st) (false, u) = fuR beL st u := rfl
            have h6' : ¬ wkS (false, st) (false, u) = 6 := by rw [hw1]; exact h6
            have hpl : plA l i = (false, false, false) := by unfold plA; rw [HA.out, hx]; unfold wkP; rw [decide_eq_false h6']; rfl
            have hnx : wkA (false, 0) (l.take (i + 1)) = (false, fuR beL st u) := by rw [htk, wkA_snoc, HA.out]; unfold wkN; rw [if_neg h6', hw1]
            have b2 := seqB (below_alloc wr (.cells #[.bool false, .int .u8 (u.toNat : Int)] 35)) (below_alloc (wr.alloc (.cells #[.bool false, .int .u8 (u.toNat : Int)] 35)) (.cells #[.bool false, .bool false, .bool false] 87))
            have hj := grow.out _ _ _ HJ.out b2 HZ.out
            obtain ⟨fn, tmps, assign, body, hy, hR⟩ := HY.out _ ⟨i, hlt⟩ _ hj (by rw [upN_len hi]; exact hlt)
            unfold encF at hy
            dsimp only at hy
            rw [hpl] at hy
            dsimp only at hy
            have HR := Lib.hid hR
            have NX := Lib.hid hnx
            have B2 := Lib.hid b2
            have FUi : Hid (∀ w, Calls Tryd.prog 81 #[.string ⟨#[27, 91, 50, 48, 48, 126]⟩, .int .i64 (st : Int), .int .u8 (u.toNat : Int)] w fun e w' => e = .returned (.int .i64 (fuR beL st u : Int)) ∧ w = w') := Lib.hid (fun w => FU.out beL rfl st hst u w)
            have h6b : ((fuR beL st u : Int) == 6) = false := by rw [beq_eq_false_iff_ne]; omega
            generalize fuR beL st u = z at *
            clear hR hj hnx hpl htk b2 hw1 HJ h6' h6
            rw [show mkL (mkM false) = ⟨#[27, 91, 50, 48, 48, 126]⟩ from rfl]
            gi_wp2_with (first
              | (refine ⟨trivial, ?_⟩; gi_at_call 81; refine (callsIn_wide.2 (FUi.out _)).mono ?_; rintro e w3 ⟨rfl, rfl⟩)
              | (refine ⟨trivial, ?_⟩; gi_at_call 82; refine (callsIn_wide.2 (OTi.out _)).mono ?_; rintro e w4 ⟨rfl, rfl⟩))
            refine HR.out.mono ?_
            rintro e W3 (⟨rfl, hJ3, hk3⟩ | ⟨rfl, hJx3⟩)
            · have J3 := Lib.hid hJ3
              have I3 : Hid (ItemsIn (fun j => j < n₀) W3 _ l) := Lib.hid (items_on (items_on HI.out (B2.out.mono (Nat.le_trans HW.out HZ.out))) hk3)
              have Z3 := Lib.hid (Nat.le_trans (Nat.le_trans HZ.out B2.out.size) hk3.size)
              clear hJ3 hk3
              gi_wp2
              go_roundw
              case rel => exact ⟨i + 1, z, false, by omega, by go_num, rfl, rfl, NX, I3, Z3, Lib.hid (by rw [upN_succ hlt]; exact J3.out)⟩
              case measure => (simp [intOf]; try omega)
            · have JX := Lib.hid hJx3
              clear hJx3
              gi_wp2
              refine bodyPost_ret (results_none rfl _ _ _) rfl ?_
              exact ⟨⟨_, rfl⟩, .inr ⟨_, trivial, JX.out⟩⟩
        · have hw1 : wkS (false, st) (true, u) = 0 := rfl
          have h6' : ¬ wkS (false, st) (true, u) = 6 := by rw [hw1]; omega
          have hpl : plA l i = (false, false, false) := by unfold plA; rw [HA.out, hx]; unfold wkP; rw [decide_eq_false h6']; rfl
          have hnx : wkA (false, 0) (l.take (i + 1)) = (false, 0) := by rw [htk, wkA_snoc, HA.out]; unfold wkN; rw [if_neg h6', hw1]
          have b2 := seqB (below_alloc wr (.cells #[.bool true, .int .u8 (u.toNat : Int)] 35)) (below_alloc (wr.alloc (.cells #[.bool true, .int .u8 (u.toNat : Int)] 35)) (.cells #[.bool false, .bool false, .bool false] 87))
          have hj := grow.out _ _ _ HJ.out b2 HZ.out
          obtain ⟨fn, tmps, assign, body, hy, hR⟩ := HY.out _ ⟨i, hlt⟩ _ hj (by rw [upN_len hi]; exact hlt)
          unfold encF at hy
          dsimp only at hy
          rw [hpl] at hy
          dsimp only at hy
          have HR := Lib.hid hR
          have NX := Lib.hid hnx
          have B2 := Lib.hid b2
          clear hR hj hnx hpl htk b2 hw1 HJ h6'
          rw [show mkL (mkM false) = ⟨#[27, 91, 50, 48, 48, 126]⟩ from rfl]
          gi_wp2_with (first
            | (refine ⟨trivial, ?_⟩; gi_at_call 81; refine (callsIn_wide.2 (FUi.out _)).mono ?_; rintro e w3 ⟨rfl, rfl⟩)
            | (refine ⟨trivial, ?_⟩; gi_at_call 82; refine (callsIn_wide.2 (OTi.out _)).mono ?_; rintro e w4 ⟨rfl, rfl⟩))
          refine HR.out.mono ?_
          rintro e W3 (⟨rfl, hJ3, hk3⟩ | ⟨rfl, hJx3⟩)
          · have J3 := Lib.hid hJ3
            have I3 : Hid (ItemsIn (fun j => j < n₀) W3 _ l) := Lib.hid (items_on (items_on HI.out (B2.out.mono (Nat.le_trans HW.out HZ.out))) hk3)
            have Z3 := Lib.hid (Nat.le_trans (Nat.le_trans HZ.out B2.out.size) hk3.size)
            clear hJ3 hk3
            gi_wp2
            go_roundw
            case rel => exact ⟨i + 1, 0, false, by omega, by go_num, rfl, rfl, NX, I3, Z3, Lib.hid (by rw [upN_succ hlt]; exact J3.out)⟩
            case measure => (simp [intOf]; try omega)
          · have JX := Lib.hid hJx3
            clear hJx3
            gi_wp2
            refine bodyPost_ret (results_none rfl _ _ _) rfl ?_
            exact ⟨⟨_, rfl⟩, .inr ⟨_, trivial, JX.out⟩⟩
      · cases t
        · by_cases h6 : fuR peL st u = 6
          · have hw1 : wkS (true, st) (false, u) = fuR peL st u := rfl
            rw [h6] at hw1
            have hpl : plA l i = (true, false, true) := by unfold plA; rw [HA.out, hx]; unfold wkP; rw [decide_eq_true hw1]; rfl
            have hnx : wkA (false, 0) (l.take (i + 1)) = (!true, 0) := by rw [htk, wkA_snoc, HA.out]; unfold wkN; rw [if_pos hw1]
            have b2 := seqB (below_alloc wr (.cells #[.bool false, .int .u8 (u.toNat : Int)] 35)) (below_alloc (wr.alloc (.cells #[.bool false, .int .u8 (u.toNat : Int)] 35)) (.cells #[.bool true, .bool false, .bool true] 87))
            have hj := grow.out _ _ _ HJ.out b2 HZ.out
            obtain ⟨fn, tmps, assign, body, hy, hR⟩ := HY.out _ ⟨i, hlt⟩ _ hj (by rw [upN_len hi]; exact hlt)
            unfold encF at hy
            dsimp only at hy
            rw [hpl] at hy
            dsimp only at hy
            have HR := Lib.hid hR
            have NX := Lib.hid hnx
            have B2 := Lib.hid b2
            have FUi : Hid (∀ w, Calls Tryd.prog 81 #[.string ⟨#[27, 91, 50, 48, 49, 126]⟩, .int .i64 (st : Int), .int .u8 (u.toNat : Int)] w fun e w' => e = .returned (.int .i64 (fuR peL st u : Int)) ∧ w = w') := Lib.hid (fun w => FU.out peL rfl st hst u w)
            rw [h6] at FUi
            have OTi : Hid (∀ w, Calls Tryd.prog 82 #[.string ⟨#[27, 91, 50, 48, 49, 126]⟩] w fun e w' => e = .returned (.string ⟨#[27, 91, 50, 48, 48, 126]⟩) ∧ w = w') := Lib.hid (fun w => OT.out true w)
            clear hR hj hnx hpl htk b2 hw1 HJ h6
            rw [show mkL (mkM true) = ⟨#[27, 91, 50, 48, 49, 126]⟩ from rfl]
            gi_wp2_with (first
              | (refine ⟨trivial, ?_⟩; gi_at_call 81; refine (callsIn_wide.2 (FUi.out _)).mono ?_; rintro e w3 ⟨rfl, rfl⟩)
              | (refine ⟨trivial, ?_⟩; gi_at_call 82; refine (callsIn_wide.2 (OTi.out _)).mono ?_; rintro e w4 ⟨rfl, rfl⟩))
            refine HR.out.mono ?_
            rintro e W3 (⟨rfl, hJ3, hk3⟩ | ⟨rfl, hJx3⟩)
            · have J3 := Lib.hid hJ3
              have I3 : Hid (ItemsIn (fun j => j < n₀) W3 _ l) := Lib.hid (items_on (items_on HI.out (B2.out.mono (Nat.le_trans HW.out HZ.out))) hk3)
              have Z3 := Lib.hid (Nat.le_trans (Nat.le_trans HZ.out B2.out.size) hk3.size)
              clear hJ3 hk3
              gi_wp2
              go_roundw
              case rel => exact ⟨i + 1, 0, false, by omega, by go_num, rfl, rfl, NX, I3, Z3, Lib.hid (by rw [upN_succ hlt]; exact J3.out)⟩
              case measure => (simp [intOf]; try omega)
            · have JX := Lib.hid hJx3
              clear hJx3
              gi_wp2
              refine bodyPost_ret (results_none rfl _ _ _) rfl ?_
              exact ⟨⟨_, rfl⟩, .inr ⟨_, trivial, JX.out⟩⟩
          · have hw1 : wkS (true, st) (false, u) = fuR peL st u := rfl
            have h6' : ¬ wkS (true, st) (false, u) = 6 := by rw [hw1]; exact h6
            have hpl : plA l i = (true, false, false) := by unfold plA; rw [HA.out, hx]; unfold wkP; rw [decide_eq_false h6']; rfl
            have hnx : wkA (false, 0) (l.take (i + 1)) = (true, fuR peL st u) := by rw [htk, wkA_snoc, HA.out]; unfold wkN; rw [if_neg h6', hw1]
            have b2 := seqB (below_alloc wr (.cells #[.bool false, .int .u8 (u.toNat : Int)] 35)) (below_alloc (wr.alloc (.cells #[.bool false, .int .u8 (u.toNat : Int)] 35)) (.cells #[.bool true, .bool false, .bool false] 87))
            have hj := grow.out _ _ _ HJ.out b2 HZ.out
            obtain ⟨fn, tmps, assign, body, hy, hR⟩ := HY.out _ ⟨i, hlt⟩ _ hj (by rw [upN_len hi]; exact hlt)
            unfold encF at hy
            dsimp only at hy
            rw [hpl] at hy
            dsimp only at hy
            have HR := Lib.hid hR
            have NX := Lib.hid hnx
            have B2 := Lib.hid b2
            have FUi : Hid (∀ w, Calls Tryd.prog 81 #[.string ⟨#[27, 91, 50, 48, 49, 126]⟩, .int .i64 (st : Int), .int .u8 (u.toNat : Int)] w fun e w' => e = .returned (.int .i64 (fuR peL st u : Int)) ∧ w = w') := Lib.hid (fun w => FU.out peL rfl st hst u w)
            have h6b : ((fuR peL st u : Int) == 6) = false := by rw [beq_eq_false_iff_ne]; omega
            generalize fuR peL st u = z at *
            clear hR hj hnx hpl htk b2 hw1 HJ h6' h6
            rw [show mkL (mkM true) = ⟨#[27, 91, 50, 48, 49, 126]⟩ from rfl]
            gi_wp2_with (first
              | (refine ⟨trivial, ?_⟩; gi_at_call 81; refine (callsIn_wide.2 (FUi.out _)).mono ?_; rintro e w3 ⟨rfl, rfl⟩)
              | (refine ⟨trivial, ?_⟩; gi_at_call 82; refine (callsIn_wide.2 (OTi.out _)).mono ?_; rintro e w4 ⟨rfl, rfl⟩))
            refine HR.out.mono ?_
            rintro e W3 (⟨rfl, hJ3, hk3⟩ | ⟨rfl, hJx3⟩)
            · have J3 := Lib.hid hJ3
              have I3 : Hid (ItemsIn (fun j => j < n₀) W3 _ l) := Lib.hid (items_on (items_on HI.out (B2.out.mono (Nat.le_trans HW.out HZ.out))) hk3)
              have Z3 := Lib.hid (Nat.le_trans (Nat.le_trans HZ.out B2.out.size) hk3.size)
              clear hJ3 hk3
              gi_wp2
              go_roundw
              case rel => exact ⟨i + 1, z, true, by omega, by go_num, rfl, rfl, NX, I3, Z3, Lib.hid (by rw [upN_succ hlt]; exact J3.out)⟩
              case measure => (simp [intOf]; try omega)
            · have JX := Lib.hid hJx3
              clear hJx3
              gi_wp2
              refine bodyPost_ret (results_none rfl _ _ _) rfl ?_
              exact ⟨⟨_, rfl⟩, .inr ⟨_, trivial, JX.out⟩⟩
        · have hw1 : wkS (true, st) (true, u) = st := rfl
          have h6' : ¬ wkS (true, st) (true, u) = 6 := by rw [hw1]; omega
          have hpl : plA l i = (true, false, false) := by unfold plA; rw [HA.out, hx]; unfold wkP; rw [decide_eq_false h6']; rfl
          have hnx : wkA (false, 0) (l.take (i + 1)) = (true, st) := by rw [htk, wkA_snoc, HA.out]; unfold wkN; rw [if_neg h6', hw1]
          have b2 := seqB (below_alloc wr (.cells #[.bool true, .int .u8 (u.toNat : Int)] 35)) (below_alloc (wr.alloc (.cells #[.bool true, .int .u8 (u.toNat : Int)] 35)) (.cells #[.bool true, .bool false, .bool false] 87))
          have hj := grow.out _ _ _ HJ.out b2 HZ.out
          obtain ⟨fn, tmps, assign, body, hy, hR⟩ := HY.out _ ⟨i, hlt⟩ _ hj (by rw [upN_len hi]; exact hlt)
          unfold encF at hy
          dsimp only at hy
          rw [hpl] at hy
          dsimp only at hy
          have HR := Lib.hid hR
          have NX := Lib.hid hnx
          have B2 := Lib.hid b2
          have h6b : ((st : Int) == 6) = false := by rw [beq_eq_false_iff_ne]; omega
          clear hR hj hnx hpl htk b2 hw1 HJ h6'
          rw [show mkL (mkM true) = ⟨#[27, 91, 50, 48, 49, 126]⟩ from rfl]
          gi_wp2_with (first
            | (refine ⟨trivial, ?_⟩; gi_at_call 81; refine (callsIn_wide.2 (FUi.out _)).mono ?_; rintro e w3 ⟨rfl, rfl⟩)
            | (refine ⟨trivial, ?_⟩; gi_at_call 82; refine (callsIn_wide.2 (OTi.out _)).mono ?_; rintro e w4 ⟨rfl, rfl⟩))
          refine HR.out.mono ?_
          rintro e W3 (⟨rfl, hJ3, hk3⟩ | ⟨rfl, hJx3⟩)
          · have J3 := Lib.hid hJ3
            have I3 : Hid (ItemsIn (fun j => j < n₀) W3 _ l) := Lib.hid (items_on (items_on HI.out (B2.out.mono (Nat.le_trans HW.out HZ.out))) hk3)
            have Z3 := Lib.hid (Nat.le_trans (Nat.le_trans HZ.out B2.out.size) hk3.size)
            clear hJ3 hk3
            gi_wp2
            go_roundw
            case rel => exact ⟨i + 1, st, true, by omega, by go_num, rfl, rfl, NX, I3, Z3, Lib.hid (by rw [upN_succ hlt]; exact J3.out)⟩
            case measure => (simp [intOf]; try omega)
          · have JX := Lib.hid hJx3
            clear hJx3
            gi_wp2
            refine bodyPost_ret (results_none rfl _ _ _) rfl ?_
            exact ⟨⟨_, rfl⟩, .inr ⟨_, trivial, JX.out⟩⟩
    · obtain rfl : i = n := by omega
      have hi1 : ¬ ((i : Int) < (i : Int)) := by omega
      gi_wp2
      go_end0
      have h := HJ.out
      rw [upN_all] at h
      first | exact ⟨⟨_, rfl⟩, .inl h⟩ | exact ⟨⟨_, rfl⟩, .inl ⟨_, rfl, h⟩⟩
end Go.Proofs.YtdafcjjlkjngmaaDoor
set_option linter.unusedVariables false
set_option linter.unusedSimpArgs false
namespace Go.Proofs.YtdafcjjlkjngmaaDoor
open Go.RowKit Go.Shelf
attribute [local go_sem] Oper.semAt_some
theorem fwalk_any (a : Option Addr) (n c : Nat) (w : World) : Calls Tryd.prog 46 #[.slice a n c] w fun e w' => e = .returned (.func (.func 80) #[] #[.pointer (some ⟨w.heap.size, 0, none⟩)]) ∧ w'.heap[w.heap.size]? = some (.cells #[.slice a n c] 22 (0, 0)) ∧ Below w.heap.size w w' := by
  have hmf : ∀ (fn : Fn) (first cap : Array Value) (w : World), (Instr.makeFunc fn first cap).run Tryd.prog w = .ok (.func fn first cap) w := fun _ _ _ _ => rfl
  have B := Lib.hid (below_alloc w (.cells #[.slice a n c] 22))
  have R := Lib.hid (heap_alloc_new w (.cells #[.slice a n c] 22))
  go_enter Tryd.func46, Tryd.ntmps46
  go_wp2
  go_ret
  exact ⟨rfl, R.out, B.out⟩
theorem blk_ownF {β : Type} (B : Nat) (t : TypeId) (f : β → Array Value) : Own (fun (s : β) W => W.heap[B]? = some (Obj.cells (f s) t (0, 0))) := fun s X Y row hs hg hrow =>
  (hg.block B (Array.getElem?_eq_some_iff.1 hs).1 (fun e' => by obtain ⟨o, ho, hc⟩ := hrow B e'.symm; rw [show X.heap[B]? = _ from hs] at ho; cases ho; cases hc)).trans hs
theorem keepsO_belowF {W W' : World} (b : Below W.heap.size W W') : KeepsOthers W W' := ⟨b.size, fun k o hk _ => (b.block k (Array.getElem?_eq_some_iff.1 hk).1).trans hk⟩
/-- Whether a paste is open behind some places. -/
def opF (l : List It) {n : Nat} (pre : List (Fin n)) : Bool := pre.foldl (fun acc i => if (plA l i.val).2.1 = true then true else if (plA l i.val).2.2 = true then false else acc) false
theorem opF_snoc (l : List It) {n : Nat} (pre : List (Fin n)) (i : Fin n) : opF l (pre ++ [i]) = if (plA l i.val).2.1 = true then true else if (plA l i.val).2.2 = true then false else opF l pre := by
  unfold opF; rw [List.foldl_append]; rfl
set_option maxRecDepth 100000 in
set_option maxHeartbeats 4000000 in
theorem fopen_any (l : List It) (a : Option Addr) (n c : Nat) (w : World) (hn : l.length = n) (hl : n ≤ 400) (hI : ItemsIn (fun j => j < w.heap.size) w a l) :
    Calls Tryd.prog 45 #[.slice a n c] w fun e w' => e = .returned (.bool (opF l (List.finRange n))) ∧ Below w.heap.size w w' := by
  have b1 := below_alloc w (.cells #[.bool false] 4)
  have r1 := Boxed.new w 4 (.bool false)
  have WK := Lib.hid (fwalk_any a n c (w.alloc (.cells #[.bool false] 4)))
  have R1 := Lib.hid r1
  have B1 := Lib.hid b1
  have HI := Lib.hid (items_on hI b1)
  have HN := Lib.hid hn
  clear b1 r1 hI hn
  refine (callsIn_wide (n := 6)).1 ?_
  refine callsIn_of_wp_marks Tryd.func45 rfl trivial ?_ rfl
  simp only [Tryd.ntmps45, List.size_toArray, List.length_cons, List.length_nil, Nat.reduceAdd, Nat.reduceSub, Array.replicate_succ, Array.replicate_zero, List.push_toArray, List.append_toArray, List.nil_append, List.cons_append]
  gi_wp2_with (refine ⟨trivial, ?_⟩; gi_at_call 46; refine (callsIn_wide.2 WK.out).mono ?_; rintro e w2 ⟨rfl, hq, hb⟩; have Q2 := Lib.hid hq; have N2 := Lib.hid (seqB B1.out hb); have R2 := Lib.hid (show Boxed w2 w.heap.size 4 (.bool false) from blk_below R1.out hb); have I2 := Lib.hid (items_on HI.out (hb.mono B1.out.size)); clear hq hb)
  clear R1 HI WK
  have hws := Lib.hid N2.out.size
  have hbxs : (w.alloc (.cells #[.bool false] 4)).heap.size = w.heap.size + 1 := by simp
  rw [hbxs] at Q2
  clear hbxs
  refine wpIn_rangeFunc_ownH rfl (by decide) (gf := 80) (lb := #[.pointer (some ⟨w.heap.size + 1, 0, none⟩)]) rfl trivial (enters_of Tryd.func80 (by kernel_rfl) rfl)
    (walk_stops 5 (by decide) l a n c (w.heap.size + 1) w.heap.size w2 HN.out hl Q2.out I2.out hws.out) belowK_t (belowK_b hws.out) (Below.refl _ _) (fun _ => rfl)
    (fun pre W => Boxed W w.heap.size 4 (.bool (opF l pre)) ∧ Below w.heap.size w W)
    (fun _ _ _ => False)
    (OwnFrom.and (Own.from (boxed_own _ _ _) _) (ownFrom_below (Nat.le_refl _) hws.out))
    (fun _ _ _ _ _ hs _ _ => hs)
    ⟨R2.out, N2.out⟩
    (fun x a' W => ∃ Bx, w.heap.size < Bx ∧ W.heap[Bx]? = some (Obj.cells #[.bool (plA l x.val).1, .bool (plA l x.val).2.1, .bool (plA l x.val).2.2] 87 (0, 0)) ∧ a' = { tmps := #[.slice a n c, undef, .bool false, .pointer (some ⟨w.heap.size, 0, none⟩), undef, .pointer (some ⟨Bx, 0, none⟩), .slice a n c, .func (.func 80) #[] #[.pointer (some ⟨w.heap.size + 1, 0, none⟩)], .int .i64 (x.val : Int), .agg #[.bool (plA l x.val).1, .bool (plA l x.val).2.1, .bool (plA l x.val).2.2], undef, undef, undef, undef, undef, undef, undef], defers := [] })
    (fun x a' _ X Y row hs hg hr => by obtain ⟨Bx, e1, e2, e3⟩ := hs; exact ⟨Bx, e1, blk_ownF Bx _ (fun (_ : Unit) => #[.bool (plA l x.val).1, .bool (plA l x.val).2.1, .bool (plA l x.val).2.2]) () X Y row e2 hg (fun r e => (hr r e).2), e3⟩)
    ?assign ?body ?done ?stop
  case assign =>
    rintro L pre x W K ⟨bR, hB⟩ hK
    have bl := bR.lt
    unfold encF
    dsimp only
    gi_wp2
    exact hK _ _ ((KeepsOthers.alloc _ _).from _) ((below_alloc W _).mono hB.size) ⟨bR.alloc _, hB.alloc hB.size _⟩ ⟨W.heap.size, bl, heap_alloc_new _ _, rfl⟩
  case body =>
    rintro L pre x a' W hL ⟨r, hr⟩ ⟨bR, hB⟩ ⟨Bx, hBx, bX, rfl⟩ hlt
    have hop := opF_snoc l pre x
    have KF : ∀ v, KeepsFrom w2.heap.size W (W.setCell ⟨w.heap.size, 0, none⟩ v) ∧ Below w.heap.size W (W.setCell ⟨w.heap.size, 0, none⟩ v) ∧ Boxed (W.setCell ⟨w.heap.size, 0, none⟩ v) w.heap.size 4 v ∧ Below w.heap.size w (W.setCell ⟨w.heap.size, 0, none⟩ v) := fun v =>
      ⟨(KeepsOthers.setCell _ _ _).from _, (Below.refl w.heap.size W).setCell (p := ⟨w.heap.size, 0, none⟩) (Nat.le_refl _) _, bR.set _, hB.setCell (p := ⟨w.heap.size, 0, none⟩) (Nat.le_refl _) _⟩
    have KF := Lib.hid KF
    generalize plA l x.val = pl at *
    obtain ⟨p1, p2, p3⟩ := pl
    dsimp only at bX hop
    have d0 := cell_of_row _ _ 0 _ _ _ bX
    have d1 := cell_of_row _ _ 1 _ _ _ bX
    have d2 := cell_of_row _ _ 2 _ _ _ bX
    dsimp at d0 d1 d2
    have cR := bR.cell
    have fR := bR.frozen
    cases p2
    · cases p3
      · rw [if_neg (by decide), if_neg (by decide)] at hop
        have HO := Lib.hid hop
        clear hop
        gi_wp2
        exact ⟨(KeepsOthers.refl _).from _, Below.refl _ _, by rw [HO.out]; exact bR, hB⟩
      · rw [if_neg (by decide), if_pos rfl] at hop
        have HO := Lib.hid hop
        clear hop
        gi_wp2
        exact ⟨(KF.out _).1, (KF.out _).2.1, by rw [HO.out]; exact (KF.out _).2.2.1, (KF.out _).2.2.2⟩
    · rw [if_pos rfl] at hop
      have HO := Lib.hid hop
      clear hop
      gi_wp2
      exact ⟨(KF.out _).1, (KF.out _).2.1, by rw [HO.out]; exact (KF.out _).2.2.1, (KF.out _).2.2.2⟩
  case done =>
    rintro D xs W hD rfl ⟨bR, hB⟩ hK
    have cR := bR.cell
    gi_wp2
    refine ⟨by simp, .inl ⟨_, _, rfl, run_takeDeferred hK, ?_⟩⟩
    exact ⟨_, results_tmp rfl _ _ _, rfl, hB.trans (belowK_b (w := w) (Nat.le_refl _) W D _ _ (Nat.le_trans hws.out hD) hK rfl rfl)⟩
  case stop =>
    rintro D c' pre W _ _ h _
    exact h.elim
end Go.Proofs.YtdafcjjlkjngmaaDoor
set_option linter.unusedVariables false
set_option linter.unusedSimpArgs false
namespace Go.Proofs.YtdafcjjlkjngmaaDoor
open Go.RowKit Go.Shelf
attribute [local go_sem] Oper.semAt_some
/-- What has been told of the places, as a row. -/
def blR (l : List It) {n : Nat} (pre : List (Fin n)) : Array Value := ((List.range n).map fun j => Value.bool (pre.any (fun i => decide (i.val = j)) && (plA l j).1)).toArray
theorem blR_at (l : List It) {n : Nat} (pre : List (Fin n)) (j : Nat) (h : j < n) : (blR l pre)[j]? = some (.bool (pre.any (fun i => decide (i.val = j)) && (plA l j).1)) := by
  unfold blR
  rw [List.getElem?_toArray, List.getElem?_map, List.getElem?_range h]; rfl
theorem blR_set (l : List It) {n : Nat} (pre : List (Fin n)) (x : Fin n) : (blR l pre).setIfInBounds x.val (.bool (plA l x.val).1) = blR l (pre ++ [x]) := by
  apply Array.ext_getElem?
  intro j
  rw [Array.getElem?_setIfInBounds]
  by_cases h : x.val = j
  · subst h
    rw [if_pos rfl, if_pos (by unfold blR; simp), blR_at l _ _ x.isLt, List.any_append]
    simp
  · rw [if_neg h]
    by_cases hj : j < n
    · rw [blR_at l _ _ hj, blR_at l _ _ hj, List.any_append]
      simp [h]
    · unfold blR
      rw [List.getElem?_toArray, List.getElem?_toArray, List.getElem?_eq_none (by simp; omega), List.getElem?_eq_none (by simp; omega)]
theorem blR_nil (l : List It) (n : Nat) : madeCells #[.bool false] (n * 1) = blR l ([] : List (Fin n)) := by
  apply Array.ext'
  rw [toList_madeCells_one]
  unfold blR
  apply List.ext_getElem
  · simp
  · intro i h1 h2; simp
theorem blR_all (l : List It) (n : Nat) : blR l (List.finRange n) = ((List.range n).map fun i => Value.bool (plA l i).1).toArray := by
  apply Array.ext_getElem?
  intro j
  by_cases hj : j < n
  · rw [blR_at l _ _ hj, List.getElem?_toArray, List.getElem?_map, List.getElem?_range hj]
    have : (List.finRange n).any (fun i => decide (i.val = j)) = true := List.any_eq_true.2 ⟨⟨j, hj⟩, List.mem_finRange _, by simp⟩
    rw [this]; rfl
  · unfold blR
    rw [List.getElem?_toArray, List.getElem?_toArray, List.getElem?_eq_none (by simp; omega), List.getElem?_eq_none (by simp; omega)]
theorem infoBl : (Tryd.prog.info? 4).map (fun i => (i.zero, i.size, i.bytes)) = some (some (.bool false), 1, 1) := by kernel_rfl
theorem frozen_blk {w : World} {B i : Nat} {cs : Array Value} {t : TypeId} (h : w.heap[B]? = some (.cells cs t (0, 0))) : w.frozen? ⟨B, i, none⟩ = false := frozen_of_row _ B i _ _ h
set_option maxRecDepth 100000 in
set_option maxHeartbeats 4000000 in
theorem finside_any (l : List It) (a : Option Addr) (n c : Nat) (w : World) (hn : l.length = n) (hl : n ≤ 400) (hI : ItemsIn (fun j => j < w.heap.size) w a l) :
    Calls Tryd.prog 44 #[.slice a n c] w fun e w' => ∃ R, e = .returned (.slice (some ⟨R, 0, none⟩) n n) ∧ w'.heap[R]? = some (.cells ((List.range n).map fun i => Value.bool (plA l i).1).toArray 4 (0, 0)) ∧ Below w.heap.size w w' := by
  rw [← blR_all]
  have hmk : ∀ w : World, (Instr.makeSlice 52 (.int .i64 (n : Int)) (.int .i64 (n : Int))).run Tryd.prog w = .ok (.slice (some ⟨w.heap.size, 0, none⟩) n n) (w.alloc (.cells (blR l ([] : List (Fin n))) 4)) := fun w => by
    obtain ⟨i0, hi, hz0, hz1, hz2⟩ := info_parts infoBl
    have h := make_rowN (P := Tryd.prog) 52 4 i0 _ Tryd.underlying52 hi hz0 n (by rw [hz2]; omega) (by omega) w
    rw [hz1] at h
    rw [show (Value.bool false).cells = #[.bool false] from rfl, blR_nil l] at h
    exact h
  have b0 := below_alloc w (.cells (blR l ([] : List (Fin n))) 4)
  have r0 := heap_alloc_new w (.cells (blR l ([] : List (Fin n))) 4)
  have hs0 : (w.alloc (.cells (blR l ([] : List (Fin n))) 4)).heap.size = w.heap.size + 1 := by simp
  have b1 := below_alloc (w.alloc (.cells (blR l ([] : List (Fin n))) 4)) (.cells #[.slice (some ⟨w.heap.size, 0, none⟩) n n] 52)
  have r1 := Boxed.new (w.alloc (.cells (blR l ([] : List (Fin n))) 4)) 52 (.slice (some ⟨w.heap.size, 0, none⟩) n n)
  have r01 := blk_below r0 b1
  have b01 := seqB b0 b1
  rw [hs0] at r1
  have hs1 : ((w.alloc (.cells (blR l ([] : List (Fin n))) 4)).alloc (.cells #[.slice (some ⟨w.heap.size, 0, none⟩) n n] 52)).heap.size = w.heap.size + 2 := by simp
  have WK := fwalk_any a n c ((w.alloc (.cells (blR l ([] : List (Fin n))) 4)).alloc (.cells #[.slice (some ⟨w.heap.size, 0, none⟩) n n] 52))
  have WK := Lib.hid WK
  have R1 := Lib.hid r1
  have R0 := Lib.hid r01
  have B1 := Lib.hid b01
  have HI := Lib.hid (items_on hI b01)
  have HN := Lib.hid hn
  have HS1 := Lib.hid hs1
  clear b0 r0 hs0 b1 r1 r01 b01 hI hn hs1
  refine (callsIn_wide (n := 6)).1 ?_
  refine callsIn_of_wp_marks Tryd.func44 rfl trivial ?_ rfl
  simp only [Tryd.ntmps44, List.size_toArray, List.length_cons, List.length_nil, Nat.reduceAdd, Nat.reduceSub, Array.replicate_succ, Array.replicate_zero, List.push_toArray, List.append_toArray, List.nil_append, List.cons_append]
  gi_wp2_with (refine ⟨trivial, ?_⟩; gi_at_call 46; refine (callsIn_wide.2 WK.out).mono ?_; rintro e w2 ⟨rfl, hq, hb⟩; have Q2 := Lib.hid hq; have N2 := Lib.hid (seqB B1.out hb); have R2 := Lib.hid (show Boxed w2 (w.heap.size + 1) 52 (.slice (some ⟨w.heap.size, 0, none⟩) n n) from blk_below R1.out hb); have X2 := Lib.hid (blk_below R0.out hb); have I2 := Lib.hid (items_on HI.out (hb.mono B1.out.size)); clear hq hb)
  clear R1 R0 HI WK hmk
  have hws := Lib.hid N2.out.size
  rw [HS1.out] at Q2
  clear HS1
  have Q2 : Hid (w2.heap[w.heap.size + 1 + 1]? = some (.cells #[.slice a n c] 22 (0, 0))) := Lib.hid Q2.out
  refine wpIn_rangeFunc_ownH rfl (by decide) (gf := 80) (lb := #[.pointer (some ⟨w.heap.size + 1 + 1, 0, none⟩)]) rfl trivial (enters_of Tryd.func80 (by kernel_rfl) rfl)
    (walk_stops 5 (by decide) l a n c (w.heap.size + 1 + 1) w.heap.size w2 HN.out hl Q2.out I2.out hws.out) belowK_t (belowK_b hws.out) (Below.refl _ _) (fun _ => rfl)
    (fun pre W => (Boxed W (w.heap.size + 1) 52 (.slice (some ⟨w.heap.size, 0, none⟩) n n) ∧ W.heap[w.heap.size]? = some (Obj.cells (blR l pre) 4 (0, 0))) ∧ Below w.heap.size w W)
    (fun _ _ _ => False)
    (OwnFrom.and (OwnFrom.and (Own.from (boxed_own _ _ _) _) (Own.from (blk_ownF _ _ _) _)) (ownFrom_below (Nat.le_refl _) hws.out))
    (fun _ _ _ _ _ hs _ _ => hs)
    ⟨⟨R2.out, X2.out⟩, N2.out⟩
    (fun x a' W => ∃ Bx, w.heap.size + 1 < Bx ∧ W.heap[Bx]? = some (Obj.cells #[.bool (plA l x.val).1, .bool (plA l x.val).2.1, .bool (plA l x.val).2.2] 87 (0, 0)) ∧ a' = { tmps := #[.slice a n c, undef, .slice none 0 0, .pointer (some ⟨w.heap.size + 1, 0, none⟩), .int .i64 (x.val : Int), .pointer (some ⟨Bx, 0, none⟩), .slice a n c, .int .i64 (n : Int), .slice (some ⟨w.heap.size, 0, none⟩) n n, .slice a n c, .func (.func 80) #[] #[.pointer (some ⟨w.heap.size + 1 + 1, 0, none⟩)], .int .i64 (x.val : Int), .agg #[.bool (plA l x.val).1, .bool (plA l x.val).2.1, .bool (plA l x.val).2.2], undef, undef, undef, undef, undef, undef], defers := [] })
    (fun x a' _ X Y row hs hg hr => by obtain ⟨Bx, e1, e2, e3⟩ := hs; exact ⟨Bx, e1, blk_ownF Bx _ (fun (_ : Unit) => #[.bool (plA l x.val).1, .bool (plA l x.val).2.1, .bool (plA l x.val).2.2]) () X Y row e2 hg (fun r e => (hr r e).2), e3⟩)
    ?assign ?body ?done ?stop
  case assign =>
    rintro L pre x W K ⟨⟨bR, bX⟩, hB⟩ hK
    have bl := bR.lt
    unfold encF
    dsimp only
    gi_wp2
    exact hK _ _ ((KeepsOthers.alloc _ _).from _) ((below_alloc W _).mono hB.size) ⟨⟨bR.alloc _, blk_below bX (below_alloc _ _)⟩, hB.alloc hB.size _⟩ ⟨W.heap.size, bl, heap_alloc_new _ _, rfl⟩
  case body =>
    rintro L pre x a' W hL ⟨r, hr⟩ ⟨⟨bR, bX⟩, hB⟩ ⟨Bx, hBx, bP, rfl⟩ hlt
    have hst := blR_set l pre x
    have hat := blR_at l pre x.val x.isLt
    have hx1 : (x.val : Int) < (n : Int) := by have := x.isLt; omega
    have hx0 : (0 : Int) ≤ (x.val : Int) := by omega
    generalize plA l x.val = pl at *
    obtain ⟨p1, p2, p3⟩ := pl
    dsimp only at bP hst hat
    have d0 := cell_of_row _ _ 0 _ _ _ bP
    dsimp at d0
    have cR := bR.cell
    have cX := (cell_of_row _ _ x.val _ _ _ bX).trans hat
    have fX : W.frozen? ⟨w.heap.size, x.val, none⟩ = false := frozen_blk bX
    have HST := Lib.hid hst
    clear hst hat
    generalize hxv : x.val = xv at *
    gi_wp2
    refine ⟨(KeepsOthers.setCell _ _ _).from _, (Below.refl w.heap.size W).setCell (p := ⟨w.heap.size, xv, none⟩) (Nat.le_refl _) _, ⟨⟨?_, ?_⟩, hB.setCell (p := ⟨w.heap.size, xv, none⟩) (Nat.le_refl _) _⟩⟩
    · exact (Below.heap_setCell _ _ _ _ (by show w.heap.size + 1 ≠ w.heap.size; omega)).trans bR
    · rw [← HST.out]; exact blk_set bX xv _
  case done =>
    rintro D xs W hD rfl ⟨⟨bR, bX⟩, hB⟩ hK
    have cR := bR.cell
    gi_wp2
    refine ⟨by simp, .inl ⟨_, _, rfl, run_takeDeferred hK, ?_⟩⟩
    have hne : w.heap.size ≠ D := fun e => by
      rw [e] at bX
      rw [hK] at bX
      cases bX
    exact ⟨_, results_tmp rfl _ _ _, _, rfl, ((grownBy_putObj' W D (.deferred none)).block w.heap.size (blk_lt bX) (fun e => hne (by cases e; rfl))).trans bX, hB.trans (belowK_b (w := w) (Nat.le_refl _) W D _ _ (Nat.le_trans hws.out hD) hK rfl rfl)⟩
  case stop =>
    rintro D c' pre W _ _ h _
    exact h.elim
end Go.Proofs.YtdafcjjlkjngmaaDoor
set_option linter.unusedVariables false
set_option linter.unusedSimpArgs false
namespace Go.Proofs.YtdafcjjlkjngmaaDoor
open Go.RowKit Go.Shelf
attribute [local go_sem] Oper.semAt_some
/-- Is an Enter at a place? -/
def enB (l : List It) (i : Nat) : Bool := !(plA l i).1 && (!(l.getD i (false, 0)).1 && (decide ((l.getD i (false, 0)).2.toNat = 13) || decide ((l.getD i (false, 0)).2.toNat = 10)))
def enL (l : List It) {n : Nat} (pre : List (Fin n)) : List Int := (pre.filter fun i => enB l i.val).map fun i => (i.val : Int)
theorem enL_snoc (l : List It) {n : Nat} (pre : List (Fin n)) (i : Fin n) : enL l (pre ++ [i]) = if enB l i.val = true then enL l pre ++ [(i.val : Int)] else enL l pre := by
  unfold enL
  rw [List.filter_append, List.map_append]
  by_cases h : enB l i.val = true
  · rw [if_pos h, List.filter_cons_of_pos (p := fun i : Fin n => enB l i.val) h]; rfl
  · rw [if_neg h, List.filter_cons_of_neg (p := fun i : Fin n => enB l i.val) h]; simp
theorem enL_len (l : List It) {n : Nat} (pre : List (Fin n)) : (enL l pre).length ≤ pre.length := by
  unfold enL
  rw [List.length_map]; exact List.length_filter_le _ _
def enI (l : List It) (B n₀ : Nat) {n : Nat} (pre : List (Fin n)) (W : World) : Prop := ∃ v, Boxed W B 48 v ∧ W.ownsRow n₀ 3 1 v (enL l pre).length ((enL l pre).map (Value.int .i64)) ∧ True
theorem enI_own (l : List It) (B n₀ n : Nat) : Own (fun (pre : List (Fin n)) W => enI l B n₀ pre W) := holdsRow_own n₀ B 48 3 1 (fun pre => (enL l pre).length) (fun pre => (enL l pre).map (Value.int .i64)) (fun _ _ => True)
theorem enI.below {l : List It} {B n₀ n : Nat} {pre : List (Fin n)} {W W' : World} (h : enI l B n₀ pre W) (b : Below W.heap.size W W') : enI l B n₀ pre W' := by
  obtain ⟨v, h1, h2, _⟩ := h
  exact ⟨v, blk_below h1 b, World.ownsRow.kept h2 (row := none) ⟨b.os, b.tape, b.output, b.size, fun k hk _ => b.block k hk⟩ (by cases v.ownBlock <;> simp), trivial⟩
set_option maxRecDepth 100000 in
set_option maxHeartbeats 8000000 in
theorem fenters_any (l : List It) (a : Option Addr) (n c : Nat) (w : World) (hn : l.length = n) (hl : n ≤ 400) (hI : ItemsIn (fun j => j < w.heap.size) w a l) :
    Calls Tryd.prog 21 #[.slice a n c] w fun e w' => ∃ v, e = .returned v ∧ w'.ownsRow w.heap.size 3 1 v (enL l (List.finRange n)).length ((enL l (List.finRange n)).map (Value.int .i64)) ∧ Below w.heap.size w w' := by
  have b0 := below_alloc w (.cells #[.slice a n c] 22)
  have r0 := Boxed.new w 22 (.slice a n c)
  have b1 := below_alloc (w.alloc (.cells #[.slice a n c] 22)) (.cells #[.slice none 0 0] 48)
  have r1 := Boxed.new (w.alloc (.cells #[.slice a n c] 22)) 48 (.slice none 0 0)
  have hs0 : (w.alloc (.cells #[.slice a n c] 22)).heap.size = w.heap.size + 1 := by simp
  rw [hs0] at r1
  have r01 := r0.alloc (.cells #[.slice none 0 0] 48)
  have b01 := seqB b0 b1
  have hs1 : ((w.alloc (.cells #[.slice a n c] 22)).alloc (.cells #[.slice none 0 0] 48)).heap.size = w.heap.size + 2 := by simp
  have y0 := r01.cell
  have WK := Lib.hid (fwalk_any a n c ((w.alloc (.cells #[.slice a n c] 22)).alloc (.cells #[.slice none 0 0] 48)))
  have R1 := Lib.hid r1
  have R0 := Lib.hid r01
  have B1 := Lib.hid b01
  have HI0 := Lib.hid hI
  have HI := Lib.hid (items_on hI b01)
  have HN := Lib.hid hn
  have HS1 := Lib.hid hs1
  clear b0 r0 hs0 b1 r1 r01 b01 hI hn hs1
  refine (callsIn_wide (n := 6)).1 ?_
  refine callsIn_of_wp_marks Tryd.func21 rfl trivial ?_ rfl
  simp only [Tryd.ntmps21, List.size_toArray, List.length_cons, List.length_nil, Nat.reduceAdd, Nat.reduceSub, Array.replicate_succ, Array.replicate_zero, List.push_toArray, List.append_toArray, List.nil_append, List.cons_append]
  gi_wp2_with (refine ⟨trivial, ?_⟩; gi_at_call 46; refine (callsIn_wide.2 WK.out).mono ?_; rintro e w2 ⟨rfl, hq, hb⟩; have Q2 := Lib.hid hq; have N2 := Lib.hid (seqB B1.out hb); have R2 := Lib.hid (show Boxed w2 (w.heap.size + 1) 48 (.slice none 0 0) from blk_below R1.out hb); have X2 := Lib.hid (show Boxed w2 w.heap.size 22 (.slice a n c) from blk_below R0.out hb); have I2 := Lib.hid (items_on HI.out (hb.mono B1.out.size)); clear hq hb)
  clear R1 R0 HI WK y0
  have hws := Lib.hid N2.out.size
  rw [HS1.out] at Q2
  clear HS1
  have Q2 : Hid (w2.heap[w.heap.size + 1 + 1]? = some (.cells #[.slice a n c] 22 (0, 0))) := Lib.hid Q2.out
  refine wpIn_rangeFunc_ownH rfl (by decide) (gf := 80) (lb := #[.pointer (some ⟨w.heap.size + 1 + 1, 0, none⟩)]) rfl trivial (enters_of Tryd.func80 (by kernel_rfl) rfl)
    (walk_stops 5 (by decide) l a n c (w.heap.size + 1 + 1) w.heap.size w2 HN.out hl Q2.out I2.out hws.out) belowK_t (belowK_b hws.out) (Below.refl _ _) (fun _ => rfl)
    (fun pre W => (Boxed W w.heap.size 22 (.slice a n c) ∧ enI l (w.heap.size + 1) w.heap.size pre W) ∧ Below w.heap.size w W)
    (fun _ _ _ => False)
    (OwnFrom.and (OwnFrom.and (Own.from (boxed_own _ _ _) _) (Own.from (enI_own _ _ _ _) _)) (ownFrom_below (Nat.le_refl _) hws.out))
    (fun _ _ _ _ _ hs _ _ => hs)
    ⟨⟨X2.out, _, R2.out, World.ownsRow_nil _ _ _ _, trivial⟩, N2.out⟩
    (fun x a' W => ∃ Bx, w.heap.size + 1 < Bx ∧ W.heap[Bx]? = some (Obj.cells #[.bool (plA l x.val).1, .bool (plA l x.val).2.1, .bool (plA l x.val).2.2] 87 (0, 0)) ∧ a' = { tmps := #[.slice a n c, .pointer (some ⟨w.heap.size, 0, none⟩), .slice none 0 0, .pointer (some ⟨w.heap.size + 1, 0, none⟩), .int .i64 (x.val : Int), .pointer (some ⟨Bx, 0, none⟩), .slice a n c, .func (.func 80) #[] #[.pointer (some ⟨w.heap.size + 1 + 1, 0, none⟩)], .int .i64 (x.val : Int), .agg #[.bool (plA l x.val).1, .bool (plA l x.val).2.1, .bool (plA l x.val).2.2], undef, undef, undef, undef, undef, undef, undef, undef, undef, undef, undef, undef, undef, undef, undef, undef, undef, undef, undef, undef, undef, undef, undef, undef, undef, undef, undef, undef, undef, undef, undef, undef], defers := [] })
    (fun x a' _ X Y row hs hg hr => by obtain ⟨Bx, e1, e2, e3⟩ := hs; exact ⟨Bx, e1, blk_ownF Bx _ (fun (_ : Unit) => #[.bool (plA l x.val).1, .bool (plA l x.val).2.1, .bool (plA l x.val).2.2]) () X Y row e2 hg (fun r e => (hr r e).2), e3⟩)
    ?assign ?body ?done ?stop
  case assign =>
    rintro L pre x W K ⟨⟨bX, bR⟩, hB⟩ hK
    have bl : w.heap.size + 1 < W.heap.size := by obtain ⟨v, h1, _⟩ := bR; exact h1.lt
    unfold encF
    dsimp only
    gi_wp2
    exact hK _ _ ((KeepsOthers.alloc _ _).from _) ((below_alloc W _).mono hB.size) ⟨⟨bX.alloc _, bR.below (below_alloc _ _)⟩, hB.alloc hB.size _⟩ ⟨W.heap.size, bl, heap_alloc_new _ _, rfl⟩
  case body =>
    rintro L pre x a' W hL ⟨r, hr⟩ ⟨⟨bX, bR⟩, hB⟩ ⟨Bx, hBx, bP, rfl⟩ hlt
    have hsn := enL_snoc l pre x
    obtain ⟨b, off, rfl, hb, i0, i1⟩ := (items_on HI0.out hB) x.val (by rw [HN.out]; exact x.isLt)
    have hx1 : (x.val : Int) < (n : Int) := by have := x.isLt; omega
    have hx0 : (0 : Int) ≤ (x.val : Int) := by omega
    unfold enB at hsn
    generalize l.getD x.val (false, 0) = y at *
    obtain ⟨t, u⟩ := y
    generalize plA l x.val = pl at *
    obtain ⟨p1, p2, p3⟩ := pl
    dsimp only at bP hsn i0 i1
    have d0 := cell_of_row _ _ 0 _ _ _ bP
    dsimp at d0
    have cX := bX.cell
    generalize hxv : x.val = xv at *
    cases p1
    · cases t
      · by_cases h13 : u.toNat = 13
        · rw [decide_eq_true h13, if_pos (by rfl)] at hsn
          have HO := Lib.hid hsn
          rw [h13] at i1
          clear hsn h13
          obtain ⟨v0, hb0, ho0, _⟩ := bR
          obtain ⟨i0, hi, hz0, hz1, hz2⟩ := info_parts infoInt
          have hcl := enL_len l pre
          have cV := hb0.cell
          have bA := below_alloc W (.cells #[.int .i64 (xv : Int)] 3)
          have cV2 := (hb0.alloc (.cells #[.int .i64 (xv : Int)] 3)).cell
          have ho6 : (W.alloc (.cells #[.int .i64 (xv : Int)] 3)).ownsRow w.heap.size 3 1 v0 (enL l pre).length ((enL l pre).map (Value.int .i64)) := World.ownsRow.kept ho0 (row := none) ⟨bA.os, bA.tape, bA.output, bA.size, fun k hk _ => bA.block k hk⟩ (by cases v0.ownBlock <;> simp)
          have hnew : ∀ j u, [Value.int .i64 (xv : Int)][j]? = some u → (W.alloc (.cells #[.int .i64 (xv : Int)] 3)).cell? ((⟨W.heap.size, 0, none⟩ : Addr).add j) = some u := fun j u hj => app_cells (L := [Value.int .i64 (xv : Int)]) rfl hj
          have HCL := Lib.hid (show (enL l pre).length ≤ 400 by omega)
          have hbs := Lib.hid hB.size
          clear hcl
          gi_wp2_with (gi_at_builtin; refine wpListIn_append_own _ rfl _ _ 48 rfl w.heap.size 3 i0 _ 1 8 Tryd.underlying48 hi hz0 hz1 hz2 rfl (by decide) _ _ _ rfl ho6 ⟨W.heap.size, 0, none⟩ 1 1 [.int .i64 (xv : Int)] rfl rfl hnew (by simp [Value.oneCell']) (by have := HCL.out; unfold maxLen; omega) (by have := HCL.out; omega) (by have := hbs.out; simp; omega) ?_)
          intro v' w7 hown' hgrow _
          obtain ⟨g', cap', rfl⟩ := ownsRow_succ hown'
          obtain ⟨q1, q2, q3, q4, q5⟩ := hb0.appended (by decide) ho0 hB.size (by omega) hown' hgrow
          have c7 := q1.cell
          have f7 := q1.frozen
          have bX7 : Boxed w7 w.heap.size 22 (.slice (some ⟨b, off, none⟩) n c) := (bX.alloc (.cells #[.int .i64 (xv : Int)] 3)).kept hgrow (bX.not_row (by decide) ho0)
          have bX8 := bX7.other (B' := w.heap.size + 1) (by omega) (.slice (some ⟨g', 0, none⟩) ((enL l pre).length + 1) cap')
          gi_wp2
          exact ⟨q4.from _, q5, ⟨⟨bX8, ⟨_, q2, by rw [HO.out, List.length_append, List.map_append]; exact q3, trivial⟩⟩, hB.trans q5⟩⟩
        · by_cases h10 : u.toNat = 10
          · rw [decide_eq_true h10, decide_eq_false h13, if_pos (by rfl)] at hsn
            have HO := Lib.hid hsn
            rw [h10] at i1
            clear hsn h13 h10
            obtain ⟨v0, hb0, ho0, _⟩ := bR
            obtain ⟨i0, hi, hz0, hz1, hz2⟩ := info_parts infoInt
            have hcl := enL_len l pre
            have cV := hb0.cell
            have bA := below_alloc W (.cells #[.int .i64 (xv : Int)] 3)
            have cV2 := (hb0.alloc (.cells #[.int .i64 (xv : Int)] 3)).cell
            have ho6 : (W.alloc (.cells #[.int .i64 (xv : Int)] 3)).ownsRow w.heap.size 3 1 v0 (enL l pre).length ((enL l pre).map (Value.int .i64)) := World.ownsRow.kept ho0 (row := none) ⟨bA.os, bA.tape, bA.output, bA.size, fun k hk _ => bA.block k hk⟩ (by cases v0.ownBlock <;> simp)
            have hnew : ∀ j u, [Value.int .i64 (xv : Int)][j]? = some u → (W.alloc (.cells #[.int .i64 (xv : Int)] 3)).cell? ((⟨W.heap.size, 0, none⟩ : Addr).add j) = some u := fun j u hj => app_cells (L := [Value.int .i64 (xv : Int)]) rfl hj
            have HCL := Lib.hid (show (enL l pre).length ≤ 400 by omega)
            have hbs := Lib.hid hB.size
            clear hcl
            gi_wp2_with (gi_at_builtin; refine wpListIn_append_own _ rfl _ _ 48 rfl w.heap.size 3 i0 _ 1 8 Tryd.underlying48 hi hz0 hz1 hz2 rfl (by decide) _ _ _ rfl ho6 ⟨W.heap.size, 0, none⟩ 1 1 [.int .i64 (xv : Int)] rfl rfl hnew (by simp [Value.oneCell']) (by have := HCL.out; unfold maxLen; omega) (by have := HCL.out; omega) (by have := hbs.out; simp; omega) ?_)
            intro v' w7 hown' hgrow _
            obtain ⟨g', cap', rfl⟩ := ownsRow_succ hown'
            obtain ⟨q1, q2, q3, q4, q5⟩ := hb0.appended (by decide) ho0 hB.size (by omega) hown' hgrow
            have c7 := q1.cell
            have f7 := q1.frozen
            have bX7 : Boxed w7 w.heap.size 22 (.slice (some ⟨b, off, none⟩) n c) := (bX.alloc (.cells #[.int .i64 (xv : Int)] 3)).kept hgrow (bX.not_row (by decide) ho0)
            have bX8 := bX7.other (B' := w.heap.size + 1) (by omega) (.slice (some ⟨g', 0, none⟩) ((enL l pre).length + 1) cap')
            gi_wp2
            exact ⟨q4.from _, q5, ⟨⟨bX8, ⟨_, q2, by rw [HO.out, List.length_append, List.map_append]; exact q3, trivial⟩⟩, hB.trans q5⟩⟩
          · rw [decide_eq_false h10, decide_eq_false h13, if_neg (by decide)] at hsn
            have HO := Lib.hid hsn
            have z13 : ((u.toNat : Int) == 13) = false := by rw [beq_eq_false_iff_ne]; omega
            have z10 : ((u.toNat : Int) == 10) = false := by rw [beq_eq_false_iff_ne]; omega
            clear hsn h13 h10
            gi_wp2
            exact ⟨(KeepsOthers.refl _).from _, Below.refl _ _, ⟨⟨bX, by unfold enI; rw [HO.out]; exact bR⟩, hB⟩⟩
      · rw [if_neg (by simp)] at hsn
        have HO := Lib.hid hsn
        clear hsn
        gi_wp2
        exact ⟨(KeepsOthers.refl _).from _, Below.refl _ _, ⟨⟨bX, by unfold enI; rw [HO.out]; exact bR⟩, hB⟩⟩
    · rw [if_neg (by simp)] at hsn
      have HO := Lib.hid hsn
      clear hsn
      gi_wp2
      exact ⟨(KeepsOthers.refl _).from _, Below.refl _ _, ⟨⟨bX, by unfold enI; rw [HO.out]; exact bR⟩, hB⟩⟩
  case done =>
    rintro D xs W hD rfl ⟨⟨bX, bR⟩, hB⟩ hK
    obtain ⟨v0, hb0, ho0, _⟩ := bR
    have cR := hb0.cell
    gi_wp2
    refine ⟨by simp, .inl ⟨_, _, rfl, run_takeDeferred hK, ?_⟩⟩
    refine ⟨_, results_tmp rfl _ _ _, v0, rfl, World.ownsRow.kept ho0 (grownBy_putObj' W D (.deferred none)) ?_, hB.trans (belowK_b (w := w) (Nat.le_refl _) W D _ _ (Nat.le_trans hws.out hD) hK rfl rfl)⟩
    cases hv : v0.ownBlock with
    | none => exact Or.inl rfl
    | some q =>
      refine Or.inr fun e => ?_
      rcases ho0.2 with ⟨rfl, _⟩ | ⟨g, cap, cur, rfl, _, hg, _⟩
      · simp [Value.ownBlock] at hv
      · have e1 : g = q := by simpa [Value.ownBlock] using hv
        have e2 : q = D := by simpa using e
        rw [e1, e2, hK] at hg
        cases hg
  case stop =>
    rintro D c' pre W _ _ h _
    exact h.elim
end Go.Proofs.YtdafcjjlkjngmaaDoor
set_option linter.unusedVariables false
set_option linter.unusedSimpArgs false
namespace Go.Proofs.YtdafcjjlkjngmaaDoor
open Go.RowKit Go.Shelf
attribute [local go_sem] Oper.semAt_some
/-- Where the last paste began, and the pastes that ended. -/
def psS (l : List It) (s : Int × List (Int × Int)) (i : Nat) : Int × List (Int × Int) := if (plA l i).2.1 = true then ((i : Int) + 1, s.2) else if (plA l i).2.2 = true then (s.1, s.2 ++ [(s.1, (i : Int))]) else s
def psF (l : List It) {n : Nat} (pre : List (Fin n)) : Int × List (Int × Int) := pre.foldl (fun s i => psS l s i.val) (0, [])
theorem psF_snoc (l : List It) {n : Nat} (pre : List (Fin n)) (i : Fin n) : psF l (pre ++ [i]) = psS l (psF l pre) i.val := by
  unfold psF; rw [List.foldl_append]; rfl
theorem psS_len (l : List It) (s : Int × List (Int × Int)) (i : Nat) : (psS l s i).2.length ≤ s.2.length + 1 := by
  unfold psS
  repeat' split
  all_goals simp
theorem psF_len (l : List It) {n : Nat} (pre : List (Fin n)) : (psF l pre).2.length ≤ pre.length := by
  have h : ∀ (pre : List (Fin n)) (s : Int × List (Int × Int)), (pre.foldl (fun s i => psS l s i.val) s).2.length ≤ s.2.length + pre.length := by
    intro pre
    induction pre with
    | nil => intro s; exact Nat.le_refl _
    | cons i pre ih =>
      intro s
      rw [List.foldl_cons, List.length_cons]
      exact Nat.le_trans (ih _) (by have := psS_len l s i.val; omega)
  have := h pre (0, [])
  simpa [psF] using this
def twC (L : List (Int × Int)) : List Value := L.flatMap fun p => [Value.int .i64 p.1, Value.int .i64 p.2]
theorem twC_app (a b : List (Int × Int)) : twC (a ++ b) = twC a ++ twC b := by simp [twC]
theorem infoTw : (Tryd.prog.info? 54).map (fun i => (i.zero, i.size, i.bytes)) = some (some (.agg #[.int .i64 0, .int .i64 0]), 2, 16) := by kernel_rfl
def psI (l : List It) (B n₀ : Nat) {n : Nat} (pre : List (Fin n)) (W : World) : Prop := ∃ v, Boxed W B 50 v ∧ W.ownsRow n₀ 54 2 v (psF l pre).2.length (twC (psF l pre).2) ∧ True
theorem psI_own (l : List It) (B n₀ n : Nat) : Own (fun (pre : List (Fin n)) W => psI l B n₀ pre W) := holdsRow_own n₀ B 50 54 2 (fun pre => (psF l pre).2.length) (fun pre => twC (psF l pre).2) (fun _ _ => True)
theorem psI.below {l : List It} {B n₀ n : Nat} {pre : List (Fin n)} {W W' : World} (h : psI l B n₀ pre W) (b : Below W.heap.size W W') : psI l B n₀ pre W' := by
  obtain ⟨v, h1, h2, _⟩ := h
  exact ⟨v, blk_below h1 b, World.ownsRow.kept h2 (row := none) ⟨b.os, b.tape, b.output, b.size, fun k hk _ => b.block k hk⟩ (by cases v.ownBlock <;> simp), trivial⟩
set_option maxRecDepth 100000 in
set_option maxHeartbeats 8000000 in
theorem fpastes_any (l : List It) (a : Option Addr) (n c : Nat) (w : World) (hn : l.length = n) (hl : n ≤ 400) (hI : ItemsIn (fun j => j < w.heap.size) w a l) :
    Calls Tryd.prog 22 #[.slice a n c] w fun e w' => ∃ v, e = .returned v ∧ w'.ownsRow w.heap.size 54 2 v (psF l (List.finRange n)).2.length (twC (psF l (List.finRange n)).2) ∧ Below w.heap.size w w' := by
  have b0 := below_alloc w (.cells #[.slice none 0 0] 50)
  have r0 := Boxed.new w 50 (.slice none 0 0)
  have b1 := below_alloc (w.alloc (.cells #[.slice none 0 0] 50)) (.cells #[.int .i64 0] 3)
  have r1 := Boxed.new (w.alloc (.cells #[.slice none 0 0] 50)) 3 (.int .i64 0)
  have hs0 : (w.alloc (.cells #[.slice none 0 0] 50)).heap.size = w.heap.size + 1 := by simp
  rw [hs0] at r1
  have r01 := r0.alloc (.cells #[.int .i64 0] 3)
  have b01 := seqB b0 b1
  have hs1 : ((w.alloc (.cells #[.slice none 0 0] 50)).alloc (.cells #[.int .i64 0] 3)).heap.size = w.heap.size + 2 := by simp
  have WK := Lib.hid (fwalk_any a n c ((w.alloc (.cells #[.slice none 0 0] 50)).alloc (.cells #[.int .i64 0] 3)))
  have R1 := Lib.hid r1
  have R0 := Lib.hid r01
  have B1 := Lib.hid b01
  have HI := Lib.hid (items_on hI b01)
  have HN := Lib.hid hn
  have HS1 := Lib.hid hs1
  clear b0 r0 hs0 b1 r1 r01 b01 hI hn hs1
  refine (callsIn_wide (n := 6)).1 ?_
  refine callsIn_of_wp_marks Tryd.func22 rfl trivial ?_ rfl
  simp only [Tryd.ntmps22, List.size_toArray, List.length_cons, List.length_nil, Nat.reduceAdd, Nat.reduceSub, Array.replicate_succ, Array.replicate_zero, List.push_toArray, List.append_toArray, List.nil_append, List.cons_append]
  gi_wp2_with (refine ⟨trivial, ?_⟩; gi_at_call 46; refine (callsIn_wide.2 WK.out).mono ?_; rintro e w2 ⟨rfl, hq, hb⟩; have Q2 := Lib.hid hq; have N2 := Lib.hid (seqB B1.out hb); have R2 := Lib.hid (show Boxed w2 (w.heap.size + 1) 3 (.int .i64 0) from blk_below R1.out hb); have X2 := Lib.hid (show Boxed w2 w.heap.size 50 (.slice none 0 0) from blk_below R0.out hb); have I2 := Lib.hid (items_on HI.out (hb.mono B1.out.size)); clear hq hb)
  clear R1 R0 HI WK
  have hws := Lib.hid N2.out.size
  rw [HS1.out] at Q2
  clear HS1
  have Q2 : Hid (w2.heap[w.heap.size + 1 + 1]? = some (.cells #[.slice a n c] 22 (0, 0))) := Lib.hid Q2.out
  refine wpIn_rangeFunc_ownH rfl (by decide) (gf := 80) (lb := #[.pointer (some ⟨w.heap.size + 1 + 1, 0, none⟩)]) rfl trivial (enters_of Tryd.func80 (by kernel_rfl) rfl)
    (walk_stops 5 (by decide) l a n c (w.heap.size + 1 + 1) w.heap.size w2 HN.out hl Q2.out I2.out hws.out) belowK_t (belowK_b hws.out) (Below.refl _ _) (fun _ => rfl)
    (fun pre W => (psI l w.heap.size w.heap.size pre W ∧ Boxed W (w.heap.size + 1) 3 (.int .i64 (psF l pre).1)) ∧ Below w.heap.size w W)
    (fun _ _ _ => False)
    (OwnFrom.and (OwnFrom.and (Own.from (psI_own _ _ _ _) _) (Own.from (boxed_own _ _ _) _)) (ownFrom_below (Nat.le_refl _) hws.out))
    (fun _ _ _ _ _ hs _ _ => hs)
    ⟨⟨⟨_, X2.out, World.ownsRow_nil _ _ _ _, trivial⟩, R2.out⟩, N2.out⟩
    (fun x a' W => ∃ Bx, w.heap.size + 1 < Bx ∧ W.heap[Bx]? = some (Obj.cells #[.bool (plA l x.val).1, .bool (plA l x.val).2.1, .bool (plA l x.val).2.2] 87 (0, 0)) ∧ a' = { tmps := #[.slice a n c, undef, .slice none 0 0, .pointer (some ⟨w.heap.size, 0, none⟩), .pointer (some ⟨w.heap.size + 1, 0, none⟩), .int .i64 (x.val : Int), .pointer (some ⟨Bx, 0, none⟩), .slice a n c, .func (.func 80) #[] #[.pointer (some ⟨w.heap.size + 1 + 1, 0, none⟩)], .int .i64 (x.val : Int), .agg #[.bool (plA l x.val).1, .bool (plA l x.val).2.1, .bool (plA l x.val).2.2], undef, undef, undef, undef, undef, undef, undef, undef, undef, undef, undef, undef, undef, undef, undef], defers := [] })
    (fun x a' _ X Y row hs hg hr => by obtain ⟨Bx, e1, e2, e3⟩ := hs; exact ⟨Bx, e1, blk_ownF Bx _ (fun (_ : Unit) => #[.bool (plA l x.val).1, .bool (plA l x.val).2.1, .bool (plA l x.val).2.2]) () X Y row e2 hg (fun r e => (hr r e).2), e3⟩)
    ?assign ?body ?done ?stop
  case assign =>
    rintro L pre x W K ⟨⟨bR, bF⟩, hB⟩ hK
    have bl := bF.lt
    unfold encF
    dsimp only
    gi_wp2
    exact hK _ _ ((KeepsOthers.alloc _ _).from _) ((below_alloc W _).mono hB.size) ⟨⟨bR.below (below_alloc _ _), bF.alloc _⟩, hB.alloc hB.size _⟩ ⟨W.heap.size, bl, heap_alloc_new _ _, rfl⟩
  case body =>
    rintro L pre x a' W hL ⟨r, hr⟩ ⟨⟨bR, bF⟩, hB⟩ ⟨Bx, hBx, bP, rfl⟩ hlt
    have hsn := psF_snoc l pre x
    have hcl := psF_len l pre
    have hx400 : x.val < 400 := Nat.lt_of_lt_of_le x.isLt hl
    unfold psS at hsn
    generalize plA l x.val = pl at *
    obtain ⟨p1, p2, p3⟩ := pl
    dsimp only at bP hsn
    have d0 := cell_of_row _ _ 0 _ _ _ bP
    have d1 := cell_of_row _ _ 1 _ _ _ bP
    have d2 := cell_of_row _ _ 2 _ _ _ bP
    dsimp at d0 d1 d2
    have cF := bF.cell
    have fF := bF.frozen
    have HCL := Lib.hid (show (psF l pre).2.length ≤ 400 by omega)
    have hbs := Lib.hid hB.size
    clear hcl
    generalize hxv : x.val = xv at *
    generalize hps : psF l pre = ps at *
    obtain ⟨fs, PS⟩ := ps
    dsimp only at hsn cF HCL bF
    cases p2
    · cases p3
      · rw [if_neg (by decide), if_neg (by decide)] at hsn
        have HO := Lib.hid hsn
        have bR' : ∃ v, Boxed W w.heap.size 50 v ∧ W.ownsRow w.heap.size 54 2 v PS.length (twC PS) ∧ True := by unfold psI at bR; rw [hps] at bR; exact bR
        clear hsn
        gi_wp2
        exact ⟨(KeepsOthers.refl _).from _, Below.refl _ _, ⟨⟨by unfold psI; rw [HO.out]; exact bR', by rw [HO.out]; exact bF⟩, hB⟩⟩
      · rw [if_neg (by decide), if_pos rfl] at hsn
        have HO := Lib.hid hsn
        have bR' : ∃ v, Boxed W w.heap.size 50 v ∧ W.ownsRow w.heap.size 54 2 v PS.length (twC PS) ∧ True := by unfold psI at bR; rw [hps] at bR; exact bR
        clear hsn hps bR
        obtain ⟨v0, hb0, ho0, _⟩ := bR'
        obtain ⟨i0, hi, hz0, hz1, hz2⟩ := info_parts infoTw
        have cV := hb0.cell
        have bA := below_alloc W (.cells #[.int .i64 fs, .int .i64 (xv : Int)] 54)
        have cV2 := (hb0.alloc (.cells #[.int .i64 fs, .int .i64 (xv : Int)] 54)).cell
        have ho6 : (W.alloc (.cells #[.int .i64 fs, .int .i64 (xv : Int)] 54)).ownsRow w.heap.size 54 2 v0 PS.length (twC PS) := World.ownsRow.kept ho0 (row := none) ⟨bA.os, bA.tape, bA.output, bA.size, fun k hk _ => bA.block k hk⟩ (by cases v0.ownBlock <;> simp)
        have hnew : ∀ j u, [Value.int .i64 fs, Value.int .i64 (xv : Int)][j]? = some u → (W.alloc (.cells #[.int .i64 fs, .int .i64 (xv : Int)] 54)).cell? ((⟨W.heap.size, 0, none⟩ : Addr).add j) = some u := fun j u hj => app_cells (L := [Value.int .i64 fs, Value.int .i64 (xv : Int)]) rfl hj
        gi_wp2_with (gi_at_builtin; refine wpListIn_append_own _ rfl _ _ 50 rfl w.heap.size 54 i0 _ 2 16 Tryd.underlying50 hi hz0 hz1 hz2 rfl (by decide) _ _ _ rfl ho6 ⟨W.heap.size, 0, none⟩ 1 1 [.int .i64 fs, .int .i64 (xv : Int)] rfl rfl hnew (by simp [Value.oneCell']) (by have := HCL.out; unfold maxLen; omega) (by have := HCL.out; omega) (by have := hbs.out; simp; omega) ?_)
        intro v' w7 hown' hgrow _
        obtain ⟨g', cap', rfl⟩ := ownsRow_succ hown'
        obtain ⟨q1, q2, q3, q4, q5⟩ := hb0.appended (by decide) ho0 hB.size (Nat.le_refl _) hown' hgrow
        have c7 := q1.cell
        have f7 := q1.frozen
        have bF7 : Boxed w7 (w.heap.size + 1) 3 (.int .i64 fs) := (bF.alloc (.cells #[.int .i64 fs, .int .i64 (xv : Int)] 54)).kept hgrow (bF.not_row (by decide) ho0)
        have bF8 := bF7.other (B' := w.heap.size) (by omega) (.slice (some ⟨g', 0, none⟩) (PS.length + 1) cap')
        gi_wp2
        exact ⟨q4.from _, q5, ⟨⟨⟨_, q2, by rw [HO.out]; dsimp only; rw [List.length_append, twC_app]; exact q3, trivial⟩, by rw [HO.out]; exact bF8⟩, hB.trans q5⟩⟩
    · rw [if_pos rfl] at hsn
      have HO := Lib.hid hsn
      have bR' : ∃ v, Boxed W w.heap.size 50 v ∧ W.ownsRow w.heap.size 54 2 v PS.length (twC PS) ∧ True := by unfold psI at bR; rw [hps] at bR; exact bR
      clear hsn hps bR
      obtain ⟨v0, hb0, ho0, _⟩ := bR'
      gi_wp2
      refine ⟨(KeepsOthers.setCell _ _ _).from _, (Below.refl w.heap.size W).setCell (p := ⟨w.heap.size + 1, 0, none⟩) (by simp) _, ⟨⟨⟨v0, hb0.other (by omega) _, ?_, trivial⟩, by rw [HO.out]; exact bF.set _⟩, hB.setCell (p := ⟨w.heap.size + 1, 0, none⟩) (by simp) _⟩⟩
      rw [HO.out]
      refine World.ownsRow.kept ho0 (grownBy_setCell' W (w.heap.size + 1) _) (Or.inr ?_)
      exact fun e => bF.not_row (by decide) ho0 e.symm
  case done =>
    rintro D xs W hD rfl ⟨⟨bR, bF⟩, hB⟩ hK
    obtain ⟨v0, hb0, ho0, _⟩ := bR
    have cR := hb0.cell
    gi_wp2
    refine ⟨by simp, .inl ⟨_, _, rfl, run_takeDeferred hK, ?_⟩⟩
    refine ⟨_, results_tmp rfl _ _ _, v0, rfl, World.ownsRow.kept ho0 (grownBy_putObj' W D (.deferred none)) ?_, hB.trans (belowK_b (w := w) (Nat.le_refl _) W D _ _ (Nat.le_trans hws.out hD) hK rfl rfl)⟩
    cases hv : v0.ownBlock with
    | none => exact Or.inl rfl
    | some q =>
      refine Or.inr fun e => ?_
      rcases ho0.2 with ⟨rfl, _⟩ | ⟨g, cap, cur, rfl, _, hg, _⟩
      · simp [Value.ownBlock] at hv
      · have e1 : g = q := by simpa [Value.ownBlock] using hv
        have e2 : q = D := by simpa using e
        rw [e1, e2, hK] at hg
        cases hg
  case stop =>
    rintro D c' pre W _ _ h _
    exact h.elim
end Go.Proofs.YtdafcjjlkjngmaaDoor
