/-
  Joined: V2 V4 R4 R11 V6 V7 V10 V8 V11 V12.
-/
import Derived.Test.YtcdecnmhogmhaaaDoorJ04
import Derived.Test.YtcdecnmhogmhaaaDoorJ05
set_option linter.unusedVariables false
set_option linter.unusedSimpArgs false
set_option maxRecDepth 100000
set_option linter.unusedVariables false
set_option linter.unusedSimpArgs false
namespace Go.Proofs.YtcdecnmhogmhaaaDoor
open Go.RowKit
attribute [local go_sem ↓] Go.wp_at_zero Go.wp_at_succ
set_option maxHeartbeats 8000000 in
theorem vof_ref (p l : List (Int × Int)) (a b : Option Addr) (c d : Nat) (w : World) (hp : p.length ≤ 1000) (hl : l.length ≤ 1000) (ha : Signs w a p) (hb : Signs w b l) (hP : sgC p = true) (hL : sgC l = true) :
    Calls Tryd.prog 22 #[.slice a p.length c, .slice b l.length d] w fun e w' => ∃ x, e = .returned x ∧ ownC w' w.heap.size x (vwOf p l) ∧ Below w.heap.size w w' := by
  obtain ⟨i0, hi, hz0, hz1, hz2⟩ := info_parts infoCell
  have HA := Lib.hid ha; have HB := Lib.hid hb; have HP := Lib.hid hP; have HL := Lib.hid hL
  clear ha hb hP hL
  have N3 := Below.refl w.heap.size w
  have H3 := Lib.hid (show ownC w w.heap.size (.slice none 0 0) (vwG p ofP 0) from World.ownsRow_nil _ _ _ _)
  go_enter Tryd.func22, Tryd.ntmps22
  go_wp2
  go_loopw [5, 6] (fun ov iv wr => ∃ k : Nat, k ≤ p.length ∧ iv = .int .i64 (k : Int) ∧ Hid (ownC wr w.heap.size ov (vwG p ofP k)) ∧ Below w.heap.size w wr) (fun _ iv _ => p.length - (intOf iv).toNat)
  case atStart => exact ⟨0, Nat.zero_le _, rfl, H3, N3⟩
  case round =>
    obtain ⟨k, hk, rfl, hO, hbl⟩ := hrel
    clear H3 N3
    by_cases hlt : k < p.length
    · obtain ⟨b1, off, rfl, hblk, c1, c2⟩ := (HA.out.below hbl) k hlt
      have hk1 : (k : Int) < p.length := by omega
      have hk0 : (0 : Int) ≤ k := by omega
      have C := fun w => cells_ref (p.getD k (0, 0)).1 (p.getD k (0, 0)).2 (-1) w
      have hpos := shK_pos (sgC_at HP.out hlt) (p.getD k (0, 0)).2 (-1)
      have hle := shK_le (p.getD k (0, 0)).1 (p.getD k (0, 0)).2 (-1)
      have hsucc := vwG_succ p ofP k
      have hvl := vwG_le p ofP k
      rw [show ofP k = -1 from rfl] at hsucc
      generalize (p.getD k (0, 0)).1 = v at *
      generalize (p.getD k (0, 0)).2 = u at *
      generalize shK v u (-1) = X at *
      have Hsucc := Lib.hid hsucc
      replace C := Lib.hid C
      have hown := hO.out
      unfold ownC at hown
      clear hsucc
      generalize hX : vwG p ofP k = Y at *
      clear hX
      go_wp2_with (first
        | (go_at_call 77; refine (C.out _).mono ?_; rintro e w4 ⟨x, rfl, hown4, hb4⟩; obtain ⟨g, cap, rfl⟩ := ownsRow_pos hown4 hpos; have N4 := hbl.trans (hb4.mono hbl.size); have hold := ownB hown hb4)
        | (at_builtin; refine wpList_append_own _ rfl _ _ 36 rfl w.heap.size 51 i0 _ 5 40 Tryd.underlying36 hi hz0 hz1 hz2 rfl (by decide) _ _ _ rfl hold ⟨g, 0, none⟩ X.length cap (cCells X) rfl (cCells_len X) (hown4.cells rfl) (cCells_one X) ?c3 ?c4 N4.size ?_))
      case c3 => unfold maxLen; omega
      case c4 => omega
      intro v' w5 hown5 hgrow5 _
      have N5 := N4.grown hgrow5 N4.size (fun j hj => (hold.lt j hj).1)
      have HO := Lib.hid (show ownC w5 w.heap.size v' (Y ++ X) by unfold ownC; rw [List.length_append, cCells_append]; exact hown5)
      clear hown5 hgrow5 hold hown4 hown
      go_wp2
      go_roundw
      case rel => exact ⟨k + 1, by omega, by go_num, Lib.hid (by rw [Hsucc.out]; exact HO.out), N5⟩
      case measure => (simp [intOf]; try omega)
    · obtain rfl : k = p.length := by omega
      have hpl := vwG_le p ofP p.length
      have HS := Lib.hid (show vwOf p l = vwG p ofP p.length ++ vwG l ofL l.length from rfl)
      generalize vwG p ofP p.length = Z at *
      go_wp2
      go_loopw [5, 7] (fun ov iv wr => ∃ k : Nat, k ≤ l.length ∧ iv = .int .i64 (k : Int) ∧ Hid (ownC wr w.heap.size ov (Z ++ vwG l ofL k)) ∧ Below w.heap.size w wr) (fun _ iv _ => l.length - (intOf iv).toNat)
      case atStart => exact ⟨0, Nat.zero_le _, rfl, Lib.hid (by rw [show vwG l ofL 0 = [] from rfl, List.append_nil]; exact hO.out), hbl⟩
      case round =>
        obtain ⟨k, hk, rfl, hO, hbl⟩ := hrel
        by_cases hlt : k < l.length
        · obtain ⟨b1, off, rfl, hblk, c1, c2⟩ := (HB.out.below hbl) k hlt
          have hk1 : (k : Int) < l.length := by omega
          have hk0 : (0 : Int) ≤ k := by omega
          have C := fun w => cells_ref (l.getD k (0, 0)).1 (l.getD k (0, 0)).2 (k : Int) w
          have hpos := shK_pos (sgC_at HL.out hlt) (l.getD k (0, 0)).2 (k : Int)
          have hle := shK_le (l.getD k (0, 0)).1 (l.getD k (0, 0)).2 (k : Int)
          have hsucc := vwG_succ l ofL k
          have hvl := vwG_le l ofL k
          rw [show ofL k = (k : Int) from rfl] at hsucc
          generalize (l.getD k (0, 0)).1 = v at *
          generalize (l.getD k (0, 0)).2 = u at *
          generalize shK v u (k : Int) = X at *
          have Hsucc := Lib.hid hsucc
          replace C := Lib.hid C
          have hown := hO.out
          unfold ownC at hown
          clear hsucc
          have hZY : (Z ++ vwG l ofL k).length ≤ 60000 := by rw [List.length_append]; omega
          generalize hX : vwG l ofL k = Y at *
          clear hX
          have Happ := Lib.hid (List.append_assoc Z Y X)
          generalize Z ++ Y = V at *
          go_wp2_with (first
            | (go_at_call 77; refine (C.out _).mono ?_; rintro e w4 ⟨x, rfl, hown4, hb4⟩; obtain ⟨g, cap, rfl⟩ := ownsRow_pos hown4 hpos; have N4 := hbl.trans (hb4.mono hbl.size); have hold := ownB hown hb4)
            | (at_builtin; refine wpList_append_own _ rfl _ _ 36 rfl w.heap.size 51 i0 _ 5 40 Tryd.underlying36 hi hz0 hz1 hz2 rfl (by decide) _ _ _ rfl hold ⟨g, 0, none⟩ X.length cap (cCells X) rfl (cCells_len X) (hown4.cells rfl) (cCells_one X) ?c3 ?c4 N4.size ?_))
          case c3 => unfold maxLen; omega
          case c4 => omega
          intro v' w5 hown5 hgrow5 _
          have N5 := N4.grown hgrow5 N4.size (fun j hj => (hold.lt j hj).1)
          have HO := Lib.hid (show ownC w5 w.heap.size v' (V ++ X) by unfold ownC; rw [List.length_append, cCells_append]; exact hown5)
          clear hown5 hgrow5 hold hown4 hown
          go_wp2
          go_roundw
          case rel => exact ⟨k + 1, by omega, by go_num, Lib.hid (by rw [Hsucc.out, ← Happ.out]; exact HO.out), N5⟩
          case measure => (simp [intOf]; try omega)
        · obtain rfl : k = l.length := by omega
          go_wp2
          go_ret
          exact ⟨_, rfl, by rw [HS.out]; exact hO.out, hbl⟩
end Go.Proofs.YtcdecnmhogmhaaaDoor
set_option linter.unusedVariables false
set_option linter.unusedSimpArgs false
namespace Go.Proofs.YtcdecnmhogmhaaaDoor
open Go.RowKit
set_option maxHeartbeats 1000000 in
theorem sgright_ref (v l : Int) (w : World) : Calls Tryd.prog 69 #[.agg #[.int .i64 v, .int .i64 l]] w fun e w' => e = .returned (.bool (sgR v l)) ∧ Below w.heap.size w w' := by
  have R := fun w => right_ref v w
  have hb := below_alloc w (.cells #[.int .i64 v, .int .i64 l] 53)
  cases hr : rightB v
  · have e : Hid (sgR v l = false) := Lib.hid (by unfold sgR; rw [hr]; simp)
    rw [hr] at R
    replace R := Lib.hid R
    go_enter Tryd.func69, Tryd.ntmps69
    go_wp2_with (go_at_call 92; refine (R.out _).mono ?_; rintro e w1 ⟨rfl, rfl⟩)
    go_ret
    rw [e.out]; exact ⟨rfl, hb⟩
  · rw [hr] at R
    replace R := Lib.hid R
    by_cases h0 : 0 ≤ l
    · by_cases h5 : l ≤ 5
      · have e : Hid (sgR v l = true) := Lib.hid (by unfold sgR; rw [decide_eq_true h0, decide_eq_true h5, hr]; simp)
        clear hr
        go_enter Tryd.func69, Tryd.ntmps69
        go_wp2_with (go_at_call 92; refine (R.out _).mono ?_; rintro e w1 ⟨rfl, rfl⟩)
        go_ret
        rw [e.out]; exact ⟨rfl, hb⟩
      · have e : Hid (sgR v l = false) := Lib.hid (by unfold sgR; rw [decide_eq_false h5]; simp)
        have h5d := decide_eq_false h5
        clear hr
        go_enter Tryd.func69, Tryd.ntmps69
        go_wp2_with (go_at_call 92; refine (R.out _).mono ?_; rintro e w1 ⟨rfl, rfl⟩)
        go_ret
        rw [e.out]; exact ⟨by first | rfl | (rw [h5d]; rfl) | exact ret_boolU h5d, hb⟩
    · have e : Hid (sgR v l = false) := Lib.hid (by unfold sgR; rw [decide_eq_false h0]; simp)
      clear hr
      go_enter Tryd.func69, Tryd.ntmps69
      go_wp2_with (go_at_call 92; refine (R.out _).mono ?_; rintro e w1 ⟨rfl, rfl⟩)
      go_ret
      rw [e.out]; exact ⟨rfl, hb⟩
set_option maxHeartbeats 1000000 in
theorem sgall_ref (l : List (Int × Int)) (a : Option Addr) (c : Nat) (w : World) (hl : l.length ≤ 1000000) (hs : Signs w a l) :
    Calls Tryd.prog 15 #[.slice a l.length c] w fun e w' => e = .returned (.bool (sgC l)) ∧ Below w.heap.size w w' := by
  have HS := Lib.hid hs; clear hs
  go_enter Tryd.func15, Tryd.ntmps15
  go_wp2
  go_loopw [3] (fun iv wr => ∃ k : Nat, k ≤ l.length ∧ iv = .int .i64 (k : Int) ∧ Hid (∀ j, j < k → sgR (l.getD j (0, 0)).1 (l.getD j (0, 0)).2 = true) ∧ Below w.heap.size w wr) (fun iv _ => l.length - (intOf iv).toNat)
  case atStart => exact ⟨0, Nat.zero_le _, rfl, Lib.hid (fun j hj => absurd hj (by omega)), Below.refl _ _⟩
  case round =>
    obtain ⟨k, hk, rfl, hall, hb⟩ := hrel
    by_cases hlt : k < l.length
    · obtain ⟨b, off, rfl, hblk, c1, c2⟩ := (HS.out.below hb) k hlt
      have hk1 : (k : Int) < l.length := by omega
      have hk0 : (0 : Int) ≤ k := by omega
      have R := fun w => sgright_ref (l.getD k (0, 0)).1 (l.getD k (0, 0)).2 w
      have hin := getD_mem hlt
      cases hr : sgR (l.getD k (0, 0)).1 (l.getD k (0, 0)).2
      · have HF : Hid (sgC l = false) := Lib.hid (by unfold sgC; rw [List.all_eq_false]; exact ⟨_, hin, by rw [hr]; simp⟩)
        rw [hr] at R
        generalize (l.getD k (0, 0)).1 = v at *
        generalize (l.getD k (0, 0)).2 = u at *
        replace R := Lib.hid R
        clear hin hr
        go_wp2_with (go_at_call 69; refine (R.out _).mono ?_; rintro e w1 ⟨rfl, hb1⟩)
        go_ret
        rw [HF.out]
        exact ⟨rfl, hb.trans (hb1.mono hb.size)⟩
      · have HF : Hid (∀ j, j < k + 1 → sgR (l.getD j (0, 0)).1 (l.getD j (0, 0)).2 = true) := Lib.hid (by
          intro j hj
          rcases Nat.lt_succ_iff_lt_or_eq.1 hj with h | rfl
          · exact hall.out j h
          · exact hr)
        rw [hr] at R
        generalize (l.getD k (0, 0)).1 = v at *
        generalize (l.getD k (0, 0)).2 = u at *
        replace R := Lib.hid R
        clear hin hr
        go_wp2_with (go_at_call 69; refine (R.out _).mono ?_; rintro e w1 ⟨rfl, hb1⟩)
        go_roundw
        case rel => exact ⟨k + 1, by omega, by go_num, HF, hb.trans (hb1.mono hb.size)⟩
        case measure => (simp [intOf]; try omega)
    · obtain rfl : k = l.length := by omega
      have HF : Hid (sgC l = true) := Lib.hid (by
        unfold sgC; rw [List.all_eq_true]; intro p hp
        obtain ⟨j, hj, rfl⟩ := List.getElem_of_mem hp
        have := hall.out j hj
        rwa [List.getD, List.getElem?_eq_getElem hj] at this)
      go_wp2
      go_ret
      rw [HF.out]
      exact ⟨rfl, hb⟩
/-- How many cells signs have. -/
def colM (l : List (Int × Int)) (k : Nat) : Int := ((vwG l ofP k).length : Int)
theorem colM_succ (l : List (Int × Int)) (k : Nat) : colM l (k + 1) = colM l k + shC (l.getD k (0, 0)).1 := by
  unfold colM; rw [vwG_succ, List.length_append, Int.natCast_add, shK_len]
theorem vwG_len (l : List (Int × Int)) (f g : Nat → Int) : ∀ k, (vwG l f k).length = (vwG l g k).length
  | 0 => rfl
  | k + 1 => by
    rw [vwG_succ, vwG_succ, List.length_append, List.length_append, vwG_len l f g k]
    have h1 := shK_len (l.getD k (0, 0)).1 (l.getD k (0, 0)).2 (f k)
    have h2 := shK_len (l.getD k (0, 0)).1 (l.getD k (0, 0)).2 (g k)
    omega
end Go.Proofs.YtcdecnmhogmhaaaDoor
set_option linter.unusedVariables false
set_option linter.unusedSimpArgs false
namespace Go.Proofs.YtcdecnmhogmhaaaDoor
open Go.RowKit
/-- What the cell at k gives to row r. -/
def rwO (L : List Cl) (w r : Int) (k : Nat) : List Cl :=
  if ((spAll L w).getD k (0, 0)).1 ≠ r then [] else if w = 1 ∧ (L.getD k cl0).1 = -1 then [] else
    if w = 1 ∧ k + 1 < L.length ∧ (L.getD (k + 1) cl0).1 = -1 then [(35, (L.getD k cl0).2)] else [L.getD k cl0]
/-- The cells of row r among the first k. -/
def rwS (L : List Cl) (w r : Int) (k : Nat) : List Cl := (List.range k).flatMap (rwO L w r)
theorem rwS_succ (L : List Cl) (w r : Int) (k : Nat) : rwS L w r (k + 1) = rwS L w r k ++ rwO L w r k := by simp [rwS, List.range_succ]
theorem rwS_le (L : List Cl) (w r : Int) : ∀ k, (rwS L w r k).length ≤ k
  | 0 => by simp [rwS]
  | k + 1 => by
    have ih := rwS_le L w r k
    have h : (rwO L w r k).length ≤ 1 := by unfold rwO; repeat' split
                                            all_goals simp
    rw [rwS_succ, List.length_append]; omega
theorem spAll_len (L : List Cl) (w : Int) : (spAll L w).length = L.length + 1 := by unfold spAll; rw [List.length_append, spS_len]; rfl
set_option maxHeartbeats 8000000 in
theorem row_ref (L : List Cl) (wd r : Int) (a : Option Addr) (c : Nat) (w : World) (hl : L.length ≤ 100000) (hw : 1 ≤ wd) (hw2 : wd ≤ 1000) (hlay : layB L = true) (ha : CellsIn w a L) :
    Calls Tryd.prog 73 #[.slice a L.length c, .int .i64 wd, .int .i64 r] w fun e w' => ∃ x, e = .returned x ∧ ownC w' w.heap.size x (rwS L wd r L.length) ∧ Below w.heap.size w w' := by
  obtain ⟨i0, hi, hz0, hz1, hz2⟩ := info_parts infoCell
  have SP := Lib.hid (spots_ref L wd a c w hl hw hw2 hlay ha)
  have HA := Lib.hid ha
  clear ha hlay
  have hsl := spAll_len L wd
  go_enter Tryd.func73, Tryd.ntmps73
  go_wp2_with (go_at_call 23; refine SP.out.mono ?_; rintro e w1 ⟨x, rfl, hown1, hb1⟩; obtain ⟨sa, sc, rfl, hs⟩ := spots_of_own hown1; rw [hsl]; have HS := Lib.hid hs; have HA1 := Lib.hid (HA.out.below hb1); clear hs hown1)
  clear SP
  go_loopw [8, 9] (fun ov iv wr => ∃ k : Nat, k ≤ L.length ∧ iv = .int .i64 (k : Int) ∧ Hid (ownC wr w1.heap.size ov (rwS L wd r k)) ∧ Below w1.heap.size w1 wr) (fun _ iv _ => L.length - (intOf iv).toNat)
  case atStart => exact ⟨0, Nat.zero_le _, rfl, Lib.hid (World.ownsRow_nil _ _ _ _), Below.refl _ _⟩
  case round =>
    obtain ⟨k, hk, rfl, hO, hbl⟩ := hrel
    by_cases hlt : k < L.length
    · obtain ⟨b1, o1, rfl, hblk, c1, c2, c3, c4, c5⟩ := (HA1.out.below hbl) k hlt
      obtain ⟨b2, o2, rfl, hblk2, p1, p2⟩ := (HS.out.below hbl) k (by omega)
      have hk1 : (k : Int) < L.length := by omega
      have hk0 : (0 : Int) ≤ k := by omega
      have hk6 : (k : Int) < ((L.length + 1 : Nat) : Int) := by omega
      have hk7 : (k : Int) < (L.length : Int) + 1 := by omega
      have hk4 : (0 : Int) ≤ (k : Int) + 1 := by omega
      have hown := hO.out
      unfold ownC at hown
      have hsz := hbl.size
      have hsz1 := hb1.size
      have hle := rwS_le L wd r k
      have hst := rwS_succ L wd r k
      have he : rwO L wd r k = if ((spAll L wd).getD k (0, 0)).1 ≠ r then [] else if wd = 1 ∧ (L.getD k cl0).1 = -1 then [] else if wd = 1 ∧ k + 1 < L.length ∧ (L.getD (k + 1) cl0).1 = -1 then [(35, (L.getD k cl0).2)] else [L.getD k cl0] := rfl
      have cellN : k + 1 < L.length → wr.cell? ⟨b1, o1 + (k + 1) * 5, none⟩ = some (.int .i64 (L.getD (k + 1) cl0).1) := fun h => by
        obtain ⟨b2, o2, e2, hb2, d1, _⟩ := (HA1.out.below hbl) (k + 1) h
        obtain ⟨rfl, rfl⟩ : b1 = b2 ∧ o1 = o2 := by simpa using e2
        exact d1
      generalize rwS L wd r k = Y at *
      generalize ((spAll L wd).getD k (0, 0)).1 = pr at *
      generalize ((spAll L wd).getD k (0, 0)).2 = pc at *
      obtain ⟨v, x2, x3, x4, x5, hq⟩ : ∃ v x2 x3 x4 x5, L.getD k cl0 = (v, x2, x3, x4, x5) := ⟨_, _, _, _, _, rfl⟩
      rw [hq] at c1 c2 c3 c4 c5 he
      clear hq
      simp only at c1 c2 c3 c4 c5 he
      by_cases h1 : pr = r
      · rw [if_neg (by simp [h1])] at he
        subst h1
        by_cases hv : v = -1
        · subst hv
          by_cases h2 : wd = 1
          · rw [if_pos ⟨h2, rfl⟩] at he
            rw [he] at hst
            have Hst := Lib.hid hst
            subst h2
            clear he hst cellN hown
            go_wp2
            go_roundw
            case rel => exact ⟨k + 1, by omega, by go_num, Lib.hid (by rw [Hst.out, List.append_nil]; exact hO.out), hbl⟩
            case measure => (simp [intOf]; try omega)
          · rw [if_neg (fun h => h2 h.1), if_neg (fun h => h2 h.1)] at he
            rw [he] at hst
            have Hst := Lib.hid hst
            have h2b : (wd == 1) = false := by rw [beq_eq_false_iff_ne]; exact h2
            clear he hst cellN
            go_wp2_with (at_builtin; refine wpList_append_own _ rfl _ _ 36 rfl w1.heap.size 51 i0 _ 5 40 Tryd.underlying36 hi hz0 hz1 hz2 rfl (by decide) _ _ _ rfl ((hown.alloc _).alloc _) ⟨wr.heap.size + 1, 0, none⟩ 1 1 [.int .i64 (-1), .int .i64 x2, .int .i64 x3, .int .i64 x4, .int .i64 x5] rfl rfl (fun j x hj => app_cells (by simp) hj) ?g2 ?g3 ?g4 ?g5 ?_)
            case g2 => simp [Value.oneCell']
            case g3 => unfold maxLen; omega
            case g4 => omega
            case g5 => first | omega | (simp; omega)
            intro v' w5 hown5 hgrow5 _
            have N4 := hbl.alloc hbl.size (.cells #[.int .i64 (-1), .int .i64 x2, .int .i64 x3, .int .i64 x4, .int .i64 x5] 51)
            have N5 := (N4.alloc N4.size (.cells #[.int .i64 (-1), .int .i64 x2, .int .i64 x3, .int .i64 x4, .int .i64 x5] 51)).grown hgrow5 (by have := hbl.size; simp; omega) (fun j hj => (hown.lt j hj).1)
            have HO := Lib.hid hown5
            clear hown5 hgrow5 hown
            go_wp2
            go_roundw
            case rel => exact ⟨k + 1, by omega, by go_num, Lib.hid (by rw [Hst.out]; unfold ownC; rw [List.length_append, cCells_snoc]; exact HO.out), N5⟩
            case measure => (simp [intOf]; try omega)
        · have hvb : (v == -1) = false := by rw [beq_eq_false_iff_ne]; exact hv
          rw [if_neg (fun h => hv h.2)] at he
          by_cases h2 : wd = 1
          · subst h2
            by_cases hk2 : k + 1 < L.length
            · have d1 := cellN hk2
              have d1' := fun o => (World.cell?_alloc_lt wr o (⟨b1, o1 + (k + 1) * 5, none⟩ : Addr) hblk).trans d1
              have hk3 : (k : Int) + 1 < L.length := by omega
              by_cases hn : (L.getD (k + 1) cl0).1 = -1
              · rw [if_pos ⟨rfl, hk2, hn⟩] at he
                rw [he] at hst
                rw [hn] at d1'
                have Hst := Lib.hid hst
                clear he hst cellN d1 hn
                go_wp2_with (at_builtin; refine wpList_append_own _ rfl _ _ 36 rfl w1.heap.size 51 i0 _ 5 40 Tryd.underlying36 hi hz0 hz1 hz2 rfl (by decide) _ _ _ rfl ((hown.alloc _).alloc _) ⟨wr.heap.size + 1, 0, none⟩ 1 1 [.int .i64 35, .int .i64 x2, .int .i64 x3, .int .i64 x4, .int .i64 x5] rfl rfl (fun j x hj => app_cells (by simp) hj) ?g2 ?g3 ?g4 ?g5 ?_)
                case g2 => simp [Value.oneCell']
                case g3 => unfold maxLen; omega
                case g4 => omega
                case g5 => first | omega | (simp; omega)
                intro v' w5 hown5 hgrow5 _
                have N4 := hbl.alloc hbl.size (.cells #[.int .i64 35, .int .i64 x2, .int .i64 x3, .int .i64 x4, .int .i64 x5] 51)
                have N5 := (N4.alloc N4.size (.cells #[.int .i64 35, .int .i64 x2, .int .i64 x3, .int .i64 x4, .int .i64 x5] 51)).grown hgrow5 (by have := hbl.size; simp; omega) (fun j hj => (hown.lt j hj).1)
                have HO := Lib.hid hown5
                clear hown5 hgrow5 hown
                go_wp2
                go_roundw
                case rel => exact ⟨k + 1, by omega, by go_num, Lib.hid (by rw [Hst.out]; unfold ownC; rw [List.length_append, cCells_snoc]; exact HO.out), N5⟩
                case measure => (simp [intOf]; try omega)
              · rw [if_neg (fun h => hn h.2.2)] at he
                rw [he] at hst
                have hnb : ((L.getD (k + 1) cl0).1 == -1) = false := by rw [beq_eq_false_iff_ne]; exact hn
                have Hst := Lib.hid hst
                clear he hst cellN d1
                generalize (L.getD (k + 1) cl0).1 = v2 at *
                go_wp2_with (at_builtin; refine wpList_append_own _ rfl _ _ 36 rfl w1.heap.size 51 i0 _ 5 40 Tryd.underlying36 hi hz0 hz1 hz2 rfl (by decide) _ _ _ rfl ((hown.alloc _).alloc _) ⟨wr.heap.size + 1, 0, none⟩ 1 1 [.int .i64 v, .int .i64 x2, .int .i64 x3, .int .i64 x4, .int .i64 x5] rfl rfl (fun j x hj => app_cells (by simp) hj) ?g2 ?g3 ?g4 ?g5 ?_)
                case g2 => simp [Value.oneCell']
                case g3 => unfold maxLen; omega
                case g4 => omega
                case g5 => first | omega | (simp; omega)
                intro v' w5 hown5 hgrow5 _
                have N4 := hbl.alloc hbl.size (.cells #[.int .i64 v, .int .i64 x2, .int .i64 x3, .int .i64 x4, .int .i64 x5] 51)
                have N5 := (N4.alloc N4.size (.cells #[.int .i64 v, .int .i64 x2, .int .i64 x3, .int .i64 x4, .int .i64 x5] 51)).grown hgrow5 (by have := hbl.size; simp; omega) (fun j hj => (hown.lt j hj).1)
                have HO := Lib.hid hown5
                clear hown5 hgrow5 hown
                go_wp2
                go_roundw
                case rel => exact ⟨k + 1, by omega, by go_num, Lib.hid (by rw [Hst.out]; unfold ownC; rw [List.length_append, cCells_snoc]; exact HO.out), N5⟩
                case measure => (simp [intOf]; try omega)
            · have hk3 : ¬ (k : Int) + 1 < L.length := by omega
              rw [if_neg (fun h => hk2 h.2.1)] at he
              rw [he] at hst
              have Hst := Lib.hid hst
              clear he hst cellN
              go_wp2_with (at_builtin; refine wpList_append_own _ rfl _ _ 36 rfl w1.heap.size 51 i0 _ 5 40 Tryd.underlying36 hi hz0 hz1 hz2 rfl (by decide) _ _ _ rfl ((hown.alloc _).alloc _) ⟨wr.heap.size + 1, 0, none⟩ 1 1 [.int .i64 v, .int .i64 x2, .int .i64 x3, .int .i64 x4, .int .i64 x5] rfl rfl (fun j x hj => app_cells (by simp) hj) ?g2 ?g3 ?g4 ?g5 ?_)
              case g2 => simp [Value.oneCell']
              case g3 => unfold maxLen; omega
              case g4 => omega
              case g5 => first | omega | (simp; omega)
              intro v' w5 hown5 hgrow5 _
              have N4 := hbl.alloc hbl.size (.cells #[.int .i64 v, .int .i64 x2, .int .i64 x3, .int .i64 x4, .int .i64 x5] 51)
              have N5 := (N4.alloc N4.size (.cells #[.int .i64 v, .int .i64 x2, .int .i64 x3, .int .i64 x4, .int .i64 x5] 51)).grown hgrow5 (by have := hbl.size; simp; omega) (fun j hj => (hown.lt j hj).1)
              have HO := Lib.hid hown5
              clear hown5 hgrow5 hown
              go_wp2
              go_roundw
              case rel => exact ⟨k + 1, by omega, by go_num, Lib.hid (by rw [Hst.out]; unfold ownC; rw [List.length_append, cCells_snoc]; exact HO.out), N5⟩
              case measure => (simp [intOf]; try omega)
          · rw [if_neg (fun h => h2 h.1)] at he
            rw [he] at hst
            have Hst := Lib.hid hst
            have h2b : (wd == 1) = false := by rw [beq_eq_false_iff_ne]; exact h2
            clear he hst cellN
            go_wp2_with (at_builtin; refine wpList_append_own _ rfl _ _ 36 rfl w1.heap.size 51 i0 _ 5 40 Tryd.underlying36 hi hz0 hz1 hz2 rfl (by decide) _ _ _ rfl ((hown.alloc _).alloc _) ⟨wr.heap.size + 1, 0, none⟩ 1 1 [.int .i64 v, .int .i64 x2, .int .i64 x3, .int .i64 x4, .int .i64 x5] rfl rfl (fun j x hj => app_cells (by simp) hj) ?g2 ?g3 ?g4 ?g5 ?_)
            case g2 => simp [Value.oneCell']
            case g3 => unfold maxLen; omega
            case g4 => omega
            case g5 => first | omega | (simp; omega)
            intro v' w5 hown5 hgrow5 _
            have N4 := hbl.alloc hbl.size (.cells #[.int .i64 v, .int .i64 x2, .int .i64 x3, .int .i64 x4, .int .i64 x5] 51)
            have N5 := (N4.alloc N4.size (.cells #[.int .i64 v, .int .i64 x2, .int .i64 x3, .int .i64 x4, .int .i64 x5] 51)).grown hgrow5 (by have := hbl.size; simp; omega) (fun j hj => (hown.lt j hj).1)
            have HO := Lib.hid hown5
            clear hown5 hgrow5 hown
            go_wp2
            go_roundw
            case rel => exact ⟨k + 1, by omega, by go_num, Lib.hid (by rw [Hst.out]; unfold ownC; rw [List.length_append, cCells_snoc]; exact HO.out), N5⟩
            case measure => (simp [intOf]; try omega)
      · rw [if_pos h1] at he
        rw [he] at hst
        have Hst := Lib.hid hst
        have h1b : (pr != r) = true := by rw [bne_iff_ne]; exact h1
        clear he hst cellN hown
        go_wp2
        go_roundw
        case rel => exact ⟨k + 1, by omega, by go_num, Lib.hid (by rw [Hst.out, List.append_nil]; exact hO.out), hbl⟩
        case measure => (simp [intOf]; try omega)
    · obtain rfl : k = L.length := by omega
      go_wp2
      go_ret
      exact ⟨_, rfl, ownC_mono hO.out hb1.size, hb1.trans (hbl.mono hb1.size)⟩
end Go.Proofs.YtcdecnmhogmhaaaDoor
set_option linter.unusedVariables false
set_option linter.unusedSimpArgs false
namespace Go.Proofs.YtcdecnmhogmhaaaDoor
open Go.RowKit
theorem sp_step (L : List Cl) (w : Int) (k : Nat) : spS L w (k + 1) = if spSkip L w k = true then ((spS L w k).1 ++ [(spS L w k).1.getD (k - 1) (0, 0)], (spS L w k).2)
    else if spNew L w k (spS L w k).2.2 = true then ((spS L w k).1 ++ [((spS L w k).2.1 + 1, 0)], (spS L w k).2.1 + 1, 1)
    else ((spS L w k).1 ++ [((spS L w k).2.1, (spS L w k).2.2)], (spS L w k).2.1, (spS L w k).2.2 + 1) := rfl
theorem getD_app {α : Type} (a b : List α) (d : α) (j : Nat) (h : j < a.length) : (a ++ b).getD j d = a.getD j d := by simp [List.getD, List.getElem?_append_left h]
theorem getD_end {α : Type} (a : List α) (x d : α) : (a ++ [x]).getD a.length d = x := by simp [List.getD]
theorem sp_keep (L : List Cl) (w : Int) (k j : Nat) (h : j < k) : (spS L w (k + 1)).1.getD j (0, 0) = (spS L w k).1.getD j (0, 0) := by
  have hl := spS_len L w k
  rw [sp_step]
  split
  · exact getD_app _ _ _ _ (by omega)
  · split <;> exact getD_app _ _ _ _ (by omega)
theorem sp_keeps (L : List Cl) (w : Int) (k j : Nat) (h : j < k) : ∀ n, (spS L w (k + n)).1.getD j (0, 0) = (spS L w k).1.getD j (0, 0)
  | 0 => rfl
  | n + 1 => (sp_keep L w (k + n) j (by omega)).trans (sp_keeps L w k j h n)
theorem spAll_at (L : List Cl) (w : Int) (k j : Nat) (h : j < k) (hk : k ≤ L.length) : (spAll L w).getD j (0, 0) = (spS L w k).1.getD j (0, 0) := by
  unfold spAll
  rw [getD_app _ _ _ _ (by rw [spS_len]; omega)]
  have := sp_keeps L w k j h (L.length - k)
  rwa [show k + (L.length - k) = L.length by omega] at this
theorem sp_low (L : List Cl) (w : Int) : ∀ k j, j < k → ((spS L w k).1.getD j (0, 0)).1 ≤ (spS L w k).2.1
  | 0, j, h => absurd h (by omega)
  | k + 1, j, h => by
    have hl := spS_len L w k
    have hmono : (spS L w k).2.1 ≤ (spS L w (k + 1)).2.1 := by
      rw [sp_step]; split
      · exact Int.le_refl _
      · split
        · show (spS L w k).2.1 ≤ (spS L w k).2.1 + 1; omega
        · exact Int.le_refl _
    by_cases hj : j < k
    · rw [sp_keep L w k j hj]; exact Int.le_trans (sp_low L w k j hj) hmono
    · obtain rfl : j = k := by omega
      rw [sp_step]
      have e : ∀ x, ((spS L w j).1 ++ [x]).getD j (0, 0) = x := fun x => by
        have := getD_end (spS L w j).1 x (0, 0); rwa [hl] at this
      split
      · rw [e]
        rcases Nat.eq_zero_or_pos j with h0 | h0
        · subst h0; simp [spS]
        · exact sp_low L w j (j - 1) (by omega)
      · split
        · rw [e]; exact Int.le_refl _
        · rw [e]; exact Int.le_refl _
theorem rwS_none (L : List Cl) (w : Int) (k : Nat) (hk : k ≤ L.length) (r : Int) (h : (spS L w k).2.1 < r) : rwS L w r k = [] := by
  unfold rwS
  rw [List.flatMap_eq_nil_iff]
  intro j hj
  rw [List.mem_range] at hj
  unfold rwO
  rw [if_pos]
  rw [spAll_at L w k j hj hk]
  have := sp_low L w k j hj
  omega
/-- What the cell at k is in its row. -/
def rwC (L : List Cl) (w : Int) (k : Nat) : Cl := if w = 1 ∧ k + 1 < L.length ∧ (L.getD (k + 1) cl0).1 = -1 then (35, (L.getD k cl0).2) else L.getD k cl0
theorem rwS_at (L : List Cl) (w r p : Int) (k : Nat) (h1 : ((spAll L w).getD k (0, 0)).1 = p) (h2 : ¬ (w = 1 ∧ (L.getD k cl0).1 = -1)) : rwS L w r (k + 1) = rwS L w r k ++ if p = r then [rwC L w k] else [] := by
  rw [rwS_succ]
  congr 1
  unfold rwO rwC
  rw [h1, if_neg h2]
  by_cases h : p = r
  · rw [if_neg (by simpa using h), if_pos h]; split <;> rfl
  · rw [if_pos (by simpa using h), if_neg h]
/-- Cells laid so far: the rows before the last one, the last one, and the places. -/
structure LyI (L : List Cl) (w : Int) (k : Nat) (X : List (List Cl)) (y : List Cl) (S : List (Int × Int)) : Prop where
  row : (spS L w k).2.1 = X.length
  col : (spS L w k).2.2 = y.length
  old : ∀ r, r < X.length → X.getD r [] = rwS L w r k
  last : y = rwS L w X.length k
  pl : S = (spS L w k).1
  fit : (y.length : Int) ≤ w
  fits : ∀ r, r < X.length → ((X.getD r []).length : Int) ≤ w
theorem LyI.start (L : List Cl) (w : Int) (hw : 1 ≤ w) : LyI L w 0 [] [] [] := ⟨rfl, rfl, fun r h => absurd h (by simp), rfl, rfl, by simp; omega, fun r h => absurd h (by simp)⟩
/-- The rows before the last one, and the last one, when a piece of n cells comes. -/
def lyX (w : Int) (X : List (List Cl)) (y : List Cl) (n : Int) : List (List Cl) := if w < y.length + n then X ++ [y] else X
def lyY (w : Int) (y : List Cl) (n : Int) : List Cl := if w < y.length + n then [] else y
theorem LyI.cell {L : List Cl} {w : Int} {k : Nat} {X : List (List Cl)} {y : List Cl} {S : List (Int × Int)} (h : LyI L w k X y S) (hw : 1 ≤ w) (hk : k < L.length) (hv : (L.getD k cl0).1 ≠ -1) (hn : spN L w k ≤ w) :
    LyI L w (k + 1) (lyX w X y (spN L w k)) (lyY w y (spN L w k) ++ [rwC L w k]) (S ++ [(((lyX w X y (spN L w k)).length : Int), ((lyY w y (spN L w k)).length : Int))]) := by
  have hn1 : 1 ≤ spN L w k := by unfold spN; split <;> omega
  have hskip : spSkip L w k = false := by unfold spSkip; rw [decide_eq_false hv]; rfl
  have hnew : spNew L w k (spS L w k).2.2 = decide (w < y.length + spN L w k) := by unfold spNew; rw [decide_eq_true hv, Bool.true_and, h.col]
  have hst := sp_step L w k
  rw [if_neg (by rw [hskip]; simp), hnew, h.row, h.col, ← h.pl] at hst
  have hat : ∀ p, (spS L w (k + 1)).1 = S ++ [p] → ((spAll L w).getD k (0, 0)) = p := fun p e => by
    rw [spAll_at L w (k + 1) k (by omega) (by omega), e]
    have := getD_end S p (0, 0)
    rwa [h.pl, spS_len, ← h.pl] at this
  have h2 : ¬ (w = 1 ∧ (L.getD k cl0).1 = -1) := fun h => hv h.2
  by_cases hb : w < y.length + spN L w k
  · rw [decide_eq_true hb, if_pos rfl] at hst
    have ex : lyX w X y (spN L w k) = X ++ [y] := by unfold lyX; rw [if_pos hb]
    have ey : lyY w y (spN L w k) = [] := by unfold lyY; rw [if_pos hb]
    rw [ex, ey]
    have ha := hat _ (by rw [hst])
    have hS := fun r => rwS_at L w r _ k (by rw [ha]) h2
    have hlen : ((X ++ [y]).length : Int) = X.length + 1 := by simp
    refine ⟨by rw [hst, hlen], by rw [hst]; simp, fun r hr => ?_, ?_, by rw [hst, hlen]; simp, by simp; omega, fun r hr => ?_⟩
    · rw [hS, if_neg (by simp at hr; omega), List.append_nil]
      rcases Nat.lt_or_ge r X.length with h' | h'
      · rw [getD_app _ _ _ _ h']; exact h.old r h'
      · obtain rfl : r = X.length := by simp at hr; omega
        rw [getD_end]; exact h.last
    · rw [hlen, hS, if_pos rfl, rwS_none L w k (by omega) _ (by rw [h.row]; omega)]
    · rcases Nat.lt_or_ge r X.length with h' | h'
      · rw [getD_app _ _ _ _ h']; exact h.fits r h'
      · obtain rfl : r = X.length := by simp at hr; omega
        rw [getD_end]; exact h.fit
  · rw [decide_eq_false hb, if_neg (by simp)] at hst
    have ex : lyX w X y (spN L w k) = X := by unfold lyX; rw [if_neg hb]
    have ey : lyY w y (spN L w k) = y := by unfold lyY; rw [if_neg hb]
    rw [ex, ey]
    have ha := hat _ (by rw [hst])
    have hS := fun r => rwS_at L w r _ k (by rw [ha]) h2
    refine ⟨by rw [hst], by rw [hst]; simp, fun r hr => ?_, ?_, by rw [hst], by simp; omega, h.fits⟩
    · rw [hS, if_neg (by omega), List.append_nil]; exact h.old r hr
    · rw [hS, if_pos rfl, ← h.last]
theorem LyI.right {L : List Cl} {w : Int} {k : Nat} {X : List (List Cl)} {y : List Cl} {S : List (Int × Int)} (h : LyI L w k X y S) (hk : k < L.length) (hv : (L.getD k cl0).1 = -1) (hw : 1 < w) (hf : (y.length : Int) + 1 ≤ w) :
    LyI L w (k + 1) X (y ++ [L.getD k cl0]) (S ++ [((X.length : Int), (y.length : Int))]) := by
  have hskip : spSkip L w k = false := by unfold spSkip; rw [decide_eq_false (show ¬ w = 1 by omega), Bool.and_false]
  have hnew : ∀ c, spNew L w k c = false := fun c => by unfold spNew; rw [decide_eq_false (by simpa using hv), Bool.false_and]
  have hst := sp_step L w k
  rw [if_neg (by rw [hskip]; simp), hnew, if_neg (by simp), h.row, h.col, ← h.pl] at hst
  have ha : ((spAll L w).getD k (0, 0)) = ((X.length : Int), (y.length : Int)) := by
    rw [spAll_at L w (k + 1) k (by omega) (by omega), hst]
    have := getD_end S ((X.length : Int), (y.length : Int)) (0, 0)
    rwa [h.pl, spS_len, ← h.pl] at this
  have hS := fun r => rwS_at L w r _ k (by rw [ha]) (fun h => by omega)
  have hc : rwC L w k = L.getD k cl0 := by unfold rwC; rw [if_neg (fun h => by omega)]
  refine ⟨by rw [hst], by rw [hst]; simp, fun r hr => ?_, ?_, by rw [hst], by simp; omega, h.fits⟩
  · rw [hS, if_neg (by omega), List.append_nil]; exact h.old r hr
  · rw [hS, if_pos rfl, hc, ← h.last]
theorem LyI.skip {L : List Cl} {w : Int} {k : Nat} {X : List (List Cl)} {y : List Cl} {S : List (Int × Int)} (h : LyI L w k X y S) (hk : k < L.length) (hv : (L.getD k cl0).1 = -1) (hw : w = 1) :
    LyI L w (k + 1) X y (S ++ [S.getD (k - 1) (0, 0)]) := by
  have hskip : spSkip L w k = true := by unfold spSkip; rw [decide_eq_true hw, decide_eq_true hv]; rfl
  have hst := sp_step L w k
  rw [if_pos hskip, ← h.pl] at hst
  have hO : ∀ r, rwO L w r k = [] := fun r => by unfold rwO; split; rfl; rw [if_pos ⟨hw, hv⟩]
  refine ⟨by rw [hst]; exact h.row, by rw [hst]; exact h.col, fun r hr => ?_, ?_, by rw [hst], h.fit, h.fits⟩
  · rw [rwS_succ, hO, List.append_nil]; exact h.old r hr
  · rw [rwS_succ, hO, List.append_nil]; exact h.last
/-- One sign of one column. -/
theorem LyI.one {L : List Cl} {w : Int} {k : Nat} {X : List (List Cl)} {y : List Cl} {S : List (Int × Int)} (h : LyI L w k X y S) (hw : 1 ≤ w) (hk : k < L.length) (hv : (L.getD k cl0).1 ≠ -1) (hr : k + 1 < L.length → (L.getD (k + 1) cl0).1 ≠ -1) :
    LyI L w (k + 1) (lyX w X y 1) (lyY w y 1 ++ [L.getD k cl0]) (S ++ [(((lyX w X y 1).length : Int), ((lyY w y 1).length : Int))]) := by
  have e : spN L w k = 1 := by unfold spN; rw [if_neg (fun h => hr h.1 h.2.1)]
  have c : rwC L w k = L.getD k cl0 := by unfold rwC; rw [if_neg (fun h => hr h.2.1 h.2.2)]
  have := h.cell hw hk hv (by rw [e]; exact hw)
  rwa [e, c] at this
/-- One sign of two columns. -/
theorem LyI.two {L : List Cl} {w : Int} {k : Nat} {X : List (List Cl)} {y : List Cl} {S : List (Int × Int)} (h : LyI L w k X y S) (hw : 1 < w) (hk : k + 1 < L.length) (hv : (L.getD k cl0).1 ≠ -1) (hr : (L.getD (k + 1) cl0).1 = -1) :
    LyI L w (k + 2) (lyX w X y 2) (lyY w y 2 ++ [L.getD k cl0, L.getD (k + 1) cl0]) (S ++ [(((lyX w X y 2).length : Int), ((lyY w y 2).length : Int)), (((lyX w X y 2).length : Int), ((lyY w y 2).length : Int) + 1)]) := by
  have e : spN L w k = 2 := by unfold spN; rw [if_pos ⟨hk, hr, hw⟩]
  have c : rwC L w k = L.getD k cl0 := by unfold rwC; rw [if_neg (fun h => by omega)]
  have h1 := h.cell (by omega) (by omega) hv (by rw [e]; exact hw)
  rw [e, c] at h1
  have hy : ((lyY w y 2).length : Int) + 2 ≤ w := by unfold lyY; split <;> (try simp) <;> omega
  have h2 := h1.right hk hr hw (by simp; omega)
  simpa using h2
/-- A sign of two columns in a width of one. -/
theorem LyI.narrow {L : List Cl} {w : Int} {k : Nat} {X : List (List Cl)} {y : List Cl} {S : List (Int × Int)} (h : LyI L w k X y S) (hw : w = 1) (hk : k + 1 < L.length) (hv : (L.getD k cl0).1 ≠ -1) (hr : (L.getD (k + 1) cl0).1 = -1) :
    LyI L w (k + 2) (lyX w X y 1) (lyY w y 1 ++ [(35, (L.getD k cl0).2)]) (S ++ [(((lyX w X y 1).length : Int), ((lyY w y 1).length : Int)), (((lyX w X y 1).length : Int), ((lyY w y 1).length : Int))]) := by
  have e : spN L w k = 1 := by unfold spN; rw [if_neg (fun h => by omega)]
  have c : rwC L w k = (35, (L.getD k cl0).2) := by unfold rwC; rw [if_pos ⟨hw, hk, hr⟩]
  have hS : S.length = k := by rw [h.pl, spS_len]
  have h1 := h.cell (by omega) (by omega) hv (by rw [e]; omega)
  rw [e, c] at h1
  have h2 := h1.skip hk hr hw
  rw [Nat.add_sub_cancel] at h2
  have := getD_end S ((((lyX w X y 1).length : Int), ((lyY w y 1).length : Int))) (0, 0)
  rw [hS] at this
  rw [this, List.append_assoc] at h2
  exact h2
/-- All rows. -/
def lyRows (L : List Cl) (w : Int) : List (List Cl) := (List.range (((spAll L w).getD L.length (0, 0)).1.toNat + 1)).map fun (r : Nat) => rwS L w (r : Int) L.length
theorem ext_getDD {α : Type} (d : α) {a b : List α} (h : a.length = b.length) (e : ∀ i, i < a.length → a.getD i d = b.getD i d) : a = b :=
  List.ext_getElem h fun i h1 h2 => by have := e i h1; simpa [List.getD, List.getElem?_eq_getElem h1, List.getElem?_eq_getElem h2] using this
theorem lyRows_len (L : List Cl) (w : Int) : (lyRows L w).length = ((spAll L w).getD L.length (0, 0)).1.toNat + 1 := by unfold lyRows; rw [List.length_map, List.length_range]
theorem lyRows_at (L : List Cl) (w : Int) (i : Nat) (h : i < (lyRows L w).length) : (lyRows L w).getD i [] = rwS L w i L.length := by
  rw [lyRows_len] at h
  unfold lyRows
  rw [List.getD, List.getElem?_map, List.getElem?_range h]; rfl
theorem LyI.full {L : List Cl} {w : Int} {X : List (List Cl)} {y : List Cl} {S : List (Int × Int)} (h : LyI L w L.length X y S) (hf : (y.length : Int) = w) : X ++ [y] ++ [[]] = lyRows L w ∧ S ++ [((X.length : Int) + 1, 0)] = spAll L w := by
  have hs : spAll L w = S ++ [((X.length : Int) + 1, 0)] := by unfold spAll; rw [h.col, h.row, if_pos hf, ← h.pl]
  refine ⟨?_, hs.symm⟩
  have hS : S.length = L.length := by rw [h.pl, spS_len]
  have e : (spAll L w).getD L.length (0, 0) = ((X.length : Int) + 1, 0) := by rw [hs, ← hS]; exact getD_end _ _ _
  have hl : (X ++ [y] ++ [[]]).length = (lyRows L w).length := by rw [lyRows_len, e]; simp
  refine ext_getDD [] hl fun i hi => ?_
  rw [lyRows_at L w i (by omega)]
  rcases Nat.lt_trichotomy i X.length with h' | h' | h'
  · rw [getD_app _ _ _ _ (by simp; omega), getD_app _ _ _ _ h']; exact h.old i h'
  · subst h'; rw [getD_app _ _ _ _ (by simp), getD_end]; exact h.last
  · obtain rfl : i = (X ++ [y]).length := by simp at hi ⊢; omega
    rw [getD_end, rwS_none L w L.length (Nat.le_refl _) _ (by rw [h.row]; simp; omega)]
theorem LyI.rest {L : List Cl} {w : Int} {X : List (List Cl)} {y : List Cl} {S : List (Int × Int)} (h : LyI L w L.length X y S) (hf : (y.length : Int) ≠ w) : X ++ [y] = lyRows L w ∧ S ++ [((X.length : Int), (y.length : Int))] = spAll L w := by
  have hs : spAll L w = S ++ [((X.length : Int), (y.length : Int))] := by unfold spAll; rw [h.col, h.row, if_neg hf, ← h.pl, ← h.row, ← h.col]
  refine ⟨?_, hs.symm⟩
  have hS : S.length = L.length := by rw [h.pl, spS_len]
  have e : (spAll L w).getD L.length (0, 0) = ((X.length : Int), (y.length : Int)) := by rw [hs, ← hS]; exact getD_end _ _ _
  have hl : (X ++ [y]).length = (lyRows L w).length := by rw [lyRows_len, e]; simp
  refine ext_getDD [] hl fun i hi => ?_
  rw [lyRows_at L w i (by omega)]
  rcases Nat.lt_or_ge i X.length with h' | h'
  · rw [getD_app _ _ _ _ h']; exact h.old i h'
  · obtain rfl : i = X.length := by simp at hi; omega
    rw [getD_end]; exact h.last
theorem LyI.fit_all {L : List Cl} {w : Int} {k : Nat} {X : List (List Cl)} {y : List Cl} {S : List (Int × Int)} (h : LyI L w k X y S) : ∀ r ∈ X ++ [y], (r.length : Int) ≤ w := by
  intro r hr
  rcases List.mem_append.1 hr with h' | h'
  · obtain ⟨i, hi, rfl⟩ := List.getElem_of_mem h'
    have := h.fits i hi
    simpa [List.getD, List.getElem?_eq_getElem hi] using this
  · obtain rfl : r = y := by simpa using h'
    exact h.fit
end Go.Proofs.YtcdecnmhogmhaaaDoor
set_option linter.unusedVariables false
set_option linter.unusedSimpArgs false
namespace Go.Proofs.YtcdecnmhogmhaaaDoor
open Go.RowKit
def aw7p : List (Int × Int) := [(62, 5)]
def aw7l : List (Int × Int) := [(97, 0), (27, 0), (98, 0)]
def aw7C : List Cl := vwOf aw7p aw7l
theorem aw7_facts : sgC aw7p = true ∧ sgC aw7l = true ∧ sgC [((-1 : Int), (0 : Int))] = false ∧ aw7C.length = 5 ∧ fstM aw7C 2 = 4 ∧ ownM aw7C 3 = 1 ∧ ownM aw7C 5 = 3 ∧ encS (txV aw7C) = ⟨#[62, 97, 94, 91, 98]⟩ ∧ colM aw7p 1 = 1 ∧ (∀ j, j < 5 → -9223372036854775808 ≤ (aw7C.getD j cl0).2.2.1 ∧ (aw7C.getD j cl0).2.2.1 < 9223372036854775807) := by decide +kernel
/-- What awake holds: the tables, its prompt, its cells. -/
structure A7 (w : World) (p : Nat) (a : Option Addr) : Prop where
  t : Tabs w
  s : Signs w (some ⟨p, 0, none⟩) aw7p
  c : CellsIn w a aw7C
theorem A7.below {w w' : World} {p : Nat} {a : Option Addr} (h : A7 w p a) (hb : Below w.heap.size w w') : A7 w' p a := ⟨h.t.below hb, h.s.below hb, h.c.below hb⟩
end Go.Proofs.YtcdecnmhogmhaaaDoor
set_option linter.unusedVariables false
set_option linter.unusedSimpArgs false
namespace Go.Proofs.YtcdecnmhogmhaaaDoor
open Go.RowKit
theorem vwOf_len (p l : List (Int × Int)) : ((vwOf p l).length : Int) = colM p p.length + colM l l.length := by
  unfold vwOf colM
  rw [List.length_append, vwG_len l ofL ofP, Int.natCast_add]
theorem vwOf_le (p l : List (Int × Int)) : (vwOf p l).length ≤ 30 * p.length + 30 * l.length := by
  have h1 := vwG_le p ofP p.length
  have h2 := vwG_le l ofL l.length
  unfold vwOf; rw [List.length_append]; omega
theorem colM_rng (l : List (Int × Int)) : 0 ≤ colM l l.length ∧ colM l l.length ≤ 30 * l.length := by
  have := vwG_le l ofP l.length
  unfold colM; omega
/-- What a law on views holds: the tables, the prompt, the line. -/
structure V7 (w : World) (a b : Option Addr) (p l : List (Int × Int)) : Prop where
  t : Tabs w
  p : Signs w a p
  l : Signs w b l
theorem V7.below {w w' : World} {a b : Option Addr} {p l : List (Int × Int)} (h : V7 w a b p l) (hb : Below w.heap.size w w') : V7 w' a b p l := ⟨h.t.below hb, h.p.below hb, h.l.below hb⟩
theorem vof_cells (p l : List (Int × Int)) (a b : Option Addr) (c d : Nat) (w : World) (hp : p.length ≤ 1000) (hl : l.length ≤ 1000) (h : V7 w a b p l) (hP : sgC p = true) (hL : sgC l = true) :
    Calls Tryd.prog 65 #[.slice a p.length c, .slice b l.length d] w fun e w' => ∃ ca cc, e = .returned (.tuple #[.slice ca (vwOf p l).length cc, .int .i64 0]) ∧ CellsIn w' ca (vwOf p l) ∧ Below w.heap.size w w' := by
  refine (vof_yes p l a b c d w hp hl h.p h.l h.t hP hL).mono ?_
  rintro e w' ⟨x, rfl, hown, hb⟩
  obtain ⟨ca, cc, rfl, hci⟩ := cells_of_own hown
  exact ⟨ca, cc, rfl, hci, hb⟩
theorem vof_cellsR (p l : List (Int × Int)) (a b : Option Addr) (c d : Nat) (w : World) (hp : p.length ≤ 1000) (hl : l.length ≤ 1000) (h : V7 w a b p l) (hP : sgC p = true) (hL : sgC l = true) :
    Calls Tryd.prog 22 #[.slice a p.length c, .slice b l.length d] w fun e w' => ∃ ca cc, e = .returned (.slice ca (vwOf p l).length cc) ∧ CellsIn w' ca (vwOf p l) ∧ Below w.heap.size w w' := by
  refine (vof_ref p l a b c d w hp hl h.p h.l hP hL).mono ?_
  rintro e w' ⟨x, rfl, hown, hb⟩
  obtain ⟨ca, cc, rfl, hci⟩ := cells_of_own hown
  exact ⟨ca, cc, rfl, hci, hb⟩
end Go.Proofs.YtcdecnmhogmhaaaDoor
set_option linter.unusedVariables false
set_option linter.unusedSimpArgs false
namespace Go.Proofs.YtcdecnmhogmhaaaDoor
open Go.RowKit
theorem tkL_own (s : ByteArray) (a o f : Int) (k : Nat) : ∀ c ∈ tkL s a o f k, c.2.2.1 = o := by
  intro c hc
  simp only [tkL, List.mem_map] at hc
  obtain ⟨i, _, rfl⟩ := hc
  rfl
theorem shK_own (v l o : Int) : ∀ c ∈ shK v l o, c.2.2.1 = o := by
  intro c hc
  rcases cells_cases v l o with ⟨_, hs⟩ | ⟨_, _, hs⟩ | ⟨_, _, hs⟩ | ⟨_, _, hs⟩ <;> rw [hs] at hc
  · exact tkL_own _ _ _ _ _ c hc
  · simp at hc; rcases hc with rfl | rfl <;> rfl
  · simp at hc; rw [hc]
  · simp at hc
/-- How many cells the first k signs have. -/
def lnM (l : List (Int × Int)) (k : Nat) : Nat := (vwG l ofL k).length
theorem lnM_succ (l : List (Int × Int)) (k : Nat) : (lnM l (k + 1) : Int) = lnM l k + shC (l.getD k (0, 0)).1 := by
  unfold lnM; rw [vwG_succ, List.length_append, Int.natCast_add, shK_len]
theorem lnM_mono1 (l : List (Int × Int)) (k : Nat) : lnM l k ≤ lnM l (k + 1) := by unfold lnM; rw [vwG_succ, List.length_append]; omega
theorem lnM_mono (l : List (Int × Int)) (j k : Nat) (h : j ≤ k) : lnM l j ≤ lnM l k := by
  induction k with
  | zero => have : j = 0 := by omega
            rw [this]; exact Nat.le_refl _
  | succ k ih =>
    rcases Nat.lt_or_ge j (k + 1) with h1 | h1
    · exact Nat.le_trans (ih (by omega)) (lnM_mono1 l k)
    · have : j = k + 1 := by omega
      rw [this]; exact Nat.le_refl _
theorem getD_left (a b : List Cl) (j : Nat) (h : j < a.length) : (a ++ b).getD j cl0 = a.getD j cl0 := by
  simp only [List.getD]; rw [List.getElem?_append_left h]
theorem getD_right (a b : List Cl) (j : Nat) (h : a.length ≤ j) : (a ++ b).getD j cl0 = b.getD (j - a.length) cl0 := by
  simp only [List.getD]; rw [List.getElem?_append_right h]
theorem getD_memC (a : List Cl) (j : Nat) (h : j < a.length) : a.getD j cl0 ∈ a := by
  rw [List.getD, List.getElem?_eq_getElem h]; exact List.getElem_mem h
/-- Whose the cells of signs are. -/
theorem vwG_at (l : List (Int × Int)) (f : Nat → Int) : ∀ k j, j < (vwG l f k).length → ∃ i, i < k ∧ lnM l i ≤ j ∧ j < lnM l (i + 1) ∧ ((vwG l f k).getD j cl0).2.2.1 = f i := by
  intro k
  induction k with
  | zero => intro j h; simp [vwG] at h
  | succ k ih =>
    intro j h
    have e := vwG_len l f ofL
    by_cases h1 : j < (vwG l f k).length
    · obtain ⟨i, a, b, c, d⟩ := ih j h1
      exact ⟨i, by omega, b, c, by rw [vwG_succ, getD_left _ _ _ h1]; exact d⟩
    · refine ⟨k, by omega, ?_, ?_, ?_⟩
      · have := e k; unfold lnM; omega
      · have := e (k + 1); unfold lnM; omega
      · rw [vwG_succ, getD_right _ _ _ (by omega)]
        refine shK_own _ _ _ _ (getD_memC _ _ ?_)
        rw [vwG_succ, List.length_append] at h; omega
theorem vw_front (p l : List (Int × Int)) (j : Nat) (h : j < (vwG p ofP p.length).length) : ((vwOf p l).getD j cl0).2.2.1 = -1 := by
  unfold vwOf
  rw [getD_left _ _ _ h]
  obtain ⟨i, _, _, _, hd⟩ := vwG_at p ofP p.length j h
  exact hd
theorem vw_line (p l : List (Int × Int)) (j i : Nat) (hi : i < l.length) (h0 : (vwG p ofP p.length).length + lnM l i ≤ j) (h1 : j < (vwG p ofP p.length).length + lnM l (i + 1)) : ((vwOf p l).getD j cl0).2.2.1 = i := by
  unfold vwOf
  rw [getD_right _ _ _ (by omega)]
  have hm := lnM_mono l (i + 1) l.length (by omega)
  obtain ⟨i', a, b, c, hd⟩ := vwG_at l ofL l.length (j - (vwG p ofP p.length).length) (by unfold lnM at hm h1; omega)
  have : i' = i := by
    rcases (by omega : i' < i ∨ i' = i ∨ i < i') with k | k | k
    · have := lnM_mono l (i' + 1) i (by omega); omega
    · exact k
    · have := lnM_mono l (i + 1) i' (by omega); omega
  rw [hd, this]; rfl
theorem lnM_lt {l : List (Int × Int)} (h : sgC l = true) {i : Nat} (hi : i < l.length) : lnM l i < lnM l (i + 1) := by
  have h1 := lnM_succ l i
  have h2 := shC_rng _ (sgC_at h hi)
  omega
/-- Where a sign's cells begin. -/
theorem fst_line (p l : List (Int × Int)) (h : sgC l = true) (i : Nat) (hi : i ≤ l.length) : fstM (vwOf p l) (i : Int) = (vwG p ofP p.length).length + lnM l i := by
  have hlen : (vwOf p l).length = (vwG p ofP p.length).length + lnM l l.length := by unfold vwOf lnM; rw [List.length_append]
  have hlow : ∀ j, j < (vwG p ofP p.length).length + lnM l i → ((vwOf p l).getD j cl0).2.2.1 < (i : Int) := by
    intro j hj
    by_cases hj1 : j < (vwG p ofP p.length).length
    · rw [vw_front p l j hj1]; omega
    · have hm := lnM_mono l i l.length hi
      unfold vwOf
      rw [getD_right _ _ _ (by omega)]
      obtain ⟨i', a, b, c, hd⟩ := vwG_at l ofL l.length (j - (vwG p ofP p.length).length) (by unfold lnM at hm hj; omega)
      rw [hd]
      have : i' < i := by
        rcases Nat.lt_or_ge i' i with k | k
        · exact k
        · have := lnM_mono l i i' k; omega
      show (i' : Int) < i
      omega
  by_cases he : i = l.length
  · rw [he] at hlow ⊢
    rw [← hlen]
    exact fstM_none (fun j hj => hlow j (by omega))
  · have hlt := lnM_lt h (i := i) (by omega)
    have hm := lnM_mono l (i + 1) l.length (by omega)
    refine fstM_at (by omega) ?_ hlow
    rw [vw_line p l _ i (by omega) (Nat.le_refl _) (by omega)]; exact Int.le_refl _
theorem own_line (p l : List (Int × Int)) (j i : Nat) (hi : i < l.length) (h0 : (vwG p ofP p.length).length + lnM l i ≤ j) (h1 : j < (vwG p ofP p.length).length + lnM l (i + 1)) : ownM (vwOf p l) (j : Int) = i := by
  have hlen : (vwOf p l).length = (vwG p ofP p.length).length + lnM l l.length := by unfold vwOf lnM; rw [List.length_append]
  have hm := lnM_mono l (i + 1) l.length (by omega)
  unfold ownM
  rw [if_neg (by omega), if_neg (by omega), show (max (j : Int) 0).toNat = j by omega]
  exact vw_line p l j i hi h0 h1
theorem own_rng (p l : List (Int × Int)) (hl : l.length ≤ 1000) : ∀ j, j < (vwOf p l).length → -9223372036854775808 ≤ ((vwOf p l).getD j cl0).2.2.1 ∧ ((vwOf p l).getD j cl0).2.2.1 < 9223372036854775807 := by
  intro j hj
  by_cases hj1 : j < (vwG p ofP p.length).length
  · rw [vw_front p l j hj1]; omega
  · unfold vwOf at hj ⊢
    rw [List.length_append] at hj
    rw [getD_right _ _ _ (by omega)]
    obtain ⟨i', a, b, c, hd⟩ := vwG_at l ofL l.length (j - (vwG p ofP p.length).length) (by omega)
    rw [hd]
    show -9223372036854775808 ≤ (i' : Int) ∧ (i' : Int) < 9223372036854775807
    omega
end Go.Proofs.YtcdecnmhogmhaaaDoor
set_option linter.unusedVariables false
set_option linter.unusedSimpArgs false
namespace Go.Proofs.YtcdecnmhogmhaaaDoor
open Go.RowKit
theorem encS_append (a b : List Int) : encS (a ++ b) = encS a ++ encS b := by
  unfold encS
  rw [encI_append, txt_list, txt_list, txt_list, ba_app]
  unfold u8l; rw [List.map_append]
theorem u8_ascii (x : Int) (h0 : 0 ≤ x) (h1 : x < 128) : oneI x = [x] := by
  rw [oneI_pt ((ptB_iff x).2 (by omega)), Lib.encodeRuneZ_one h0 (by omega)]
theorem encI_ascii : ∀ (l : List UInt8), (∀ c ∈ l, c.toNat < 128) → encI (l.map fun c => (c.toNat : Int)) = l.map fun c => (c.toNat : Int)
  | [], _ => rfl
  | c :: l, h => by
    have h1 := h c (by simp)
    have e : encI ((c :: l).map fun c => (c.toNat : Int)) = oneI (c.toNat : Int) ++ encI (l.map fun c => (c.toNat : Int)) := rfl
    rw [e, encI_ascii l (fun x hx => h x (by simp [hx])), u8_ascii _ (by omega) (by omega)]; rfl
theorem u8l_back (l : List UInt8) : u8l (l.map fun c => (c.toNat : Int)) = l := by
  unfold u8l
  rw [List.map_map]
  conv => rhs; rw [← List.map_id l]
  refine List.map_congr_left fun c _ => ?_
  show ((c.toNat : Int).toNat).toUInt8 = c
  rw [Int.toNat_natCast]
  exact UInt8.ofNat_toNat
theorem encS_ascii (l : List UInt8) (h : ∀ c ∈ l, c.toNat < 128) : encS (l.map fun c => (c.toNat : Int)) = ⟨l.toArray⟩ := by
  unfold encS; rw [encI_ascii l h, txt_list, u8l_back]
/-- The bytes of a shown text of a dangerous value are plain. -/
theorem sh_ascii (v : Int) (hd : 3 < cls v) : ∀ c ∈ (shT v).data.toList, c.toNat < 128 := by
  intro c hc
  rcases sh_lists v with ⟨h0, hs⟩ | ⟨h0, a, b, k, d, hs⟩ | ⟨h0, h1, h2, hs⟩ | ⟨h0, _, hs⟩ | ⟨h0, h1, h2, hs⟩ | ⟨h0, h00, h1, h2, h3, hs⟩
  · omega
  · omega
  · rw [hs] at hc
    have hc' : c ∈ [94] ++ u8l [v + 64] := hc
    simp [u8l] at hc'
    rcases hc' with rfl | rfl
    · decide
    · have := u8_val (v + 64) (by omega) (by omega); simp at this ⊢; omega
  · rw [hs] at hc
    have hc' : c ∈ ([94, 63] : List UInt8) := hc
    simp at hc'
    rcases hc' with rfl | rfl <;> decide
  · rw [hs] at hc
    have hc' : c ∈ [92, 120] ++ hexL (v - 1114112) 2 := hc
    rw [List.mem_append] at hc'
    rcases hc' with hc' | hc'
    · simp at hc'; rcases hc' with rfl | rfl <;> decide
    · have := tell_ok _ _ _ c hc'; omega
  · rw [hs] at hc
    have hc' : c ∈ [60, 85, 43] ++ hexL v 4 ++ [62] := hc
    rw [List.mem_append, List.mem_append] at hc'
    rcases hc' with (hc' | hc') | hc'
    · simp at hc'; rcases hc' with rfl | rfl | rfl <;> decide
    · have := tell_ok _ _ _ c hc'; omega
    · simp at hc'; rw [hc']; decide
theorem tkL_txV (s : ByteArray) (a o f : Int) (h : ∀ c ∈ s.data.toList, 0 < c.toNat) : txV (tkL s a o f s.size) = s.data.toList.map fun c => (c.toNat : Int) := by
  have key : ∀ k, k ≤ s.size → txV (tkL s a o f k) = (s.data.toList.take k).map fun c => (c.toNat : Int) := by
    intro k
    induction k with
    | zero => intro _; rfl
    | succ k ih =>
      intro hk
      have hk' : k < s.data.toList.length := by rw [Array.length_toList]; exact hk
      have hg : s.get! k = s.data.toList[k] := by
        rw [get_get s k (by omega), Array.getElem_toList]; rfl
      have hp := h _ (List.getElem_mem hk')
      rw [tkL_succ, txV_append, ih (by omega), List.take_add_one, List.getElem?_eq_getElem hk', List.map_append]
      congr 1
      show txO ((s.get! k).toNat : Int) ++ [] = _
      rw [List.append_nil, hg]
      unfold txO; rw [if_pos (by omega)]; rfl
  have := key s.size (Nat.le_refl _)
  rw [this, List.take_of_length_le (by rw [Array.length_toList]; exact Nat.le_refl _)]
/-- A sign's cells say its shown text. -/
theorem shK_says (v l o : Int) (h : cls v ≠ 0) : encS (txV (shK v l o)) = shT v := by
  have one : 32 ≤ v → shT v = ⟨(u8l (oneI v)).toArray⟩ → encS [v] = shT v := fun h1 h2 => by
    rw [h2]; unfold encS
    have e : encI [v] = oneI v := by simp [encI]
    rw [e]; rfl
  have big : 32 ≤ v → txO v = [v] := fun h1 => by unfold txO; rw [if_pos (by omega)]
  have neg : txO (-1) = [] := rfl
  have facts : cls v ≤ 3 → 32 ≤ v ∧ shT v = ⟨(u8l (oneI v)).toArray⟩ := fun h3 => by
    rcases sh_lists v with ⟨h0, hs⟩ | ⟨h0, a, b, k, d, hs⟩ | ⟨h0, h1, h2, hs⟩ | ⟨h0, _, hs⟩ | ⟨h0, h1, h2, hs⟩ | ⟨h0, h00, h1, h2, h3, hs⟩
    · exact absurd h0 h
    · exact ⟨a, hs⟩
    all_goals omega
  rcases cells_casesR v l o with ⟨h0, _⟩ | ⟨h2, hs⟩ | ⟨h2, hs⟩ | ⟨h2, hs⟩
  · exact absurd h0 h
  · obtain ⟨f1, f2⟩ := facts (by omega)
    rw [hs]
    show encS (txO v ++ (txO (-1) ++ [])) = _
    rw [big f1, neg]; exact one f1 f2
  · obtain ⟨f1, f2⟩ := facts (by omega)
    rw [hs]
    show encS (txO v ++ []) = _
    rw [big f1]; exact one f1 f2
  · rw [hs, tkL_txV _ _ _ _ (fun c hc => by have := sh_bytes v c hc; omega), encS_ascii _ (sh_ascii v h2)]
/-- The shown texts of the first k signs, joined. -/
def sayN (l : List (Int × Int)) : Nat → ByteArray
  | 0 => ⟨#[]⟩
  | k + 1 => sayN l k ++ shT (l.getD k (0, 0)).1
theorem sayN_vw (l : List (Int × Int)) (f : Nat → Int) (h : sgC l = true) : ∀ k, k ≤ l.length → encS (txV (vwG l f k)) = sayN l k
  | 0, _ => rfl
  | k + 1, hk => by
    rw [vwG_succ, txV_append, encS_append, sayN_vw l f h k (by omega), shK_says _ _ _ (sgC_at h (by omega))]; rfl
theorem sayN_left (p l : List (Int × Int)) : ∀ k, k ≤ p.length → sayN (p ++ l) k = sayN p k
  | 0, _ => rfl
  | k + 1, hk => by
    have e : (p ++ l).getD k (0, 0) = p.getD k (0, 0) := by simp only [List.getD]; rw [List.getElem?_append_left (by omega)]
    rw [sayN, sayN, sayN_left p l k (by omega), e]
theorem ba_assoc (a b c : ByteArray) : (a ++ b) ++ c = a ++ (b ++ c) := by
  apply ByteArray.ext
  simp only [ByteArray.data_append, Array.append_assoc]
theorem sayN_right (p l : List (Int × Int)) : ∀ k, k ≤ l.length → sayN (p ++ l) (p.length + k) = sayN p p.length ++ sayN l k
  | 0, _ => by
    rw [Nat.add_zero, sayN_left p l _ (Nat.le_refl _)]
    apply ByteArray.ext
    rw [ByteArray.data_append]; simp [sayN]
  | k + 1, hk => by
    have e : (p ++ l).getD (p.length + k) (0, 0) = l.getD k (0, 0) := by simp only [List.getD]; rw [List.getElem?_append_right (by omega), Nat.add_sub_cancel_left]
    rw [← Nat.add_assoc, sayN, sayN_right p l k (by omega), e, ba_assoc]; rfl
/-- What a view says. -/
theorem vwOf_says (p l : List (Int × Int)) (hp : sgC p = true) (hl : sgC l = true) : encS (txV (vwOf p l)) = sayN (p ++ l) (p ++ l).length := by
  unfold vwOf
  rw [txV_append, encS_append, sayN_vw p _ hp _ (Nat.le_refl _), sayN_vw l _ hl _ (Nat.le_refl _), List.length_append, sayN_right p l _ (Nat.le_refl _)]
theorem sayN_size (l : List (Int × Int)) : ∀ k, (sayN l k).size ≤ 30 * k
  | 0 => by simp [sayN]; rfl
  | k + 1 => by
    have h1 := sayN_size l k
    have h2 := shT_size (l.getD k (0, 0)).1
    rw [sayN, ByteArray.size_append]; omega
theorem sRow_len (l : List (Int × Int)) : (sRow l).toList.length = l.length * 2 := by
  simp only [sRow, List.toList_toArray]
  induction l with
  | nil => rfl
  | cons x l ih => simp only [List.flatMap_cons, List.length_append, List.length_cons, List.length_nil, ih]; omega
/-- Signs that lie somewhere, as the cells that append reads. -/
theorem signs_news {w : World} {ad : Addr} {l : List (Int × Int)} (h : Signs w (some ad) l) : ∀ j u, (sRow l).toList[j]? = some u → w.cell? (ad.add j) = some u := by
  intro j u hj
  have hlen := sRow_len l
  have hj2 : j < l.length * 2 := by
    rw [← hlen]
    exact (List.getElem?_eq_some_iff.1 hj).1
  obtain ⟨b, off, e, _, h1, h2⟩ := h (j / 2) (by omega)
  injection e with e
  subst e
  have hadd : (⟨b, off, none⟩ : Addr).add j = ⟨b, off + j, none⟩ := by unfold Addr.add; split <;> simp_all
  have hs := sRow_at l (j / 2) (by omega)
  have hj' : (l.flatMap fun p => [Value.int .i64 p.1, Value.int .i64 p.2])[j]? = some u := hj
  rw [hadd]
  rcases (by omega : j = j / 2 * 2 ∨ j = j / 2 * 2 + 1) with k | k
  · rw [k, hs.1] at hj'; rw [← hj', ← h1]; congr 2; omega
  · rw [k, hs.2] at hj'; rw [← hj', ← h2]; congr 2; omega
end Go.Proofs.YtcdecnmhogmhaaaDoor
set_option linter.unusedVariables false
set_option linter.unusedSimpArgs false
namespace Go.Proofs.YtcdecnmhogmhaaaDoor
open Go.RowKit
/-- What is seen of a cell. -/
def seen (c : Cl) : Int × Int := (c.1, c.2.1)
theorem shS_seen {x y : List Cl} (h : shS x y = true) : x.map seen = y.map seen := by
  unfold shS at h
  rw [Bool.and_eq_true, List.all_eq_true] at h
  have hl : x.length = y.length := by simpa using h.1
  apply List.ext_getElem (by simpa using hl)
  intro j h1 h2
  have h3 := h.2 j (by simpa using h1)
  have h1' : j < x.length := by simpa using h1
  simp only [List.getD, List.getElem?_eq_getElem h1', List.getElem?_eq_getElem (hl ▸ h1'), Option.getD_some] at h3
  unfold clE at h3
  rw [Bool.and_eq_true, beq_iff_eq, beq_iff_eq] at h3
  simp only [List.getElem_map, seen, h3.1, h3.2]
theorem tkL_seen (s : ByteArray) (a o f : Int) : (tkL s a o f s.size).map seen = (s.data.toList.map fun c => (c.toNat : Int)).map fun b => (b, a) := by
  apply List.ext_getElem (by simp [tkL_len])
  intro j h1 h2
  have hj : j < s.size := by simpa [tkL_len] using h1
  simp only [tkL, List.getElem_map, List.getElem_range, seen]
  rw [get_get s j hj, Array.getElem_toList]; rfl
/-- What is seen of a sign. -/
def sgV (v a : Int) : List (Int × Int) :=
  if 3 < cls v then ((shT v).data.toList.map fun c => (c.toNat : Int)).map fun b => (b, a) else if cls v = 2 then [(v, a), (-1, a)] else if cls v = 0 then [] else [(v, a)]
theorem shK_seen (v l o : Int) : (shK v l o).map seen = sgV v (lkI v l) := by
  unfold sgV
  rcases cells_casesR v l o with ⟨h0, hs⟩ | ⟨h2, hs⟩ | ⟨h2, hs⟩ | ⟨h2, hs⟩ <;> rw [hs]
  · rw [if_neg (by omega), if_neg (by omega), if_pos h0]; rfl
  · rw [if_neg (by omega), if_pos h2]; rfl
  · rw [if_neg (by omega), if_neg (by omega), if_neg (by omega)]; rfl
  · rw [if_pos h2, tkL_seen]
theorem vwG_seen (l : List (Int × Int)) (f : Nat → Int) : ∀ k, k ≤ l.length → (vwG l f k).map seen = (l.take k).flatMap fun q => sgV q.1 (lkI q.1 q.2)
  | 0, _ => by simp [vwG]
  | k + 1, hk => by
    rw [vwG_succ, List.map_append, vwG_seen l f k (by omega), shK_seen, List.take_add_one, List.getElem?_eq_getElem (by omega), List.flatMap_append]
    simp [List.getD, List.getElem?_eq_getElem (show k < l.length by omega)]
theorem look_odd (v l : Int) : lkI v l % 2 = if 3 < cls v then 1 else 0 := by
  unfold lkI; repeat' split
  all_goals omega
theorem dg_ne (k : Nat) : (dg (k % 16)).toNat ≠ 62 := by
  have key : ∀ j : Fin 16, (dg j).toNat ≠ 62 := by decide
  exact key ⟨k % 16, Nat.mod_lt _ (by omega)⟩
theorem tell_no62 : ∀ f n l, ∀ c ∈ tell 16 f n l, c.toNat ≠ 62
  | 0, _, _, c, h => by simp [tell] at h
  | f + 1, n, l, c, h => by
    rw [tell] at h
    split at h
    · simp at h
    · rw [List.mem_append] at h
      rcases h with h | h
      · exact tell_no62 f _ _ c h
      · have : c = dg (n % 16) := by simpa using h
        rw [this]; exact dg_ne n
/-- A dangerous value's shown text: two bytes; four; or up to the first of 62. -/
def Form (L : List Int) : Prop := (∃ c, L = [94, c]) ∨ (∃ a b, L = [92, 120, a, b]) ∨ ∃ h : List Int, (∀ c ∈ h, c ≠ 62) ∧ L = [60, 85, 43] ++ h ++ [62]
def bsI (v : Int) : List Int := (shT v).data.toList.map fun c => (c.toNat : Int)
theorem form_of (v : Int) (hd : 3 < cls v) : Form (bsI v) := by
  unfold bsI
  rcases sh_lists v with ⟨h0, hs⟩ | ⟨h0, a, b, k, d, hs⟩ | ⟨h0, h1, h2, hs⟩ | ⟨h0, _, hs⟩ | ⟨h0, h1, h2, hs⟩ | ⟨h0, h00, h1, h2, h3, hs⟩
  · omega
  · omega
  · rw [hs]; exact Or.inl ⟨_, rfl⟩
  · rw [hs]; exact Or.inl ⟨_, rfl⟩
  · rw [hs]
    right; left
    have hl := hexL_len (v - 1114112) 2 2 (by show _ < 256; omega) (by decide) (by omega)
    have e : (2 : Int).toNat = 2 := rfl
    match hh : hexL (v - 1114112) 2, hl with
    | [a, b], _ => exact ⟨_, _, rfl⟩
    | [], hl => simp at hl
    | [_], hl => simp at hl
    | _ :: _ :: _ :: _, hl => simp at hl
  · rw [hs]
    right; right
    refine ⟨(hexL v 4).map fun c => (c.toNat : Int), ?_, ?_⟩
    · intro c hc
      rw [List.mem_map] at hc
      obtain ⟨x, hx, rfl⟩ := hc
      have := tell_no62 _ _ _ x hx
      omega
    · show List.map _ ([60, 85, 43] ++ hexL v 4 ++ [62]) = _
      rw [List.map_append, List.map_append]; rfl
theorem upto_62 : ∀ (h k A B : List Int), (∀ c ∈ h, c ≠ 62) → (∀ c ∈ k, c ≠ 62) → h ++ 62 :: A = k ++ 62 :: B → h = k
  | [], [], _, _, _, _, _ => rfl
  | [], y :: k, A, B, _, h2, e => by
    simp at e
    exact absurd e.1.symm (h2 y (by simp))
  | x :: h, [], A, B, h1, _, e => by
    simp at e
    exact absurd e.1 (h1 x (by simp))
  | x :: h, y :: k, A, B, h1, h2, e => by
    simp only [List.cons_append, List.cons.injEq] at e
    rw [e.1, upto_62 h k A B (fun c hc => h1 c (by simp [hc])) (fun c hc => h2 c (by simp [hc])) e.2]
/-- No such text begins another. -/
theorem form_apart {L M A B : List Int} (hL : Form L) (hM : Form M) (e : L ++ A = M ++ B) : L = M := by
  rcases hL with ⟨c, rfl⟩ | ⟨a, b, rfl⟩ | ⟨h, hh, rfl⟩ <;> rcases hM with ⟨c', rfl⟩ | ⟨a', b', rfl⟩ | ⟨h', hh', rfl⟩ <;> simp at e ⊢
  · exact e.1
  · exact ⟨e.1, e.2.1⟩
  · exact upto_62 h h' A B hh hh' e
theorem bsI_inj {v u : Int} (h : bsI v = bsI u) : shT v = shT u := by
  unfold bsI at h
  have key : ∀ a b : List UInt8, (a.map fun c => (c.toNat : Int)) = (b.map fun c => (c.toNat : Int)) → a = b := by
    intro a
    induction a with
    | nil => intro b e; cases b with
             | nil => rfl
             | cons y b => simp at e
    | cons x a ih =>
      intro b e
      cases b with
      | nil => simp at e
      | cons y b =>
        simp only [List.map_cons, List.cons.injEq] at e
        have e1 : x.toNat = y.toNat := by omega
        rw [UInt8.toNat_inj.1 e1, ih b e.2]
  have h2 := key _ _ h
  exact ByteArray.ext (Array.toList_inj.1 h2)
theorem sgV_pos {v : Int} (h : cls v ≠ 0) (a : Int) : ∃ x r, sgV v a = (x, a) :: r := by
  unfold sgV
  split
  · have hne := shT_ne v h
    cases hl : (shT v).data.toList with
    | nil => exact absurd (ByteArray.ext (Array.toList_inj.1 (by rw [hl]))) hne
    | cons x l => exact ⟨_, _, rfl⟩
  · split
    · exact ⟨_, _, rfl⟩
    · first | exact ⟨_, _, rfl⟩ | (rw [if_neg h]; exact ⟨_, _, rfl⟩)
/-- Signs that look the same in front of anything have the same value and the same looks. -/
theorem sgV_apart {v u a b : Int} {A B : List (Int × Int)} (hv : cls v ≠ 0) (hu : cls u ≠ 0) (ha : a % 2 = if 3 < cls v then 1 else 0) (hb : b % 2 = if 3 < cls u then 1 else 0) (e : sgV v a ++ A = sgV u b ++ B) : v = u ∧ a = b := by
  obtain ⟨x, r, h1⟩ := sgV_pos hv a
  obtain ⟨y, s, h2⟩ := sgV_pos hu b
  have hab : a = b := by
    rw [h1, h2] at e
    simp at e; exact e.1.2
  subst hab
  refine ⟨?_, rfl⟩
  have hd : (3 < cls v) ↔ (3 < cls u) := by
    rw [ha] at hb
    by_cases k : 3 < cls v <;> by_cases k2 : 3 < cls u <;> simp [k, k2] at hb ⊢
  by_cases k : 3 < cls v
  · have k2 := hd.1 k
    unfold sgV at e
    rw [if_pos k, if_pos k2] at e
    have e2 := congrArg (List.map Prod.fst) e
    have id1 : ∀ L : List Int, (L.map fun b => (b, a)).map Prod.fst = L := fun L => by
      rw [List.map_map]
      conv => rhs; rw [← List.map_id L]
      exact List.map_congr_left fun _ _ => rfl
    rw [List.map_append, List.map_append, id1, id1] at e2
    have e3 : bsI v ++ A.map Prod.fst = bsI u ++ B.map Prod.fst := e2
    exact sh_apart hv hu hd (bsI_inj (form_apart (form_of v k) (form_of u k2) e3))
  · have k2 : ¬ 3 < cls u := fun h => k (hd.2 h)
    have g : ∀ w : Int, cls w ≠ 0 → ¬ 3 < cls w → ∃ r, sgV w a = (w, a) :: r := fun w h0 h3 => by
      unfold sgV
      rw [if_neg h3]
      split
      · exact ⟨_, rfl⟩
      · first | exact ⟨_, rfl⟩ | (rw [if_neg h0]; exact ⟨_, rfl⟩)
    obtain ⟨r1, g1⟩ := g v hv k
    obtain ⟨r2, g2⟩ := g u hu k2
    rw [g1, g2] at e
    simp at e; exact e.1
theorem lines_apart : ∀ (x y : List (Int × Int)), (∀ q ∈ x, cls q.1 ≠ 0) → (∀ q ∈ y, cls q.1 ≠ 0) → (x.flatMap fun q => sgV q.1 (lkI q.1 q.2)) = (y.flatMap fun q => sgV q.1 (lkI q.1 q.2)) → x.map (·.1) = y.map (·.1)
  | [], [], _, _, _ => rfl
  | [], q :: y, _, h2, e => by
    obtain ⟨z, r, h⟩ := sgV_pos (h2 q (by simp)) (lkI q.1 q.2)
    rw [List.flatMap_nil, List.flatMap_cons, h] at e; cases e
  | q :: x, [], h1, _, e => by
    obtain ⟨z, r, h⟩ := sgV_pos (h1 q (by simp)) (lkI q.1 q.2)
    rw [List.flatMap_nil, List.flatMap_cons, h] at e; cases e
  | q :: x, q' :: y, h1, h2, e => by
    rw [List.flatMap_cons, List.flatMap_cons] at e
    have k := sgV_apart (h1 q (by simp)) (h2 q' (by simp)) (look_odd _ _) (look_odd _ _) e
    have e2 : sgV q.1 (lkI q.1 q.2) = sgV q'.1 (lkI q'.1 q'.2) := by rw [k.2, k.1]
    rw [e2] at e
    have ih := lines_apart x y (fun z hz => h1 z (by simp [hz])) (fun z hz => h2 z (by simp [hz])) (List.append_cancel_left e)
    simp [k.1, ih]
theorem sgC_mem {l : List (Int × Int)} (h : sgC l = true) : ∀ q ∈ l, cls q.1 ≠ 0 := by
  intro q hq
  have h2 := (List.all_eq_true.1 h) _ hq
  refine right_yes ?_
  unfold sgR at h2
  rw [Bool.and_eq_true, Bool.and_eq_true] at h2
  exact h2.2.2
/-- Two lines behind one prompt that are shown the same have the same values. -/
theorem vw_apart {p x y : List (Int × Int)} (hx : sgC x = true) (hy : sgC y = true) (h : shS (vwOf p x) (vwOf p y) = true) : x.map (·.1) = y.map (·.1) := by
  have e := shS_seen h
  unfold vwOf at e
  rw [List.map_append, List.map_append] at e
  have e2 := List.append_cancel_left e
  rw [vwG_seen _ _ _ (Nat.le_refl _), vwG_seen _ _ _ (Nat.le_refl _), List.take_length, List.take_length] at e2
  exact lines_apart x y (sgC_mem hx) (sgC_mem hy) e2
end Go.Proofs.YtcdecnmhogmhaaaDoor
set_option linter.unusedVariables false
set_option linter.unusedSimpArgs false
namespace Go.Proofs.YtcdecnmhogmhaaaDoor
open Go.RowKit
set_option maxHeartbeats 4000000 in
theorem sgvalues_ref (l : List (Int × Int)) (a : Option Addr) (c : Nat) (w : World) (hl : l.length ≤ 1000) (hs : Signs w a l) :
    Calls Tryd.prog 26 #[.slice a l.length c] w fun e w' => ∃ x, e = .returned x ∧ ownI w' w.heap.size x (l.map (·.1)) ∧ Below w.heap.size w w' := by
  obtain ⟨i0, hi, hz0, hz1, hz2⟩ := info_parts infoIntS
  have HS := Lib.hid hs; clear hs
  go_enter Tryd.func26, Tryd.ntmps26
  go_wp2
  go_loopw [3, 4] (fun ov iv wr => ∃ k : Nat, k ≤ l.length ∧ iv = .int .i64 (k : Int) ∧ Hid (ownI wr w.heap.size ov ((l.take k).map (·.1))) ∧ Below w.heap.size w wr) (fun _ iv _ => l.length - (intOf iv).toNat)
  case atStart => exact ⟨0, Nat.zero_le _, rfl, Lib.hid (World.ownsRow_nil _ _ _ _), Below.refl _ _⟩
  case round =>
    obtain ⟨k, hk, rfl, hO, hb⟩ := hrel
    by_cases hlt : k < l.length
    · obtain ⟨b, off, rfl, hblk, c1, c2⟩ := (HS.out.below hb) k hlt
      have hk1 : (k : Int) < l.length := by omega
      have hk0 : (0 : Int) ≤ k := by omega
      have hnext : (l.take (k + 1)).map (·.1) = (l.take k).map (·.1) ++ [(l.getD k (0, 0)).1] := by
        rw [List.take_add_one, List.getElem?_eq_getElem hlt, List.map_append]
        simp [List.getD, List.getElem?_eq_getElem hlt]
      have hlen : ((l.take k).map (·.1)).length ≤ 1000 := by simp; omega
      have Hn := Lib.hid hnext
      have hown := hO.out
      unfold ownI at hown
      have hsz := hb.size
      clear hnext
      generalize (l.getD k (0, 0)).1 = v at *
      generalize (l.take k).map (·.1) = Y at *
      go_wp2_with (at_builtin; refine wpList_append_own _ rfl _ _ 47 rfl w.heap.size 3 i0 (.int .i64 0) 1 8 Tryd.underlying47 hi hz0 hz1 hz2 rfl (by decide) _ _ _ rfl (hown.alloc _) ⟨wr.heap.size, 0, none⟩ 1 1 [.int .i64 v] rfl rfl ?g1 ?g2 ?g3 ?g4 ?g5 ?_)
      case g1 => intro j x hj; exact app_cells rfl hj
      case g2 => simp [Value.oneCell']
      case g3 => unfold maxLen; omega
      case g4 => omega
      case g5 => simp; omega
      intro v' w5 hown5 hgrow5 _
      have N5 := (hb.alloc hb.size (.cells #[.int .i64 v] 3)).grown hgrow5 (by simp; omega) (fun j hj => (hown.lt j hj).1)
      have HO := Lib.hid (show ownI w5 w.heap.size v' (Y ++ [v]) by unfold ownI; rw [List.length_append, List.map_append]; exact hown5)
      clear hown5 hgrow5 hown
      go_wp2
      go_roundw
      case rel => exact ⟨k + 1, by omega, by go_num, by first | exact HO | (rw [Hn.out]; exact HO), N5⟩
      case measure => (simp [intOf]; try omega)
    · obtain rfl : k = l.length := by omega
      rw [List.take_length] at hO
      go_wp2
      go_ret
      exact ⟨_, rfl, hO.out, hb⟩
end Go.Proofs.YtcdecnmhogmhaaaDoor
