/-
  view: the cells of a prompt and a line.
-/
import Derived.Test.YtfhcfamjlhmgiaaDoorSh6
import Derived.Test.YtfhcfamjlhmgiaaDoorSh8
import Derived.Test.YtfhcfamjlhmgiaaDoorV0
set_option linter.unusedVariables false
set_option linter.unusedSimpArgs false
namespace Go.Proofs.YtfhcfamjlhmgiaaDoor
set_option maxRecDepth 100000
open Go.RowKit
attribute [local go_sem ↓] Go.wp_at_zero Go.wp_at_succ
/-- The cells of the first k signs; f tells whose they are. -/
def vwG (l : List (Int × Int)) (f : Nat → Int) (k : Nat) : List Cl := (List.range k).flatMap fun i => shK (l.getD i (0, 0)).1 (l.getD i (0, 0)).2 (f i)
theorem vwG_succ (l : List (Int × Int)) (f : Nat → Int) (k : Nat) : vwG l f (k + 1) = vwG l f k ++ shK (l.getD k (0, 0)).1 (l.getD k (0, 0)).2 (f k) := by simp [vwG, List.range_succ]
theorem vwG_le (l : List (Int × Int)) (f : Nat → Int) : ∀ k, (vwG l f k).length ≤ 30 * k
  | 0 => by simp [vwG]
  | k + 1 => by
    rw [vwG_succ, List.length_append]
    have := vwG_le l f k
    have := shK_le (l.getD k (0, 0)).1 (l.getD k (0, 0)).2 (f k)
    omega
/-- Whose a prompt's cells are; whose a line's. -/
def ofP (_ : Nat) : Int := -1
def ofL (i : Nat) : Int := i
/-- The view of a prompt and a line. -/
def vwOf (p l : List (Int × Int)) : List Cl := vwG p ofP p.length ++ vwG l ofL l.length
theorem sgC_at {l : List (Int × Int)} (h : sgC l = true) {k : Nat} (hk : k < l.length) : cls (l.getD k (0, 0)).1 ≠ 0 := by
  have h2 := (List.all_eq_true.1 h) _ (getD_mem hk)
  refine right_yes ?_
  unfold sgR at h2
  rw [Bool.and_eq_true, Bool.and_eq_true] at h2
  exact h2.2.2
theorem shK_pos {v : Int} (h : cls v ≠ 0) (l o : Int) : 0 < (shK v l o).length := by
  have h1 := shK_len v l o
  have h2 := shC_rng v h
  omega
set_option maxHeartbeats 8000000 in
theorem vof_yes (p l : List (Int × Int)) (a b : Option Addr) (c d : Nat) (w : World) (hp : p.length ≤ 1000) (hl : l.length ≤ 1000) (ha : Signs w a p) (hb : Signs w b l) (hT : Tabs w) (hP : sgC p = true) (hL : sgC l = true) :
    Calls Tryd.prog 29 #[.slice a p.length c, .slice b l.length d] w fun e w' => ∃ x, e = .returned (.tuple #[x, .int .i64 0]) ∧ ownC w' w.heap.size x (vwOf p l) ∧ Below w.heap.size w w' := by
  obtain ⟨i0, hi, hz0, hz1, hz2⟩ := info_parts infoCell
  have S1 := scheck_any p a c w (by omega) ha
  have S2 := Lib.hid fun w1 (h : Signs w1 b l) => (by have h1 := scheck_any l b d w1 (by omega) h; rw [sgE_yes hL] at h1; exact h1 : Calls Tryd.prog 71 #[.slice b l.length d] w1 fun e w' => e = .returned (.int .i64 0) ∧ Below w1.heap.size w1 w')
  rw [sgE_yes hP] at S1
  replace S1 := Lib.hid S1
  have HA := Lib.hid ha; have HB := Lib.hid hb; have HT := Lib.hid hT; have HP := Lib.hid hP; have HL := Lib.hid hL
  clear ha hb hT hP hL
  go_enter Tryd.func29, Tryd.ntmps29
  go_wp2_with (first
    | (go_at_call 71; (with_reducible refine S1.out.mono ?_); rintro e w1 ⟨rfl, hb1⟩)
    | (go_at_call 71; refine (S2.out _ (HB.out.below hb1)).mono ?_; rintro e w2 ⟨rfl, hb2⟩)
    | (at_make; refine wpList_make_own _ rfl _ _ 24 rfl w.heap.size 67 i0 _ 5 Tryd.underlying24 hi hz0 hz1 _ _ _ (p.length + l.length) rfl rfl ?b1 ?b2 ?b3 ?b4 ?_))
  case b1 => first | rfl | (push_cast; rfl) | (simp [IntKind.wrap_i64]; omega)
  case b2 => rw [hz2]; omega
  case b3 => unfold maxLen; omega
  case b4 => have := hb1.size; have := hb2.size; omega
  intro w3 hown3 hgrow3
  have N2 := seqB hb1 hb2
  have N3 := N2.grown hgrow3 N2.size (fun j hj => by cases hj)
  have H3 := Lib.hid (show ownC w3 w.heap.size (.slice (some ⟨w2.heap.size, 0, none⟩) 0 (p.length + l.length)) (vwG p ofP 0) from hown3)
  clear hown3 hgrow3 hb1 hb2 N2
  go_wp2
  go_loopw [6, 27] (fun ov iv wr => ∃ k : Nat, k ≤ p.length ∧ iv = .int .i64 (k : Int) ∧ Hid (ownC wr w.heap.size ov (vwG p ofP k)) ∧ Below w.heap.size w wr) (fun _ iv _ => p.length - (intOf iv).toNat)
  case atStart => exact ⟨0, Nat.zero_le _, rfl, H3, N3⟩
  case round =>
    obtain ⟨k, hk, rfl, hO, hbl⟩ := hrel
    clear H3 N3 S1 S2
    by_cases hlt : k < p.length
    · obtain ⟨b1, off, rfl, hblk, c1, c2⟩ := (HA.out.below hbl) k hlt
      have hk1 : (k : Int) < p.length := by omega
      have hk0 : (0 : Int) ≤ k := by omega
      have C := fun w hT => cells_any (p.getD k (0, 0)).1 (p.getD k (0, 0)).2 (-1) w hT
      have hpos := shK_pos (sgC_at HP.out hlt) (p.getD k (0, 0)).2 (-1)
      have hle := shK_le (p.getD k (0, 0)).1 (p.getD k (0, 0)).2 (-1)
      have hsucc := vwG_succ p ofP k
      have hvl := vwG_le p ofP k
      rw [show ofP k = -1 from rfl] at hsucc
      generalize (p.getD k (0, 0)).1 = v at *
      generalize (p.getD k (0, 0)).2 = u at *
      generalize shK v u (-1) = X at *
      have Hsucc := Lib.hid hsucc
      replace C := Lib.hid C
      have hown := hO.out
      unfold ownC at hown
      clear hsucc
      generalize hX : vwG p ofP k = Y at *
      clear hX
      go_wp2_with (first
        | (go_at_call 15; refine (C.out _ ((HT.out.below hbl).below (below_alloc _ _))).mono ?_; rintro e w4 ⟨x, rfl, hown4, hb4⟩; obtain ⟨g, cap, rfl⟩ := ownsRow_pos hown4 hpos; have N4 := hbl.trans ((seqB (below_alloc _ _) hb4).mono hbl.size); have hold := ownB hown ((seqB (below_alloc wr (.cells #[.int .i64 v, .int .i64 u] 23)) hb4)))
        | (at_builtin; refine wpList_append_own _ rfl _ _ 24 rfl w.heap.size 67 i0 _ 5 40 Tryd.underlying24 hi hz0 hz1 hz2 rfl (by decide) _ _ _ rfl hold ⟨g, 0, none⟩ X.length cap (cCells X) rfl (cCells_len X) (hown4.cells rfl) (cCells_one X) ?c3 ?c4 N4.size ?_))
      case c3 => unfold maxLen; omega
      case c4 => omega
      intro v' w5 hown5 hgrow5 _
      have N5 := N4.grown hgrow5 N4.size (fun j hj => (hold.lt j hj).1)
      have HO := Lib.hid (show ownC w5 w.heap.size v' (Y ++ X) by unfold ownC; rw [List.length_append, cCells_append]; exact hown5)
      clear hown5 hgrow5 hold hown4 hown
      go_wp2
      go_roundw
      case rel => exact ⟨k + 1, by omega, by go_num, Lib.hid (by rw [Hsucc.out]; exact HO.out), N5⟩
      case measure => (simp [intOf]; try omega)
    · obtain rfl : k = p.length := by omega
      have hpl := vwG_le p ofP p.length
      have HS := Lib.hid (show vwOf p l = vwG p ofP p.length ++ vwG l ofL l.length from rfl)
      generalize vwG p ofP p.length = Z at *
      go_wp2
      go_loopw [6, 38] (fun ov iv wr => ∃ k : Nat, k ≤ l.length ∧ iv = .int .i64 (k : Int) ∧ Hid (ownC wr w.heap.size ov (Z ++ vwG l ofL k)) ∧ Below w.heap.size w wr) (fun _ iv _ => l.length - (intOf iv).toNat)
      case atStart => exact ⟨0, Nat.zero_le _, rfl, Lib.hid (by rw [show vwG l ofL 0 = [] from rfl, List.append_nil]; exact hO.out), hbl⟩
      case round =>
        obtain ⟨k, hk, rfl, hO, hbl⟩ := hrel
        by_cases hlt : k < l.length
        · obtain ⟨b1, off, rfl, hblk, c1, c2⟩ := (HB.out.below hbl) k hlt
          have hk1 : (k : Int) < l.length := by omega
          have hk0 : (0 : Int) ≤ k := by omega
          have C := fun w hT => cells_any (l.getD k (0, 0)).1 (l.getD k (0, 0)).2 (k : Int) w hT
          have hpos := shK_pos (sgC_at HL.out hlt) (l.getD k (0, 0)).2 (k : Int)
          have hle := shK_le (l.getD k (0, 0)).1 (l.getD k (0, 0)).2 (k : Int)
          have hsucc := vwG_succ l ofL k
          have hvl := vwG_le l ofL k
          rw [show ofL k = (k : Int) from rfl] at hsucc
          generalize (l.getD k (0, 0)).1 = v at *
          generalize (l.getD k (0, 0)).2 = u at *
          generalize shK v u (k : Int) = X at *
          have Hsucc := Lib.hid hsucc
          replace C := Lib.hid C
          have hown := hO.out
          unfold ownC at hown
          clear hsucc
          have hZY : (Z ++ vwG l ofL k).length ≤ 60000 := by rw [List.length_append]; omega
          generalize hX : vwG l ofL k = Y at *
          clear hX
          have Happ := Lib.hid (List.append_assoc Z Y X)
          generalize Z ++ Y = V at *
          go_wp2_with (first
            | (go_at_call 15; refine (C.out _ ((HT.out.below hbl).below (below_alloc _ _))).mono ?_; rintro e w4 ⟨x, rfl, hown4, hb4⟩; obtain ⟨g, cap, rfl⟩ := ownsRow_pos hown4 hpos; have N4 := hbl.trans ((seqB (below_alloc _ _) hb4).mono hbl.size); have hold := ownB hown ((seqB (below_alloc wr (.cells #[.int .i64 v, .int .i64 u] 23)) hb4)))
            | (at_builtin; refine wpList_append_own _ rfl _ _ 24 rfl w.heap.size 67 i0 _ 5 40 Tryd.underlying24 hi hz0 hz1 hz2 rfl (by decide) _ _ _ rfl hold ⟨g, 0, none⟩ X.length cap (cCells X) rfl (cCells_len X) (hown4.cells rfl) (cCells_one X) ?c3 ?c4 N4.size ?_))
          case c3 => unfold maxLen; omega
          case c4 => omega
          intro v' w5 hown5 hgrow5 _
          have N5 := N4.grown hgrow5 N4.size (fun j hj => (hold.lt j hj).1)
          have HO := Lib.hid (show ownC w5 w.heap.size v' (V ++ X) by unfold ownC; rw [List.length_append, cCells_append]; exact hown5)
          clear hown5 hgrow5 hold hown4 hown
          go_wp2
          go_roundw
          case rel => exact ⟨k + 1, by omega, by go_num, Lib.hid (by rw [Hsucc.out, ← Happ.out]; exact HO.out), N5⟩
          case measure => (simp [intOf]; try omega)
        · obtain rfl : k = l.length := by omega
          go_wp2
          exact bodyPost_ret (results_tmp2 rfl _ _ _) rfl ⟨_, rfl, by rw [HS.out]; exact hO.out, hbl⟩
set_option maxHeartbeats 4000000 in
theorem vof_no (p l : List (Int × Int)) (a b : Option Addr) (c d : Nat) (w : World) (hp : p.length ≤ 1000) (hl : l.length ≤ 1000) (ha : Signs w a p) (hb : Signs w b l) (hR : (sgC p && sgC l) = false) :
    Calls Tryd.prog 29 #[.slice a p.length c, .slice b l.length d] w fun e w' => e = .returned (.tuple #[.slice none 0 0, .int .i64 2]) ∧ Below w.heap.size w w' := by
  have S1 := scheck_any p a c w (by omega) ha
  have S2 := fun w1 (h : Signs w1 b l) => scheck_any l b d w1 (by omega) h
  have HB := Lib.hid hb
  cases hP : sgC p
  · rw [sgE_no hP] at S1
    replace S1 := Lib.hid S1
    clear S2 ha hb hR
    go_enter Tryd.func29, Tryd.ntmps29
    go_wp2_with (go_at_call 71; (with_reducible refine S1.out.mono ?_); rintro e w1 ⟨rfl, hb1⟩)
    exact bodyPost_ret (results_tmp2 rfl _ _ _) rfl ⟨rfl, hb1⟩
  · rw [hP, Bool.true_and] at hR
    rw [sgE_yes hP] at S1
    rw [sgE_no hR] at S2
    replace S1 := Lib.hid S1; replace S2 := Lib.hid S2
    clear ha hb hR
    go_enter Tryd.func29, Tryd.ntmps29
    go_wp2_with (first
      | (go_at_call 71; (with_reducible refine S1.out.mono ?_); rintro e w1 ⟨rfl, hb1⟩)
      | (go_at_call 71; refine (S2.out _ (HB.out.below hb1)).mono ?_; rintro e w2 ⟨rfl, hb2⟩))
    exact bodyPost_ret (results_tmp2 rfl _ _ _) rfl ⟨rfl, seqB hb1 hb2⟩
end Go.Proofs.YtfhcfamjlhmgiaaDoor
