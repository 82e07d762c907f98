/-
  The document's view.
-/
import Derived.Test.YtfhcfamjlhmgiaaDoorV1
set_option linter.unusedVariables false
set_option linter.unusedSimpArgs false
namespace Go.Proofs.YtfhcfamjlhmgiaaDoor
set_option maxRecDepth 100000
open Go.RowKit
attribute [local go_sem ↓] Go.wp_at_zero Go.wp_at_succ
set_option maxHeartbeats 8000000 in
theorem vof_ref (p l : List (Int × Int)) (a b : Option Addr) (c d : Nat) (w : World) (hp : p.length ≤ 1000) (hl : l.length ≤ 1000) (ha : Signs w a p) (hb : Signs w b l) (hP : sgC p = true) (hL : sgC l = true) :
    Calls Tryd.prog 31 #[.slice a p.length c, .slice b l.length d] w fun e w' => ∃ x, e = .returned x ∧ ownC w' w.heap.size x (vwOf p l) ∧ Below w.heap.size w w' := by
  obtain ⟨i0, hi, hz0, hz1, hz2⟩ := info_parts infoCell
  have HA := Lib.hid ha; have HB := Lib.hid hb; have HP := Lib.hid hP; have HL := Lib.hid hL
  clear ha hb hP hL
  have N3 := Below.refl w.heap.size w
  have H3 := Lib.hid (show ownC w w.heap.size (.slice none 0 0) (vwG p ofP 0) from World.ownsRow_nil _ _ _ _)
  go_enter Tryd.func31, Tryd.ntmps31
  go_wp2
  go_loopw [5, 6] (fun ov iv wr => ∃ k : Nat, k ≤ p.length ∧ iv = .int .i64 (k : Int) ∧ Hid (ownC wr w.heap.size ov (vwG p ofP k)) ∧ Below w.heap.size w wr) (fun _ iv _ => p.length - (intOf iv).toNat)
  case atStart => exact ⟨0, Nat.zero_le _, rfl, H3, N3⟩
  case round =>
    obtain ⟨k, hk, rfl, hO, hbl⟩ := hrel
    clear H3 N3
    by_cases hlt : k < p.length
    · obtain ⟨b1, off, rfl, hblk, c1, c2⟩ := (HA.out.below hbl) k hlt
      have hk1 : (k : Int) < p.length := by omega
      have hk0 : (0 : Int) ≤ k := by omega
      have C := fun w => cells_ref (p.getD k (0, 0)).1 (p.getD k (0, 0)).2 (-1) w
      have hpos := shK_pos (sgC_at HP.out hlt) (p.getD k (0, 0)).2 (-1)
      have hle := shK_le (p.getD k (0, 0)).1 (p.getD k (0, 0)).2 (-1)
      have hsucc := vwG_succ p ofP k
      have hvl := vwG_le p ofP k
      rw [show ofP k = -1 from rfl] at hsucc
      generalize (p.getD k (0, 0)).1 = v at *
      generalize (p.getD k (0, 0)).2 = u at *
      generalize shK v u (-1) = X at *
      have Hsucc := Lib.hid hsucc
      replace C := Lib.hid C
      have hown := hO.out
      unfold ownC at hown
      clear hsucc
      generalize hX : vwG p ofP k = Y at *
      clear hX
      go_wp2_with (first
        | (go_at_call 16; refine (C.out _).mono ?_; rintro e w4 ⟨x, rfl, hown4, hb4⟩; obtain ⟨g, cap, rfl⟩ := ownsRow_pos hown4 hpos; have N4 := hbl.trans (hb4.mono hbl.size); have hold := ownB hown hb4)
        | (at_builtin; refine wpList_append_own _ rfl _ _ 24 rfl w.heap.size 67 i0 _ 5 40 Tryd.underlying24 hi hz0 hz1 hz2 rfl (by decide) _ _ _ rfl hold ⟨g, 0, none⟩ X.length cap (cCells X) rfl (cCells_len X) (hown4.cells rfl) (cCells_one X) ?c3 ?c4 N4.size ?_))
      case c3 => unfold maxLen; omega
      case c4 => omega
      intro v' w5 hown5 hgrow5 _
      have N5 := N4.grown hgrow5 N4.size (fun j hj => (hold.lt j hj).1)
      have HO := Lib.hid (show ownC w5 w.heap.size v' (Y ++ X) by unfold ownC; rw [List.length_append, cCells_append]; exact hown5)
      clear hown5 hgrow5 hold hown4 hown
      go_wp2
      go_roundw
      case rel => exact ⟨k + 1, by omega, by go_num, Lib.hid (by rw [Hsucc.out]; exact HO.out), N5⟩
      case measure => (simp [intOf]; try omega)
    · obtain rfl : k = p.length := by omega
      have hpl := vwG_le p ofP p.length
      have HS := Lib.hid (show vwOf p l = vwG p ofP p.length ++ vwG l ofL l.length from rfl)
      generalize vwG p ofP p.length = Z at *
      go_wp2
      go_loopw [5, 7] (fun ov iv wr => ∃ k : Nat, k ≤ l.length ∧ iv = .int .i64 (k : Int) ∧ Hid (ownC wr w.heap.size ov (Z ++ vwG l ofL k)) ∧ Below w.heap.size w wr) (fun _ iv _ => l.length - (intOf iv).toNat)
      case atStart => exact ⟨0, Nat.zero_le _, rfl, Lib.hid (by rw [show vwG l ofL 0 = [] from rfl, List.append_nil]; exact hO.out), hbl⟩
      case round =>
        obtain ⟨k, hk, rfl, hO, hbl⟩ := hrel
        by_cases hlt : k < l.length
        · obtain ⟨b1, off, rfl, hblk, c1, c2⟩ := (HB.out.below hbl) k hlt
          have hk1 : (k : Int) < l.length := by omega
          have hk0 : (0 : Int) ≤ k := by omega
          have C := fun w => cells_ref (l.getD k (0, 0)).1 (l.getD k (0, 0)).2 (k : Int) w
          have hpos := shK_pos (sgC_at HL.out hlt) (l.getD k (0, 0)).2 (k : Int)
          have hle := shK_le (l.getD k (0, 0)).1 (l.getD k (0, 0)).2 (k : Int)
          have hsucc := vwG_succ l ofL k
          have hvl := vwG_le l ofL k
          rw [show ofL k = (k : Int) from rfl] at hsucc
          generalize (l.getD k (0, 0)).1 = v at *
          generalize (l.getD k (0, 0)).2 = u at *
          generalize shK v u (k : Int) = X at *
          have Hsucc := Lib.hid hsucc
          replace C := Lib.hid C
          have hown := hO.out
          unfold ownC at hown
          clear hsucc
          have hZY : (Z ++ vwG l ofL k).length ≤ 60000 := by rw [List.length_append]; omega
          generalize hX : vwG l ofL k = Y at *
          clear hX
          have Happ := Lib.hid (List.append_assoc Z Y X)
          generalize Z ++ Y = V at *
          go_wp2_with (first
            | (go_at_call 16; refine (C.out _).mono ?_; rintro e w4 ⟨x, rfl, hown4, hb4⟩; obtain ⟨g, cap, rfl⟩ := ownsRow_pos hown4 hpos; have N4 := hbl.trans (hb4.mono hbl.size); have hold := ownB hown hb4)
            | (at_builtin; refine wpList_append_own _ rfl _ _ 24 rfl w.heap.size 67 i0 _ 5 40 Tryd.underlying24 hi hz0 hz1 hz2 rfl (by decide) _ _ _ rfl hold ⟨g, 0, none⟩ X.length cap (cCells X) rfl (cCells_len X) (hown4.cells rfl) (cCells_one X) ?c3 ?c4 N4.size ?_))
          case c3 => unfold maxLen; omega
          case c4 => omega
          intro v' w5 hown5 hgrow5 _
          have N5 := N4.grown hgrow5 N4.size (fun j hj => (hold.lt j hj).1)
          have HO := Lib.hid (show ownC w5 w.heap.size v' (V ++ X) by unfold ownC; rw [List.length_append, cCells_append]; exact hown5)
          clear hown5 hgrow5 hold hown4 hown
          go_wp2
          go_roundw
          case rel => exact ⟨k + 1, by omega, by go_num, Lib.hid (by rw [Hsucc.out, ← Happ.out]; exact HO.out), N5⟩
          case measure => (simp [intOf]; try omega)
        · obtain rfl : k = l.length := by omega
          go_wp2
          go_ret
          exact ⟨_, rfl, by rw [HS.out]; exact hO.out, hbl⟩
end Go.Proofs.YtfhcfamjlhmgiaaDoor
