/-
  Joined: V2 V4 V3 V5 V6 V7 V8.
-/
import Derived.Test.YtcdecnmhogmhaaaDoorJ04
import Derived.Test.YtcdecnmhogmhaaaDoorJ07
import Derived.Test.YtcdecnmhogmhaaaDoorJ09
set_option linter.unusedVariables false
set_option linter.unusedSimpArgs false
namespace Go.Proofs.YtcdecnmhogmhaaaDoor
set_option maxRecDepth 100000
open Go.RowKit
attribute [local go_sem ↓] Go.wp_at_zero Go.wp_at_succ
set_option maxHeartbeats 8000000 in
theorem vof_ref (p l : List (Int × Int)) (a b : Option Addr) (c d : Nat) (w : World) (hp : p.length ≤ 1000) (hl : l.length ≤ 1000) (ha : Signs w a p) (hb : Signs w b l) (hP : sgC p = true) (hL : sgC l = true) :
    Calls Tryd.prog 22 #[.slice a p.length c, .slice b l.length d] w fun e w' => ∃ x, e = .returned x ∧ ownC w' w.heap.size x (vwOf p l) ∧ Below w.heap.size w w' := by
  obtain ⟨i0, hi, hz0, hz1, hz2⟩ := info_parts infoCell
  have HA := Lib.hid ha; have HB := Lib.hid hb; have HP := Lib.hid hP; have HL := Lib.hid hL
  clear ha hb hP hL
  have N3 := Below.refl w.heap.size w
  have H3 := Lib.hid (show ownC w w.heap.size (.slice none 0 0) (vwG p ofP 0) from World.ownsRow_nil _ _ _ _)
  go_enter Tryd.func22, Tryd.ntmps22
  go_wp2
  go_loopw [5, 6] (fun ov iv wr => ∃ k : Nat, k ≤ p.length ∧ iv = .int .i64 (k : Int) ∧ Hid (ownC wr w.heap.size ov (vwG p ofP k)) ∧ Below w.heap.size w wr) (fun _ iv _ => p.length - (intOf iv).toNat)
  case atStart => exact ⟨0, Nat.zero_le _, rfl, H3, N3⟩
  case round =>
    obtain ⟨k, hk, rfl, hO, hbl⟩ := hrel
    clear H3 N3
    by_cases hlt : k < p.length
    · obtain ⟨b1, off, rfl, hblk, c1, c2⟩ := (HA.out.below hbl) k hlt
      have hk1 : (k : Int) < p.length := by omega
      have hk0 : (0 : Int) ≤ k := by omega
      have C := fun w => cells_ref (p.getD k (0, 0)).1 (p.getD k (0, 0)).2 (-1) w
      have hpos := shK_pos (sgC_at HP.out hlt) (p.getD k (0, 0)).2 (-1)
      have hle := shK_le (p.getD k (0, 0)).1 (p.getD k (0, 0)).2 (-1)
      have hsucc := vwG_succ p ofP k
      have hvl := vwG_le p ofP k
      rw [show ofP k = -1 from rfl] at hsucc
      generalize (p.getD k (0, 0)).1 = v at *
      generalize (p.getD k (0, 0)).2 = u at *
      generalize shK v u (-1) = X at *
      have Hsucc := Lib.hid hsucc
      replace C := Lib.hid C
      have hown := hO.out
      unfold ownC at hown
      clear hsucc
      generalize hX : vwG p ofP k = Y at *
      clear hX
      go_wp2_with (first
        | (go_at_call 77; refine (C.out _).mono ?_; rintro e w4 ⟨x, rfl, hown4, hb4⟩; obtain ⟨g, cap, rfl⟩ := ownsRow_pos hown4 hpos; have N4 := hbl.trans (hb4.mono hbl.size); have hold := ownB hown hb4)
        | (at_builtin; refine wpList_append_own _ rfl _ _ 36 rfl w.heap.size 51 i0 _ 5 40 Tryd.underlying36 hi hz0 hz1 hz2 rfl (by decide) _ _ _ rfl hold ⟨g, 0, none⟩ X.length cap (cCells X) rfl (cCells_len X) (hown4.cells rfl) (cCells_one X) ?c3 ?c4 N4.size ?_))
      case c3 => unfold maxLen; omega
      case c4 => omega
      intro v' w5 hown5 hgrow5 _
      have N5 := N4.grown hgrow5 N4.size (fun j hj => (hold.lt j hj).1)
      have HO := Lib.hid (show ownC w5 w.heap.size v' (Y ++ X) by unfold ownC; rw [List.length_append, cCells_append]; exact hown5)
      clear hown5 hgrow5 hold hown4 hown
      go_wp2
      go_roundw
      case rel => exact ⟨k + 1, by omega, by go_num, Lib.hid (by rw [Hsucc.out]; exact HO.out), N5⟩
      case measure => (simp [intOf]; try omega)
    · obtain rfl : k = p.length := by omega
      have hpl := vwG_le p ofP p.length
      have HS := Lib.hid (show vwOf p l = vwG p ofP p.length ++ vwG l ofL l.length from rfl)
      generalize vwG p ofP p.length = Z at *
      go_wp2
      go_loopw [5, 7] (fun ov iv wr => ∃ k : Nat, k ≤ l.length ∧ iv = .int .i64 (k : Int) ∧ Hid (ownC wr w.heap.size ov (Z ++ vwG l ofL k)) ∧ Below w.heap.size w wr) (fun _ iv _ => l.length - (intOf iv).toNat)
      case atStart => exact ⟨0, Nat.zero_le _, rfl, Lib.hid (by rw [show vwG l ofL 0 = [] from rfl, List.append_nil]; exact hO.out), hbl⟩
      case round =>
        obtain ⟨k, hk, rfl, hO, hbl⟩ := hrel
        by_cases hlt : k < l.length
        · obtain ⟨b1, off, rfl, hblk, c1, c2⟩ := (HB.out.below hbl) k hlt
          have hk1 : (k : Int) < l.length := by omega
          have hk0 : (0 : Int) ≤ k := by omega
          have C := fun w => cells_ref (l.getD k (0, 0)).1 (l.getD k (0, 0)).2 (k : Int) w
          have hpos := shK_pos (sgC_at HL.out hlt) (l.getD k (0, 0)).2 (k : Int)
          have hle := shK_le (l.getD k (0, 0)).1 (l.getD k (0, 0)).2 (k : Int)
          have hsucc := vwG_succ l ofL k
          have hvl := vwG_le l ofL k
          rw [show ofL k = (k : Int) from rfl] at hsucc
          generalize (l.getD k (0, 0)).1 = v at *
          generalize (l.getD k (0, 0)).2 = u at *
          generalize shK v u (k : Int) = X at *
          have Hsucc := Lib.hid hsucc
          replace C := Lib.hid C
          have hown := hO.out
          unfold ownC at hown
          clear hsucc
          have hZY : (Z ++ vwG l ofL k).length ≤ 60000 := by rw [List.length_append]; omega
          generalize hX : vwG l ofL k = Y at *
          clear hX
          have Happ := Lib.hid (List.append_assoc Z Y X)
          generalize Z ++ Y = V at *
          go_wp2_with (first
            | (go_at_call 77; refine (C.out _).mono ?_; rintro e w4 ⟨x, rfl, hown4, hb4⟩; obtain ⟨g, cap, rfl⟩ := ownsRow_pos hown4 hpos; have N4 := hbl.trans (hb4.mono hbl.size); have hold := ownB hown hb4)
            | (at_builtin; refine wpList_append_own _ rfl _ _ 36 rfl w.heap.size 51 i0 _ 5 40 Tryd.underlying36 hi hz0 hz1 hz2 rfl (by decide) _ _ _ rfl hold ⟨g, 0, none⟩ X.length cap (cCells X) rfl (cCells_len X) (hown4.cells rfl) (cCells_one X) ?c3 ?c4 N4.size ?_))
          case c3 => unfold maxLen; omega
          case c4 => omega
          intro v' w5 hown5 hgrow5 _
          have N5 := N4.grown hgrow5 N4.size (fun j hj => (hold.lt j hj).1)
          have HO := Lib.hid (show ownC w5 w.heap.size v' (V ++ X) by unfold ownC; rw [List.length_append, cCells_append]; exact hown5)
          clear hown5 hgrow5 hold hown4 hown
          go_wp2
          go_roundw
          case rel => exact ⟨k + 1, by omega, by go_num, Lib.hid (by rw [Hsucc.out, ← Happ.out]; exact HO.out), N5⟩
          case measure => (simp [intOf]; try omega)
        · obtain rfl : k = l.length := by omega
          go_wp2
          go_ret
          exact ⟨_, rfl, by rw [HS.out]; exact hO.out, hbl⟩
end Go.Proofs.YtcdecnmhogmhaaaDoor
set_option linter.unusedVariables false
set_option linter.unusedSimpArgs false
namespace Go.Proofs.YtcdecnmhogmhaaaDoor
open Go.RowKit
set_option maxHeartbeats 1000000 in
theorem sgright_ref (v l : Int) (w : World) : Calls Tryd.prog 69 #[.agg #[.int .i64 v, .int .i64 l]] w fun e w' => e = .returned (.bool (sgR v l)) ∧ Below w.heap.size w w' := by
  have R := fun w => right_ref v w
  have hb := below_alloc w (.cells #[.int .i64 v, .int .i64 l] 53)
  cases hr : rightB v
  · have e : Hid (sgR v l = false) := Lib.hid (by unfold sgR; rw [hr]; simp)
    rw [hr] at R
    replace R := Lib.hid R
    go_enter Tryd.func69, Tryd.ntmps69
    go_wp2_with (go_at_call 92; refine (R.out _).mono ?_; rintro e w1 ⟨rfl, rfl⟩)
    go_ret
    rw [e.out]; exact ⟨rfl, hb⟩
  · rw [hr] at R
    replace R := Lib.hid R
    by_cases h0 : 0 ≤ l
    · by_cases h5 : l ≤ 5
      · have e : Hid (sgR v l = true) := Lib.hid (by unfold sgR; rw [decide_eq_true h0, decide_eq_true h5, hr]; simp)
        clear hr
        go_enter Tryd.func69, Tryd.ntmps69
        go_wp2_with (go_at_call 92; refine (R.out _).mono ?_; rintro e w1 ⟨rfl, rfl⟩)
        go_ret
        rw [e.out]; exact ⟨rfl, hb⟩
      · have e : Hid (sgR v l = false) := Lib.hid (by unfold sgR; rw [decide_eq_false h5]; simp)
        have h5d := decide_eq_false h5
        clear hr
        go_enter Tryd.func69, Tryd.ntmps69
        go_wp2_with (go_at_call 92; refine (R.out _).mono ?_; rintro e w1 ⟨rfl, rfl⟩)
        go_ret
        rw [e.out]; exact ⟨by first | rfl | (rw [h5d]; rfl) | exact ret_boolU h5d, hb⟩
    · have e : Hid (sgR v l = false) := Lib.hid (by unfold sgR; rw [decide_eq_false h0]; simp)
      clear hr
      go_enter Tryd.func69, Tryd.ntmps69
      go_wp2_with (go_at_call 92; refine (R.out _).mono ?_; rintro e w1 ⟨rfl, rfl⟩)
      go_ret
      rw [e.out]; exact ⟨rfl, hb⟩
set_option maxHeartbeats 1000000 in
theorem sgall_ref (l : List (Int × Int)) (a : Option Addr) (c : Nat) (w : World) (hl : l.length ≤ 1000000) (hs : Signs w a l) :
    Calls Tryd.prog 15 #[.slice a l.length c] w fun e w' => e = .returned (.bool (sgC l)) ∧ Below w.heap.size w w' := by
  have HS := Lib.hid hs; clear hs
  go_enter Tryd.func15, Tryd.ntmps15
  go_wp2
  go_loopw [3] (fun iv wr => ∃ k : Nat, k ≤ l.length ∧ iv = .int .i64 (k : Int) ∧ Hid (∀ j, j < k → sgR (l.getD j (0, 0)).1 (l.getD j (0, 0)).2 = true) ∧ Below w.heap.size w wr) (fun iv _ => l.length - (intOf iv).toNat)
  case atStart => exact ⟨0, Nat.zero_le _, rfl, Lib.hid (fun j hj => absurd hj (by omega)), Below.refl _ _⟩
  case round =>
    obtain ⟨k, hk, rfl, hall, hb⟩ := hrel
    by_cases hlt : k < l.length
    · obtain ⟨b, off, rfl, hblk, c1, c2⟩ := (HS.out.below hb) k hlt
      have hk1 : (k : Int) < l.length := by omega
      have hk0 : (0 : Int) ≤ k := by omega
      have R := fun w => sgright_ref (l.getD k (0, 0)).1 (l.getD k (0, 0)).2 w
      have hin := getD_mem hlt
      cases hr : sgR (l.getD k (0, 0)).1 (l.getD k (0, 0)).2
      · have HF : Hid (sgC l = false) := Lib.hid (by unfold sgC; rw [List.all_eq_false]; exact ⟨_, hin, by rw [hr]; simp⟩)
        rw [hr] at R
        generalize (l.getD k (0, 0)).1 = v at *
        generalize (l.getD k (0, 0)).2 = u at *
        replace R := Lib.hid R
        clear hin hr
        go_wp2_with (go_at_call 69; refine (R.out _).mono ?_; rintro e w1 ⟨rfl, hb1⟩)
        go_ret
        rw [HF.out]
        exact ⟨rfl, hb.trans (hb1.mono hb.size)⟩
      · have HF : Hid (∀ j, j < k + 1 → sgR (l.getD j (0, 0)).1 (l.getD j (0, 0)).2 = true) := Lib.hid (by
          intro j hj
          rcases Nat.lt_succ_iff_lt_or_eq.1 hj with h | rfl
          · exact hall.out j h
          · exact hr)
        rw [hr] at R
        generalize (l.getD k (0, 0)).1 = v at *
        generalize (l.getD k (0, 0)).2 = u at *
        replace R := Lib.hid R
        clear hin hr
        go_wp2_with (go_at_call 69; refine (R.out _).mono ?_; rintro e w1 ⟨rfl, hb1⟩)
        go_roundw
        case rel => exact ⟨k + 1, by omega, by go_num, HF, hb.trans (hb1.mono hb.size)⟩
        case measure => (simp [intOf]; try omega)
    · obtain rfl : k = l.length := by omega
      have HF : Hid (sgC l = true) := Lib.hid (by
        unfold sgC; rw [List.all_eq_true]; intro p hp
        obtain ⟨j, hj, rfl⟩ := List.getElem_of_mem hp
        have := hall.out j hj
        rwa [List.getD, List.getElem?_eq_getElem hj] at this)
      go_wp2
      go_ret
      rw [HF.out]
      exact ⟨rfl, hb⟩
/-- How many cells signs have. -/
def colM (l : List (Int × Int)) (k : Nat) : Int := ((vwG l ofP k).length : Int)
theorem colM_succ (l : List (Int × Int)) (k : Nat) : colM l (k + 1) = colM l k + shC (l.getD k (0, 0)).1 := by
  unfold colM; rw [vwG_succ, List.length_append, Int.natCast_add, shK_len]
theorem vwG_len (l : List (Int × Int)) (f g : Nat → Int) : ∀ k, (vwG l f k).length = (vwG l g k).length
  | 0 => rfl
  | k + 1 => by
    rw [vwG_succ, vwG_succ, List.length_append, List.length_append, vwG_len l f g k]
    have h1 := shK_len (l.getD k (0, 0)).1 (l.getD k (0, 0)).2 (f k)
    have h2 := shK_len (l.getD k (0, 0)).1 (l.getD k (0, 0)).2 (g k)
    omega
end Go.Proofs.YtcdecnmhogmhaaaDoor
set_option linter.unusedVariables false
set_option linter.unusedSimpArgs false
namespace Go.Proofs.YtcdecnmhogmhaaaDoor
open Go.RowKit
/-- Where the first cell of i or of one behind it stands. -/
def fstM (L : List Cl) (i : Int) : Nat := L.findIdx fun c => decide (i ≤ c.2.2.1)
theorem fstM_at {L : List Cl} {i : Int} {k : Nat} (hk : k < L.length) (h1 : i ≤ (L.getD k cl0).2.2.1) (h : ∀ j, j < k → (L.getD j cl0).2.2.1 < i) : fstM L i = k := by
  unfold fstM
  rw [List.findIdx_eq hk]
  refine ⟨?_, fun j hj => ?_⟩
  · rw [List.getD, List.getElem?_eq_getElem hk] at h1; exact decide_eq_true h1
  · have := h j hj
    rw [List.getD, List.getElem?_eq_getElem (by omega)] at this
    exact decide_eq_false (by simpa using this)
theorem fstM_none {L : List Cl} {i : Int} (h : ∀ j, j < L.length → (L.getD j cl0).2.2.1 < i) : fstM L i = L.length := by
  unfold fstM
  rw [List.findIdx_eq_length]
  intro x hx
  obtain ⟨j, hj, rfl⟩ := List.getElem_of_mem hx
  have := h j hj
  rw [List.getD, List.getElem?_eq_getElem hj] at this
  exact decide_eq_false (by simpa using this)
theorem vfinder_any (i : Int) (w : World) :
    Calls Tryd.prog 114 #[.int .i64 i] w fun e w' => e = .returned (.func (.func 153) #[] #[.pointer (some ⟨w.heap.size, 0, none⟩)]) ∧ w' = w.alloc (.cells #[.int .i64 i] 3) := by
  go_enter Tryd.func114, Tryd.ntmps114
  go_wp2
  go_ret
  exact ⟨rfl, rfl⟩
theorem vfinder1_any (v a o f k i : Int) (p : Nat) (w : World) (hp : p < w.heap.size) (hc : w.cell? ⟨p, 0, none⟩ = some (.int .i64 i)) :
    Calls Tryd.prog 153 #[.agg #[.int .i64 v, .int .i64 a, .int .i64 o, .int .i64 f, .int .i64 k], .pointer (some ⟨p, 0, none⟩)] w fun e w' => e = .returned (.bool (decide (i ≤ o))) ∧ Below w.heap.size w w' := by
  have q := fun o => (World.cell?_alloc_lt w o (⟨p, 0, none⟩ : Addr) hp).trans hc
  go_enter Tryd.func153, Tryd.ntmps153
  go_wp2
  go_ret
  exact ⟨rfl, below_alloc _ _⟩
set_option maxHeartbeats 2000000 in
theorem first_any (L : List Cl) (i : Int) (a : Option Addr) (c : Nat) (w : World) (hl : L.length ≤ 1000000) (ha : CellsIn w a L) :
    Calls Tryd.prog 67 #[.slice a L.length c, .int .i64 i] w fun e w' => e = .returned (.int .i64 (fstM L i)) ∧ Below w.heap.size w w' := by
  have F := Lib.hid (vfinder_any i w)
  have hb0 := below_alloc w (.cells #[.int .i64 i] 3)
  have hc0 : (w.alloc (.cells #[.int .i64 i] 3)).cell? ⟨w.heap.size, 0, none⟩ = some (.int .i64 i) := by simp
  have hs0 : (w.alloc (.cells #[.int .i64 i] 3)).heap.size = w.heap.size + 1 := by simp
  have HA := Lib.hid (ha.below hb0)
  clear ha
  go_enter Tryd.func67, Tryd.ntmps67
  go_wp2_with (go_at_call 114; refine F.out.mono ?_; rintro e w1 ⟨rfl, rfl⟩)
  generalize w.alloc _ = W at *
  have hlt0 : w.heap.size < W.heap.size := by omega
  have Hs0 := Lib.hid hs0
  clear hs0 F
  go_loopw [12] (fun iv wr => ∃ k : Nat, k ≤ L.length ∧ iv = .int .i64 (k : Int) ∧ Hid (∀ j, j < k → (L.getD j cl0).2.2.1 < i) ∧ Below W.heap.size W wr) (fun iv _ => L.length - (intOf iv).toNat)
  case atStart => exact ⟨0, Nat.zero_le _, rfl, Lib.hid (fun j hj => absurd hj (by omega)), Below.refl _ _⟩
  case round =>
    obtain ⟨k, hk, rfl, hall, hbl⟩ := hrel
    by_cases hlt : k < L.length
    · obtain ⟨b1, o1, rfl, hb1, c1, c2, c3, c4, c5⟩ := (HA.out.below hbl) k hlt
      have hk1 : (k : Int) < L.length := by omega
      have hk0 : (0 : Int) ≤ k := by omega
      have hcr := (hbl.cell (p := ⟨w.heap.size, 0, none⟩) hlt0).trans hc0
      have hsr := Nat.lt_of_lt_of_le hlt0 hbl.size
      have C := Lib.hid fun v x o f q w1 hp hc => vfinder1_any v x o f q i w.heap.size w1 hp hc
      by_cases ho : i ≤ (L.getD k cl0).2.2.1
      · have HF := Lib.hid (fstM_at hlt ho hall.out)
        have hd : decide (i ≤ (L.getD k cl0).2.2.1) = true := decide_eq_true ho
        generalize L.getD k cl0 = q at *
        go_wp2_with (go_at_call 153; refine (C.out _ _ _ _ _ _ (by simp; omega) (by rw [World.cell?_alloc_lt _ _ _ hsr]; exact hcr)).mono ?_; rintro e w2 ⟨rfl, hb2⟩)
        go_ret
        rw [HF.out]
        exact ⟨rfl, hb0.trans ((hbl.trans ((seqB (below_alloc _ _) hb2).mono hbl.size)).mono (by omega))⟩
      · have HF : Hid (∀ j, j < k + 1 → (L.getD j cl0).2.2.1 < i) := Lib.hid (by
          intro j hj
          rcases Nat.lt_succ_iff_lt_or_eq.1 hj with h | rfl
          · exact hall.out j h
          · omega)
        have hd : decide (i ≤ (L.getD k cl0).2.2.1) = false := decide_eq_false ho
        generalize L.getD k cl0 = q at *
        go_wp2_with (go_at_call 153; refine (C.out _ _ _ _ _ _ (by simp; omega) (by rw [World.cell?_alloc_lt _ _ _ hsr]; exact hcr)).mono ?_; rintro e w2 ⟨rfl, hb2⟩)
        go_roundw
        case rel => exact ⟨k + 1, by omega, by go_num, HF, hbl.trans ((seqB (below_alloc _ _) hb2).mono hbl.size)⟩
        case measure => (simp [intOf]; try omega)
    · obtain rfl : k = L.length := by omega
      have HF := Lib.hid (fstM_none hall.out)
      go_wp2
      go_ret
      rw [HF.out]
      exact ⟨rfl, hb0.trans (hbl.mono (by omega))⟩
/-- Whose a cell is. -/
def ownM (L : List Cl) (at_ : Int) : Int := if L.length = 0 then 0 else if (L.length : Int) ≤ at_ then (L.getD (L.length - 1) cl0).2.2.1 + 1 else (L.getD (max at_ 0).toNat cl0).2.2.1
end Go.Proofs.YtcdecnmhogmhaaaDoor
set_option linter.unusedVariables false
set_option linter.unusedSimpArgs false
namespace Go.Proofs.YtcdecnmhogmhaaaDoor
open Go.RowKit
/-- The values that a cell says. -/
def txO (x : Int) : List Int := if 0 < x then [x] else if x = 0 then [32] else []
/-- .. that cells say. -/
def txV (L : List Cl) : List Int := L.flatMap fun c => txO c.1
theorem txV_append (a b : List Cl) : txV (a ++ b) = txV a ++ txV b := by unfold txV; simp
theorem txV_le (L : List Cl) : (txV L).length ≤ L.length := by
  induction L with
  | nil => simp [txV]
  | cons c L ih =>
    have h : (txO c.1).length ≤ 1 := by unfold txO; split; · simp
                                        split <;> simp
    have e : txV (c :: L) = txO c.1 ++ txV L := rfl
    rw [e, List.length_append, List.length_cons]; omega
theorem txV_take (L : List Cl) (k : Nat) (h : k < L.length) : txV (L.take (k + 1)) = txV (L.take k) ++ txO (L.getD k cl0).1 := by
  rw [List.take_add_one, txV_append, List.getElem?_eq_getElem h]
  simp [txV, List.getD, List.getElem?_eq_getElem h]
end Go.Proofs.YtcdecnmhogmhaaaDoor
set_option linter.unusedVariables false
set_option linter.unusedSimpArgs false
namespace Go.Proofs.YtcdecnmhogmhaaaDoor
open Go.RowKit
def aw7p : List (Int × Int) := [(62, 5)]
def aw7l : List (Int × Int) := [(97, 0), (27, 0), (98, 0)]
def aw7C : List Cl := vwOf aw7p aw7l
theorem aw7_facts : sgC aw7p = true ∧ sgC aw7l = true ∧ sgC [((-1 : Int), (0 : Int))] = false ∧ aw7C.length = 5 ∧ fstM aw7C 2 = 4 ∧ ownM aw7C 3 = 1 ∧ ownM aw7C 5 = 3 ∧ encS (txV aw7C) = ⟨#[62, 97, 94, 91, 98]⟩ ∧ colM aw7p 1 = 1 ∧ (∀ j, j < 5 → -9223372036854775808 ≤ (aw7C.getD j cl0).2.2.1 ∧ (aw7C.getD j cl0).2.2.1 < 9223372036854775807) := by decide +kernel
/-- What awake holds: the tables, its prompt, its cells. -/
structure A7 (w : World) (p : Nat) (a : Option Addr) : Prop where
  t : Tabs w
  s : Signs w (some ⟨p, 0, none⟩) aw7p
  c : CellsIn w a aw7C
theorem A7.below {w w' : World} {p : Nat} {a : Option Addr} (h : A7 w p a) (hb : Below w.heap.size w w') : A7 w' p a := ⟨h.t.below hb, h.s.below hb, h.c.below hb⟩
end Go.Proofs.YtcdecnmhogmhaaaDoor
set_option linter.unusedVariables false
set_option linter.unusedSimpArgs false
namespace Go.Proofs.YtcdecnmhogmhaaaDoor
open Go.RowKit
theorem vwOf_len (p l : List (Int × Int)) : ((vwOf p l).length : Int) = colM p p.length + colM l l.length := by
  unfold vwOf colM
  rw [List.length_append, vwG_len l ofL ofP, Int.natCast_add]
theorem vwOf_le (p l : List (Int × Int)) : (vwOf p l).length ≤ 30 * p.length + 30 * l.length := by
  have h1 := vwG_le p ofP p.length
  have h2 := vwG_le l ofL l.length
  unfold vwOf; rw [List.length_append]; omega
theorem colM_rng (l : List (Int × Int)) : 0 ≤ colM l l.length ∧ colM l l.length ≤ 30 * l.length := by
  have := vwG_le l ofP l.length
  unfold colM; omega
/-- What a law on views holds: the tables, the prompt, the line. -/
structure V7 (w : World) (a b : Option Addr) (p l : List (Int × Int)) : Prop where
  t : Tabs w
  p : Signs w a p
  l : Signs w b l
theorem V7.below {w w' : World} {a b : Option Addr} {p l : List (Int × Int)} (h : V7 w a b p l) (hb : Below w.heap.size w w') : V7 w' a b p l := ⟨h.t.below hb, h.p.below hb, h.l.below hb⟩
theorem vof_cells (p l : List (Int × Int)) (a b : Option Addr) (c d : Nat) (w : World) (hp : p.length ≤ 1000) (hl : l.length ≤ 1000) (h : V7 w a b p l) (hP : sgC p = true) (hL : sgC l = true) :
    Calls Tryd.prog 65 #[.slice a p.length c, .slice b l.length d] w fun e w' => ∃ ca cc, e = .returned (.tuple #[.slice ca (vwOf p l).length cc, .int .i64 0]) ∧ CellsIn w' ca (vwOf p l) ∧ Below w.heap.size w w' := by
  refine (vof_yes p l a b c d w hp hl h.p h.l h.t hP hL).mono ?_
  rintro e w' ⟨x, rfl, hown, hb⟩
  obtain ⟨ca, cc, rfl, hci⟩ := cells_of_own hown
  exact ⟨ca, cc, rfl, hci, hb⟩
theorem vof_cellsR (p l : List (Int × Int)) (a b : Option Addr) (c d : Nat) (w : World) (hp : p.length ≤ 1000) (hl : l.length ≤ 1000) (h : V7 w a b p l) (hP : sgC p = true) (hL : sgC l = true) :
    Calls Tryd.prog 22 #[.slice a p.length c, .slice b l.length d] w fun e w' => ∃ ca cc, e = .returned (.slice ca (vwOf p l).length cc) ∧ CellsIn w' ca (vwOf p l) ∧ Below w.heap.size w w' := by
  refine (vof_ref p l a b c d w hp hl h.p h.l hP hL).mono ?_
  rintro e w' ⟨x, rfl, hown, hb⟩
  obtain ⟨ca, cc, rfl, hci⟩ := cells_of_own hown
  exact ⟨ca, cc, rfl, hci, hb⟩
end Go.Proofs.YtcdecnmhogmhaaaDoor
set_option linter.unusedVariables false
set_option linter.unusedSimpArgs false
namespace Go.Proofs.YtcdecnmhogmhaaaDoor
open Go.RowKit
theorem encS_append (a b : List Int) : encS (a ++ b) = encS a ++ encS b := by
  unfold encS
  rw [encI_append, txt_list, txt_list, txt_list, ba_app]
  unfold u8l; rw [List.map_append]
theorem u8_ascii (x : Int) (h0 : 0 ≤ x) (h1 : x < 128) : oneI x = [x] := by
  rw [oneI_pt ((ptB_iff x).2 (by omega)), Lib.encodeRuneZ_one h0 (by omega)]
theorem encI_ascii : ∀ (l : List UInt8), (∀ c ∈ l, c.toNat < 128) → encI (l.map fun c => (c.toNat : Int)) = l.map fun c => (c.toNat : Int)
  | [], _ => rfl
  | c :: l, h => by
    have h1 := h c (by simp)
    have e : encI ((c :: l).map fun c => (c.toNat : Int)) = oneI (c.toNat : Int) ++ encI (l.map fun c => (c.toNat : Int)) := rfl
    rw [e, encI_ascii l (fun x hx => h x (by simp [hx])), u8_ascii _ (by omega) (by omega)]; rfl
theorem u8l_back (l : List UInt8) : u8l (l.map fun c => (c.toNat : Int)) = l := by
  unfold u8l
  rw [List.map_map]
  conv => rhs; rw [← List.map_id l]
  refine List.map_congr_left fun c _ => ?_
  show ((c.toNat : Int).toNat).toUInt8 = c
  rw [Int.toNat_natCast]
  exact UInt8.ofNat_toNat
theorem encS_ascii (l : List UInt8) (h : ∀ c ∈ l, c.toNat < 128) : encS (l.map fun c => (c.toNat : Int)) = ⟨l.toArray⟩ := by
  unfold encS; rw [encI_ascii l h, txt_list, u8l_back]
/-- The bytes of a shown text of a dangerous value are plain. -/
theorem sh_ascii (v : Int) (hd : 3 < cls v) : ∀ c ∈ (shT v).data.toList, c.toNat < 128 := by
  intro c hc
  rcases sh_lists v with ⟨h0, hs⟩ | ⟨h0, a, b, k, d, hs⟩ | ⟨h0, h1, h2, hs⟩ | ⟨h0, _, hs⟩ | ⟨h0, h1, h2, hs⟩ | ⟨h0, h00, h1, h2, h3, hs⟩
  · omega
  · omega
  · rw [hs] at hc
    have hc' : c ∈ [94] ++ u8l [v + 64] := hc
    simp [u8l] at hc'
    rcases hc' with rfl | rfl
    · decide
    · have := u8_val (v + 64) (by omega) (by omega); simp at this ⊢; omega
  · rw [hs] at hc
    have hc' : c ∈ ([94, 63] : List UInt8) := hc
    simp at hc'
    rcases hc' with rfl | rfl <;> decide
  · rw [hs] at hc
    have hc' : c ∈ [92, 120] ++ hexL (v - 1114112) 2 := hc
    rw [List.mem_append] at hc'
    rcases hc' with hc' | hc'
    · simp at hc'; rcases hc' with rfl | rfl <;> decide
    · have := tell_ok _ _ _ c hc'; omega
  · rw [hs] at hc
    have hc' : c ∈ [60, 85, 43] ++ hexL v 4 ++ [62] := hc
    rw [List.mem_append, List.mem_append] at hc'
    rcases hc' with (hc' | hc') | hc'
    · simp at hc'; rcases hc' with rfl | rfl | rfl <;> decide
    · have := tell_ok _ _ _ c hc'; omega
    · simp at hc'; rw [hc']; decide
theorem tkL_txV (s : ByteArray) (a o f : Int) (h : ∀ c ∈ s.data.toList, 0 < c.toNat) : txV (tkL s a o f s.size) = s.data.toList.map fun c => (c.toNat : Int) := by
  have key : ∀ k, k ≤ s.size → txV (tkL s a o f k) = (s.data.toList.take k).map fun c => (c.toNat : Int) := by
    intro k
    induction k with
    | zero => intro _; rfl
    | succ k ih =>
      intro hk
      have hk' : k < s.data.toList.length := by rw [Array.length_toList]; exact hk
      have hg : s.get! k = s.data.toList[k] := by
        rw [get_get s k (by omega), Array.getElem_toList]; rfl
      have hp := h _ (List.getElem_mem hk')
      rw [tkL_succ, txV_append, ih (by omega), List.take_add_one, List.getElem?_eq_getElem hk', List.map_append]
      congr 1
      show txO ((s.get! k).toNat : Int) ++ [] = _
      rw [List.append_nil, hg]
      unfold txO; rw [if_pos (by omega)]; rfl
  have := key s.size (Nat.le_refl _)
  rw [this, List.take_of_length_le (by rw [Array.length_toList]; exact Nat.le_refl _)]
/-- A sign's cells say its shown text. -/
theorem shK_says (v l o : Int) (h : cls v ≠ 0) : encS (txV (shK v l o)) = shT v := by
  have one : 32 ≤ v → shT v = ⟨(u8l (oneI v)).toArray⟩ → encS [v] = shT v := fun h1 h2 => by
    rw [h2]; unfold encS
    have e : encI [v] = oneI v := by simp [encI]
    rw [e]; rfl
  have big : 32 ≤ v → txO v = [v] := fun h1 => by unfold txO; rw [if_pos (by omega)]
  have neg : txO (-1) = [] := rfl
  have facts : cls v ≤ 3 → 32 ≤ v ∧ shT v = ⟨(u8l (oneI v)).toArray⟩ := fun h3 => by
    rcases sh_lists v with ⟨h0, hs⟩ | ⟨h0, a, b, k, d, hs⟩ | ⟨h0, h1, h2, hs⟩ | ⟨h0, _, hs⟩ | ⟨h0, h1, h2, hs⟩ | ⟨h0, h00, h1, h2, h3, hs⟩
    · exact absurd h0 h
    · exact ⟨a, hs⟩
    all_goals omega
  rcases cells_casesR v l o with ⟨h0, _⟩ | ⟨h2, hs⟩ | ⟨h2, hs⟩ | ⟨h2, hs⟩
  · exact absurd h0 h
  · obtain ⟨f1, f2⟩ := facts (by omega)
    rw [hs]
    show encS (txO v ++ (txO (-1) ++ [])) = _
    rw [big f1, neg]; exact one f1 f2
  · obtain ⟨f1, f2⟩ := facts (by omega)
    rw [hs]
    show encS (txO v ++ []) = _
    rw [big f1]; exact one f1 f2
  · rw [hs, tkL_txV _ _ _ _ (fun c hc => by have := sh_bytes v c hc; omega), encS_ascii _ (sh_ascii v h2)]
/-- The shown texts of the first k signs, joined. -/
def sayN (l : List (Int × Int)) : Nat → ByteArray
  | 0 => ⟨#[]⟩
  | k + 1 => sayN l k ++ shT (l.getD k (0, 0)).1
theorem sayN_vw (l : List (Int × Int)) (f : Nat → Int) (h : sgC l = true) : ∀ k, k ≤ l.length → encS (txV (vwG l f k)) = sayN l k
  | 0, _ => rfl
  | k + 1, hk => by
    rw [vwG_succ, txV_append, encS_append, sayN_vw l f h k (by omega), shK_says _ _ _ (sgC_at h (by omega))]; rfl
theorem sayN_left (p l : List (Int × Int)) : ∀ k, k ≤ p.length → sayN (p ++ l) k = sayN p k
  | 0, _ => rfl
  | k + 1, hk => by
    have e : (p ++ l).getD k (0, 0) = p.getD k (0, 0) := by simp only [List.getD]; rw [List.getElem?_append_left (by omega)]
    rw [sayN, sayN, sayN_left p l k (by omega), e]
theorem ba_assoc (a b c : ByteArray) : (a ++ b) ++ c = a ++ (b ++ c) := by
  apply ByteArray.ext
  simp only [ByteArray.data_append, Array.append_assoc]
theorem sayN_right (p l : List (Int × Int)) : ∀ k, k ≤ l.length → sayN (p ++ l) (p.length + k) = sayN p p.length ++ sayN l k
  | 0, _ => by
    rw [Nat.add_zero, sayN_left p l _ (Nat.le_refl _)]
    apply ByteArray.ext
    rw [ByteArray.data_append]; simp [sayN]
  | k + 1, hk => by
    have e : (p ++ l).getD (p.length + k) (0, 0) = l.getD k (0, 0) := by simp only [List.getD]; rw [List.getElem?_append_right (by omega), Nat.add_sub_cancel_left]
    rw [← Nat.add_assoc, sayN, sayN_right p l k (by omega), e, ba_assoc]; rfl
/-- What a view says. -/
theorem vwOf_says (p l : List (Int × Int)) (hp : sgC p = true) (hl : sgC l = true) : encS (txV (vwOf p l)) = sayN (p ++ l) (p ++ l).length := by
  unfold vwOf
  rw [txV_append, encS_append, sayN_vw p _ hp _ (Nat.le_refl _), sayN_vw l _ hl _ (Nat.le_refl _), List.length_append, sayN_right p l _ (Nat.le_refl _)]
theorem sayN_size (l : List (Int × Int)) : ∀ k, (sayN l k).size ≤ 30 * k
  | 0 => by simp [sayN]; rfl
  | k + 1 => by
    have h1 := sayN_size l k
    have h2 := shT_size (l.getD k (0, 0)).1
    rw [sayN, ByteArray.size_append]; omega
theorem sRow_len (l : List (Int × Int)) : (sRow l).toList.length = l.length * 2 := by
  simp only [sRow, List.toList_toArray]
  induction l with
  | nil => rfl
  | cons x l ih => simp only [List.flatMap_cons, List.length_append, List.length_cons, List.length_nil, ih]; omega
/-- Signs that lie somewhere, as the cells that append reads. -/
theorem signs_news {w : World} {ad : Addr} {l : List (Int × Int)} (h : Signs w (some ad) l) : ∀ j u, (sRow l).toList[j]? = some u → w.cell? (ad.add j) = some u := by
  intro j u hj
  have hlen := sRow_len l
  have hj2 : j < l.length * 2 := by
    rw [← hlen]
    exact (List.getElem?_eq_some_iff.1 hj).1
  obtain ⟨b, off, e, _, h1, h2⟩ := h (j / 2) (by omega)
  injection e with e
  subst e
  have hadd : (⟨b, off, none⟩ : Addr).add j = ⟨b, off + j, none⟩ := by unfold Addr.add; split <;> simp_all
  have hs := sRow_at l (j / 2) (by omega)
  have hj' : (l.flatMap fun p => [Value.int .i64 p.1, Value.int .i64 p.2])[j]? = some u := hj
  rw [hadd]
  rcases (by omega : j = j / 2 * 2 ∨ j = j / 2 * 2 + 1) with k | k
  · rw [k, hs.1] at hj'; rw [← hj', ← h1]; congr 2; omega
  · rw [k, hs.2] at hj'; rw [← hj', ← h2]; congr 2; omega
end Go.Proofs.YtcdecnmhogmhaaaDoor
