/-
  Joined: R5 R6 Sh4 R9 R15 R11.
-/
import Derived.Test.YtcdecnmhogmhaaaDoorJ05
import Derived.Test.YtcdecnmhogmhaaaDoorJ06
import Derived.Laws.AppendOwnNone
import Derived.Deep.AppendLies
set_option linter.unusedVariables false
set_option linter.unusedSimpArgs false
namespace Go.Proofs.YtcdecnmhogmhaaaDoor
set_option maxRecDepth 100000
open Go.RowKit
/-- Cells that lie somewhere, as the cells that append reads. -/
theorem cells_news {w : World} {ad : Addr} {L : List Cl} (h : CellsIn w (some ad) L) : ∀ j u, (cCells L)[j]? = some u → w.cell? (ad.add j) = some u := by
  intro j u hj
  have hlen := cCells_len L
  have hj2 : j < L.length * 5 := by rw [← hlen]; exact (List.getElem?_eq_some_iff.1 hj).1
  obtain ⟨b, off, e, _, h1, h2, h3, h4, h5⟩ := h (j / 5) (by omega)
  injection e with e
  subst e
  have hadd : (⟨b, off, none⟩ : Addr).add j = ⟨b, off + j, none⟩ := by unfold Addr.add; split <;> simp_all
  obtain ⟨g1, g2, g3, g4, g5⟩ := cCells_at L (j / 5) (by omega)
  rw [hadd]
  rcases (by omega : j = j / 5 * 5 ∨ j = j / 5 * 5 + 1 ∨ j = j / 5 * 5 + 2 ∨ j = j / 5 * 5 + 3 ∨ j = j / 5 * 5 + 4) with k | k | k | k | k
  · rw [k, g1] at hj; rw [← hj, ← h1]; congr 2; omega
  · rw [k, g2] at hj; rw [← hj, ← h2]; congr 2; omega
  · rw [k, g3] at hj; rw [← hj, ← h3]; congr 2; omega
  · rw [k, g4] at hj; rw [← hj, ← h4]; congr 2; omega
  · rw [k, g5] at hj; rw [← hj, ← h5]; congr 2; omega
theorem ownC_new (w : World) : ownC (w.alloc (.cells #[] 51)) w.heap.size (.slice (some ⟨w.heap.size, 0, none⟩) 0 0) [] :=
  ⟨rfl, .inr ⟨w.heap.size, 0, #[], rfl, Nat.le_refl _, heap_alloc_new _ _, Nat.le_refl _, by decide, rfl, rfl⟩⟩
/-- A blank. -/
abbrev clB : Cl := (0, 0, -1, 0, 0)
/-- A row with j blanks behind it. -/
def fillN (L : List Cl) (j : Nat) : List Cl := L ++ List.replicate j clB
theorem fillN_len (L : List Cl) (j : Nat) : (fillN L j).length = L.length + j := by simp [fillN]
theorem fillN_succ (L : List Cl) (j : Nat) : fillN L (j + 1) = fillN L j ++ [clB] := by unfold fillN; rw [List.replicate_succ', List.append_assoc]
set_option maxHeartbeats 4000000 in
theorem fill_ref (L : List Cl) (n : Nat) (a : Option Addr) (c : Nat) (w : World) (hl : L.length ≤ 100000) (hn : n ≤ 1000) (ha : CellsIn w a L) (h0 : a = none → c = 0) :
    Calls Tryd.prog 72 #[.slice a L.length c, .int .i64 n] w fun e w' => ∃ x, e = .returned x ∧ ownC w' w.heap.size x (fillN L (n - L.length)) ∧ Below w.heap.size w w' := by
  obtain ⟨i0, hi, hz0, hz1, hz2⟩ := info_parts infoCell
  have N0 := below_alloc w (.cells #[] 51)
  have H0 := Lib.hid (ownC_new w)
  have HA := Lib.hid (ha.below N0)
  have hsz : (w.alloc (.cells #[] 51)).heap.size = w.heap.size + 1 := by simp
  have hnil : a = none → L = [] := fun h => by
    cases L with
    | nil => rfl
    | cons x L => obtain ⟨_, _, e, _⟩ := ha 0 (by simp); rw [h] at e; cases e
  clear ha
  generalize hW : w.alloc (.cells #[] 51) = W at *
  cases a with
  | none =>
    obtain rfl := hnil rfl
    obtain rfl := h0 rfl
    clear hnil h0 HA
    go_enter Tryd.func72, Tryd.ntmps72
    go_wp2_with (at_builtin; refine wpList_append_own_none rfl _ _ 36 rfl w.heap.size 51 i0 5 Tryd.underlying36 hi _ 0 [] rfl H0.out rfl ?_)
    go_loopw [5] (fun ov wr => ∃ j cap : Nat, ∃ b, j ≤ n ∧ ov = .slice b j cap ∧ Hid (ownC wr w.heap.size ov (fillN [] j)) ∧ Below w.heap.size w wr) (fun ov _ => n - (match ov with | .slice _ j _ => j | _ => 0))
    case atStart => exact ⟨0, 0, _, Nat.zero_le _, rfl, H0, N0⟩
    case round =>
      obtain ⟨j, cap, b, hj, rfl, hO, hbl⟩ := hrel
      have hsz2 := hbl.size
      have hown := hO.out
      unfold ownC at hown
      rw [fillN_len] at hown
      by_cases hlt : j < n
      · have hk1 : (j : Int) < n := by omega
        have hst := Lib.hid (fillN_succ [] j)
        simp only [List.length_nil, Nat.zero_add] at hown
        go_wp2_with (at_builtin; refine wpList_append_own _ rfl _ _ 36 rfl w.heap.size 51 i0 _ 5 40 Tryd.underlying36 hi hz0 hz1 hz2 rfl (by decide) _ _ _ rfl (hown.alloc _) ⟨wr.heap.size, 0, none⟩ 1 1 [.int .i64 0, .int .i64 0, .int .i64 (-1), .int .i64 0, .int .i64 0] rfl rfl (fun j x hj => app_cells rfl hj) ?g2 ?g3 ?g4 ?g5 ?_)
        case g2 => simp [Value.oneCell']
        case g3 => unfold maxLen; omega
        case g4 => omega
        case g5 => first | omega | (simp; omega)
        intro v' w5 hown5 hgrow5 _
        have N5 := (hbl.alloc hbl.size (.cells #[.int .i64 0, .int .i64 0, .int .i64 (-1), .int .i64 0, .int .i64 0] 51)).grown hgrow5 (by have := hbl.size; simp; omega) (fun j hj => (hown.lt j hj).1)
        obtain ⟨g, cap', rfl⟩ := ownsRow_pos hown5 (by omega)
        have HO := Lib.hid hown5
        clear hown5 hgrow5 hown
        go_wp2
        go_roundw
        case rel => exact ⟨j + 1, cap', _, by omega, rfl, Lib.hid (by rw [hst.out]; unfold ownC; rw [List.length_append, cCells_snoc, fillN_len]; simpa using HO.out), N5⟩
        case measure => first | (simp; omega) | (simp [intOf]; try omega)
      · obtain rfl : j = n := by omega
        go_wp2
        go_ret
        exact ⟨_, rfl, by simpa using hO.out, hbl⟩
  | some ad =>
    clear hnil h0
    go_enter Tryd.func72, Tryd.ntmps72
    go_wp2_with (at_builtin; refine wpList_append_own _ rfl _ _ 36 rfl w.heap.size 51 i0 _ 5 40 Tryd.underlying36 hi hz0 hz1 hz2 rfl (by decide) _ 0 [] rfl H0.out ad L.length c (cCells L) rfl (cCells_len L) (cells_news HA.out) (cCells_one L) ?k3 ?k4 ?k5 ?_)
    case k3 => unfold maxLen; omega
    case k4 => omega
    case k5 => omega
    intro v0 w0 hown0 hgrow0 _
    have NN := N0.grown hgrow0 (by omega) (fun j hj => by simp [Value.ownBlock] at hj; omega)
    have HH : ownC w0 w.heap.size v0 (fillN L 0) := by unfold ownC fillN; rw [List.replicate_zero, List.append_nil]; simpa using hown0
    have hv0 : ∃ b cap, v0 = .slice b L.length cap := by
      obtain ⟨b, cap, e, _⟩ := cells_of_own HH
      rw [fillN_len, Nat.add_zero] at e
      exact ⟨b, cap, e⟩
    obtain ⟨bb, cc, rfl⟩ := hv0
    have HH2 := Lib.hid HH
    clear hown0 hgrow0 HH
    go_wp2
    go_loopw [5] (fun ov wr => ∃ j cap : Nat, ∃ b, (j = 0 ∨ L.length + j ≤ n) ∧ ov = .slice b (L.length + j) cap ∧ Hid (ownC wr w.heap.size ov (fillN L j)) ∧ Below w.heap.size w wr) (fun ov _ => n - (match ov with | .slice _ j _ => j | _ => 0))
    case atStart => exact ⟨0, cc, bb, Or.inl rfl, rfl, HH2, NN⟩
    case round =>
      obtain ⟨j, cap, b, hj, rfl, hO, hbl⟩ := hrel
      have hsz2 := hbl.size
      have hown := hO.out
      unfold ownC at hown
      rw [fillN_len] at hown
      by_cases hlt : L.length + j < n
      · have hk1 : (L.length : Int) + (j : Int) < n := by omega
        have hk2 : ((L.length + j : Nat) : Int) < n := by omega
        have hst := Lib.hid (fillN_succ L j)
        generalize hm : L.length + j = m at *
        go_wp2_with (at_builtin; refine wpList_append_own _ rfl _ _ 36 rfl w.heap.size 51 i0 _ 5 40 Tryd.underlying36 hi hz0 hz1 hz2 rfl (by decide) _ _ _ rfl (hown.alloc _) ⟨wr.heap.size, 0, none⟩ 1 1 [.int .i64 0, .int .i64 0, .int .i64 (-1), .int .i64 0, .int .i64 0] rfl rfl (fun j x hj => app_cells rfl hj) ?g2 ?g3 ?g4 ?g5 ?_)
        case g2 => simp [Value.oneCell']
        case g3 => unfold maxLen; omega
        case g4 => omega
        case g5 => first | omega | (simp; omega)
        intro v' w5 hown5 hgrow5 _
        have N5 := (hbl.alloc hbl.size (.cells #[.int .i64 0, .int .i64 0, .int .i64 (-1), .int .i64 0, .int .i64 0] 51)).grown hgrow5 (by have := hbl.size; simp; omega) (fun j hj => (hown.lt j hj).1)
        obtain ⟨g, cap', rfl⟩ := ownsRow_pos hown5 (by omega)
        have HO := Lib.hid hown5
        clear hown5 hgrow5 hown
        go_wp2
        go_roundw
        case rel => exact ⟨j + 1, cap', _, Or.inr (by omega), by rw [← Nat.add_assoc, hm], Lib.hid (by rw [hst.out]; unfold ownC; rw [List.length_append, cCells_snoc, fillN_len, hm]; simpa using HO.out), N5⟩
        case measure => first | (simp; omega) | (simp [intOf]; try omega)
      · have hk1 : ¬ (L.length : Int) + (j : Int) < n := by omega
        have hk2 : ¬ ((L.length + j : Nat) : Int) < n := by omega
        have hjn : j = n - L.length := by omega
        go_wp2
        go_ret
        exact ⟨_, rfl, by rw [← hjn]; exact hO.out, hbl⟩
end Go.Proofs.YtcdecnmhogmhaaaDoor
set_option linter.unusedVariables false
set_option linter.unusedSimpArgs false
namespace Go.Proofs.YtcdecnmhogmhaaaDoor
open Go.RowKit
/-- Behind the last of the first k cells that is not blank. -/
def lenN (L : List Cl) : Nat → Nat
  | 0 => 0
  | k + 1 => if (L.getD k cl0).1 ≠ 0 then k + 1 else lenN L k
theorem lenN_le (L : List Cl) : ∀ k, lenN L k ≤ k
  | 0 => Nat.le_refl _
  | k + 1 => by
    have := lenN_le L k
    unfold lenN; split <;> omega
set_option maxHeartbeats 1000000 in
theorem len_ref (L : List Cl) (a : Option Addr) (c : Nat) (w : World) (hl : L.length ≤ 1000000) (ha : CellsIn w a L) :
    Calls Tryd.prog 116 #[.slice a L.length c] w fun e w' => e = .returned (.int .i64 (lenN L L.length)) ∧ w' = w := by
  have HA := Lib.hid ha; clear ha
  go_enter Tryd.func116, Tryd.ntmps116
  go_wp2
  go_loop [3, 4] (fun nv iv => ∃ k : Nat, k ≤ L.length ∧ iv = .int .i64 (k : Int) ∧ nv = .int .i64 (lenN L k)) (fun _ iv => L.length - (intOf iv).toNat)
  case atStart => exact ⟨0, Nat.zero_le _, rfl, rfl⟩
  case round =>
    obtain ⟨k, hk, rfl, rfl⟩ := hrel
    by_cases hlt : k < L.length
    · obtain ⟨b1, o1, rfl, hb1, c1, c2, c3, c4, c5⟩ := HA.out k hlt
      have hk1 : (k : Int) < L.length := by omega
      have hk0 : (0 : Int) ≤ k := by omega
      have hs : lenN L (k + 1) = if (L.getD k cl0).1 ≠ 0 then k + 1 else lenN L k := rfl
      by_cases hv : (L.getD k cl0).1 = 0
      · rw [if_neg (fun h => h hv)] at hs
        have Hs := Lib.hid hs
        rw [hv] at c1
        clear hs hv
        go_wp2
        go_round
        case rel => exact ⟨k + 1, by omega, by go_num, by rw [Hs.out]⟩
        case measure => (simp [intOf]; try omega)
      · rw [if_pos hv] at hs
        have Hs := Lib.hid hs
        have hvb : ((L.getD k cl0).1 != 0) = true := by rw [bne_iff_ne]; exact hv
        generalize (L.getD k cl0).1 = v at *
        clear hs
        go_wp2
        go_round
        case rel => exact ⟨k + 1, by omega, by go_num, by rw [Hs.out]; go_num⟩
        case measure => (simp [intOf]; try omega)
    · obtain rfl : k = L.length := by omega
      go_wp2
      go_ret
      exact ⟨rfl, rfl⟩
set_option maxHeartbeats 1000000 in
theorem len_any (L : List Cl) (a : Option Addr) (c : Nat) (w : World) (hl : L.length ≤ 1000000) (ha : CellsIn w a L) :
    Calls Tryd.prog 61 #[.slice a L.length c] w fun e w' => e = .returned (.int .i64 (lenN L L.length)) ∧ w' = w := by
  have HA := Lib.hid ha; clear ha
  generalize hR : lenN L L.length = R
  have HR := Lib.hid hR
  clear hR
  go_enter Tryd.func61, Tryd.ntmps61
  go_wp2
  go_loop [3] (fun nv => ∃ k : Nat, k ≤ L.length ∧ nv = .int .i64 (k : Int) ∧ Hid (R = lenN L k)) (fun nv => (intOf nv).toNat)
  case atStart => exact ⟨L.length, Nat.le_refl _, rfl, Lib.hid HR.out.symm⟩
  case round =>
    obtain ⟨k, hk, rfl, hs⟩ := hrel
    cases k with
    | zero =>
      have h0 : R = 0 := hs.out
      subst h0
      go_wp2
      go_ret
      exact ⟨rfl, rfl⟩
    | succ k =>
      obtain ⟨b1, o1, rfl, hb1, c1, c2, c3, c4, c5⟩ := HA.out k (by omega)
      have hk1 : (k : Int) < L.length := by omega
      have hk0 : (0 : Int) ≤ k := by omega
      have hkp : (0 : Int) < ((k + 1 : Nat) : Int) := by omega
      have hkp2 : (0 : Int) < (k : Int) + 1 := by omega
      have hkm : ((k + 1 : Nat) : Int) - 1 = (k : Int) := by omega
      have hs2 : lenN L (k + 1) = if (L.getD k cl0).1 ≠ 0 then k + 1 else lenN L k := rfl
      by_cases hv : (L.getD k cl0).1 = 0
      · rw [if_neg (fun h => h hv)] at hs2
        have Hs := Lib.hid (hs.out.trans hs2)
        rw [hv] at c1
        clear hs hs2 hv
        go_wp2
        go_round
        case rel => exact ⟨k, by omega, by first | rfl | go_num, Hs⟩
        case measure => (simp [intOf]; try omega)
      · rw [if_pos hv] at hs2
        have Hs := Lib.hid (hs.out.trans hs2)
        have hvb : ((L.getD k cl0).1 == 0) = false := by rw [beq_eq_false_iff_ne]; exact hv
        generalize (L.getD k cl0).1 = v at *
        clear hs hs2
        go_wp2
        go_ret
        rw [Hs.out]
        exact ⟨rfl, rfl⟩
end Go.Proofs.YtcdecnmhogmhaaaDoor
set_option linter.unusedVariables false
set_option linter.unusedSimpArgs false
namespace Go.Proofs.YtcdecnmhogmhaaaDoor
open Go.RowKit
set_option maxHeartbeats 4000000 in
theorem shsame_any (x y : List Cl) (a b : Option Addr) (c d : Nat) (w : World) (hx : x.length ≤ 9223372036854775807) (hy : y.length ≤ 9223372036854775807) (ha : CellsIn w a x) (hb : CellsIn w b y) :
    Calls Tryd.prog 78 #[.slice a x.length c, .slice b y.length d] w fun e w' => e = .returned (.bool (shS x y)) ∧ Below w.heap.size w w' := by
  have HA := Lib.hid ha; have HB := Lib.hid hb; clear ha hb
  by_cases hl : x.length = y.length
  · have hln : ((x.length : Int) != (y.length : Int)) = false := by rw [hl]; simp
    have hyl : y.length ≤ x.length ∧ x.length ≤ y.length := by omega
    have Hl := Lib.hid hl; clear hl
    go_enter Tryd.func78, Tryd.ntmps78
    go_wp2
    go_loopw [14] (fun iv wr => ∃ k : Nat, k ≤ x.length ∧ iv = .int .i64 (k : Int) ∧ Hid (∀ j, j < k → clE (x.getD j cl0) (y.getD j cl0) = true) ∧ Below w.heap.size w wr) (fun iv _ => x.length - (intOf iv).toNat)
    case atStart => exact ⟨0, Nat.zero_le _, rfl, Lib.hid (fun j hj => absurd hj (by omega)), Below.refl _ _⟩
    case round =>
      obtain ⟨k, hk, rfl, hall, hbl⟩ := hrel
      by_cases hlt : k < x.length
      · obtain ⟨b1, o1, rfl, hb1, c1, c2, c3, c4, c5⟩ := (HA.out.below hbl) k hlt
        obtain ⟨b2, o2, rfl, hb2, d1, d2, d3, d4, d5⟩ := (HB.out.below hbl) k (by omega)
        have hk1 : (k : Int) < x.length := by omega
        have hk2 : (k : Int) < y.length := by omega
        have hk0 : (0 : Int) ≤ k := by omega
        obtain ⟨v, a1, p1, f1, q1, hp⟩ : ∃ v a p f q, x.getD k cl0 = (v, a, p, f, q) := ⟨_, _, _, _, _, rfl⟩
        obtain ⟨v', a2, p2, f2, q2, hq⟩ : ∃ v a p f q, y.getD k cl0 = (v, a, p, f, q) := ⟨_, _, _, _, _, rfl⟩
        rw [hp] at c1 c2 c3 c4 c5; rw [hq] at d1 d2 d3 d4 d5
        have d1' := fun o => (World.cell?_alloc_lt wr o (⟨b2, o2 + k * 5, none⟩ : Addr) hb2).trans d1
        have d2' := fun o => (World.cell?_alloc_lt wr o (⟨b2, o2 + k * 5 + 1, none⟩ : Addr) hb2).trans d2
        have hbb := fun o1 => hbl.alloc hbl.size o1
        clear d1 d2 d3 d4 d5
        have hor : (v != v') = true ∨ ((v != v') = false ∧ (a1 != a2) = true) ∨ ((v != v') = false ∧ (a1 != a2) = false) := by
          cases h1 : (v != v') <;> cases h2 : (a1 != a2) <;> simp
        rcases hor with e1 | ⟨e1, e2⟩ | ⟨e1, e2⟩
        · have HF : Hid (shS x y = false) := Lib.hid (shS_no hlt (by rw [hp, hq]; unfold clE; rw [show (v == v') = false by simpa using e1]; rfl))
          clear hp hq
          go_wp2
          go_quiet (fail)
          go_wp2
          go_ret
          rw [HF.out]
          exact ⟨rfl, drewN_below (hbb _) _⟩
        · have HF : Hid (shS x y = false) := Lib.hid (shS_no hlt (by rw [hp, hq]; unfold clE; rw [show (a1 == a2) = false by simpa using e2, Bool.and_false]))
          clear hp hq
          go_wp2
          go_quiet (fail)
          go_wp2
          go_ret
          rw [HF.out]
          exact ⟨rfl, drewN_below (hbb _) _⟩
        · have HF : Hid (∀ j, j < k + 1 → clE (x.getD j cl0) (y.getD j cl0) = true) := Lib.hid (by
            intro j hj
            rcases Nat.lt_succ_iff_lt_or_eq.1 hj with h | rfl
            · exact hall.out j h
            · rw [hp, hq]; unfold clE; rw [show (v == v') = true by simpa using e1, show (a1 == a2) = true by simpa using e2]; rfl)
          clear hp hq
          go_wp2
          go_quiet (fail)
          go_wp2
          go_roundw
          case rel => exact ⟨k + 1, by omega, by go_num, HF, drewN_below (hbb _) _⟩
          case measure => simp [intOf]; omega
      · obtain rfl : k = x.length := by omega
        have HF : Hid (shS x y = true) := Lib.hid (shS_yes Hl.out hall.out)
        go_wp2
        go_ret
        rw [HF.out]
        exact ⟨rfl, hbl⟩
  · have hln : ((x.length : Int) != (y.length : Int)) = true := by rw [bne_iff_ne]; omega
    have HF : Hid (shS x y = false) := Lib.hid (shS_len hl)
    go_enter Tryd.func78, Tryd.ntmps78
    go_wp2
    go_ret
    rw [HF.out]
    exact ⟨rfl, Below.refl _ _⟩
set_option maxHeartbeats 4000000 in
theorem shsame_ref (x y : List Cl) (a b : Option Addr) (c d : Nat) (w : World) (hx : x.length ≤ 9223372036854775807) (hy : y.length ≤ 9223372036854775807) (ha : CellsIn w a x) (hb : CellsIn w b y) :
    Calls Tryd.prog 74 #[.slice a x.length c, .slice b y.length d] w fun e w' => e = .returned (.bool (shS x y)) ∧ Below w.heap.size w w' := by
  have HA := Lib.hid ha; have HB := Lib.hid hb; clear ha hb
  by_cases hl : x.length = y.length
  · have hln : ((x.length : Int) != (y.length : Int)) = false := by rw [hl]; simp
    have hyl : y.length ≤ x.length ∧ x.length ≤ y.length := by omega
    have Hl := Lib.hid hl; clear hl
    go_enter Tryd.func74, Tryd.ntmps74
    go_wp2
    go_loopw [5] (fun iv wr => ∃ k : Nat, k ≤ x.length ∧ iv = .int .i64 (k : Int) ∧ Hid (∀ j, j < k → clE (x.getD j cl0) (y.getD j cl0) = true) ∧ Below w.heap.size w wr) (fun iv _ => x.length - (intOf iv).toNat)
    case atStart => exact ⟨0, Nat.zero_le _, rfl, Lib.hid (fun j hj => absurd hj (by omega)), Below.refl _ _⟩
    case round =>
      obtain ⟨k, hk, rfl, hall, hbl⟩ := hrel
      by_cases hlt : k < x.length
      · obtain ⟨b1, o1, rfl, hb1, c1, c2, c3, c4, c5⟩ := (HA.out.below hbl) k hlt
        obtain ⟨b2, o2, rfl, hb2, d1, d2, d3, d4, d5⟩ := (HB.out.below hbl) k (by omega)
        have hk1 : (k : Int) < x.length := by omega
        have hk2 : (k : Int) < y.length := by omega
        have hk0 : (0 : Int) ≤ k := by omega
        obtain ⟨v, a1, p1, f1, q1, hp⟩ : ∃ v a p f q, x.getD k cl0 = (v, a, p, f, q) := ⟨_, _, _, _, _, rfl⟩
        obtain ⟨v', a2, p2, f2, q2, hq⟩ : ∃ v a p f q, y.getD k cl0 = (v, a, p, f, q) := ⟨_, _, _, _, _, rfl⟩
        rw [hp] at c1 c2 c3 c4 c5; rw [hq] at d1 d2 d3 d4 d5
        have hor : (v != v') = true ∨ ((v != v') = false ∧ (a1 != a2) = true) ∨ ((v != v') = false ∧ (a1 != a2) = false) := by
          cases h1 : (v != v') <;> cases h2 : (a1 != a2) <;> simp
        rcases hor with e1 | ⟨e1, e2⟩ | ⟨e1, e2⟩
        · have HF : Hid (shS x y = false) := Lib.hid (shS_no hlt (by rw [hp, hq]; unfold clE; rw [show (v == v') = false by simpa using e1]; rfl))
          clear hp hq
          go_wp2
          go_quiet (fail)
          go_wp2
          go_ret
          rw [HF.out]
          exact ⟨rfl, drewN_below hbl _⟩
        · have HF : Hid (shS x y = false) := Lib.hid (shS_no hlt (by rw [hp, hq]; unfold clE; rw [show (a1 == a2) = false by simpa using e2, Bool.and_false]))
          clear hp hq
          go_wp2
          go_quiet (fail)
          go_wp2
          go_ret
          rw [HF.out]
          exact ⟨rfl, drewN_below hbl _⟩
        · have HF : Hid (∀ j, j < k + 1 → clE (x.getD j cl0) (y.getD j cl0) = true) := Lib.hid (by
            intro j hj
            rcases Nat.lt_succ_iff_lt_or_eq.1 hj with h | rfl
            · exact hall.out j h
            · rw [hp, hq]; unfold clE; rw [show (v == v') = true by simpa using e1, show (a1 == a2) = true by simpa using e2]; rfl)
          clear hp hq
          go_wp2
          go_quiet (fail)
          go_wp2
          go_roundw
          case rel => exact ⟨k + 1, by omega, by go_num, HF, drewN_below hbl _⟩
          case measure => simp [intOf]; omega
      · obtain rfl : k = x.length := by omega
        have HF : Hid (shS x y = true) := Lib.hid (shS_yes Hl.out hall.out)
        go_wp2
        go_ret
        rw [HF.out]
        exact ⟨rfl, hbl⟩
  · have hln : ((x.length : Int) != (y.length : Int)) = true := by rw [bne_iff_ne]; omega
    have HF : Hid (shS x y = false) := Lib.hid (shS_len hl)
    go_enter Tryd.func74, Tryd.ntmps74
    go_wp2
    go_ret
    rw [HF.out]
    exact ⟨rfl, Below.refl _ _⟩
set_option maxHeartbeats 4000000 in
theorem shall_ref (x y : List Cl) (a b : Option Addr) (c d : Nat) (w : World) (hx : x.length ≤ 9223372036854775807) (hy : y.length ≤ 9223372036854775807) (ha : CellsIn w a x) (hb : CellsIn w b y) :
    Calls Tryd.prog 18 #[.slice a x.length c, .slice b y.length d] w fun e w' => e = .returned (.bool (shA x y)) ∧ Below w.heap.size w w' := by
  have HA := Lib.hid ha; have HB := Lib.hid hb; clear ha hb
  by_cases hl : x.length = y.length
  · have hln : ((x.length : Int) != (y.length : Int)) = false := by rw [hl]; simp
    have hyl : y.length ≤ x.length ∧ x.length ≤ y.length := by omega
    have Hl := Lib.hid hl; clear hl
    go_enter Tryd.func18, Tryd.ntmps18
    go_wp2
    go_loopw [5] (fun iv wr => ∃ k : Nat, k ≤ x.length ∧ iv = .int .i64 (k : Int) ∧ Hid (∀ j, j < k → x.getD j cl0 = y.getD j cl0) ∧ Below w.heap.size w wr) (fun iv _ => x.length - (intOf iv).toNat)
    case atStart => exact ⟨0, Nat.zero_le _, rfl, Lib.hid (fun j hj => absurd hj (by omega)), Below.refl _ _⟩
    case round =>
      obtain ⟨k, hk, rfl, hall, hbl⟩ := hrel
      by_cases hlt : k < x.length
      · obtain ⟨b1, o1, rfl, hb1, c1, c2, c3, c4, c5⟩ := (HA.out.below hbl) k hlt
        obtain ⟨b2, o2, rfl, hb2, d1, d2, d3, d4, d5⟩ := (HB.out.below hbl) k (by omega)
        have hk1 : (k : Int) < x.length := by omega
        have hk2 : (k : Int) < y.length := by omega
        have hk0 : (0 : Int) ≤ k := by omega
        obtain ⟨v, a1, p1, f1, q1, hp⟩ : ∃ v a p f q, x.getD k cl0 = (v, a, p, f, q) := ⟨_, _, _, _, _, rfl⟩
        obtain ⟨v', a2, p2, f2, q2, hq⟩ : ∃ v a p f q, y.getD k cl0 = (v, a, p, f, q) := ⟨_, _, _, _, _, rfl⟩
        rw [hp] at c1 c2 c3 c4 c5; rw [hq] at d1 d2 d3 d4 d5
        have N := fun W => neqCell v a1 p1 f1 q1 v' a2 p2 f2 q2 W
        cases he : decide (((v, a1, p1, f1, q1) : Cl) ≠ (v', a2, p2, f2, q2))
        · rw [he] at N
          have HF : Hid (∀ j, j < k + 1 → x.getD j cl0 = y.getD j cl0) := Lib.hid (by
            intro j hj
            rcases Nat.lt_succ_iff_lt_or_eq.1 hj with h | rfl
            · exact hall.out j h
            · rw [hp, hq]; exact Decidable.byContradiction (of_decide_eq_false he))
          clear hp hq he
          go_wp2
          go_quiet (fail)
          go_wp2
          go_roundw
          case rel => exact ⟨k + 1, by omega, by go_num, HF, drewN_below hbl _⟩
          case measure => simp [intOf]; omega
        · rw [he] at N
          have HF : Hid (shA x y = false) := Lib.hid (shA_no (k := k) (by rw [hp, hq]; exact of_decide_eq_true he))
          clear hp hq he
          go_wp2
          go_quiet (fail)
          go_wp2
          go_ret
          rw [HF.out]
          exact ⟨rfl, drewN_below hbl _⟩
      · obtain rfl : k = x.length := by omega
        have HF : Hid (shA x y = true) := Lib.hid (shA_yes Hl.out hall.out)
        go_wp2
        go_ret
        rw [HF.out]
        exact ⟨rfl, hbl⟩
  · have hln : ((x.length : Int) != (y.length : Int)) = true := by rw [bne_iff_ne]; omega
    have HF : Hid (shA x y = false) := Lib.hid (shA_len hl)
    go_enter Tryd.func18, Tryd.ntmps18
    go_wp2
    go_ret
    rw [HF.out]
    exact ⟨rfl, Below.refl _ _⟩
end Go.Proofs.YtcdecnmhogmhaaaDoor
set_option linter.unusedVariables false
set_option linter.unusedSimpArgs false
namespace Go.Proofs.YtcdecnmhogmhaaaDoor
open Go.RowKit
/-- Rows of cells lie in memory. -/
def RowsIn (w : World) (a : Option Addr) (l : List (List Cl)) : Prop :=
  ∀ i, i < l.length → ∃ b off ra rc, a = some ⟨b, off, none⟩ ∧ b < w.heap.size ∧ w.cell? ⟨b, off + i, none⟩ = some (.slice ra (l.getD i []).length rc) ∧ CellsIn w ra (l.getD i [])
theorem RowsIn.below {w w' : World} {a : Option Addr} {l : List (List Cl)} (h : RowsIn w a l) (hb : Below w.heap.size w w') : RowsIn w' a l := fun i hi => by
  obtain ⟨b, off, ra, rc, e, hlt, h1, h2⟩ := h i hi
  exact ⟨b, off, ra, rc, e, Nat.lt_of_lt_of_le hlt hb.size, (hb.cell (p := ⟨b, off + i, none⟩) hlt).trans h1, h2.below hb⟩
/-- The same rows, to look at? -/
def rowsS (x y : List (List Cl)) : Bool := (List.range x.length).all fun i => shS (x.getD i []) (y.getD i [])
theorem rowsS_no {x y : List (List Cl)} {k : Nat} (hk : k < x.length) (h : shS (x.getD k []) (y.getD k []) = false) : rowsS x y = false := by
  unfold rowsS; rw [List.all_eq_false]; exact ⟨k, by simpa using hk, by rw [h]; simp⟩
theorem rowsS_yes {x y : List (List Cl)} (h : ∀ j, j < x.length → shS (x.getD j []) (y.getD j []) = true) : rowsS x y = true := by
  unfold rowsS; rw [List.all_eq_true]; intro j hj; exact h j (by simpa using hj)
/-- The same screens, to look at? -/
def scrS (W H R C W' H' R' C' : Int) (x y : List (List Cl)) : Bool := W == W' && (H == H' && (R == R' && (C == C' && (x.length == y.length && rowsS x y))))
theorem scrS_cases (W H R C W' H' R' C' : Int) (x y : List (List Cl)) : (scrS W H R C W' H' R' C' x y = rowsS x y ∧ W = W' ∧ H = H' ∧ R = R' ∧ C = C' ∧ x.length = y.length) ∨ (scrS W H R C W' H' R' C' x y = false ∧
    ((W != W') = true ∨ ((W != W') = false ∧ (H != H') = true) ∨ ((W != W') = false ∧ (H != H') = false ∧ (R != R') = true) ∨ ((W != W') = false ∧ (H != H') = false ∧ (R != R') = false ∧ (C != C') = true) ∨ ((W != W') = false ∧ (H != H') = false ∧ (R != R') = false ∧ (C != C') = false ∧ ((x.length : Int) != (y.length : Int)) = true))) := by
  unfold scrS
  by_cases h1 : W = W'
  · by_cases h2 : H = H'
    · by_cases h3 : R = R'
      · by_cases h4 : C = C'
        · by_cases h5 : x.length = y.length
          · left; subst h1; subst h2; subst h3; subst h4; simp [h5]
          · right; refine ⟨by simp [h5], ?_⟩
            right; right; right; right; refine ⟨by simp [h1], by simp [h2], by simp [h3], by simp [h4], ?_⟩
            rw [bne_iff_ne]; omega
        · right; refine ⟨by simp [h4], ?_⟩
          right; right; right; left; exact ⟨by simp [h1], by simp [h2], by simp [h3], by simp [h4]⟩
      · right; refine ⟨by simp [h3], ?_⟩
        right; right; left; exact ⟨by simp [h1], by simp [h2], by simp [h3]⟩
    · right; refine ⟨by simp [h2], ?_⟩
      right; left; exact ⟨by simp [h1], by simp [h2]⟩
  · right; exact ⟨by simp [h1], Or.inl (by simp [h1])⟩
set_option maxHeartbeats 8000000 in
theorem psame_any (W H R C W' H' R' C' : Int) (x y : List (List Cl)) (a b : Option Addr) (c d : Nat) (w : World) (hx : x.length ≤ 100000) (hy : y.length ≤ 100000) (hxr : ∀ i, i < x.length → (x.getD i []).length ≤ 100000) (hyr : ∀ i, i < y.length → (y.getD i []).length ≤ 100000) (ha : RowsIn w a x) (hb : RowsIn w b y) :
    Calls Tryd.prog 24 #[.agg #[.int .i64 W, .int .i64 H, .slice a x.length c, .int .i64 R, .int .i64 C], .agg #[.int .i64 W', .int .i64 H', .slice b y.length d, .int .i64 R', .int .i64 C']] w fun e w' => e = .returned (.bool (scrS W H R C W' H' R' C' x y)) ∧ Below w.heap.size w w' := by
  have hb0 := seqB (below_alloc w (.cells #[.int .i64 W, .int .i64 H, .slice a x.length c, .int .i64 R, .int .i64 C] 28)) (below_alloc _ (.cells #[.int .i64 W', .int .i64 H', .slice b y.length d, .int .i64 R', .int .i64 C'] 28))
  have HA := Lib.hid (ha.below hb0); have HB := Lib.hid (hb.below hb0)
  clear ha hb
  rcases scrS_cases W H R C W' H' R' C' x y with ⟨hs, rfl, rfl, rfl, rfl, hlen⟩ | ⟨hs, h⟩
  · have HS := Lib.hid hs
    have HL := Lib.hid hlen
    have hXR := Lib.hid hxr; have hYR := Lib.hid hyr
    clear hs hlen hxr hyr
    have g2 : ((w.alloc (.cells #[.int .i64 W, .int .i64 H, .slice a x.length c, .int .i64 R, .int .i64 C] 28)).alloc (.cells #[.int .i64 W, .int .i64 H, .slice b y.length d, .int .i64 R, .int .i64 C] 28)).cell? ⟨w.heap.size + 1, 2, none⟩ = some (.slice b y.length d) := by simp
    have hz : ((w.alloc (.cells #[.int .i64 W, .int .i64 H, .slice a x.length c, .int .i64 R, .int .i64 C] 28)).alloc (.cells #[.int .i64 W, .int .i64 H, .slice b y.length d, .int .i64 R, .int .i64 C] 28)).heap.size = w.heap.size + 1 + 1 := by simp
    have hlb : ((x.length : Int) != (y.length : Int)) = false := by rw [bne_eq_false_iff_eq, HL.out]
    go_enter Tryd.func24, Tryd.ntmps24
    go_wp2
    generalize (w.alloc _).alloc _ = W0 at *
    have hlt1 : w.heap.size + 1 < W0.heap.size := by omega
    have Hz := Lib.hid hz
    clear hz
    go_loopw [45] (fun iv wr => ∃ k : Nat, k ≤ x.length ∧ iv = .int .i64 (k : Int) ∧ Hid (∀ j, j < k → shS (x.getD j []) (y.getD j []) = true) ∧ Below W0.heap.size W0 wr) (fun iv _ => x.length - (intOf iv).toNat)
    case atStart => exact ⟨0, Nat.zero_le _, rfl, Lib.hid (fun j hj => absurd hj (by omega)), Below.refl _ _⟩
    case round =>
      obtain ⟨k, hk, rfl, hall, hbl⟩ := hrel
      have hN := hb0.trans (hbl.mono hb0.size)
      by_cases hlt : k < x.length
      · obtain ⟨b1, o1, r1, n1, rfl, hb1, c1, d1⟩ := (HA.out.below hbl) k hlt
        obtain ⟨b2, o2, r2, n2, rfl, hb2, c2, d2⟩ := (HB.out.below hbl) k (by have := HL.out; omega)
        have g2r := (hbl.cell (p := ⟨w.heap.size + 1, 2, none⟩) hlt1).trans g2
        have hk1 : (k : Int) < x.length := by omega
        have hk2 : (k : Int) < y.length := by have := HL.out; omega
        have hk0 : (0 : Int) ≤ k := by omega
        have S := shsame_any (x.getD k []) (y.getD k []) r1 r2 n1 n2 wr (by have := hXR.out k hlt; omega) (by have := hYR.out k (by have := HL.out; omega); omega) d1 d2
        have hno := fun h => rowsS_no (x := x) (y := y) hlt h
        have hyes := fun (h : shS (x.getD k []) (y.getD k []) = true) => (fun j (hj : j < k + 1) => (by
          rcases Nat.lt_succ_iff_lt_or_eq.1 hj with h' | rfl
          · exact hall.out j h'
          · exact h : shS (x.getD j []) (y.getD j []) = true))
        clear d1 d2
        generalize (x.getD k []).length = lx at *
        generalize (y.getD k []).length = ly at *
        cases hr : shS (x.getD k []) (y.getD k [])
        · rw [hr] at S
          have HF := Lib.hid (HS.out.trans (hno hr))
          replace S := Lib.hid S
          clear hno hyes hr
          go_wp2_with (go_at_call 78; refine S.out.mono ?_; rintro e w5 ⟨rfl, hb5⟩)
          go_ret
          rw [HF.out]
          exact ⟨rfl, hN.trans (hb5.mono hN.size)⟩
        · rw [hr] at S
          have HF := Lib.hid (hyes hr)
          replace S := Lib.hid S
          clear hno hyes hr
          go_wp2_with (go_at_call 78; refine S.out.mono ?_; rintro e w5 ⟨rfl, hb5⟩)
          go_roundw
          case rel => exact ⟨k + 1, by omega, by go_num, HF, hbl.trans (hb5.mono hbl.size)⟩
          case measure => (simp [intOf]; try omega)
      · obtain rfl : k = x.length := by omega
        have HF := Lib.hid (HS.out.trans (rowsS_yes hall.out))
        go_wp2
        go_ret
        rw [HF.out]
        exact ⟨rfl, hN⟩
  · have HS := Lib.hid hs
    clear hs hxr hyr HA HB
    rcases h with h | ⟨h, h2⟩ | ⟨h, h2, h3⟩ | ⟨h, h2, h3, h4⟩ | ⟨h, h2, h3, h4, h5⟩
    all_goals
      go_enter Tryd.func24, Tryd.ntmps24
      go_wp2
      go_ret
      rw [HS.out]
      exact ⟨rfl, hb0⟩
end Go.Proofs.YtcdecnmhogmhaaaDoor
set_option linter.unusedVariables false
set_option linter.unusedSimpArgs false
namespace Go.Proofs.YtcdecnmhogmhaaaDoor
open Go.RowKit
theorem own_ne_kind {w : World} {B n size b : Nat} {e T : TypeId} {v : Value} {xs : List Value} {cs : Array Value} {fr : Nat × Nat} (h : w.ownsRow B e size v n xs) (hb : w.heap[b]? = some (.cells cs T fr)) (hT : T ≠ e) : v.ownBlock ≠ some b := by
  rcases h.2 with ⟨rfl, _⟩ | ⟨g, cap, cur, rfl, _, hg, _⟩
  · simp [Value.ownBlock]
  · intro e'
    obtain rfl : g = b := by simpa [Value.ownBlock] using e'
    rw [hg] at hb; simp at hb; exact hT hb.2.1.symm
theorem own_ne_own {w : World} {B B' n n' size size' : Nat} {e e' : TypeId} {v v' : Value} {xs xs' : List Value} (h : w.ownsRow B e size v n xs) (h' : w.ownsRow B' e' size' v' n' xs') (hT : e ≠ e') : v.ownBlock = none ∨ v.ownBlock ≠ v'.ownBlock := by
  rcases h.2 with ⟨rfl, _⟩ | ⟨g, cap, cur, rfl, _, hg, _⟩
  · exact .inl rfl
  · exact .inr fun e'' => own_ne_kind h' hg hT e''.symm
theorem own_set {w : World} {B n size : Nat} {e : TypeId} {v : Value} {xs : List Value} (h : w.ownsRow B e size v n xs) {a : Addr} (ha : v.ownBlock ≠ some a.block) (u : Value) : (w.setCell a u).ownsRow B e size v n xs := by
  refine ⟨h.1, ?_⟩
  rcases h.2 with h2 | ⟨g, cap, cur, rfl, hB, hg, r⟩
  · exact .inl h2
  · exact .inr ⟨g, cap, cur, rfl, hB, by rw [Below.heap_setCell _ _ _ _ (fun e => ha (by rw [← e]; rfl))]; exact hg, r⟩
/-- Rows of cells of the call's own, behind the variable q: v holds them all, vy the last one. -/
structure LayM (w : World) (B q : Nat) (v vy : Value) (vs : List Value) (X : List (List Cl)) (y : List Cl) : Prop where
  var : w.heap[q]? = some (.cells #[v] 26 (0, 0))
  len : vs.length = X.length
  out : w.ownsRow B 36 1 v (X.length + 1) (vs ++ [vy])
  last : ownC w B vy y
  old : ∀ i, i < X.length → ∃ u, vs[i]? = some u ∧ ownC w B u (X.getD i []) ∧ (u.ownBlock = none ∨ u.ownBlock ≠ vy.ownBlock)
/-- What putting into rows leaves as it was. -/
structure PutK (B : Nat) (w w' : World) : Prop where
  below : Below B w w'
  kind : ∀ (k : Nat) (cs : Array Value) (T : TypeId) (fr : Nat × Nat), w.heap[k]? = some (.cells cs T fr) → T ≠ 26 → T ≠ 36 → T ≠ 51 → w'.heap[k]? = w.heap[k]?
theorem PutK.refl {B : Nat} (w : World) : PutK B w w := ⟨Below.refl _ _, fun _ _ _ _ _ _ _ _ => rfl⟩
theorem PutK.trans {B : Nat} {w w' w'' : World} (h : PutK B w w') (h' : PutK B w' w'') : PutK B w w'' :=
  ⟨h.below.trans h'.below, fun k cs T fr hk h1 h2 h3 => by
    have e := h.kind k cs T fr hk h1 h2 h3
    exact (h'.kind k cs T fr (e.trans hk) h1 h2 h3).trans e⟩
theorem PutK.alloc {B : Nat} {w w' : World} (h : PutK B w w') (hB : B ≤ w'.heap.size) (o : Obj) : PutK B w (w'.alloc o) :=
  h.trans ⟨(Below.refl _ _).alloc hB o, fun k cs T fr hk _ _ _ => Below.heap_alloc _ _ _ (blk_lt hk)⟩
theorem PutK.drew {B : Nat} {w w' : World} (h : PutK B w w') : PutK B w w'.drew := ⟨h.below.drew, h.kind⟩
theorem PutK.own {B B' n size : Nat} {e : TypeId} {v : Value} {xs : List Value} {w w' : World} (h : PutK B w w') (ho : w.ownsRow B' e size v n xs) (h1 : e ≠ 26) (h2 : e ≠ 36) (h3 : e ≠ 51) : w'.ownsRow B' e size v n xs := by
  refine ⟨ho.1, ?_⟩
  rcases ho.2 with h0 | ⟨g, cap, cur, rfl, hB, hg, r⟩
  · exact .inl h0
  · exact .inr ⟨g, cap, cur, rfl, hB, (h.kind g cur e _ hg h1 h2 h3).trans hg, r⟩
theorem PutK.cell {B : Nat} {w w' : World} (h : PutK B w w') {k : Nat} {cs : Array Value} {T : TypeId} {fr : Nat × Nat} (hk : w.heap[k]? = some (.cells cs T fr)) (h1 : T ≠ 26) (h2 : T ≠ 36) (h3 : T ≠ 51) : w'.heap[k]? = some (.cells cs T fr) := (h.kind k cs T fr hk h1 h2 h3).trans hk
theorem PutK.grown {B n size : Nat} {e : TypeId} {v : Value} {xs : List Value} {w w' w'' : World} (h : PutK B w w') (hB : B ≤ w'.heap.size) (ho : w'.ownsRow B e size v n xs) (hg : w'.grownBy w'' v.ownBlock) (he : e = 36 ∨ e = 51) : PutK B w w'' :=
  h.trans ⟨(Below.refl _ _).grown hg hB (fun k hk => (ho.lt k hk).1), fun k cs T fr hk h1 h2 h3 => hg.block k (blk_lt hk) (fun e' => own_ne_kind ho hk (by rcases he with rfl | rfl <;> assumption) e'.symm)⟩
theorem PutK.set {B : Nat} {w w' : World} (h : PutK B w w') {a : Addr} {cs : Array Value} {T : TypeId} {fr : Nat × Nat} (ha : B ≤ a.block) (hb : w'.heap[a.block]? = some (.cells cs T fr)) (hT : T = 26 ∨ T = 36 ∨ T = 51) (u : Value) : PutK B w (w'.setCell a u) :=
  h.trans ⟨(Below.refl _ _).setCell ha u, fun k cs' T' fr' hk h1 h2 h3 => Below.heap_setCell _ _ _ _ (fun e => by
    rw [e, hb] at hk; simp at hk
    rcases hT with e | e | e
    · exact h1 (hk.2.1 ▸ e)
    · exact h2 (hk.2.1 ▸ e)
    · exact h3 (hk.2.1 ▸ e))⟩
theorem LayM.alloc {w : World} {B q : Nat} {v vy : Value} {vs : List Value} {X : List (List Cl)} {y : List Cl} (h : LayM w B q v vy vs X y) (o : Obj) : LayM (w.alloc o) B q v vy vs X y :=
  ⟨(Below.heap_alloc _ _ _ (blk_lt h.var)).trans h.var, h.len, h.out.alloc o, h.last.alloc o, fun i hi => by
    obtain ⟨u, h1, h2, h3⟩ := h.old i hi
    exact ⟨u, h1, h2.alloc o, h3⟩⟩
theorem LayM.drew {w : World} {B q : Nat} {v vy : Value} {vs : List Value} {X : List (List Cl)} {y : List Cl} (h : LayM w B q v vy vs X y) : LayM w.drew B q v vy vs X y := ⟨h.var, h.len, h.out, h.last, h.old⟩
theorem LayM.form {w : World} {B q : Nat} {v vy : Value} {vs : List Value} {X : List (List Cl)} {y : List Cl} (h : LayM w B q v vy vs X y) : ∃ g cap, v = .slice (some ⟨g, 0, none⟩) (X.length + 1) cap ∧ B ≤ g ∧ g < w.heap.size ∧ w.cell? ⟨g, X.length, none⟩ = some vy ∧ w.frozen? ⟨g, X.length, none⟩ = false := by
  obtain ⟨g, cap, rfl, h1, h2⟩ := h.out.form (by omega)
  refine ⟨g, cap, rfl, h1, h2, ?_, h.out.frozenAt _⟩
  rw [h.out.cellAt X.length (by omega), ← h.len, List.getElem?_append_right (Nat.le_refl _), Nat.sub_self]; rfl
theorem LayM.cells {w : World} {B q : Nat} {v vy : Value} {vs : List Value} {X : List (List Cl)} {y : List Cl} (h : LayM w B q v vy vs X y) : w.cell? ⟨q, 0, none⟩ = some v ∧ w.frozen? ⟨q, 0, none⟩ = false := by
  refine ⟨?_, frozen_of_row w q 0 _ _ h.var⟩
  rw [cell_of_row _ _ _ _ _ _ h.var]; rfl
theorem LayM.set {w : World} {B q : Nat} {v vy : Value} {vs : List Value} {X : List (List Cl)} {y : List Cl} (h : LayM w B q v vy vs X y) {a : Addr} {cs : Array Value} {T : TypeId} {fr : Nat × Nat} (hb : w.heap[a.block]? = some (.cells cs T fr)) (h1 : T ≠ 26) (h2 : T ≠ 36) (h3 : T ≠ 51) (u : Value) : LayM (w.setCell a u) B q v vy vs X y :=
  ⟨(Below.heap_setCell _ _ _ _ (fun e => by rw [← e, h.var] at hb; simp at hb; exact h1 hb.2.1.symm)).trans h.var, h.len, own_set h.out (own_ne_kind h.out hb h2) _, own_set h.last (own_ne_kind h.last hb h3) _, fun i hi => by
    obtain ⟨x, g1, g2, g3⟩ := h.old i hi
    exact ⟨x, g1, own_set g2 (own_ne_kind g2 hb h3) _, g3⟩⟩
theorem PutK.fresh {B : Nat} {w w' : World} (h : PutK B w w') (hB : B ≤ w.heap.size) {a : Addr} (ha : w.heap.size ≤ a.block) (u : Value) : PutK B w (w'.setCell a u) :=
  ⟨h.below.setCell (Nat.le_trans hB ha) u, fun k cs T fr hk h1 h2 h3 => (Below.heap_setCell _ _ _ _ (fun e => by have := blk_lt hk; omega)).trans (h.kind k cs T fr hk h1 h2 h3)⟩
/-- A new last row. -/
theorem LayM.fresh {w w1 : World} {B q : Nat} {v v' vy : Value} {vs : List Value} {X : List (List Cl)} {y : List Cl} (h : LayM w B q v vy vs X y) (ho : w1.ownsRow B 36 1 v' (X.length + 1 + 1) ((vs ++ [vy]) ++ [.slice none 0 0])) (hg : w.grownBy w1 v.ownBlock) :
    LayM (w1.setCell ⟨q, 0, none⟩ v') B q v' (.slice none 0 0) (vs ++ [vy]) (X ++ [y]) [] := by
  have hq : w1.heap[q]? = some (.cells #[v] 26 (0, 0)) := (hg.block q (blk_lt h.var) (fun e => own_ne_kind h.out h.var (by decide) e.symm)).trans h.var
  have keep : ∀ {u : Value} {L : List Cl}, ownC w B u L → ownC (w1.setCell ⟨q, 0, none⟩ v') B u L := fun {u L} hu => by
    have h1 : ownC w1 B u L := World.ownsRow.kept hu hg (own_ne_own hu h.out (by decide))
    exact own_set h1 (own_ne_kind h1 hq (by decide)) _
  refine ⟨?_, by simp [h.len], ?_, World.ownsRow_nil _ _ _ _, fun i hi => ?_⟩
  · have := blk_set hq (0 : Nat) v'
    simpa using this
  · have := own_set ho (own_ne_kind ho hq (by decide) : v'.ownBlock ≠ some (⟨q, 0, none⟩ : Addr).block) v'
    simpa using this
  · rcases Nat.lt_or_ge i X.length with hi' | hi'
    · obtain ⟨u, h1, h2, h3⟩ := h.old i hi'
      refine ⟨u, by rw [List.getElem?_append_left (by rw [h.len]; exact hi')]; exact h1, ?_, ?_⟩
      · rw [List.getD, List.getElem?_append_left hi']; exact keep h2
      · rcases hu : u.ownBlock with _ | k
        · exact .inl rfl
        · exact .inr (by simp [Value.ownBlock])
    · obtain rfl : i = X.length := by simp at hi; omega
      refine ⟨vy, by rw [← h.len, List.getElem?_append_right (Nat.le_refl _), Nat.sub_self]; rfl, ?_, ?_⟩
      · rw [List.getD, List.getElem?_append_right (Nat.le_refl _), Nat.sub_self]; exact keep h.last
      · rcases hu : vy.ownBlock with _ | k
        · exact .inl rfl
        · exact .inr (by simp [Value.ownBlock])
/-- More cells in the last row. -/
theorem LayM.more {w w1 : World} {B q g cap gy capy : Nat} {vy : Value} {vs : List Value} {X : List (List Cl)} {y p : List Cl} (h : LayM w B q (.slice (some ⟨g, 0, none⟩) (X.length + 1) cap) vy vs X y)
    (ho : ownC w1 B (.slice (some ⟨gy, 0, none⟩) (y ++ p).length capy) (y ++ p)) (hg : w.grownBy w1 vy.ownBlock) (hat : vy.ownBlock = some gy ∨ gy = w.heap.size) :
    LayM (w1.setCell ⟨g, X.length, none⟩ (.slice (some ⟨gy, 0, none⟩) (y ++ p).length capy)) B q (.slice (some ⟨g, 0, none⟩) (X.length + 1) cap) (.slice (some ⟨gy, 0, none⟩) (y ++ p).length capy) vs X (y ++ p) := by
  have hq : w1.heap[q]? = some (.cells #[.slice (some ⟨g, 0, none⟩) (X.length + 1) cap] 26 (0, 0)) := (hg.block q (blk_lt h.var) (fun e => own_ne_kind h.last h.var (by decide) e.symm)).trans h.var
  have hout := h.out.kept hg (own_ne_own h.out h.last (by decide))
  have hgq : g ≠ q := fun e => own_ne_kind hout hq (by decide) (by rw [← e]; rfl)
  refine ⟨?_, h.len, ?_, ?_, fun i hi => ?_⟩
  · rw [Below.heap_setCell _ _ _ _ (fun e => hgq e.symm)]; exact hq
  · have := hout.stored X.length (.slice (some ⟨gy, 0, none⟩) (y ++ p).length capy)
    have e : (vs ++ [vy]).set X.length (.slice (some ⟨gy, 0, none⟩) (y ++ p).length capy) = vs ++ [.slice (some ⟨gy, 0, none⟩) (y ++ p).length capy] := by
      rw [← h.len, List.set_append_right _ _ (Nat.le_refl _), Nat.sub_self]; rfl
    rw [e] at this
    exact this.1
  · refine own_set ho ?_ _
    have := own_ne_own ho hout (by decide)
    rcases this with e | e
    · rw [e]; simp
    · exact e
  · obtain ⟨u, h1, h2, h3⟩ := h.old i hi
    have k1 : ownC w1 B u (X.getD i []) := World.ownsRow.kept h2 hg h3
    refine ⟨u, h1, own_set k1 ?_ _, ?_⟩
    · rcases own_ne_own k1 hout (by decide) with e | e
      · rw [e]; simp
      · exact e
    · rcases hat with e | e
      · rcases h3 with h3 | h3
        · exact .inl h3
        · exact .inr (by rw [e] at h3; exact h3)
      · rcases hu : u.ownBlock with _ | k
        · exact .inl rfl
        · right
          have := (World.ownsRow.lt h2 k hu).2
          simp [Value.ownBlock]; omega
end Go.Proofs.YtcdecnmhogmhaaaDoor
set_option linter.unusedVariables false
set_option linter.unusedSimpArgs false
namespace Go.Proofs.YtcdecnmhogmhaaaDoor
open Go.RowKit
theorem sp_step (L : List Cl) (w : Int) (k : Nat) : spS L w (k + 1) = if spSkip L w k = true then ((spS L w k).1 ++ [(spS L w k).1.getD (k - 1) (0, 0)], (spS L w k).2)
    else if spNew L w k (spS L w k).2.2 = true then ((spS L w k).1 ++ [((spS L w k).2.1 + 1, 0)], (spS L w k).2.1 + 1, 1)
    else ((spS L w k).1 ++ [((spS L w k).2.1, (spS L w k).2.2)], (spS L w k).2.1, (spS L w k).2.2 + 1) := rfl
theorem getD_app {α : Type} (a b : List α) (d : α) (j : Nat) (h : j < a.length) : (a ++ b).getD j d = a.getD j d := by simp [List.getD, List.getElem?_append_left h]
theorem getD_end {α : Type} (a : List α) (x d : α) : (a ++ [x]).getD a.length d = x := by simp [List.getD]
theorem sp_keep (L : List Cl) (w : Int) (k j : Nat) (h : j < k) : (spS L w (k + 1)).1.getD j (0, 0) = (spS L w k).1.getD j (0, 0) := by
  have hl := spS_len L w k
  rw [sp_step]
  split
  · exact getD_app _ _ _ _ (by omega)
  · split <;> exact getD_app _ _ _ _ (by omega)
theorem sp_keeps (L : List Cl) (w : Int) (k j : Nat) (h : j < k) : ∀ n, (spS L w (k + n)).1.getD j (0, 0) = (spS L w k).1.getD j (0, 0)
  | 0 => rfl
  | n + 1 => (sp_keep L w (k + n) j (by omega)).trans (sp_keeps L w k j h n)
theorem spAll_at (L : List Cl) (w : Int) (k j : Nat) (h : j < k) (hk : k ≤ L.length) : (spAll L w).getD j (0, 0) = (spS L w k).1.getD j (0, 0) := by
  unfold spAll
  rw [getD_app _ _ _ _ (by rw [spS_len]; omega)]
  have := sp_keeps L w k j h (L.length - k)
  rwa [show k + (L.length - k) = L.length by omega] at this
theorem sp_low (L : List Cl) (w : Int) : ∀ k j, j < k → ((spS L w k).1.getD j (0, 0)).1 ≤ (spS L w k).2.1
  | 0, j, h => absurd h (by omega)
  | k + 1, j, h => by
    have hl := spS_len L w k
    have hmono : (spS L w k).2.1 ≤ (spS L w (k + 1)).2.1 := by
      rw [sp_step]; split
      · exact Int.le_refl _
      · split
        · show (spS L w k).2.1 ≤ (spS L w k).2.1 + 1; omega
        · exact Int.le_refl _
    by_cases hj : j < k
    · rw [sp_keep L w k j hj]; exact Int.le_trans (sp_low L w k j hj) hmono
    · obtain rfl : j = k := by omega
      rw [sp_step]
      have e : ∀ x, ((spS L w j).1 ++ [x]).getD j (0, 0) = x := fun x => by
        have := getD_end (spS L w j).1 x (0, 0); rwa [hl] at this
      split
      · rw [e]
        rcases Nat.eq_zero_or_pos j with h0 | h0
        · subst h0; simp [spS]
        · exact sp_low L w j (j - 1) (by omega)
      · split
        · rw [e]; exact Int.le_refl _
        · rw [e]; exact Int.le_refl _
theorem rwS_none (L : List Cl) (w : Int) (k : Nat) (hk : k ≤ L.length) (r : Int) (h : (spS L w k).2.1 < r) : rwS L w r k = [] := by
  unfold rwS
  rw [List.flatMap_eq_nil_iff]
  intro j hj
  rw [List.mem_range] at hj
  unfold rwO
  rw [if_pos]
  rw [spAll_at L w k j hj hk]
  have := sp_low L w k j hj
  omega
/-- What the cell at k is in its row. -/
def rwC (L : List Cl) (w : Int) (k : Nat) : Cl := if w = 1 ∧ k + 1 < L.length ∧ (L.getD (k + 1) cl0).1 = -1 then (35, (L.getD k cl0).2) else L.getD k cl0
theorem rwS_at (L : List Cl) (w r p : Int) (k : Nat) (h1 : ((spAll L w).getD k (0, 0)).1 = p) (h2 : ¬ (w = 1 ∧ (L.getD k cl0).1 = -1)) : rwS L w r (k + 1) = rwS L w r k ++ if p = r then [rwC L w k] else [] := by
  rw [rwS_succ]
  congr 1
  unfold rwO rwC
  rw [h1, if_neg h2]
  by_cases h : p = r
  · rw [if_neg (by simpa using h), if_pos h]; split <;> rfl
  · rw [if_pos (by simpa using h), if_neg h]
/-- Cells laid so far: the rows before the last one, the last one, and the places. -/
structure LyI (L : List Cl) (w : Int) (k : Nat) (X : List (List Cl)) (y : List Cl) (S : List (Int × Int)) : Prop where
  row : (spS L w k).2.1 = X.length
  col : (spS L w k).2.2 = y.length
  old : ∀ r, r < X.length → X.getD r [] = rwS L w r k
  last : y = rwS L w X.length k
  pl : S = (spS L w k).1
  fit : (y.length : Int) ≤ w
  fits : ∀ r, r < X.length → ((X.getD r []).length : Int) ≤ w
theorem LyI.start (L : List Cl) (w : Int) (hw : 1 ≤ w) : LyI L w 0 [] [] [] := ⟨rfl, rfl, fun r h => absurd h (by simp), rfl, rfl, by simp; omega, fun r h => absurd h (by simp)⟩
/-- The rows before the last one, and the last one, when a piece of n cells comes. -/
def lyX (w : Int) (X : List (List Cl)) (y : List Cl) (n : Int) : List (List Cl) := if w < y.length + n then X ++ [y] else X
def lyY (w : Int) (y : List Cl) (n : Int) : List Cl := if w < y.length + n then [] else y
theorem LyI.cell {L : List Cl} {w : Int} {k : Nat} {X : List (List Cl)} {y : List Cl} {S : List (Int × Int)} (h : LyI L w k X y S) (hw : 1 ≤ w) (hk : k < L.length) (hv : (L.getD k cl0).1 ≠ -1) (hn : spN L w k ≤ w) :
    LyI L w (k + 1) (lyX w X y (spN L w k)) (lyY w y (spN L w k) ++ [rwC L w k]) (S ++ [(((lyX w X y (spN L w k)).length : Int), ((lyY w y (spN L w k)).length : Int))]) := by
  have hn1 : 1 ≤ spN L w k := by unfold spN; split <;> omega
  have hskip : spSkip L w k = false := by unfold spSkip; rw [decide_eq_false hv]; rfl
  have hnew : spNew L w k (spS L w k).2.2 = decide (w < y.length + spN L w k) := by unfold spNew; rw [decide_eq_true hv, Bool.true_and, h.col]
  have hst := sp_step L w k
  rw [if_neg (by rw [hskip]; simp), hnew, h.row, h.col, ← h.pl] at hst
  have hat : ∀ p, (spS L w (k + 1)).1 = S ++ [p] → ((spAll L w).getD k (0, 0)) = p := fun p e => by
    rw [spAll_at L w (k + 1) k (by omega) (by omega), e]
    have := getD_end S p (0, 0)
    rwa [h.pl, spS_len, ← h.pl] at this
  have h2 : ¬ (w = 1 ∧ (L.getD k cl0).1 = -1) := fun h => hv h.2
  by_cases hb : w < y.length + spN L w k
  · rw [decide_eq_true hb, if_pos rfl] at hst
    have ex : lyX w X y (spN L w k) = X ++ [y] := by unfold lyX; rw [if_pos hb]
    have ey : lyY w y (spN L w k) = [] := by unfold lyY; rw [if_pos hb]
    rw [ex, ey]
    have ha := hat _ (by rw [hst])
    have hS := fun r => rwS_at L w r _ k (by rw [ha]) h2
    have hlen : ((X ++ [y]).length : Int) = X.length + 1 := by simp
    refine ⟨by rw [hst, hlen], by rw [hst]; simp, fun r hr => ?_, ?_, by rw [hst, hlen]; simp, by simp; omega, fun r hr => ?_⟩
    · rw [hS, if_neg (by simp at hr; omega), List.append_nil]
      rcases Nat.lt_or_ge r X.length with h' | h'
      · rw [getD_app _ _ _ _ h']; exact h.old r h'
      · obtain rfl : r = X.length := by simp at hr; omega
        rw [getD_end]; exact h.last
    · rw [hlen, hS, if_pos rfl, rwS_none L w k (by omega) _ (by rw [h.row]; omega)]
    · rcases Nat.lt_or_ge r X.length with h' | h'
      · rw [getD_app _ _ _ _ h']; exact h.fits r h'
      · obtain rfl : r = X.length := by simp at hr; omega
        rw [getD_end]; exact h.fit
  · rw [decide_eq_false hb, if_neg (by simp)] at hst
    have ex : lyX w X y (spN L w k) = X := by unfold lyX; rw [if_neg hb]
    have ey : lyY w y (spN L w k) = y := by unfold lyY; rw [if_neg hb]
    rw [ex, ey]
    have ha := hat _ (by rw [hst])
    have hS := fun r => rwS_at L w r _ k (by rw [ha]) h2
    refine ⟨by rw [hst], by rw [hst]; simp, fun r hr => ?_, ?_, by rw [hst], by simp; omega, h.fits⟩
    · rw [hS, if_neg (by omega), List.append_nil]; exact h.old r hr
    · rw [hS, if_pos rfl, ← h.last]
theorem LyI.right {L : List Cl} {w : Int} {k : Nat} {X : List (List Cl)} {y : List Cl} {S : List (Int × Int)} (h : LyI L w k X y S) (hk : k < L.length) (hv : (L.getD k cl0).1 = -1) (hw : 1 < w) (hf : (y.length : Int) + 1 ≤ w) :
    LyI L w (k + 1) X (y ++ [L.getD k cl0]) (S ++ [((X.length : Int), (y.length : Int))]) := by
  have hskip : spSkip L w k = false := by unfold spSkip; rw [decide_eq_false (show ¬ w = 1 by omega), Bool.and_false]
  have hnew : ∀ c, spNew L w k c = false := fun c => by unfold spNew; rw [decide_eq_false (by simpa using hv), Bool.false_and]
  have hst := sp_step L w k
  rw [if_neg (by rw [hskip]; simp), hnew, if_neg (by simp), h.row, h.col, ← h.pl] at hst
  have ha : ((spAll L w).getD k (0, 0)) = ((X.length : Int), (y.length : Int)) := by
    rw [spAll_at L w (k + 1) k (by omega) (by omega), hst]
    have := getD_end S ((X.length : Int), (y.length : Int)) (0, 0)
    rwa [h.pl, spS_len, ← h.pl] at this
  have hS := fun r => rwS_at L w r _ k (by rw [ha]) (fun h => by omega)
  have hc : rwC L w k = L.getD k cl0 := by unfold rwC; rw [if_neg (fun h => by omega)]
  refine ⟨by rw [hst], by rw [hst]; simp, fun r hr => ?_, ?_, by rw [hst], by simp; omega, h.fits⟩
  · rw [hS, if_neg (by omega), List.append_nil]; exact h.old r hr
  · rw [hS, if_pos rfl, hc, ← h.last]
theorem LyI.skip {L : List Cl} {w : Int} {k : Nat} {X : List (List Cl)} {y : List Cl} {S : List (Int × Int)} (h : LyI L w k X y S) (hk : k < L.length) (hv : (L.getD k cl0).1 = -1) (hw : w = 1) :
    LyI L w (k + 1) X y (S ++ [S.getD (k - 1) (0, 0)]) := by
  have hskip : spSkip L w k = true := by unfold spSkip; rw [decide_eq_true hw, decide_eq_true hv]; rfl
  have hst := sp_step L w k
  rw [if_pos hskip, ← h.pl] at hst
  have hO : ∀ r, rwO L w r k = [] := fun r => by unfold rwO; split; rfl; rw [if_pos ⟨hw, hv⟩]
  refine ⟨by rw [hst]; exact h.row, by rw [hst]; exact h.col, fun r hr => ?_, ?_, by rw [hst], h.fit, h.fits⟩
  · rw [rwS_succ, hO, List.append_nil]; exact h.old r hr
  · rw [rwS_succ, hO, List.append_nil]; exact h.last
/-- One sign of one column. -/
theorem LyI.one {L : List Cl} {w : Int} {k : Nat} {X : List (List Cl)} {y : List Cl} {S : List (Int × Int)} (h : LyI L w k X y S) (hw : 1 ≤ w) (hk : k < L.length) (hv : (L.getD k cl0).1 ≠ -1) (hr : k + 1 < L.length → (L.getD (k + 1) cl0).1 ≠ -1) :
    LyI L w (k + 1) (lyX w X y 1) (lyY w y 1 ++ [L.getD k cl0]) (S ++ [(((lyX w X y 1).length : Int), ((lyY w y 1).length : Int))]) := by
  have e : spN L w k = 1 := by unfold spN; rw [if_neg (fun h => hr h.1 h.2.1)]
  have c : rwC L w k = L.getD k cl0 := by unfold rwC; rw [if_neg (fun h => hr h.2.1 h.2.2)]
  have := h.cell hw hk hv (by rw [e]; exact hw)
  rwa [e, c] at this
/-- One sign of two columns. -/
theorem LyI.two {L : List Cl} {w : Int} {k : Nat} {X : List (List Cl)} {y : List Cl} {S : List (Int × Int)} (h : LyI L w k X y S) (hw : 1 < w) (hk : k + 1 < L.length) (hv : (L.getD k cl0).1 ≠ -1) (hr : (L.getD (k + 1) cl0).1 = -1) :
    LyI L w (k + 2) (lyX w X y 2) (lyY w y 2 ++ [L.getD k cl0, L.getD (k + 1) cl0]) (S ++ [(((lyX w X y 2).length : Int), ((lyY w y 2).length : Int)), (((lyX w X y 2).length : Int), ((lyY w y 2).length : Int) + 1)]) := by
  have e : spN L w k = 2 := by unfold spN; rw [if_pos ⟨hk, hr, hw⟩]
  have c : rwC L w k = L.getD k cl0 := by unfold rwC; rw [if_neg (fun h => by omega)]
  have h1 := h.cell (by omega) (by omega) hv (by rw [e]; exact hw)
  rw [e, c] at h1
  have hy : ((lyY w y 2).length : Int) + 2 ≤ w := by unfold lyY; split <;> (try simp) <;> omega
  have h2 := h1.right hk hr hw (by simp; omega)
  simpa using h2
/-- A sign of two columns in a width of one. -/
theorem LyI.narrow {L : List Cl} {w : Int} {k : Nat} {X : List (List Cl)} {y : List Cl} {S : List (Int × Int)} (h : LyI L w k X y S) (hw : w = 1) (hk : k + 1 < L.length) (hv : (L.getD k cl0).1 ≠ -1) (hr : (L.getD (k + 1) cl0).1 = -1) :
    LyI L w (k + 2) (lyX w X y 1) (lyY w y 1 ++ [(35, (L.getD k cl0).2)]) (S ++ [(((lyX w X y 1).length : Int), ((lyY w y 1).length : Int)), (((lyX w X y 1).length : Int), ((lyY w y 1).length : Int))]) := by
  have e : spN L w k = 1 := by unfold spN; rw [if_neg (fun h => by omega)]
  have c : rwC L w k = (35, (L.getD k cl0).2) := by unfold rwC; rw [if_pos ⟨hw, hk, hr⟩]
  have hS : S.length = k := by rw [h.pl, spS_len]
  have h1 := h.cell (by omega) (by omega) hv (by rw [e]; omega)
  rw [e, c] at h1
  have h2 := h1.skip hk hr hw
  rw [Nat.add_sub_cancel] at h2
  have := getD_end S ((((lyX w X y 1).length : Int), ((lyY w y 1).length : Int))) (0, 0)
  rw [hS] at this
  rw [this, List.append_assoc] at h2
  exact h2
/-- All rows. -/
def lyRows (L : List Cl) (w : Int) : List (List Cl) := (List.range (((spAll L w).getD L.length (0, 0)).1.toNat + 1)).map fun (r : Nat) => rwS L w (r : Int) L.length
theorem ext_getDD {α : Type} (d : α) {a b : List α} (h : a.length = b.length) (e : ∀ i, i < a.length → a.getD i d = b.getD i d) : a = b :=
  List.ext_getElem h fun i h1 h2 => by have := e i h1; simpa [List.getD, List.getElem?_eq_getElem h1, List.getElem?_eq_getElem h2] using this
theorem lyRows_len (L : List Cl) (w : Int) : (lyRows L w).length = ((spAll L w).getD L.length (0, 0)).1.toNat + 1 := by unfold lyRows; rw [List.length_map, List.length_range]
theorem lyRows_at (L : List Cl) (w : Int) (i : Nat) (h : i < (lyRows L w).length) : (lyRows L w).getD i [] = rwS L w i L.length := by
  rw [lyRows_len] at h
  unfold lyRows
  rw [List.getD, List.getElem?_map, List.getElem?_range h]; rfl
theorem LyI.full {L : List Cl} {w : Int} {X : List (List Cl)} {y : List Cl} {S : List (Int × Int)} (h : LyI L w L.length X y S) (hf : (y.length : Int) = w) : X ++ [y] ++ [[]] = lyRows L w ∧ S ++ [((X.length : Int) + 1, 0)] = spAll L w := by
  have hs : spAll L w = S ++ [((X.length : Int) + 1, 0)] := by unfold spAll; rw [h.col, h.row, if_pos hf, ← h.pl]
  refine ⟨?_, hs.symm⟩
  have hS : S.length = L.length := by rw [h.pl, spS_len]
  have e : (spAll L w).getD L.length (0, 0) = ((X.length : Int) + 1, 0) := by rw [hs, ← hS]; exact getD_end _ _ _
  have hl : (X ++ [y] ++ [[]]).length = (lyRows L w).length := by rw [lyRows_len, e]; simp
  refine ext_getDD [] hl fun i hi => ?_
  rw [lyRows_at L w i (by omega)]
  rcases Nat.lt_trichotomy i X.length with h' | h' | h'
  · rw [getD_app _ _ _ _ (by simp; omega), getD_app _ _ _ _ h']; exact h.old i h'
  · subst h'; rw [getD_app _ _ _ _ (by simp), getD_end]; exact h.last
  · obtain rfl : i = (X ++ [y]).length := by simp at hi ⊢; omega
    rw [getD_end, rwS_none L w L.length (Nat.le_refl _) _ (by rw [h.row]; simp; omega)]
theorem LyI.rest {L : List Cl} {w : Int} {X : List (List Cl)} {y : List Cl} {S : List (Int × Int)} (h : LyI L w L.length X y S) (hf : (y.length : Int) ≠ w) : X ++ [y] = lyRows L w ∧ S ++ [((X.length : Int), (y.length : Int))] = spAll L w := by
  have hs : spAll L w = S ++ [((X.length : Int), (y.length : Int))] := by unfold spAll; rw [h.col, h.row, if_neg hf, ← h.pl, ← h.row, ← h.col]
  refine ⟨?_, hs.symm⟩
  have hS : S.length = L.length := by rw [h.pl, spS_len]
  have e : (spAll L w).getD L.length (0, 0) = ((X.length : Int), (y.length : Int)) := by rw [hs, ← hS]; exact getD_end _ _ _
  have hl : (X ++ [y]).length = (lyRows L w).length := by rw [lyRows_len, e]; simp
  refine ext_getDD [] hl fun i hi => ?_
  rw [lyRows_at L w i (by omega)]
  rcases Nat.lt_or_ge i X.length with h' | h'
  · rw [getD_app _ _ _ _ h']; exact h.old i h'
  · obtain rfl : i = X.length := by simp at hi; omega
    rw [getD_end]; exact h.last
theorem LyI.fit_all {L : List Cl} {w : Int} {k : Nat} {X : List (List Cl)} {y : List Cl} {S : List (Int × Int)} (h : LyI L w k X y S) : ∀ r ∈ X ++ [y], (r.length : Int) ≤ w := by
  intro r hr
  rcases List.mem_append.1 hr with h' | h'
  · obtain ⟨i, hi, rfl⟩ := List.getElem_of_mem h'
    have := h.fits i hi
    simpa [List.getD, List.getElem?_eq_getElem hi] using this
  · obtain rfl : r = y := by simpa using h'
    exact h.fit
end Go.Proofs.YtcdecnmhogmhaaaDoor
