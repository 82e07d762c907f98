/-
  view: finding in cells; what they say; counting.
-/
import Derived.Test.YtfhcfamjlhmgiaaDoorV0
set_option linter.unusedVariables false
set_option linter.unusedSimpArgs false
namespace Go.Proofs.YtfhcfamjlhmgiaaDoor
set_option maxRecDepth 100000
open Go.RowKit
/-- Where the first cell of i or of one behind it stands. -/
def fstM (L : List Cl) (i : Int) : Nat := L.findIdx fun c => decide (i ≤ c.2.2.1)
theorem fstM_at {L : List Cl} {i : Int} {k : Nat} (hk : k < L.length) (h1 : i ≤ (L.getD k cl0).2.2.1) (h : ∀ j, j < k → (L.getD j cl0).2.2.1 < i) : fstM L i = k := by
  unfold fstM
  rw [List.findIdx_eq hk]
  refine ⟨?_, fun j hj => ?_⟩
  · rw [List.getD, List.getElem?_eq_getElem hk] at h1; exact decide_eq_true h1
  · have := h j hj
    rw [List.getD, List.getElem?_eq_getElem (by omega)] at this
    exact decide_eq_false (by simpa using this)
theorem fstM_none {L : List Cl} {i : Int} (h : ∀ j, j < L.length → (L.getD j cl0).2.2.1 < i) : fstM L i = L.length := by
  unfold fstM
  rw [List.findIdx_eq_length]
  intro x hx
  obtain ⟨j, hj, rfl⟩ := List.getElem_of_mem hx
  have := h j hj
  rw [List.getD, List.getElem?_eq_getElem hj] at this
  exact decide_eq_false (by simpa using this)
theorem vfinder_any (i : Int) (w : World) :
    Calls Tryd.prog 73 #[.int .i64 i] w fun e w' => e = .returned (.func (.func 104) #[] #[.pointer (some ⟨w.heap.size, 0, none⟩)]) ∧ w' = w.alloc (.cells #[.int .i64 i] 3) := by
  go_enter Tryd.func73, Tryd.ntmps73
  go_wp2
  go_ret
  exact ⟨rfl, rfl⟩
theorem vfinder1_any (v a o f k i : Int) (p : Nat) (w : World) (hp : p < w.heap.size) (hc : w.cell? ⟨p, 0, none⟩ = some (.int .i64 i)) :
    Calls Tryd.prog 104 #[.agg #[.int .i64 v, .int .i64 a, .int .i64 o, .int .i64 f, .int .i64 k], .pointer (some ⟨p, 0, none⟩)] w fun e w' => e = .returned (.bool (decide (i ≤ o))) ∧ Below w.heap.size w w' := by
  have q := fun o => (World.cell?_alloc_lt w o (⟨p, 0, none⟩ : Addr) hp).trans hc
  go_enter Tryd.func104, Tryd.ntmps104
  go_wp2
  go_ret
  exact ⟨rfl, below_alloc _ _⟩
set_option maxHeartbeats 2000000 in
theorem first_any (L : List Cl) (i : Int) (a : Option Addr) (c : Nat) (w : World) (hl : L.length ≤ 1000000) (ha : CellsIn w a L) :
    Calls Tryd.prog 33 #[.slice a L.length c, .int .i64 i] w fun e w' => e = .returned (.int .i64 (fstM L i)) ∧ Below w.heap.size w w' := by
  have F := Lib.hid (vfinder_any i w)
  have hb0 := below_alloc w (.cells #[.int .i64 i] 3)
  have hc0 : (w.alloc (.cells #[.int .i64 i] 3)).cell? ⟨w.heap.size, 0, none⟩ = some (.int .i64 i) := by simp
  have hs0 : (w.alloc (.cells #[.int .i64 i] 3)).heap.size = w.heap.size + 1 := by simp
  have HA := Lib.hid (ha.below hb0)
  clear ha
  go_enter Tryd.func33, Tryd.ntmps33
  go_wp2_with (go_at_call 73; refine F.out.mono ?_; rintro e w1 ⟨rfl, rfl⟩)
  generalize w.alloc _ = W at *
  have hlt0 : w.heap.size < W.heap.size := by omega
  have Hs0 := Lib.hid hs0
  clear hs0 F
  go_loopw [12] (fun iv wr => ∃ k : Nat, k ≤ L.length ∧ iv = .int .i64 (k : Int) ∧ Hid (∀ j, j < k → (L.getD j cl0).2.2.1 < i) ∧ Below W.heap.size W wr) (fun iv _ => L.length - (intOf iv).toNat)
  case atStart => exact ⟨0, Nat.zero_le _, rfl, Lib.hid (fun j hj => absurd hj (by omega)), Below.refl _ _⟩
  case round =>
    obtain ⟨k, hk, rfl, hall, hbl⟩ := hrel
    by_cases hlt : k < L.length
    · obtain ⟨b1, o1, rfl, hb1, c1, c2, c3, c4, c5⟩ := (HA.out.below hbl) k hlt
      have hk1 : (k : Int) < L.length := by omega
      have hk0 : (0 : Int) ≤ k := by omega
      have hcr := (hbl.cell (p := ⟨w.heap.size, 0, none⟩) hlt0).trans hc0
      have hsr := Nat.lt_of_lt_of_le hlt0 hbl.size
      have C := Lib.hid fun v x o f q w1 hp hc => vfinder1_any v x o f q i w.heap.size w1 hp hc
      by_cases ho : i ≤ (L.getD k cl0).2.2.1
      · have HF := Lib.hid (fstM_at hlt ho hall.out)
        have hd : decide (i ≤ (L.getD k cl0).2.2.1) = true := decide_eq_true ho
        generalize L.getD k cl0 = q at *
        go_wp2_with (go_at_call 104; refine (C.out _ _ _ _ _ _ (by simp; omega) (by rw [World.cell?_alloc_lt _ _ _ hsr]; exact hcr)).mono ?_; rintro e w2 ⟨rfl, hb2⟩)
        go_ret
        rw [HF.out]
        exact ⟨rfl, hb0.trans ((hbl.trans ((seqB (below_alloc _ _) hb2).mono hbl.size)).mono (by omega))⟩
      · have HF : Hid (∀ j, j < k + 1 → (L.getD j cl0).2.2.1 < i) := Lib.hid (by
          intro j hj
          rcases Nat.lt_succ_iff_lt_or_eq.1 hj with h | rfl
          · exact hall.out j h
          · omega)
        have hd : decide (i ≤ (L.getD k cl0).2.2.1) = false := decide_eq_false ho
        generalize L.getD k cl0 = q at *
        go_wp2_with (go_at_call 104; refine (C.out _ _ _ _ _ _ (by simp; omega) (by rw [World.cell?_alloc_lt _ _ _ hsr]; exact hcr)).mono ?_; rintro e w2 ⟨rfl, hb2⟩)
        go_roundw
        case rel => exact ⟨k + 1, by omega, by go_num, HF, hbl.trans ((seqB (below_alloc _ _) hb2).mono hbl.size)⟩
        case measure => (simp [intOf]; try omega)
    · obtain rfl : k = L.length := by omega
      have HF := Lib.hid (fstM_none hall.out)
      go_wp2
      go_ret
      rw [HF.out]
      exact ⟨rfl, hb0.trans (hbl.mono (by omega))⟩
/-- Whose a cell is. -/
def ownM (L : List Cl) (at_ : Int) : Int := if L.length = 0 then 0 else if (L.length : Int) ≤ at_ then (L.getD (L.length - 1) cl0).2.2.1 + 1 else (L.getD (max at_ 0).toNat cl0).2.2.1
set_option maxHeartbeats 2000000 in
theorem own_any (L : List Cl) (i : Int) (a : Option Addr) (c : Nat) (w : World) (hl : L.length ≤ 1000000) (ha : CellsIn w a L) (ho : ∀ j, j < L.length → -9223372036854775808 ≤ (L.getD j cl0).2.2.1 ∧ (L.getD j cl0).2.2.1 < 9223372036854775807) :
    Calls Tryd.prog 34 #[.slice a L.length c, .int .i64 i] w fun e w' => e = .returned (.int .i64 (ownM L i)) ∧ Below w.heap.size w w' := by
  have hM : ownM L i = if L.length = 0 then 0 else if (L.length : Int) ≤ i then (L.getD (L.length - 1) cl0).2.2.1 + 1 else (L.getD (max i 0).toNat cl0).2.2.1 := rfl
  by_cases h0 : L.length = 0
  · rw [if_pos h0] at hM
    have HM := Lib.hid hM; clear hM
    have he : ((L.length : Int) == 0) = true := by rw [h0]; rfl
    go_enter Tryd.func34, Tryd.ntmps34
    go_wp2
    go_ret
    rw [HM.out]; exact ⟨rfl, Below.refl _ _⟩
  · have he : ((L.length : Int) == 0) = false := by rw [beq_eq_false_iff_ne]; omega
    rw [if_neg h0] at hM
    by_cases h1 : (L.length : Int) ≤ i
    · rw [if_pos h1] at hM
      have HM := Lib.hid hM; clear hM
      obtain ⟨b1, o1, rfl, hb1, c1, c2, c3, c4, c5⟩ := ha (L.length - 1) (by omega)
      have hoo := ho (L.length - 1) (by omega)
      have hk : (L.length : Int) - 1 = ((L.length - 1 : Nat) : Int) := by omega
      have hk1 : ((L.length - 1 : Nat) : Int) < L.length := by omega
      generalize L.getD (L.length - 1) cl0 = q at *
      generalize hm : L.length - 1 = m at *
      go_enter Tryd.func34, Tryd.ntmps34
      go_wp2
      go_ret
      rw [HM.out]; exact ⟨retI (by first | rfl | (rw [IntKind.wrap_i64]; omega)), Below.refl _ _⟩
    · rw [if_neg h1] at hM
      have HM := Lib.hid hM; clear hM
      obtain ⟨b1, o1, rfl, hb1, c1, c2, c3, c4, c5⟩ := ha (max i 0).toNat (by omega)
      have hd : decide ((L.length : Int) ≤ i) = false := decide_eq_false h1
      obtain ⟨m, hm⟩ : ∃ m, (max i 0).toNat = m := ⟨_, rfl⟩
      have hmi : max i 0 = (m : Int) := by omega
      have hm1 : (m : Int) < L.length := by omega
      rw [hm] at HM c1 c2 c3 c4 c5
      have hmm1 : i ≤ 0 → m = 0 := fun h => by omega
      have hmm2 : ¬ i ≤ 0 → i = m := fun h => by omega
      generalize L.getD m cl0 = q at *
      by_cases hi0 : i ≤ 0
      · obtain rfl := hmm1 hi0
        go_enter Tryd.func34, Tryd.ntmps34
        go_wp2
        go_ret
        rw [HM.out]; exact ⟨rfl, Below.refl _ _⟩
      · obtain rfl := hmm2 hi0
        go_enter Tryd.func34, Tryd.ntmps34
        go_wp2
        go_ret
        rw [HM.out]; exact ⟨rfl, Below.refl _ _⟩
end Go.Proofs.YtfhcfamjlhmgiaaDoor
