/-
  Joined: Tp54 Tp55 Tp56.
-/
import Derived.Test.YtnpiooaiceegmaaDoorJW20
import Derived.Test.YtnpiooaiceegmaaDoorJW22
set_option linter.unusedVariables false
set_option linter.unusedSimpArgs false
set_option maxRecDepth 100000
set_option linter.unusedVariables false
set_option linter.unusedSimpArgs false
namespace Go.Proofs.YtnpiooaiceegmaaDoor
open Go.RowKit
/-- An answer, and what a yes tells. -/
noncomputable def lgD (Q : Prop) : Bool := @decide Q (Classical.propDecidable Q)
theorem lgD_yes {Q : Prop} (q : Q) : lgD Q = true := @decide_eq_true Q (Classical.propDecidable Q) q
theorem lgD_no {Q : Prop} (q : ¬ Q) : lgD Q = false := @decide_eq_false Q (Classical.propDecidable Q) q
def LgP (Q : Prop) (w : World) (e : Ending) (w' : World) : Prop := e = .returned (.bool (lgD Q)) ∧ Below w.heap.size w w'
theorem lgp_no {Q : Prop} {w w' : World} (h : Below w.heap.size w w') (q : ¬ Q) : LgP Q w (.returned (.bool false)) w' := ⟨by rw [lgD_no q], h⟩
theorem lgp_yes {Q : Prop} {w w' : World} (h : Below w.heap.size w w') (q : Q) : LgP Q w (.returned (.bool true)) w' := ⟨by rw [lgD_yes q], h⟩
theorem LgP.mono {Q R : Prop} {w w' : World} {e : Ending} (h : LgP Q w e w') (i : Q ↔ R) : LgP R w e w' := by
  rw [propext i] at h
  exact h
/-- A light step. -/
def lgS (x : Stp) : Prop := x.2.1.length ≤ 300 ∧ x.2.2.2.2.length ≤ 20 ∧ ¬ (x.1 = 2 ∧ (60 < x.2.2.1 ∧ x.2.2.1 ≤ 1000 ∨ 20 < x.2.2.2.1 ∧ x.2.2.2.1 ≤ 1000)) ∧ ∀ y, y ∈ x.2.2.2.2 → y.length ≤ 60
theorem mem_getD {α : Type} (d : α) {L : List α} {Q : α → Prop} (h : ∀ i, i < L.length → Q (L.getD i d)) : ∀ y, y ∈ L → Q y := fun y hy => by
  obtain ⟨i, hi, rfl⟩ := List.mem_iff_getElem.1 hy
  have := h i hi
  rwa [List.getD, List.getElem?_eq_getElem hi] at this
set_option maxRecDepth 100000 in
set_option maxHeartbeats 4000000 in
theorem llt_t (k n m : Int) (ms : ByteArray) (L : List (List UInt8)) (a : Option Addr) (l c : Nat) (w : World) (hl : L.length = l) (hE : ∀ y, y ∈ L → y.length ≤ 9223372036854775807) (hS : StI w a (L.map mkL)) (ht : (300 : Int) < ((ms.size : Nat) : Int)) : Calls Tryd.prog 44 #[.agg #[.int .i64 k, .string ms, .int .i64 n, .int .i64 m, .slice a l c]] w (LgP False w) := by
  have b0 := below_alloc w (.cells #[.int .i64 k, .string ms, .int .i64 n, .int .i64 m, .slice a l c] 38)
  have r0 := heap_alloc_new w (.cells #[.int .i64 k, .string ms, .int .i64 n, .int .i64 m, .slice a l c] 38)
  obtain ⟨W0, hW0⟩ : ∃ W0, w.alloc (.cells #[.int .i64 k, .string ms, .int .i64 n, .int .i64 m, .slice a l c] 38) = W0 := ⟨_, rfl⟩
  rw [hW0] at b0 r0
  have zz := fun i => cell_of_row _ _ i _ _ _ r0
  have f0 := zz 0; have f1 := zz 1; have f2 := zz 2; have f3 := zz 3; have f4 := zz 4
  dsimp at f0 f1 f2 f3 f4
  have B0 := Lib.hid b0
  have HL := Lib.hid hl; have HE := Lib.hid hE; have HS := Lib.hid hS
  clear zz b0 r0 hl hE hS
  go_enter Tryd.func44, Tryd.ntmps44
  go_wp2
  go_ret
  exact lgp_no B0.out (fun h => h)
set_option maxRecDepth 100000 in
set_option maxHeartbeats 4000000 in
theorem llt_l (k n m : Int) (ms : ByteArray) (L : List (List UInt8)) (a : Option Addr) (l c : Nat) (w : World) (hl : L.length = l) (hE : ∀ y, y ∈ L → y.length ≤ 9223372036854775807) (hS : StI w a (L.map mkL)) (ht : ((ms.size : Nat) : Int) ≤ 300) (hll : (20 : Int) < ((l : Nat) : Int)) : Calls Tryd.prog 44 #[.agg #[.int .i64 k, .string ms, .int .i64 n, .int .i64 m, .slice a l c]] w (LgP False w) := by
  have b0 := below_alloc w (.cells #[.int .i64 k, .string ms, .int .i64 n, .int .i64 m, .slice a l c] 38)
  have r0 := heap_alloc_new w (.cells #[.int .i64 k, .string ms, .int .i64 n, .int .i64 m, .slice a l c] 38)
  obtain ⟨W0, hW0⟩ : ∃ W0, w.alloc (.cells #[.int .i64 k, .string ms, .int .i64 n, .int .i64 m, .slice a l c] 38) = W0 := ⟨_, rfl⟩
  rw [hW0] at b0 r0
  have zz := fun i => cell_of_row _ _ i _ _ _ r0
  have f0 := zz 0; have f1 := zz 1; have f2 := zz 2; have f3 := zz 3; have f4 := zz 4
  dsimp at f0 f1 f2 f3 f4
  have B0 := Lib.hid b0
  have HL := Lib.hid hl; have HE := Lib.hid hE; have HS := Lib.hid hS
  clear zz b0 r0 hl hE hS
  go_enter Tryd.func44, Tryd.ntmps44
  go_wp2
  go_ret
  exact lgp_no B0.out (fun h => h)
set_option maxRecDepth 100000 in
set_option maxHeartbeats 4000000 in
theorem llt_k (k n m : Int) (ms : ByteArray) (L : List (List UInt8)) (a : Option Addr) (l c : Nat) (w : World) (hl : L.length = l) (hE : ∀ y, y ∈ L → y.length ≤ 9223372036854775807) (hS : StI w a (L.map mkL)) (ht : ((ms.size : Nat) : Int) ≤ 300) (hll : ((l : Nat) : Int) ≤ 20) (hk : ¬ k = 2) : Calls Tryd.prog 44 #[.agg #[.int .i64 k, .string ms, .int .i64 n, .int .i64 m, .slice a l c]] w (LgP (∀ y, y ∈ L → y.length ≤ 60) w) := by
  have hk2 := beqF hk
  have b0 := below_alloc w (.cells #[.int .i64 k, .string ms, .int .i64 n, .int .i64 m, .slice a l c] 38)
  have r0 := heap_alloc_new w (.cells #[.int .i64 k, .string ms, .int .i64 n, .int .i64 m, .slice a l c] 38)
  obtain ⟨W0, hW0⟩ : ∃ W0, w.alloc (.cells #[.int .i64 k, .string ms, .int .i64 n, .int .i64 m, .slice a l c] 38) = W0 := ⟨_, rfl⟩
  rw [hW0] at b0 r0
  have zz := fun i => cell_of_row _ _ i _ _ _ r0
  have f0 := zz 0; have f1 := zz 1; have f2 := zz 2; have f3 := zz 3; have f4 := zz 4
  dsimp at f0 f1 f2 f3 f4
  have B0 := Lib.hid b0
  have HL := Lib.hid hl; have HE := Lib.hid hE; have HS := Lib.hid hS
  clear zz b0 r0 hl hE hS
  go_enter Tryd.func44, Tryd.ntmps44
  go_wp2
  clear hW0
  go_loopw [3] (fun iv wr => ∃ j : Nat, j ≤ l ∧ iv = .int .i64 (j : Int) ∧ Hid (∀ i, i < j → (L.getD i []).length ≤ 60) ∧ wr = W0) (fun iv _ => l - (intOf iv).toNat)
  case atStart => exact ⟨0, Nat.zero_le _, rfl, Lib.hid (fun j hj => absurd hj (by omega)), rfl⟩
  case round =>
    obtain ⟨j, hj, rfl, hall, rfl⟩ := hrel
    by_cases hlt : j < l
    · have hj1 : (j : Int) < l := by omega
      have hj0 : (0 : Int) ≤ j := by omega
      have hjL : j < L.length := by rw [HL.out]; exact hlt
      obtain ⟨b, off, rfl, hb0, d0⟩ := HS.out j (by rw [List.length_map]; exact hjL)
      have d := (B0.out.cell (p := ⟨b, off + j, none⟩) hb0).trans d0
      rw [mapD L j hjL] at d
      obtain ⟨y, hy⟩ : ∃ y, L.getD j [] = y := ⟨_, rfl⟩
      have HY := Lib.hid hy
      have hyl := HE.out _ (getD_memX [] hjL)
      rw [hy] at d hyl
      have hsz := mkL_size y
      by_cases h60 : y.length ≤ 60
      · have g1 : ((mkL y).size : Int) ≤ 60 := by omega
        have HALL : Hid (∀ i, i < j + 1 → (L.getD i []).length ≤ 60) := Lib.hid (fun i hi => by
          rcases Nat.lt_succ_iff_lt_or_eq.1 hi with h | rfl
          · exact hall.out i h
          · rw [HY.out]; exact h60)
        clear hsz hyl hy h60 d0 hjL
        generalize mkL y = s1 at *
        go_wp2
        go_roundw
        case rel => exact ⟨j + 1, by omega, by go_num, HALL, by first | trivial | rfl⟩
        case measure => (simp [intOf]; try omega)
      · have g1 : (60 : Int) < ((mkL y).size : Int) := by omega
        have HNO : Hid (¬ ∀ y, y ∈ L → y.length ≤ 60) := Lib.hid (fun h => h60 (by rw [← HY.out]; exact h _ (getD_memX [] hjL)))
        clear hsz hyl hy h60 d0 hjL
        generalize mkL y = s1 at *
        go_wp2
        try go_ret
        exact lgp_no B0.out HNO.out
    · obtain rfl : j = l := by omega
      have hmm : ¬ (j : Int) < (j : Int) := by omega
      have HA : Hid (∀ y, y ∈ L → y.length ≤ 60) := Lib.hid (mem_getD [] (by rw [HL.out]; exact hall.out))
      go_wp2
      try go_ret
      exact lgp_yes B0.out HA.out
set_option maxRecDepth 100000 in
set_option maxHeartbeats 4000000 in
theorem llt_lolo (n m : Int) (ms : ByteArray) (L : List (List UInt8)) (a : Option Addr) (l c : Nat) (w : World) (hl : L.length = l) (hE : ∀ y, y ∈ L → y.length ≤ 9223372036854775807) (hS : StI w a (L.map mkL)) (ht : ((ms.size : Nat) : Int) ≤ 300) (hll : ((l : Nat) : Int) ≤ 20) (hn : n ≤ 60) (hm : m ≤ 20) : Calls Tryd.prog 44 #[.agg #[.int .i64 2, .string ms, .int .i64 n, .int .i64 m, .slice a l c]] w (LgP (∀ y, y ∈ L → y.length ≤ 60) w) := by
  have b0 := below_alloc w (.cells #[.int .i64 2, .string ms, .int .i64 n, .int .i64 m, .slice a l c] 38)
  have r0 := heap_alloc_new w (.cells #[.int .i64 2, .string ms, .int .i64 n, .int .i64 m, .slice a l c] 38)
  obtain ⟨W0, hW0⟩ : ∃ W0, w.alloc (.cells #[.int .i64 2, .string ms, .int .i64 n, .int .i64 m, .slice a l c] 38) = W0 := ⟨_, rfl⟩
  rw [hW0] at b0 r0
  have zz := fun i => cell_of_row _ _ i _ _ _ r0
  have f0 := zz 0; have f1 := zz 1; have f2 := zz 2; have f3 := zz 3; have f4 := zz 4
  dsimp at f0 f1 f2 f3 f4
  have B0 := Lib.hid b0
  have HL := Lib.hid hl; have HE := Lib.hid hE; have HS := Lib.hid hS
  clear zz b0 r0 hl hE hS
  go_enter Tryd.func44, Tryd.ntmps44
  go_wp2
  clear hW0
  go_loopw [3] (fun iv wr => ∃ j : Nat, j ≤ l ∧ iv = .int .i64 (j : Int) ∧ Hid (∀ i, i < j → (L.getD i []).length ≤ 60) ∧ wr = W0) (fun iv _ => l - (intOf iv).toNat)
  case atStart => exact ⟨0, Nat.zero_le _, rfl, Lib.hid (fun j hj => absurd hj (by omega)), rfl⟩
  case round =>
    obtain ⟨j, hj, rfl, hall, rfl⟩ := hrel
    by_cases hlt : j < l
    · have hj1 : (j : Int) < l := by omega
      have hj0 : (0 : Int) ≤ j := by omega
      have hjL : j < L.length := by rw [HL.out]; exact hlt
      obtain ⟨b, off, rfl, hb0, d0⟩ := HS.out j (by rw [List.length_map]; exact hjL)
      have d := (B0.out.cell (p := ⟨b, off + j, none⟩) hb0).trans d0
      rw [mapD L j hjL] at d
      obtain ⟨y, hy⟩ : ∃ y, L.getD j [] = y := ⟨_, rfl⟩
      have HY := Lib.hid hy
      have hyl := HE.out _ (getD_memX [] hjL)
      rw [hy] at d hyl
      have hsz := mkL_size y
      by_cases h60 : y.length ≤ 60
      · have g1 : ((mkL y).size : Int) ≤ 60 := by omega
        have HALL : Hid (∀ i, i < j + 1 → (L.getD i []).length ≤ 60) := Lib.hid (fun i hi => by
          rcases Nat.lt_succ_iff_lt_or_eq.1 hi with h | rfl
          · exact hall.out i h
          · rw [HY.out]; exact h60)
        clear hsz hyl hy h60 d0 hjL
        generalize mkL y = s1 at *
        go_wp2
        go_roundw
        case rel => exact ⟨j + 1, by omega, by go_num, HALL, by first | trivial | rfl⟩
        case measure => (simp [intOf]; try omega)
      · have g1 : (60 : Int) < ((mkL y).size : Int) := by omega
        have HNO : Hid (¬ ∀ y, y ∈ L → y.length ≤ 60) := Lib.hid (fun h => h60 (by rw [← HY.out]; exact h _ (getD_memX [] hjL)))
        clear hsz hyl hy h60 d0 hjL
        generalize mkL y = s1 at *
        go_wp2
        try go_ret
        exact lgp_no B0.out HNO.out
    · obtain rfl : j = l := by omega
      have hmm : ¬ (j : Int) < (j : Int) := by omega
      have HA : Hid (∀ y, y ∈ L → y.length ≤ 60) := Lib.hid (mem_getD [] (by rw [HL.out]; exact hall.out))
      go_wp2
      try go_ret
      exact lgp_yes B0.out HA.out
set_option maxRecDepth 100000 in
set_option maxHeartbeats 4000000 in
theorem llt_lohi (n m : Int) (ms : ByteArray) (L : List (List UInt8)) (a : Option Addr) (l c : Nat) (w : World) (hl : L.length = l) (hE : ∀ y, y ∈ L → y.length ≤ 9223372036854775807) (hS : StI w a (L.map mkL)) (ht : ((ms.size : Nat) : Int) ≤ 300) (hll : ((l : Nat) : Int) ≤ 20) (hn : n ≤ 60) (hm : 20 < m) (hm2 : 1000 < m) : Calls Tryd.prog 44 #[.agg #[.int .i64 2, .string ms, .int .i64 n, .int .i64 m, .slice a l c]] w (LgP (∀ y, y ∈ L → y.length ≤ 60) w) := by
  have b0 := below_alloc w (.cells #[.int .i64 2, .string ms, .int .i64 n, .int .i64 m, .slice a l c] 38)
  have r0 := heap_alloc_new w (.cells #[.int .i64 2, .string ms, .int .i64 n, .int .i64 m, .slice a l c] 38)
  obtain ⟨W0, hW0⟩ : ∃ W0, w.alloc (.cells #[.int .i64 2, .string ms, .int .i64 n, .int .i64 m, .slice a l c] 38) = W0 := ⟨_, rfl⟩
  rw [hW0] at b0 r0
  have zz := fun i => cell_of_row _ _ i _ _ _ r0
  have f0 := zz 0; have f1 := zz 1; have f2 := zz 2; have f3 := zz 3; have f4 := zz 4
  dsimp at f0 f1 f2 f3 f4
  have B0 := Lib.hid b0
  have HL := Lib.hid hl; have HE := Lib.hid hE; have HS := Lib.hid hS
  clear zz b0 r0 hl hE hS
  go_enter Tryd.func44, Tryd.ntmps44
  go_wp2
  clear hW0
  go_loopw [3] (fun iv wr => ∃ j : Nat, j ≤ l ∧ iv = .int .i64 (j : Int) ∧ Hid (∀ i, i < j → (L.getD i []).length ≤ 60) ∧ wr = W0) (fun iv _ => l - (intOf iv).toNat)
  case atStart => exact ⟨0, Nat.zero_le _, rfl, Lib.hid (fun j hj => absurd hj (by omega)), rfl⟩
  case round =>
    obtain ⟨j, hj, rfl, hall, rfl⟩ := hrel
    by_cases hlt : j < l
    · have hj1 : (j : Int) < l := by omega
      have hj0 : (0 : Int) ≤ j := by omega
      have hjL : j < L.length := by rw [HL.out]; exact hlt
      obtain ⟨b, off, rfl, hb0, d0⟩ := HS.out j (by rw [List.length_map]; exact hjL)
      have d := (B0.out.cell (p := ⟨b, off + j, none⟩) hb0).trans d0
      rw [mapD L j hjL] at d
      obtain ⟨y, hy⟩ : ∃ y, L.getD j [] = y := ⟨_, rfl⟩
      have HY := Lib.hid hy
      have hyl := HE.out _ (getD_memX [] hjL)
      rw [hy] at d hyl
      have hsz := mkL_size y
      by_cases h60 : y.length ≤ 60
      · have g1 : ((mkL y).size : Int) ≤ 60 := by omega
        have HALL : Hid (∀ i, i < j + 1 → (L.getD i []).length ≤ 60) := Lib.hid (fun i hi => by
          rcases Nat.lt_succ_iff_lt_or_eq.1 hi with h | rfl
          · exact hall.out i h
          · rw [HY.out]; exact h60)
        clear hsz hyl hy h60 d0 hjL
        generalize mkL y = s1 at *
        go_wp2
        go_roundw
        case rel => exact ⟨j + 1, by omega, by go_num, HALL, by first | trivial | rfl⟩
        case measure => (simp [intOf]; try omega)
      · have g1 : (60 : Int) < ((mkL y).size : Int) := by omega
        have HNO : Hid (¬ ∀ y, y ∈ L → y.length ≤ 60) := Lib.hid (fun h => h60 (by rw [← HY.out]; exact h _ (getD_memX [] hjL)))
        clear hsz hyl hy h60 d0 hjL
        generalize mkL y = s1 at *
        go_wp2
        try go_ret
        exact lgp_no B0.out HNO.out
    · obtain rfl : j = l := by omega
      have hmm : ¬ (j : Int) < (j : Int) := by omega
      have HA : Hid (∀ y, y ∈ L → y.length ≤ 60) := Lib.hid (mem_getD [] (by rw [HL.out]; exact hall.out))
      go_wp2
      try go_ret
      exact lgp_yes B0.out HA.out
set_option maxRecDepth 100000 in
set_option maxHeartbeats 4000000 in
theorem llt_lomid (n m : Int) (ms : ByteArray) (L : List (List UInt8)) (a : Option Addr) (l c : Nat) (w : World) (hl : L.length = l) (hE : ∀ y, y ∈ L → y.length ≤ 9223372036854775807) (hS : StI w a (L.map mkL)) (ht : ((ms.size : Nat) : Int) ≤ 300) (hll : ((l : Nat) : Int) ≤ 20) (hn : n ≤ 60) (hm : 20 < m) (hm2 : m ≤ 1000) : Calls Tryd.prog 44 #[.agg #[.int .i64 2, .string ms, .int .i64 n, .int .i64 m, .slice a l c]] w (LgP False w) := by
  have b0 := below_alloc w (.cells #[.int .i64 2, .string ms, .int .i64 n, .int .i64 m, .slice a l c] 38)
  have r0 := heap_alloc_new w (.cells #[.int .i64 2, .string ms, .int .i64 n, .int .i64 m, .slice a l c] 38)
  obtain ⟨W0, hW0⟩ : ∃ W0, w.alloc (.cells #[.int .i64 2, .string ms, .int .i64 n, .int .i64 m, .slice a l c] 38) = W0 := ⟨_, rfl⟩
  rw [hW0] at b0 r0
  have zz := fun i => cell_of_row _ _ i _ _ _ r0
  have f0 := zz 0; have f1 := zz 1; have f2 := zz 2; have f3 := zz 3; have f4 := zz 4
  dsimp at f0 f1 f2 f3 f4
  have B0 := Lib.hid b0
  have HL := Lib.hid hl; have HE := Lib.hid hE; have HS := Lib.hid hS
  clear zz b0 r0 hl hE hS
  go_enter Tryd.func44, Tryd.ntmps44
  go_wp2
  go_ret
  exact lgp_no B0.out (fun h => h)
set_option maxRecDepth 100000 in
set_option maxHeartbeats 4000000 in
theorem llt_hilo (n m : Int) (ms : ByteArray) (L : List (List UInt8)) (a : Option Addr) (l c : Nat) (w : World) (hl : L.length = l) (hE : ∀ y, y ∈ L → y.length ≤ 9223372036854775807) (hS : StI w a (L.map mkL)) (ht : ((ms.size : Nat) : Int) ≤ 300) (hll : ((l : Nat) : Int) ≤ 20) (hn : 60 < n) (hn2 : 1000 < n) (hm : m ≤ 20) : Calls Tryd.prog 44 #[.agg #[.int .i64 2, .string ms, .int .i64 n, .int .i64 m, .slice a l c]] w (LgP (∀ y, y ∈ L → y.length ≤ 60) w) := by
  have b0 := below_alloc w (.cells #[.int .i64 2, .string ms, .int .i64 n, .int .i64 m, .slice a l c] 38)
  have r0 := heap_alloc_new w (.cells #[.int .i64 2, .string ms, .int .i64 n, .int .i64 m, .slice a l c] 38)
  obtain ⟨W0, hW0⟩ : ∃ W0, w.alloc (.cells #[.int .i64 2, .string ms, .int .i64 n, .int .i64 m, .slice a l c] 38) = W0 := ⟨_, rfl⟩
  rw [hW0] at b0 r0
  have zz := fun i => cell_of_row _ _ i _ _ _ r0
  have f0 := zz 0; have f1 := zz 1; have f2 := zz 2; have f3 := zz 3; have f4 := zz 4
  dsimp at f0 f1 f2 f3 f4
  have B0 := Lib.hid b0
  have HL := Lib.hid hl; have HE := Lib.hid hE; have HS := Lib.hid hS
  clear zz b0 r0 hl hE hS
  go_enter Tryd.func44, Tryd.ntmps44
  go_wp2
  clear hW0
  go_loopw [3] (fun iv wr => ∃ j : Nat, j ≤ l ∧ iv = .int .i64 (j : Int) ∧ Hid (∀ i, i < j → (L.getD i []).length ≤ 60) ∧ wr = W0) (fun iv _ => l - (intOf iv).toNat)
  case atStart => exact ⟨0, Nat.zero_le _, rfl, Lib.hid (fun j hj => absurd hj (by omega)), rfl⟩
  case round =>
    obtain ⟨j, hj, rfl, hall, rfl⟩ := hrel
    by_cases hlt : j < l
    · have hj1 : (j : Int) < l := by omega
      have hj0 : (0 : Int) ≤ j := by omega
      have hjL : j < L.length := by rw [HL.out]; exact hlt
      obtain ⟨b, off, rfl, hb0, d0⟩ := HS.out j (by rw [List.length_map]; exact hjL)
      have d := (B0.out.cell (p := ⟨b, off + j, none⟩) hb0).trans d0
      rw [mapD L j hjL] at d
      obtain ⟨y, hy⟩ : ∃ y, L.getD j [] = y := ⟨_, rfl⟩
      have HY := Lib.hid hy
      have hyl := HE.out _ (getD_memX [] hjL)
      rw [hy] at d hyl
      have hsz := mkL_size y
      by_cases h60 : y.length ≤ 60
      · have g1 : ((mkL y).size : Int) ≤ 60 := by omega
        have HALL : Hid (∀ i, i < j + 1 → (L.getD i []).length ≤ 60) := Lib.hid (fun i hi => by
          rcases Nat.lt_succ_iff_lt_or_eq.1 hi with h | rfl
          · exact hall.out i h
          · rw [HY.out]; exact h60)
        clear hsz hyl hy h60 d0 hjL
        generalize mkL y = s1 at *
        go_wp2
        go_roundw
        case rel => exact ⟨j + 1, by omega, by go_num, HALL, by first | trivial | rfl⟩
        case measure => (simp [intOf]; try omega)
      · have g1 : (60 : Int) < ((mkL y).size : Int) := by omega
        have HNO : Hid (¬ ∀ y, y ∈ L → y.length ≤ 60) := Lib.hid (fun h => h60 (by rw [← HY.out]; exact h _ (getD_memX [] hjL)))
        clear hsz hyl hy h60 d0 hjL
        generalize mkL y = s1 at *
        go_wp2
        try go_ret
        exact lgp_no B0.out HNO.out
    · obtain rfl : j = l := by omega
      have hmm : ¬ (j : Int) < (j : Int) := by omega
      have HA : Hid (∀ y, y ∈ L → y.length ≤ 60) := Lib.hid (mem_getD [] (by rw [HL.out]; exact hall.out))
      go_wp2
      try go_ret
      exact lgp_yes B0.out HA.out
set_option maxRecDepth 100000 in
set_option maxHeartbeats 4000000 in
theorem llt_hihi (n m : Int) (ms : ByteArray) (L : List (List UInt8)) (a : Option Addr) (l c : Nat) (w : World) (hl : L.length = l) (hE : ∀ y, y ∈ L → y.length ≤ 9223372036854775807) (hS : StI w a (L.map mkL)) (ht : ((ms.size : Nat) : Int) ≤ 300) (hll : ((l : Nat) : Int) ≤ 20) (hn : 60 < n) (hn2 : 1000 < n) (hm : 20 < m) (hm2 : 1000 < m) : Calls Tryd.prog 44 #[.agg #[.int .i64 2, .string ms, .int .i64 n, .int .i64 m, .slice a l c]] w (LgP (∀ y, y ∈ L → y.length ≤ 60) w) := by
  have b0 := below_alloc w (.cells #[.int .i64 2, .string ms, .int .i64 n, .int .i64 m, .slice a l c] 38)
  have r0 := heap_alloc_new w (.cells #[.int .i64 2, .string ms, .int .i64 n, .int .i64 m, .slice a l c] 38)
  obtain ⟨W0, hW0⟩ : ∃ W0, w.alloc (.cells #[.int .i64 2, .string ms, .int .i64 n, .int .i64 m, .slice a l c] 38) = W0 := ⟨_, rfl⟩
  rw [hW0] at b0 r0
  have zz := fun i => cell_of_row _ _ i _ _ _ r0
  have f0 := zz 0; have f1 := zz 1; have f2 := zz 2; have f3 := zz 3; have f4 := zz 4
  dsimp at f0 f1 f2 f3 f4
  have B0 := Lib.hid b0
  have HL := Lib.hid hl; have HE := Lib.hid hE; have HS := Lib.hid hS
  clear zz b0 r0 hl hE hS
  go_enter Tryd.func44, Tryd.ntmps44
  go_wp2
  clear hW0
  go_loopw [3] (fun iv wr => ∃ j : Nat, j ≤ l ∧ iv = .int .i64 (j : Int) ∧ Hid (∀ i, i < j → (L.getD i []).length ≤ 60) ∧ wr = W0) (fun iv _ => l - (intOf iv).toNat)
  case atStart => exact ⟨0, Nat.zero_le _, rfl, Lib.hid (fun j hj => absurd hj (by omega)), rfl⟩
  case round =>
    obtain ⟨j, hj, rfl, hall, rfl⟩ := hrel
    by_cases hlt : j < l
    · have hj1 : (j : Int) < l := by omega
      have hj0 : (0 : Int) ≤ j := by omega
      have hjL : j < L.length := by rw [HL.out]; exact hlt
      obtain ⟨b, off, rfl, hb0, d0⟩ := HS.out j (by rw [List.length_map]; exact hjL)
      have d := (B0.out.cell (p := ⟨b, off + j, none⟩) hb0).trans d0
      rw [mapD L j hjL] at d
      obtain ⟨y, hy⟩ : ∃ y, L.getD j [] = y := ⟨_, rfl⟩
      have HY := Lib.hid hy
      have hyl := HE.out _ (getD_memX [] hjL)
      rw [hy] at d hyl
      have hsz := mkL_size y
      by_cases h60 : y.length ≤ 60
      · have g1 : ((mkL y).size : Int) ≤ 60 := by omega
        have HALL : Hid (∀ i, i < j + 1 → (L.getD i []).length ≤ 60) := Lib.hid (fun i hi => by
          rcases Nat.lt_succ_iff_lt_or_eq.1 hi with h | rfl
          · exact hall.out i h
          · rw [HY.out]; exact h60)
        clear hsz hyl hy h60 d0 hjL
        generalize mkL y = s1 at *
        go_wp2
        go_roundw
        case rel => exact ⟨j + 1, by omega, by go_num, HALL, by first | trivial | rfl⟩
        case measure => (simp [intOf]; try omega)
      · have g1 : (60 : Int) < ((mkL y).size : Int) := by omega
        have HNO : Hid (¬ ∀ y, y ∈ L → y.length ≤ 60) := Lib.hid (fun h => h60 (by rw [← HY.out]; exact h _ (getD_memX [] hjL)))
        clear hsz hyl hy h60 d0 hjL
        generalize mkL y = s1 at *
        go_wp2
        try go_ret
        exact lgp_no B0.out HNO.out
    · obtain rfl : j = l := by omega
      have hmm : ¬ (j : Int) < (j : Int) := by omega
      have HA : Hid (∀ y, y ∈ L → y.length ≤ 60) := Lib.hid (mem_getD [] (by rw [HL.out]; exact hall.out))
      go_wp2
      try go_ret
      exact lgp_yes B0.out HA.out
set_option maxRecDepth 100000 in
set_option maxHeartbeats 4000000 in
theorem llt_himid (n m : Int) (ms : ByteArray) (L : List (List UInt8)) (a : Option Addr) (l c : Nat) (w : World) (hl : L.length = l) (hE : ∀ y, y ∈ L → y.length ≤ 9223372036854775807) (hS : StI w a (L.map mkL)) (ht : ((ms.size : Nat) : Int) ≤ 300) (hll : ((l : Nat) : Int) ≤ 20) (hn : 60 < n) (hn2 : 1000 < n) (hm : 20 < m) (hm2 : m ≤ 1000) : Calls Tryd.prog 44 #[.agg #[.int .i64 2, .string ms, .int .i64 n, .int .i64 m, .slice a l c]] w (LgP False w) := by
  have b0 := below_alloc w (.cells #[.int .i64 2, .string ms, .int .i64 n, .int .i64 m, .slice a l c] 38)
  have r0 := heap_alloc_new w (.cells #[.int .i64 2, .string ms, .int .i64 n, .int .i64 m, .slice a l c] 38)
  obtain ⟨W0, hW0⟩ : ∃ W0, w.alloc (.cells #[.int .i64 2, .string ms, .int .i64 n, .int .i64 m, .slice a l c] 38) = W0 := ⟨_, rfl⟩
  rw [hW0] at b0 r0
  have zz := fun i => cell_of_row _ _ i _ _ _ r0
  have f0 := zz 0; have f1 := zz 1; have f2 := zz 2; have f3 := zz 3; have f4 := zz 4
  dsimp at f0 f1 f2 f3 f4
  have B0 := Lib.hid b0
  have HL := Lib.hid hl; have HE := Lib.hid hE; have HS := Lib.hid hS
  clear zz b0 r0 hl hE hS
  go_enter Tryd.func44, Tryd.ntmps44
  go_wp2
  go_ret
  exact lgp_no B0.out (fun h => h)
set_option maxRecDepth 100000 in
set_option maxHeartbeats 4000000 in
theorem llt_mid (n m : Int) (ms : ByteArray) (L : List (List UInt8)) (a : Option Addr) (l c : Nat) (w : World) (hl : L.length = l) (hE : ∀ y, y ∈ L → y.length ≤ 9223372036854775807) (hS : StI w a (L.map mkL)) (ht : ((ms.size : Nat) : Int) ≤ 300) (hll : ((l : Nat) : Int) ≤ 20) (hn : 60 < n) (hn2 : n ≤ 1000) : Calls Tryd.prog 44 #[.agg #[.int .i64 2, .string ms, .int .i64 n, .int .i64 m, .slice a l c]] w (LgP False w) := by
  have b0 := below_alloc w (.cells #[.int .i64 2, .string ms, .int .i64 n, .int .i64 m, .slice a l c] 38)
  have r0 := heap_alloc_new w (.cells #[.int .i64 2, .string ms, .int .i64 n, .int .i64 m, .slice a l c] 38)
  obtain ⟨W0, hW0⟩ : ∃ W0, w.alloc (.cells #[.int .i64 2, .string ms, .int .i64 n, .int .i64 m, .slice a l c] 38) = W0 := ⟨_, rfl⟩
  rw [hW0] at b0 r0
  have zz := fun i => cell_of_row _ _ i _ _ _ r0
  have f0 := zz 0; have f1 := zz 1; have f2 := zz 2; have f3 := zz 3; have f4 := zz 4
  dsimp at f0 f1 f2 f3 f4
  have B0 := Lib.hid b0
  have HL := Lib.hid hl; have HE := Lib.hid hE; have HS := Lib.hid hS
  clear zz b0 r0 hl hE hS
  go_enter Tryd.func44, Tryd.ntmps44
  go_wp2
  go_ret
  exact lgp_no B0.out (fun h => h)
theorem llight_any (x : Stp) (a : Option Addr) (c : Nat) (w : World) (hE : ∀ y, y ∈ x.2.2.2.2 → y.length ≤ 9223372036854775807) (hS : StI w a (x.2.2.2.2.map mkL)) : Calls Tryd.prog 44 #[tsV x a c] w (LgP (lgS x) w) := by
  obtain ⟨k, t, n, m, L⟩ := x
  dsimp only at hE hS
  unfold tsV lgS
  dsimp only
  have hsz := mkL_size t
  by_cases ht : t.length ≤ 300
  rotate_left
  · exact (llt_t k n m (mkL t) L a L.length c w rfl hE hS (by omega)).mono fun e w' h => h.mono ⟨False.elim, fun h => ht h.1⟩
  by_cases hL : L.length ≤ 20
  rotate_left
  · exact (llt_l k n m (mkL t) L a L.length c w rfl hE hS (by omega) (by omega)).mono fun e w' h => h.mono ⟨False.elim, fun h => hL h.2.1⟩
  by_cases hk : k = 2
  rotate_left
  · exact (llt_k k n m (mkL t) L a L.length c w rfl hE hS (by omega) (by omega) hk).mono fun e w' h => h.mono ⟨fun q => ⟨ht, hL, by omega, q⟩, fun q => q.2.2.2⟩
  subst hk
  by_cases n1 : n ≤ 60
  · by_cases m1 : m ≤ 20
    · exact (llt_lolo n m (mkL t) L a L.length c w rfl hE hS (by omega) (by omega) n1 m1).mono fun e w' h => h.mono ⟨fun q => ⟨ht, hL, by omega, q⟩, fun q => q.2.2.2⟩
    · by_cases m2 : m ≤ 1000
      · exact (llt_lomid n m (mkL t) L a L.length c w rfl hE hS (by omega) (by omega) n1 (by omega) m2).mono fun e w' h => h.mono ⟨False.elim, fun h => h.2.2.1 (by omega)⟩
      · exact (llt_lohi n m (mkL t) L a L.length c w rfl hE hS (by omega) (by omega) n1 (by omega) (by omega)).mono fun e w' h => h.mono ⟨fun q => ⟨ht, hL, by omega, q⟩, fun q => q.2.2.2⟩
  · by_cases n2 : n ≤ 1000
    · exact (llt_mid n m (mkL t) L a L.length c w rfl hE hS (by omega) (by omega) (by omega) n2).mono fun e w' h => h.mono ⟨False.elim, fun h => h.2.2.1 (by omega)⟩
    · by_cases m1 : m ≤ 20
      · exact (llt_hilo n m (mkL t) L a L.length c w rfl hE hS (by omega) (by omega) (by omega) (by omega) m1).mono fun e w' h => h.mono ⟨fun q => ⟨ht, hL, by omega, q⟩, fun q => q.2.2.2⟩
      · by_cases m2 : m ≤ 1000
        · exact (llt_himid n m (mkL t) L a L.length c w rfl hE hS (by omega) (by omega) (by omega) (by omega) (by omega) m2).mono fun e w' h => h.mono ⟨False.elim, fun h => h.2.2.1 (by omega)⟩
        · exact (llt_hihi n m (mkL t) L a L.length c w rfl hE hS (by omega) (by omega) (by omega) (by omega) (by omega) (by omega)).mono fun e w' h => h.mono ⟨fun q => ⟨ht, hL, by omega, q⟩, fun q => q.2.2.2⟩
end Go.Proofs.YtnpiooaiceegmaaDoor
set_option linter.unusedVariables false
set_option linter.unusedSimpArgs false
namespace Go.Proofs.YtnpiooaiceegmaaDoor
open Go.RowKit
/-- What the loops ask. -/
def lgY (C : List Crs) (S : List Stp) : Prop := (∀ c, c ∈ C → c.2.length ≤ 60) ∧ ∀ x, x ∈ S → lgS x
set_option maxRecDepth 100000 in
set_option maxHeartbeats 4000000 in
theorem slt_p (n0 n1 n2 n3 n4 n5 n6 n7 : Int) (b : Bool) (ms : ByteArray) (ca sa : Option Addr) (nc ns cc sc : Nat) (w : World) (hp : (200 : Int) < ((ms.size : Nat) : Int)) : Calls Tryd.prog 9 #[.agg #[.int .i64 n0, .int .i64 n1, .int .i64 n2, .int .i64 n3, .int .i64 n4, .int .i64 n5, .int .i64 n6, .int .i64 n7, .bool b, .string ms, .slice ca nc cc, .slice sa ns sc]] w (LgP False w) := by
  have b0 := below_alloc w (.cells #[.int .i64 n0, .int .i64 n1, .int .i64 n2, .int .i64 n3, .int .i64 n4, .int .i64 n5, .int .i64 n6, .int .i64 n7, .bool b, .string ms, .slice ca nc cc, .slice sa ns sc] 27)
  have r0 := heap_alloc_new w (.cells #[.int .i64 n0, .int .i64 n1, .int .i64 n2, .int .i64 n3, .int .i64 n4, .int .i64 n5, .int .i64 n6, .int .i64 n7, .bool b, .string ms, .slice ca nc cc, .slice sa ns sc] 27)
  obtain ⟨W0, hW0⟩ : ∃ W0, w.alloc (.cells #[.int .i64 n0, .int .i64 n1, .int .i64 n2, .int .i64 n3, .int .i64 n4, .int .i64 n5, .int .i64 n6, .int .i64 n7, .bool b, .string ms, .slice ca nc cc, .slice sa ns sc] 27) = W0 := ⟨_, rfl⟩
  rw [hW0] at b0 r0
  have B0 := Lib.hid b0
  have R0 := Lib.hid r0
  have zz := fun i => cell_of_row _ _ i _ _ _ r0
  have f9 := zz 9; have f10 := zz 10; have f11 := zz 11
  dsimp at f9 f10 f11
  clear zz b0 r0
  go_enter Tryd.func9, Tryd.ntmps9
  go_wp2
  try go_ret
  exact lgp_no B0.out (fun h => h)
set_option maxRecDepth 100000 in
set_option maxHeartbeats 4000000 in
theorem slt_c (n0 n1 n2 n3 n4 n5 n6 n7 : Int) (b : Bool) (ms : ByteArray) (ca sa : Option Addr) (nc ns cc sc : Nat) (w : World) (hp : ((ms.size : Nat) : Int) ≤ 200) (hc : (20 : Int) < ((nc : Nat) : Int)) : Calls Tryd.prog 9 #[.agg #[.int .i64 n0, .int .i64 n1, .int .i64 n2, .int .i64 n3, .int .i64 n4, .int .i64 n5, .int .i64 n6, .int .i64 n7, .bool b, .string ms, .slice ca nc cc, .slice sa ns sc]] w (LgP False w) := by
  have b0 := below_alloc w (.cells #[.int .i64 n0, .int .i64 n1, .int .i64 n2, .int .i64 n3, .int .i64 n4, .int .i64 n5, .int .i64 n6, .int .i64 n7, .bool b, .string ms, .slice ca nc cc, .slice sa ns sc] 27)
  have r0 := heap_alloc_new w (.cells #[.int .i64 n0, .int .i64 n1, .int .i64 n2, .int .i64 n3, .int .i64 n4, .int .i64 n5, .int .i64 n6, .int .i64 n7, .bool b, .string ms, .slice ca nc cc, .slice sa ns sc] 27)
  obtain ⟨W0, hW0⟩ : ∃ W0, w.alloc (.cells #[.int .i64 n0, .int .i64 n1, .int .i64 n2, .int .i64 n3, .int .i64 n4, .int .i64 n5, .int .i64 n6, .int .i64 n7, .bool b, .string ms, .slice ca nc cc, .slice sa ns sc] 27) = W0 := ⟨_, rfl⟩
  rw [hW0] at b0 r0
  have B0 := Lib.hid b0
  have R0 := Lib.hid r0
  have zz := fun i => cell_of_row _ _ i _ _ _ r0
  have f9 := zz 9; have f10 := zz 10; have f11 := zz 11
  dsimp at f9 f10 f11
  clear zz b0 r0
  go_enter Tryd.func9, Tryd.ntmps9
  go_wp2
  try go_ret
  exact lgp_no B0.out (fun h => h)
set_option maxRecDepth 100000 in
set_option maxHeartbeats 4000000 in
theorem slt_s (n0 n1 n2 n3 n4 n5 n6 n7 : Int) (b : Bool) (ms : ByteArray) (ca sa : Option Addr) (nc ns cc sc : Nat) (w : World) (hp : ((ms.size : Nat) : Int) ≤ 200) (hc : ((nc : Nat) : Int) ≤ 20) (hs : (30 : Int) < ((ns : Nat) : Int)) : Calls Tryd.prog 9 #[.agg #[.int .i64 n0, .int .i64 n1, .int .i64 n2, .int .i64 n3, .int .i64 n4, .int .i64 n5, .int .i64 n6, .int .i64 n7, .bool b, .string ms, .slice ca nc cc, .slice sa ns sc]] w (LgP False w) := by
  have b0 := below_alloc w (.cells #[.int .i64 n0, .int .i64 n1, .int .i64 n2, .int .i64 n3, .int .i64 n4, .int .i64 n5, .int .i64 n6, .int .i64 n7, .bool b, .string ms, .slice ca nc cc, .slice sa ns sc] 27)
  have r0 := heap_alloc_new w (.cells #[.int .i64 n0, .int .i64 n1, .int .i64 n2, .int .i64 n3, .int .i64 n4, .int .i64 n5, .int .i64 n6, .int .i64 n7, .bool b, .string ms, .slice ca nc cc, .slice sa ns sc] 27)
  obtain ⟨W0, hW0⟩ : ∃ W0, w.alloc (.cells #[.int .i64 n0, .int .i64 n1, .int .i64 n2, .int .i64 n3, .int .i64 n4, .int .i64 n5, .int .i64 n6, .int .i64 n7, .bool b, .string ms, .slice ca nc cc, .slice sa ns sc] 27) = W0 := ⟨_, rfl⟩
  rw [hW0] at b0 r0
  have B0 := Lib.hid b0
  have R0 := Lib.hid r0
  have zz := fun i => cell_of_row _ _ i _ _ _ r0
  have f9 := zz 9; have f10 := zz 10; have f11 := zz 11
  dsimp at f9 f10 f11
  clear zz b0 r0
  go_enter Tryd.func9, Tryd.ntmps9
  go_wp2
  try go_ret
  exact lgp_no B0.out (fun h => h)
set_option maxRecDepth 100000 in
set_option maxHeartbeats 4000000 in
theorem slt_y (n0 n1 n2 n3 n4 n5 n6 n7 : Int) (b : Bool) (ms : ByteArray) (ca sa : Option Addr) (nc ns cc sc : Nat) (w : World) (C : List Crs) (S : List Stp) (hnc : C.length = nc) (hns : S.length = ns) (hE : ∀ x ∈ S, ∀ y, y ∈ x.2.2.2.2 → y.length ≤ 9223372036854775807) (hC : CrI w ca C) (hS : SpI w sa S) (hp : ((ms.size : Nat) : Int) ≤ 200) (hc : ((nc : Nat) : Int) ≤ 20) (hs : ((ns : Nat) : Int) ≤ 30) : Calls Tryd.prog 9 #[.agg #[.int .i64 n0, .int .i64 n1, .int .i64 n2, .int .i64 n3, .int .i64 n4, .int .i64 n5, .int .i64 n6, .int .i64 n7, .bool b, .string ms, .slice ca nc cc, .slice sa ns sc]] w (LgP (lgY C S) w) := by
  have b0 := below_alloc w (.cells #[.int .i64 n0, .int .i64 n1, .int .i64 n2, .int .i64 n3, .int .i64 n4, .int .i64 n5, .int .i64 n6, .int .i64 n7, .bool b, .string ms, .slice ca nc cc, .slice sa ns sc] 27)
  have r0 := heap_alloc_new w (.cells #[.int .i64 n0, .int .i64 n1, .int .i64 n2, .int .i64 n3, .int .i64 n4, .int .i64 n5, .int .i64 n6, .int .i64 n7, .bool b, .string ms, .slice ca nc cc, .slice sa ns sc] 27)
  obtain ⟨W0, hW0⟩ : ∃ W0, w.alloc (.cells #[.int .i64 n0, .int .i64 n1, .int .i64 n2, .int .i64 n3, .int .i64 n4, .int .i64 n5, .int .i64 n6, .int .i64 n7, .bool b, .string ms, .slice ca nc cc, .slice sa ns sc] 27) = W0 := ⟨_, rfl⟩
  rw [hW0] at b0 r0
  have B0 := Lib.hid b0
  have R0 := Lib.hid r0
  have zz := fun i => cell_of_row _ _ i _ _ _ r0
  have f9 := zz 9; have f10 := zz 10; have f11 := zz 11
  dsimp at f9 f10 f11
  clear zz b0 r0
  have HC := Lib.hid hC; have HS := Lib.hid hS; have HE := Lib.hid hE
  have HNC := Lib.hid hnc; have HNS := Lib.hid hns
  clear hC hS hE hnc hns
  obtain ⟨CA, hCA⟩ : ∃ CA, #[Value.int .i64 n0, .int .i64 n1, .int .i64 n2, .int .i64 n3, .int .i64 n4, .int .i64 n5, .int .i64 n6, .int .i64 n7, .bool b, .string ms, .slice ca nc cc, .slice sa ns sc] = CA := ⟨_, rfl⟩
  have qa10 := Lib.hid (show CA[10]? = some (.slice ca nc cc) by rw [← hCA]; rfl)
  have qa11 := Lib.hid (show CA[11]? = some (.slice sa ns sc) by rw [← hCA]; rfl)
  rw [hCA] at R0
  clear hCA
  go_enter Tryd.func9, Tryd.ntmps9
  go_wp2
  clear hW0 f9 f10 f11
  go_loopw [3] (fun iv wr => ∃ k : Nat, k ≤ nc ∧ iv = .int .i64 (k : Int) ∧ Hid (∀ j, j < k → (C.getD j (0, [])).2.length ≤ 60) ∧ wr = W0) (fun iv _ => nc - (intOf iv).toNat)
  case atStart => exact ⟨0, Nat.zero_le _, rfl, Lib.hid (fun j hj => absurd hj (by omega)), rfl⟩
  case round =>
    obtain ⟨k, hk, rfl, hall, rfl⟩ := hrel
    have f10 := (cell_of_row _ _ 10 _ _ _ R0.out).trans qa10.out
    by_cases hlt : k < nc
    · have hk1 : (k : Int) < nc := by omega
      have hk0 : (0 : Int) ≤ k := by omega
      obtain ⟨b1, o1, a1, e1, rfl, hb1, c0, c1, _⟩ := HC.out k (by rw [HNC.out]; exact hlt)
      have d1 := (B0.out.cell (p := ⟨b1, o1 + k * 2 + 1, none⟩) hb1).trans c1
      obtain ⟨v, hv⟩ : ∃ v, C.getD k (0, []) = v := ⟨_, rfl⟩
      have HV := Lib.hid hv
      rw [hv] at d1
      clear c0 c1 hv
      by_cases h60 : v.2.length ≤ 60
      · have g1 : ((v.2.length : Nat) : Int) ≤ 60 := by omega
        have HALL : Hid (∀ j, j < k + 1 → (C.getD j (0, [])).2.length ≤ 60) := Lib.hid (fun i hi => by
          rcases Nat.lt_succ_iff_lt_or_eq.1 hi with h | rfl
          · exact hall.out i h
          · rw [HV.out]; exact h60)
        clear h60
        generalize v.2.length = vl at *
        go_wp2
        go_roundw
        case rel => exact ⟨k + 1, by omega, by go_num, HALL, by first | trivial | rfl⟩
        case measure => (simp [intOf]; try omega)
      · have g1 : (60 : Int) < ((v.2.length : Nat) : Int) := by omega
        have HNO : Hid (¬ lgY C S) := Lib.hid (fun h => h60 (by rw [← HV.out]; exact h.1 _ (getD_memX (0, []) (by rw [HNC.out]; exact hlt))))
        clear h60
        generalize v.2.length = vl at *
        go_wp2
        try go_ret
        exact lgp_no B0.out HNO.out
    · obtain rfl : k = nc := by omega
      have hmm : ¬ (k : Int) < (k : Int) := by omega
      have HA : Hid (∀ c, c ∈ C → c.2.length ≤ 60) := Lib.hid (mem_getD (0, []) (by rw [HNC.out]; exact hall.out))
      have f11 := (cell_of_row _ _ 11 _ _ _ R0.out).trans qa11.out
      go_wp2
      clear f10 f11
      go_loopw [4] (fun iv wv => ∃ j : Nat, j ≤ ns ∧ iv = .int .i64 (j : Int) ∧ Hid (∀ i, i < j → lgS (S.getD i st0)) ∧ Hid (wv.heap[w.heap.size]? = some (.cells CA 27 (0, 0))) ∧ Hid (Below w.heap.size w wv)) (fun iv _ => ns - (intOf iv).toNat)
      case atStart => exact ⟨0, Nat.zero_le _, rfl, Lib.hid (fun j hj => absurd hj (by omega)), R0, B0⟩
      case round =>
        obtain ⟨j, hj, rfl, hal2, HR, HB⟩ := hrel
        have f11 := (cell_of_row _ _ 11 _ _ _ HR.out).trans qa11.out
        by_cases hlt : j < ns
        · have hk1 : (j : Int) < ns := by omega
          have hk0 : (0 : Int) ≤ j := by omega
          have hjL : j < S.length := by rw [HNS.out]; exact hlt
          obtain ⟨b1, o1, a1, e1, rfl, hb1, c0, c1, c2, c3, c4, hs1⟩ := (HS.out.below HB.out) j hjL
          have hE1 := HE.out _ (getD_memX st0 hjL)
          obtain ⟨v, hv⟩ : ∃ v, S.getD j st0 = v := ⟨_, rfl⟩
          have HV := Lib.hid hv
          rw [hv] at c0 c1 c2 c3 c4 hs1 hE1
          obtain ⟨vk, vt, vn, vm, vl⟩ := v
          have LL := llight_any (vk, vt, vn, vm, vl) a1 e1 wr hE1 hs1
          unfold tsV at LL
          dsimp only at LL c0 c1 c2 c3 c4
          have LLh := Lib.hid LL
          clear LL hv hs1 hE1 hjL
          by_cases hq : lgS (vk, vt, vn, vm, vl)
          · have HALL : Hid (∀ i, i < j + 1 → lgS (S.getD i st0)) := Lib.hid (fun i hi => by
              rcases Nat.lt_succ_iff_lt_or_eq.1 hi with h | rfl
              · exact hal2.out i h
              · rw [HV.out]; exact hq)
            have LL2 : Hid (Calls Tryd.prog 44 #[.agg #[.int .i64 vk, .string (mkL vt), .int .i64 vn, .int .i64 vm, .slice a1 vl.length e1]] wr fun e w' => e = .returned (.bool true) ∧ Below wr.heap.size wr w') := Lib.hid (by rw [← lgD_yes hq]; exact LLh.out)
            clear LLh hq
            generalize vl.length = vln at *
            generalize mkL vt = mvt at *
            go_wp2_with (go_at_call 44; refine LL2.out.mono ?_; rintro e w2 ⟨rfl, hb2⟩; have N2 := Lib.hid (seqB HB.out hb2); have R2 := Lib.hid (blk_below HR.out hb2); clear hb2)
            go_roundw
            case rel => exact ⟨j + 1, by omega, by go_num, HALL, R2, N2⟩
            case measure => (simp [intOf]; try omega)
          · have HNO : Hid (¬ lgY C S) := Lib.hid (fun h => hq (by rw [← HV.out]; exact h.2 _ (getD_memX st0 (by rw [HNS.out]; exact hlt))))
            have LL2 : Hid (Calls Tryd.prog 44 #[.agg #[.int .i64 vk, .string (mkL vt), .int .i64 vn, .int .i64 vm, .slice a1 vl.length e1]] wr fun e w' => e = .returned (.bool false) ∧ Below wr.heap.size wr w') := Lib.hid (by rw [← lgD_no hq]; exact LLh.out)
            clear LLh hq
            generalize vl.length = vln at *
            generalize mkL vt = mvt at *
            go_wp2_with (go_at_call 44; refine LL2.out.mono ?_; rintro e w2 ⟨rfl, hb2⟩; have N2 := Lib.hid (seqB HB.out hb2); clear hb2)
            try go_ret
            exact lgp_no N2.out HNO.out
        · obtain rfl : j = ns := by omega
          have hmm : ¬ (j : Int) < (j : Int) := by omega
          have HB2 : Hid (∀ x, x ∈ S → lgS x) := Lib.hid (mem_getD st0 (by rw [HNS.out]; exact hal2.out))
          go_wp2
          try go_ret
          exact lgp_yes HB.out ⟨HA.out, HB2.out⟩
/-- A light script. -/
def lgA (p : List UInt8) (C : List Crs) (S : List Stp) : Prop := p.length ≤ 200 ∧ C.length ≤ 20 ∧ S.length ≤ 30 ∧ (∀ c, c ∈ C → c.2.length ≤ 60) ∧ ∀ x, x ∈ S → lgS x
theorem slight_any (n0 n1 n2 n3 n4 n5 n6 n7 : Int) (b : Bool) (p : List UInt8) (C : List Crs) (S : List Stp) (ca sa : Option Addr) (cc sc : Nat) (w : World) (hE : ∀ x ∈ S, ∀ y, y ∈ x.2.2.2.2 → y.length ≤ 9223372036854775807) (hC : CrI w ca C) (hS : SpI w sa S) :
    Calls Tryd.prog 9 #[.agg #[.int .i64 n0, .int .i64 n1, .int .i64 n2, .int .i64 n3, .int .i64 n4, .int .i64 n5, .int .i64 n6, .int .i64 n7, .bool b, .string (mkL p), .slice ca C.length cc, .slice sa S.length sc]] w (LgP (lgA p C S) w) := by
  have hsz := mkL_size p
  unfold lgA
  by_cases h1 : p.length ≤ 200
  rotate_left
  · exact (slt_p n0 n1 n2 n3 n4 n5 n6 n7 b (mkL p) ca sa C.length S.length cc sc w (by omega)).mono fun e w' h => h.mono ⟨False.elim, fun h => h1 h.1⟩
  by_cases h2 : C.length ≤ 20
  rotate_left
  · exact (slt_c n0 n1 n2 n3 n4 n5 n6 n7 b (mkL p) ca sa C.length S.length cc sc w (by omega) (by omega)).mono fun e w' h => h.mono ⟨False.elim, fun h => h2 h.2.1⟩
  by_cases h3 : S.length ≤ 30
  rotate_left
  · exact (slt_s n0 n1 n2 n3 n4 n5 n6 n7 b (mkL p) ca sa C.length S.length cc sc w (by omega) (by omega) (by omega)).mono fun e w' h => h.mono ⟨False.elim, fun h => h3 h.2.2.1⟩
  exact (slt_y n0 n1 n2 n3 n4 n5 n6 n7 b (mkL p) ca sa C.length S.length cc sc w C S rfl rfl hE hC hS (by omega) (by omega) (by omega)).mono fun e w' h => h.mono ⟨fun q => ⟨h1, h2, h3, q⟩, fun q => q.2.2.2⟩
end Go.Proofs.YtnpiooaiceegmaaDoor
set_option linter.unusedVariables false
set_option linter.unusedSimpArgs false
namespace Go.Proofs.YtnpiooaiceegmaaDoor
open Go.RowKit
set_option maxRecDepth 100000 in
set_option maxHeartbeats 8000000 in
theorem tsm_nec (n0 n1 n2 n3 n4 n5 n6 n7 m0 m1 m2 m3 m4 m5 m6 m7 : Int) (b b2 : Bool) (p p2 : ByteArray) (hne : ¬ (n0 = m0 ∧ n1 = m1 ∧ n2 = m2 ∧ n3 = m3 ∧ n4 = m4 ∧ n5 = m5 ∧ n6 = m6 ∧ n7 = m7 ∧ b = b2 ∧ p = p2)) (C D : List Crs) (S U : List Stp) (ca sa cb sb : Option Addr) (cc sc cd sd : Nat) (w : World) :
    Calls Tryd.prog 13 #[.agg #[.int .i64 n0, .int .i64 n1, .int .i64 n2, .int .i64 n3, .int .i64 n4, .int .i64 n5, .int .i64 n6, .int .i64 n7, .bool b, .string p, .slice ca C.length cc, .slice sa S.length sc], .agg #[.int .i64 m0, .int .i64 m1, .int .i64 m2, .int .i64 m3, .int .i64 m4, .int .i64 m5, .int .i64 m6, .int .i64 m7, .bool b2, .string p2, .slice cb D.length cd, .slice sb U.length sd]] w fun e w' => e = .returned (.bool false) ∧ Below w.heap.size w w' := by
  have b0 := below_alloc w (.cells #[.int .i64 n0, .int .i64 n1, .int .i64 n2, .int .i64 n3, .int .i64 n4, .int .i64 n5, .int .i64 n6, .int .i64 n7, .bool b, .string p, .slice ca C.length cc, .slice sa S.length sc] 27)
  have r0 := heap_alloc_new w (.cells #[.int .i64 n0, .int .i64 n1, .int .i64 n2, .int .i64 n3, .int .i64 n4, .int .i64 n5, .int .i64 n6, .int .i64 n7, .bool b, .string p, .slice ca C.length cc, .slice sa S.length sc] 27)
  obtain ⟨W0, hW0⟩ : ∃ W0, w.alloc (.cells #[.int .i64 n0, .int .i64 n1, .int .i64 n2, .int .i64 n3, .int .i64 n4, .int .i64 n5, .int .i64 n6, .int .i64 n7, .bool b, .string p, .slice ca C.length cc, .slice sa S.length sc] 27) = W0 := ⟨_, rfl⟩
  rw [hW0] at b0 r0
  have b1 := below_alloc W0 (.cells #[.int .i64 m0, .int .i64 m1, .int .i64 m2, .int .i64 m3, .int .i64 m4, .int .i64 m5, .int .i64 m6, .int .i64 m7, .bool b2, .string p2, .slice cb D.length cd, .slice sb U.length sd] 27)
  have r1 := heap_alloc_new W0 (.cells #[.int .i64 m0, .int .i64 m1, .int .i64 m2, .int .i64 m3, .int .i64 m4, .int .i64 m5, .int .i64 m6, .int .i64 m7, .bool b2, .string p2, .slice cb D.length cd, .slice sb U.length sd] 27)
  obtain ⟨BN, hBN⟩ : ∃ BN, W0.heap.size = BN := ⟨_, rfl⟩
  obtain ⟨W1, hW1⟩ : ∃ W1, W0.alloc (.cells #[.int .i64 m0, .int .i64 m1, .int .i64 m2, .int .i64 m3, .int .i64 m4, .int .i64 m5, .int .i64 m6, .int .i64 m7, .bool b2, .string p2, .slice cb D.length cd, .slice sb U.length sd] 27) = W1 := ⟨_, rfl⟩
  rw [hW1] at b1 r1
  have N1 := Lib.hid (seqB b0 b1)
  have QA1 := Lib.hid (blk_below r0 b1)
  rw [hBN] at r1
  have QB1 := Lib.hid r1
  have ky := fun i => cell_of_row _ _ i _ _ _ QA1.out; have kz := fun i => cell_of_row _ _ i _ _ _ QB1.out; have ya0 := ky 0; have ya1 := ky 1; have ya2 := ky 2; have ya3 := ky 3; have ya4 := ky 4; have ya5 := ky 5; have ya6 := ky 6; have ya7 := ky 7; have ya8 := ky 8; have ya9 := ky 9; have ya10 := ky 10; have ya11 := ky 11; have yb0 := kz 0; have yb1 := kz 1; have yb2 := kz 2; have yb3 := kz 3; have yb4 := kz 4; have yb5 := kz 5; have yb6 := kz 6; have yb7 := kz 7; have yb8 := kz 8; have yb9 := kz 9; have yb10 := kz 10; have yb11 := kz 11; dsimp at ya0 ya1 ya2 ya3 ya4 ya5 ya6 ya7 ya8 ya9 ya10 ya11 yb0 yb1 yb2 yb3 yb4 yb5 yb6 yb7 yb8 yb9 yb10 yb11; clear ky kz
  clear r0 r1 b0 b1
  have EQC := fun (W : World) => eqConfN n0 n1 n2 n3 n4 n5 n6 n7 m0 m1 m2 m3 m4 m5 m6 m7 b b2 p p2 hne W
  clear hne QA1 QB1
  go_enter Tryd.func13, Tryd.ntmps13
  go_wp2
  try go_ret
  exact ⟨rfl, N1.out⟩
/-- Are two scripts the same? -/
def scEq (f g : Cf) (C D : List Crs) (S U : List Stp) : Bool := decide (f = g) && (decide (C = D) && decide (S = U))
theorem scEq_refl (f : Cf) (C : List Crs) (S : List Stp) : scEq f f C C S S = true := by unfold scEq; simp
theorem mkL_inj {p q : List UInt8} (h : mkL p = mkL q) : p = q := by
  have := congrArg (fun x : ByteArray => x.data.toList) h
  simpa [mkL] using this
theorem tsm_all (n0 n1 n2 n3 n4 n5 n6 n7 : Int) (b : Bool) (p : List UInt8) (m0 m1 m2 m3 m4 m5 m6 m7 : Int) (b2 : Bool) (p2 : List UInt8) (C D : List Crs) (S U : List Stp) (ca sa cb sb : Option Addr) (cc sc cd sd : Nat) (w : World) (hC : C.length ≤ 1000000) (hD : D.length ≤ 1000000) (hS : S.length ≤ 1000000) (hU : U.length ≤ 1000000) (hSL : ∀ x ∈ S, x.2.2.2.2.length ≤ 1000000) (hUL : ∀ x ∈ U, x.2.2.2.2.length ≤ 1000000)
    (h1 : CrI w ca C) (h2 : SpI w sa S) (h3 : CrI w cb D) (h4 : SpI w sb U) :
    Calls Tryd.prog 13 #[.agg #[.int .i64 n0, .int .i64 n1, .int .i64 n2, .int .i64 n3, .int .i64 n4, .int .i64 n5, .int .i64 n6, .int .i64 n7, .bool b, .string (mkL p), .slice ca C.length cc, .slice sa S.length sc], .agg #[.int .i64 m0, .int .i64 m1, .int .i64 m2, .int .i64 m3, .int .i64 m4, .int .i64 m5, .int .i64 m6, .int .i64 m7, .bool b2, .string (mkL p2), .slice cb D.length cd, .slice sb U.length sd]] w fun e w' => e = .returned (.bool (scEq ([n0, n1, n2, n3, n4, n5, n6, n7], b, p) ([m0, m1, m2, m3, m4, m5, m6, m7], b2, p2) C D S U)) ∧ Below w.heap.size w w' := by
  by_cases h : n0 = m0 ∧ n1 = m1 ∧ n2 = m2 ∧ n3 = m3 ∧ n4 = m4 ∧ n5 = m5 ∧ n6 = m6 ∧ n7 = m7 ∧ b = b2 ∧ mkL p = mkL p2
  · obtain ⟨rfl, rfl, rfl, rfl, rfl, rfl, rfl, rfl, rfl, hp⟩ := h
    have hp2 := mkL_inj hp
    subst hp2
    unfold scEq
    rw [decide_eq_true rfl, Bool.true_and]
    exact tsm_eq n0 n1 n2 n3 n4 n5 n6 n7 b (mkL p) C D S U ca sa cb sb cc sc cd sd w hC hD hS hU hSL hUL h1 h2 h3 h4
  · unfold scEq
    rw [decide_eq_false (fun e => h (by
      simp only [Prod.mk.injEq, List.cons.injEq, and_true] at e
      obtain ⟨⟨rfl, rfl, rfl, rfl, rfl, rfl, rfl, rfl⟩, rfl, rfl⟩ := e
      exact ⟨rfl, rfl, rfl, rfl, rfl, rfl, rfl, rfl, rfl, rfl⟩)), Bool.false_and]
    exact tsm_nec n0 n1 n2 n3 n4 n5 n6 n7 m0 m1 m2 m3 m4 m5 m6 m7 b b2 (mkL p) (mkL p2) h C D S U ca sa cb sb cc sc cd sd w
theorem rsm_all (n0 n1 n2 n3 n4 n5 n6 n7 : Int) (b : Bool) (p : List UInt8) (m0 m1 m2 m3 m4 m5 m6 m7 : Int) (b2 : Bool) (p2 : List UInt8) (C D : List Crs) (S U : List Stp) (ca sa cb sb : Option Addr) (cc sc cd sd : Nat) (w : World) (hC : C.length ≤ 1000000) (hD : D.length ≤ 1000000) (hS : S.length ≤ 1000000) (hU : U.length ≤ 1000000) (hSL : ∀ x ∈ S, x.2.2.2.2.length ≤ 1000000) (hUL : ∀ x ∈ U, x.2.2.2.2.length ≤ 1000000)
    (h1 : CrI w ca C) (h2 : SpI w sa S) (h3 : CrI w cb D) (h4 : SpI w sb U) :
    Calls Tryd.prog 14 #[.agg #[.int .i64 n0, .int .i64 n1, .int .i64 n2, .int .i64 n3, .int .i64 n4, .int .i64 n5, .int .i64 n6, .int .i64 n7, .bool b, .string (mkL p), .slice ca C.length cc, .slice sa S.length sc], .agg #[.int .i64 m0, .int .i64 m1, .int .i64 m2, .int .i64 m3, .int .i64 m4, .int .i64 m5, .int .i64 m6, .int .i64 m7, .bool b2, .string (mkL p2), .slice cb D.length cd, .slice sb U.length sd]] w fun e w' => e = .returned (.bool (scEq ([n0, n1, n2, n3, n4, n5, n6, n7], b, p) ([m0, m1, m2, m3, m4, m5, m6, m7], b2, p2) C D S U)) ∧ Below w.heap.size w w' := by
  by_cases h : n0 = m0 ∧ n1 = m1 ∧ n2 = m2 ∧ n3 = m3 ∧ n4 = m4 ∧ n5 = m5 ∧ n6 = m6 ∧ n7 = m7 ∧ b = b2 ∧ mkL p = mkL p2
  · obtain ⟨rfl, rfl, rfl, rfl, rfl, rfl, rfl, rfl, rfl, hp⟩ := h
    have hp2 := mkL_inj hp
    subst hp2
    unfold scEq
    rw [decide_eq_true rfl, Bool.true_and]
    exact rsame_eqc n0 n1 n2 n3 n4 n5 n6 n7 b (mkL p) C D S U ca sa cb sb cc sc cd sd w hC hD hS hU hSL hUL h1 h2 h3 h4
  · unfold scEq
    rw [decide_eq_false (fun e => h (by
      simp only [Prod.mk.injEq, List.cons.injEq, and_true] at e
      obtain ⟨⟨rfl, rfl, rfl, rfl, rfl, rfl, rfl, rfl⟩, rfl, rfl⟩ := e
      exact ⟨rfl, rfl, rfl, rfl, rfl, rfl, rfl, rfl, rfl, rfl⟩)), Bool.false_and]
    exact rsame_nec n0 n1 n2 n3 n4 n5 n6 n7 m0 m1 m2 m3 m4 m5 m6 m7 b b2 (mkL p) (mkL p2) h C D S U ca sa cb sb cc sc cd sd w
theorem lg_stLs {x : Stp} (h : lgS x) : (stLs x).length ≤ 3900 := by
  obtain ⟨h1, h2, _, h3⟩ := h
  unfold stLs
  cases e : stLn x with
  | none => exact Nat.zero_le _
  | some l =>
    obtain ⟨W, hW, rfl, _, _⟩ := stLn_W e
    obtain ⟨k, t, n, m, L⟩ := x
    dsimp only at h1 h2 h3
    show (tjS W).length ≤ _
    have wt := wdL_len t
    have dn := decS_len n
    have dm := decS_len m
    unfold stW swW at hW
    dsimp only at hW
    have two : ∀ a : List UInt8, a.length ≤ 6 → (tjS [a, wdL t]).length ≤ 3900 := fun a ha => by
      refine Nat.le_trans (tjS_len (M := 901) fun q hq => ?_) (by simp only [List.length_cons, List.length_nil]; omega)
      simp only [List.mem_cons, List.not_mem_nil, or_false] at hq
      rcases hq with rfl | rfl <;> omega
    have one : ∀ a : List UInt8, a.length ≤ 6 → (tjS [a]).length ≤ 3900 := fun a ha => by
      refine Nat.le_trans (tjS_len (M := 901) fun q hq => ?_) (by simp only [List.length_cons, List.length_nil]; omega)
      simp only [List.mem_cons, List.not_mem_nil, or_false] at hq
      rcases hq with rfl; omega
    split at hW
    · obtain rfl := Option.some.inj hW; exact two byW (by decide)
    split at hW
    · obtain rfl := Option.some.inj hW; exact one tiW (by decide)
    split at hW
    · obtain rfl := Option.some.inj hW
      refine Nat.le_trans (tjS_len (M := 901) fun q hq => ?_) (by simp only [List.length_cons, List.length_nil]; omega)
      simp only [List.mem_cons, List.not_mem_nil, or_false] at hq
      have : reW.length = 6 := rfl
      rcases hq with rfl | rfl | rfl <;> omega
    split at hW
    · obtain rfl := Option.some.inj hW
      refine Nat.le_trans (tjS_len (M := 181) fun q hq => ?_) (by simp only [List.length_cons, List.length_map]; exact Nat.le_trans (Nat.mul_le_mul_right _ (show L.length + 1 ≤ 21 by omega)) (by omega))
      have : ofW.length = 5 := rfl
      rcases List.mem_cons.1 hq with rfl | hq
      · omega
      · obtain ⟨y, hy, rfl⟩ := List.mem_map.1 hq
        have := wdL_len y
        have := h3 y hy
        omega
    split at hW
    · split at hW
      · obtain rfl := Option.some.inj hW; exact two loW (by decide)
      · obtain rfl := Option.some.inj hW; exact one loW (by decide)
    split at hW
    · obtain rfl := Option.some.inj hW; exact one saW (by decide)
    split at hW
    · obtain rfl := Option.some.inj hW; exact one poW (by decide)
    · cases hW
theorem lg_len {f : Cf} {C : List Crs} {S : List Stp} (h8 : f.1.length = 8) (h : lgA f.2.2 C S) : (enT (cfT f :: (C.map crLn ++ S.map stLs))).length ≤ 200000 := by
  obtain ⟨h1, h2, h3, h4, h5⟩ := h
  have e : enT (cfT f :: (C.map crLn ++ S.map stLs)) = enT [cfT f] ++ (enT (C.map crLn) ++ enT (S.map stLs)) := by
    rw [← enT_app, ← enT_app]; rfl
  rw [e, List.length_append, List.length_append]
  have k1 : (cfT f).length ≤ 11 * 602 := by
    have hl : ∀ q ∈ cfL f.1 8 ++ [cfK f.2.1, wdL f.2.2], q.length ≤ 601 := by
      intro q hq
      rcases List.mem_append.1 hq with hq | hq
      · unfold cfL at hq
        rcases List.mem_cons.1 hq with rfl | hq
        · decide
        · obtain ⟨n, _, rfl⟩ := List.mem_map.1 hq
          have := decS_len n; omega
      · simp only [List.mem_cons, List.not_mem_nil, or_false] at hq
        rcases hq with rfl | rfl
        · cases f.2.1 <;> decide
        · have := wdL_len f.2.2; omega
    refine Nat.le_trans (tjS_len hl) (Nat.mul_le_mul_right _ ?_)
    rw [List.length_append]
    have : (cfL f.1 8).length ≤ 9 := by unfold cfL; simp; omega
    simp only [List.length_cons, List.length_nil]; omega
  have k2 : (enT [cfT f]).length ≤ 1 * (11 * 602 + 1) := enT_len (M := 11 * 602) (fun q hq => by
    simp only [List.mem_cons, List.not_mem_nil, or_false] at hq
    rcases hq with rfl; exact k1)
  have k3 : (enT (C.map crLn)).length ≤ (C.map crLn).length * (300 + 1) := enT_len (M := 300) (fun q hq => by
    obtain ⟨c, hc, rfl⟩ := List.mem_map.1 hq
    have a1 := decS_len c.1
    have a2 := wdL_len c.2
    have a3 := h4 c hc
    show (crW ++ (32 :: decS c.1 ++ (32 :: wdL c.2 ++ []))).length ≤ _
    simp only [List.length_append, List.length_cons, List.length_nil]
    have : crW.length = 5 := rfl
    omega)
  have k4 : (enT (S.map stLs)).length ≤ (S.map stLs).length * (3900 + 1) := enT_len (M := 3900) (fun q hq => by
    obtain ⟨x, hx, rfl⟩ := List.mem_map.1 hq
    exact lg_stLs (h5 x hx))
  rw [List.length_map] at k3 k4
  have k5 := Nat.mul_le_mul_right (300 + 1) h2
  have k6 := Nat.mul_le_mul_right (3900 + 1) h3
  omega
theorem lg_B {p : List UInt8} {C : List Crs} {S : List Stp} (hC : ∀ c ∈ C, in64 c.1) (hS : ∀ x ∈ S, tsOk x) (h : lgA p C S) : scB C S ∧ scB4 C S := by
  obtain ⟨h1, h2, h3, h4, h5⟩ := h
  have k : ∀ x ∈ S, tsB x := fun x hx => by
    obtain ⟨a, b, _, c⟩ := h5 x hx
    exact ⟨by omega, by omega, fun y hy => by have := c y hy; omega, hS x hx⟩
  have kc : ∀ c ∈ C, in64 c.1 ∧ c.2.length ≤ 300000 := fun c hc => ⟨hC c hc, by have := h4 c hc; omega⟩
  exact ⟨⟨by omega, by omega, kc, k⟩, by omega, by omega, kc, k⟩
end Go.Proofs.YtnpiooaiceegmaaDoor
