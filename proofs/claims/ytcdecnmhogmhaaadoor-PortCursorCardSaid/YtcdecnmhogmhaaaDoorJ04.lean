/-
  Joined: C6 Cl0 C7 C8 Sh1 Sh2 Sh8 Sh3 V0 R1 Sh4 V3 R2.
-/
import Derived.Test.YtcdecnmhogmhaaaDoorJ01
import Derived.Test.YtcdecnmhogmhaaaDoorJ02
import Derived.Test.YtcdecnmhogmhaaaDoorJ03
import Derived.Lib.ItoaWalk
import Derived.Laws.StructEq
import Derived.OwnWalk
set_option maxRecDepth 100000
set_option linter.unusedVariables false
set_option linter.unusedSimpArgs false
namespace Go.Proofs.YtcdecnmhogmhaaaDoor
set_option linter.unusedVariables false
set_option linter.unusedSimpArgs false
open Go.RowKit
theorem cright_ref (v : Int) (w : World) : Calls Tryd.prog 92 #[.int .i64 v] w fun e w' => e = .returned (.bool (rght v)) ∧ w = w' := by
  rcases rght_cases v with ⟨e, h | h | h⟩ | ⟨e, h | h | h | h⟩
  all_goals
    rw [e]; clear e
    go_enter Tryd.func92, Tryd.ntmps92
    go_wp2
    all_goals
      first
        | (go_ret; first | exact ⟨rfl, rfl⟩ | exact ⟨ret_bool (by simp; omega), rfl⟩)
        | (exfalso; omega)
theorem w64_u8 (c : UInt8) : wrap64 (c.toNat : Int) = (c.toNat : Int) := by have := c.toNat_lt; unfold wrap64; omega
/-- The reference's look. -/
def hitS (v : Int) (j : Nat) : Bool := lSk.getD j 0 == v
def skelR (v : Int) : Int := match (List.range 51).find? (hitS v) with | some j => ((sSk.getD j 0).toNat : Int) | none => v
theorem sk_byte (k : Nat) (h : k < (⟨#[65, 66, 69, 90, 72, 73, 75, 77, 78, 79, 80, 84, 89, 88, 118, 111, 112, 83, 73, 74, 65, 66, 69, 75, 77, 72, 79, 80, 67, 84, 88, 97, 101, 111, 112, 99, 121, 120, 115, 105, 106, 100, 113, 119, 59, 45, 45, 47, 47, 46, 44]⟩ : ByteArray).size) : (⟨#[65, 66, 69, 90, 72, 73, 75, 77, 78, 79, 80, 84, 89, 88, 118, 111, 112, 83, 73, 74, 65, 66, 69, 75, 77, 72, 79, 80, 67, 84, 88, 97, 101, 111, 112, 99, 121, 120, 115, 105, 106, 100, 113, 119, 59, 45, 45, 47, 47, 46, 44]⟩ : ByteArray)[k] = sSk.getD k 0 := by
  have h' : k < sSk.length := h
  rw [List.getD, List.getElem?_eq_getElem h']
  rfl
set_option maxRecDepth 100000 in
set_option maxHeartbeats 1000000 in
theorem skel_ref (v : Int) (w : World) : Calls Tryd.prog 94 #[.int .i64 v] w fun e w' => e = .returned (.int .i64 (skelR v)) ∧ Below w.heap.size w w' := by
  have hcell : ∀ i, i < 51 → (w.alloc (.cells #[.int .i64 913, .int .i64 914, .int .i64 917, .int .i64 918, .int .i64 919, .int .i64 921, .int .i64 922, .int .i64 924, .int .i64 925, .int .i64 927, .int .i64 929, .int .i64 932, .int .i64 933, .int .i64 935, .int .i64 957, .int .i64 959, .int .i64 961, .int .i64 1029, .int .i64 1030, .int .i64 1032, .int .i64 1040, .int .i64 1042, .int .i64 1045, .int .i64 1050, .int .i64 1052, .int .i64 1053, .int .i64 1054, .int .i64 1056, .int .i64 1057, .int .i64 1058, .int .i64 1061, .int .i64 1072, .int .i64 1077, .int .i64 1086, .int .i64 1088, .int .i64 1089, .int .i64 1091, .int .i64 1093, .int .i64 1109, .int .i64 1110, .int .i64 1112, .int .i64 1281, .int .i64 1307, .int .i64 1309, .int .i64 894, .int .i64 8208, .int .i64 8722, .int .i64 8260, .int .i64 8725, .int .i64 8228, .int .i64 8218] 3)).cell? ⟨w.heap.size, i, none⟩ = some (.int .i64 (lSk.getD i 0)) := by
    intro i hi
    rw [World.cell?_alloc_new]
    have key : ∀ j : Fin 51, (#[.int .i64 913, .int .i64 914, .int .i64 917, .int .i64 918, .int .i64 919, .int .i64 921, .int .i64 922, .int .i64 924, .int .i64 925, .int .i64 927, .int .i64 929, .int .i64 932, .int .i64 933, .int .i64 935, .int .i64 957, .int .i64 959, .int .i64 961, .int .i64 1029, .int .i64 1030, .int .i64 1032, .int .i64 1040, .int .i64 1042, .int .i64 1045, .int .i64 1050, .int .i64 1052, .int .i64 1053, .int .i64 1054, .int .i64 1056, .int .i64 1057, .int .i64 1058, .int .i64 1061, .int .i64 1072, .int .i64 1077, .int .i64 1086, .int .i64 1088, .int .i64 1089, .int .i64 1091, .int .i64 1093, .int .i64 1109, .int .i64 1110, .int .i64 1112, .int .i64 1281, .int .i64 1307, .int .i64 1309, .int .i64 894, .int .i64 8208, .int .i64 8722, .int .i64 8260, .int .i64 8725, .int .i64 8228, .int .i64 8218] : Array Value)[j.val]? = some (Value.int .i64 (lSk.getD j.val 0)) := by
      intro j
      have : (#[.int .i64 913, .int .i64 914, .int .i64 917, .int .i64 918, .int .i64 919, .int .i64 921, .int .i64 922, .int .i64 924, .int .i64 925, .int .i64 927, .int .i64 929, .int .i64 932, .int .i64 933, .int .i64 935, .int .i64 957, .int .i64 959, .int .i64 961, .int .i64 1029, .int .i64 1030, .int .i64 1032, .int .i64 1040, .int .i64 1042, .int .i64 1045, .int .i64 1050, .int .i64 1052, .int .i64 1053, .int .i64 1054, .int .i64 1056, .int .i64 1057, .int .i64 1058, .int .i64 1061, .int .i64 1072, .int .i64 1077, .int .i64 1086, .int .i64 1088, .int .i64 1089, .int .i64 1091, .int .i64 1093, .int .i64 1109, .int .i64 1110, .int .i64 1112, .int .i64 1281, .int .i64 1307, .int .i64 1309, .int .i64 894, .int .i64 8208, .int .i64 8722, .int .i64 8260, .int .i64 8725, .int .i64 8228, .int .i64 8218] : Array Value) = (lSk.map (Value.int .i64)).toArray := rfl
      rw [this, List.getElem?_toArray, List.getElem?_map, List.getD, List.getElem?_eq_getElem (show j.val < lSk.length from j.isLt)]
      rfl
    exact key ⟨i, hi⟩
  have Hc := Lib.hid hcell; clear hcell
  go_enter Tryd.func94, Tryd.ntmps94
  go_wp2
  go_name_bytes S hS
  have hsz : S.size = 51 := by rw [← hS]; rfl
  have hby : ∀ (k : Nat) (h : k < S.size), S[k] = sSk.getD k 0 := by subst hS; exact sk_byte
  have Hby := Lib.hid hby; clear hby hS
  generalize hW : w.alloc (.cells #[.int .i64 913, .int .i64 914, .int .i64 917, .int .i64 918, .int .i64 919, .int .i64 921, .int .i64 922, .int .i64 924, .int .i64 925, .int .i64 927, .int .i64 929, .int .i64 932, .int .i64 933, .int .i64 935, .int .i64 957, .int .i64 959, .int .i64 961, .int .i64 1029, .int .i64 1030, .int .i64 1032, .int .i64 1040, .int .i64 1042, .int .i64 1045, .int .i64 1050, .int .i64 1052, .int .i64 1053, .int .i64 1054, .int .i64 1056, .int .i64 1057, .int .i64 1058, .int .i64 1061, .int .i64 1072, .int .i64 1077, .int .i64 1086, .int .i64 1088, .int .i64 1089, .int .i64 1091, .int .i64 1093, .int .i64 1109, .int .i64 1110, .int .i64 1112, .int .i64 1281, .int .i64 1307, .int .i64 1309, .int .i64 894, .int .i64 8208, .int .i64 8722, .int .i64 8260, .int .i64 8725, .int .i64 8228, .int .i64 8218] 3) = W at *
  have hbW : Below w.heap.size w W := by rw [← hW]; exact below_alloc _ _
  generalize hBe : w.heap.size = B at *
  have HB := Lib.hid hBe
  clear hW hBe
  have Hsz := Lib.hid hsz
  have hs51 : 51 ≤ S.size := by omega
  clear hsz
  go_loop [5] (fun i => ∃ k : Nat, k ≤ 51 ∧ i = .int .i64 (k : Int) ∧ Hid (∀ j, j < k → hitS v j = false)) (fun i => 51 - (intOf i).toNat)
  case atStart => exact ⟨0, by omega, rfl, Lib.hid (by intro j hj; omega)⟩
  case round =>
    obtain ⟨k, hk, rfl, hno⟩ := hrel
    by_cases hlt : k < 51
    · have c0 := Hc.out k hlt
      have hh : hitS v k = (lSk.getD k 0 == v) := rfl
      have Hy : Hid (hitS v k = true → skelR v = ((sSk.getD k 0).toNat : Int)) := Lib.hid (fun h => by unfold skelR; rw [find_first hlt h hno.out])
      generalize lSk.getD k 0 = x at *
      have hks : k < S.size := by omega
      have Hk := Lib.hid (Hby.out k hks)
      cases hb : (x == v)
      · rw [hb] at hh
        have Hh := Lib.hid hh; clear hh
        go_wp2
        go_round
        case rel => exact ⟨k + 1, by omega, by go_num, Lib.hid (by intro j hj; rcases Nat.lt_succ_iff_lt_or_eq.1 hj with h | rfl; exact hno.out j h; exact Hh.out)⟩
        case measure => simp [intOf]; omega
      · rw [hb] at hh
        have Hy2 := Lib.hid (Hy.out hh)
        clear hh Hy
        go_wp2
        go_ret
        rw [Hy2.out, ← Hk.out]
        exact ⟨congrArg (fun x => Ending.returned (.int .i64 x)) (w64_u8 _), HB.out ▸ hbW⟩
    · obtain rfl : k = 51 := by omega
      have Hn : Hid (skelR v = v) := Lib.hid (by unfold skelR; rw [find_none hno.out])
      clear hlt
      go_wp2
      go_ret
      rw [Hn.out]
      exact ⟨rfl, HB.out ▸ hbW⟩
end Go.Proofs.YtcdecnmhogmhaaaDoor
set_option linter.unusedVariables false
set_option linter.unusedSimpArgs false
namespace Go.Proofs.YtcdecnmhogmhaaaDoor
open Go.RowKit
/-- A cell: value, looks, whose it is, of which value, the how manieth column. -/
abbrev Cl := Int × Int × Int × Int × Int
abbrev cl0 : Cl := (0, 0, 0, 0, 0)
/-- A slice of cells lies in memory. -/
def CellsIn (w : World) (a : Option Addr) (l : List Cl) : Prop :=
  ∀ i, i < l.length → ∃ b off, a = some ⟨b, off, none⟩ ∧ b < w.heap.size ∧ w.cell? ⟨b, off + i * 5, none⟩ = some (.int .i64 (l.getD i cl0).1) ∧ w.cell? ⟨b, off + i * 5 + 1, none⟩ = some (.int .i64 (l.getD i cl0).2.1) ∧
    w.cell? ⟨b, off + i * 5 + 2, none⟩ = some (.int .i64 (l.getD i cl0).2.2.1) ∧ w.cell? ⟨b, off + i * 5 + 3, none⟩ = some (.int .i64 (l.getD i cl0).2.2.2.1) ∧ w.cell? ⟨b, off + i * 5 + 4, none⟩ = some (.int .i64 (l.getD i cl0).2.2.2.2)
theorem CellsIn.below {w w' : World} {a : Option Addr} {l : List Cl} (h : CellsIn w a l) (hb : Below w.heap.size w w') : CellsIn w' a l := fun i hi => by
  obtain ⟨b, off, e, hlt, h1, h2, h3, h4, h5⟩ := h i hi
  exact ⟨b, off, e, Nat.lt_of_lt_of_le hlt hb.size, (hb.cell (p := ⟨b, off + i * 5, none⟩) hlt).trans h1, (hb.cell (p := ⟨b, off + i * 5 + 1, none⟩) hlt).trans h2, (hb.cell (p := ⟨b, off + i * 5 + 2, none⟩) hlt).trans h3,
    (hb.cell (p := ⟨b, off + i * 5 + 3, none⟩) hlt).trans h4, (hb.cell (p := ⟨b, off + i * 5 + 4, none⟩) hlt).trans h5⟩
def cCells (L : List Cl) : List Value := L.flatMap fun p => [Value.int .i64 p.1, Value.int .i64 p.2.1, Value.int .i64 p.2.2.1, Value.int .i64 p.2.2.2.1, Value.int .i64 p.2.2.2.2]
/-- A row of cells in memory. -/
def cRow (L : List Cl) : Array Value := (cCells L).toArray
theorem cCells_len (L : List Cl) : (cCells L).length = L.length * 5 := by
  unfold cCells; induction L with
  | nil => rfl
  | cons x R ih => simp only [List.flatMap_cons, List.length_append, List.length_cons, List.length_nil, ih]; omega
theorem cCells_at (L : List Cl) : ∀ i, i < L.length → (cCells L)[i * 5]? = some (.int .i64 (L.getD i cl0).1) ∧ (cCells L)[i * 5 + 1]? = some (.int .i64 (L.getD i cl0).2.1) ∧ (cCells L)[i * 5 + 2]? = some (.int .i64 (L.getD i cl0).2.2.1) ∧
    (cCells L)[i * 5 + 3]? = some (.int .i64 (L.getD i cl0).2.2.2.1) ∧ (cCells L)[i * 5 + 4]? = some (.int .i64 (L.getD i cl0).2.2.2.2) := by
  induction L with
  | nil => intro i hi; simp at hi
  | cons x L ih =>
    intro i hi
    cases i with
    | zero => exact ⟨rfl, rfl, rfl, rfl, rfl⟩
    | succ i =>
      have h := ih i (by simpa using hi)
      rw [show (i + 1) * 5 = i * 5 + 1 + 1 + 1 + 1 + 1 by omega]
      exact h
theorem cCells_snoc (L : List Cl) (x : Cl) : cCells (L ++ [x]) = cCells L ++ [.int .i64 x.1, .int .i64 x.2.1, .int .i64 x.2.2.1, .int .i64 x.2.2.2.1, .int .i64 x.2.2.2.2] := by simp [cCells]
theorem cCells_append (L M : List Cl) : cCells (L ++ M) = cCells L ++ cCells M := by simp [cCells]
theorem cells_of_blk {w : World} {g : Nat} {L : List Cl} {t : TypeId} {f : Nat × Nat} (h : w.heap[g]? = some (.cells (cRow L) t f)) : CellsIn w (some ⟨g, 0, none⟩) L := fun j hj => by
  have hh := cCells_at L j hj
  refine ⟨g, 0, rfl, blk_lt h, ?_, ?_, ?_, ?_, ?_⟩
  · rw [Nat.zero_add, cell_of_row _ _ _ _ _ _ h, cRow, List.getElem?_toArray]; exact hh.1
  · rw [Nat.zero_add, cell_of_row _ _ _ _ _ _ h, cRow, List.getElem?_toArray]; exact hh.2.1
  · rw [Nat.zero_add, cell_of_row _ _ _ _ _ _ h, cRow, List.getElem?_toArray]; exact hh.2.2.1
  · rw [Nat.zero_add, cell_of_row _ _ _ _ _ _ h, cRow, List.getElem?_toArray]; exact hh.2.2.2.1
  · rw [Nat.zero_add, cell_of_row _ _ _ _ _ _ h, cRow, List.getElem?_toArray]; exact hh.2.2.2.2
/-- A row of cells of the call's own. -/
def ownC (w : World) (B : Nat) (v : Value) (L : List Cl) : Prop := w.ownsRow B 51 5 v L.length (cCells L)
theorem cells_of_own {w : World} {B : Nat} {v : Value} {L : List Cl} (h : ownC w B v L) : ∃ a c, v = .slice a L.length c ∧ CellsIn w a L := by
  unfold ownC at h
  rcases h.2 with ⟨rfl, h0⟩ | ⟨g, cap, cur, rfl, _, hg, _⟩
  · exact ⟨none, 0, by rw [h0], fun j hj => by omega⟩
  · refine ⟨_, cap, rfl, fun j hj => ⟨g, 0, rfl, blk_lt hg, ?_, ?_, ?_, ?_, ?_⟩⟩
    · rw [Nat.zero_add, h.cellAt (j * 5) (by omega)]; exact (cCells_at L j hj).1
    · rw [Nat.zero_add, h.cellAt (j * 5 + 1) (by omega)]; exact (cCells_at L j hj).2.1
    · rw [Nat.zero_add, h.cellAt (j * 5 + 2) (by omega)]; exact (cCells_at L j hj).2.2.1
    · rw [Nat.zero_add, h.cellAt (j * 5 + 3) (by omega)]; exact (cCells_at L j hj).2.2.2.1
    · rw [Nat.zero_add, h.cellAt (j * 5 + 4) (by omega)]; exact (cCells_at L j hj).2.2.2.2
/-- A row of cells in a block of the call's own, whole. -/
theorem own_of_blk {w : World} {B g : Nat} {L : List Cl} (h : w.heap[g]? = some (.cells (cRow L) 51 (0, 0))) (hB : B ≤ g) (hl : L.length ≤ maxLen) : ownC w B (.slice (some ⟨g, 0, none⟩) L.length L.length) L :=
  ⟨cCells_len L, .inr ⟨g, L.length, cRow L, rfl, hB, h, Nat.le_refl _, hl, by rw [cRow, List.size_toArray, cCells_len], by
    rw [cRow]; show (cCells L).take _ = _; rw [List.take_of_length_le (by rw [cCells_len]; exact Nat.le_refl _)]⟩⟩
theorem infoCell : (Tryd.prog.info? 51).map (fun i => (i.zero, i.size, i.bytes)) = some (some (.agg #[.int .i64 0, .int .i64 0, .int .i64 0, .int .i64 0, .int .i64 0]), 5, 40) := by kernel_rfl
/-- A cell's value in a slot. -/
def clV (p : Cl) : Value := .agg #[.int .i64 p.1, .int .i64 p.2.1, .int .i64 p.2.2.1, .int .i64 p.2.2.2.1, .int .i64 p.2.2.2.2]
set_option maxHeartbeats 1000000 in
theorem neqCell (v a o f k v' a' o' f' k' : Int) (w : World) : (binOp .neq 51 (.agg #[.int .i64 v, .int .i64 a, .int .i64 o, .int .i64 f, .int .i64 k]) (.agg #[.int .i64 v', .int .i64 a', .int .i64 o', .int .i64 f', .int .i64 k'])).run Tryd.prog w = .ok (.bool (decide (((v, a, o, f, k) : Cl) ≠ (v', a', o', f', k')))) w := by
  by_cases h1 : v = v'
  · by_cases h2 : a = a'
    · by_cases h3 : o = o'
      · by_cases h4 : f = f'
        · by_cases h5 : k = k'
          · subst h1; subst h2; subst h3; subst h4; subst h5
            simp [go_sem]
          · simp [go_sem, h1, h2, h3, h4, h5]
        · simp [go_sem, h1, h2, h3, h4]
      · simp [go_sem, h1, h2, h3]
    · simp [go_sem, h1, h2]
  · simp [go_sem, h1]
end Go.Proofs.YtcdecnmhogmhaaaDoor
namespace Go.Proofs.YtcdecnmhogmhaaaDoor
open Go.RowKit
/-- The reference's class and width. -/
def clsR (v : Int) : Int := if rght v = false then 0 else if 1114111 < v then 12 else if 0 < oddR v then oddR v else if skelR v ≠ v then 3 else if wthn lWide v then 2 else 1
def widR (v : Int) : Int := if clsR v = 2 then 2 else if clsR v = 1 ∨ clsR v = 3 then 1 else 0
set_option maxRecDepth 100000 in
set_option maxHeartbeats 2000000 in
theorem of_ref (v : Int) (w : World) : Calls Tryd.prog 42 #[.int .i64 v] w fun e w' => e = .returned (.int .i64 (clsR v)) ∧ Below w.heap.size w w' := by
  have R := fun w => cright_ref v w
  have O := fun w => odd_any v w
  have K := fun w => skel_ref v w
  have W1 := w_lWide v
  have hc : clsR v = if rght v = false then 0 else if 1114111 < v then 12 else if 0 < oddR v then oddR v else if skelR v ≠ v then 3 else if wthn lWide v then 2 else 1 := rfl
  generalize rght v = r at *
  generalize oddR v = o at *
  generalize skelR v = s at *
  generalize wthn lWide v = b at *
  have R := Lib.hid R; have O := Lib.hid O; have K := Lib.hid K; have W1 := Lib.hid W1
  cases r
  · have Hc : Hid (clsR v = 0) := Lib.hid (by rw [hc, if_pos rfl])
    clear hc
    go_enter Tryd.func42, Tryd.ntmps42
    go_wp2_with (go_at_call 92; refine (R.out _).mono ?_; rintro e w' ⟨rfl, rfl⟩)
    go_ret
    rw [Hc.out]; exact ⟨rfl, Below.refl _ _⟩
  · rw [if_neg (by simp)] at hc
    by_cases h1 : 1114111 < v
    · have Hc : Hid (clsR v = 12) := Lib.hid (by rw [hc, if_pos h1])
      clear hc
      go_enter Tryd.func42, Tryd.ntmps42
      go_wp2_with (go_at_call 92; refine (R.out _).mono ?_; rintro e w' ⟨rfl, rfl⟩)
      go_ret
      rw [Hc.out]; exact ⟨rfl, Below.refl _ _⟩
    · rw [if_neg h1] at hc
      by_cases h2 : 0 < o
      · have Hc : Hid (clsR v = o) := Lib.hid (by rw [hc, if_pos h2])
        clear hc
        go_enter Tryd.func42, Tryd.ntmps42
        go_wp2_with (first | (go_at_call 92; refine (R.out _).mono ?_; rintro e w' ⟨rfl, rfl⟩) | (go_at_call 93; refine (O.out _).mono ?_; rintro e w1 ⟨rfl, hb1⟩))
        go_ret
        rw [Hc.out]; exact ⟨rfl, hb1⟩
      · rw [if_neg h2] at hc
        by_cases h3 : s = v
        · have h3b : (s != v) = false := by rw [h3]; simp
          have Hc : Hid (clsR v = if b then 2 else 1) := Lib.hid (by rw [hc, if_neg (by simpa using h3)])
          clear hc h3
          cases b
          all_goals
            go_enter Tryd.func42, Tryd.ntmps42
            go_wp2_with (first | (go_at_call 92; refine (R.out _).mono ?_; rintro e w' ⟨rfl, rfl⟩) | (go_at_call 93; refine (O.out _).mono ?_; rintro e w1 ⟨rfl, hb1⟩) | (go_at_call 94; refine (K.out _).mono ?_; rintro e w2 ⟨rfl, hb2⟩) | (go_at_call 95; (with_reducible refine (W1.out _ _ (by simp)).mono ?_); rintro e w3 ⟨rfl, rfl⟩))
            go_ret
            rw [Hc.out]
            exact ⟨rfl, seqB (seqB hb1 hb2) (below_alloc _ _)⟩
        · have h3b : (s != v) = true := by simpa using h3
          have Hc : Hid (clsR v = 3) := Lib.hid (by rw [hc, if_pos h3])
          clear hc h3
          go_enter Tryd.func42, Tryd.ntmps42
          go_wp2_with (first | (go_at_call 92; refine (R.out _).mono ?_; rintro e w' ⟨rfl, rfl⟩) | (go_at_call 93; refine (O.out _).mono ?_; rintro e w1 ⟨rfl, hb1⟩) | (go_at_call 94; refine (K.out _).mono ?_; rintro e w2 ⟨rfl, hb2⟩))
          go_ret
          rw [Hc.out]; exact ⟨rfl, seqB hb1 hb2⟩
theorem width_ref (v : Int) (w : World) : Calls Tryd.prog 90 #[.int .i64 v] w fun e w' => e = .returned (.int .i64 (widR v)) ∧ Below w.heap.size w w' := by
  have ho := of_ref v w
  have hw : widR v = if clsR v = 2 then 2 else if clsR v = 1 ∨ clsR v = 3 then 1 else 0 := rfl
  generalize clsR v = c at *
  have Ho := Lib.hid ho; clear ho
  rcases (show c = 2 ∨ c = 1 ∨ c = 3 ∨ (c ≠ 2 ∧ c ≠ 1 ∧ c ≠ 3) by omega) with rfl | rfl | rfl | ⟨h1, h2, h3⟩
  · have Hw : Hid (widR v = 2) := Lib.hid (by rw [hw]; rfl)
    clear hw
    go_enter Tryd.func90, Tryd.ntmps90
    go_wp2_with (go_at_call 42; refine Ho.out.mono ?_; rintro e w1 ⟨rfl, hb1⟩)
    go_ret
    rw [Hw.out]; exact ⟨rfl, hb1⟩
  · have Hw : Hid (widR v = 1) := Lib.hid (by rw [hw]; rfl)
    clear hw
    go_enter Tryd.func90, Tryd.ntmps90
    go_wp2_with (go_at_call 42; refine Ho.out.mono ?_; rintro e w1 ⟨rfl, hb1⟩)
    go_ret
    rw [Hw.out]; exact ⟨rfl, hb1⟩
  · have Hw : Hid (widR v = 1) := Lib.hid (by rw [hw]; rfl)
    clear hw
    go_enter Tryd.func90, Tryd.ntmps90
    go_wp2_with (go_at_call 42; refine Ho.out.mono ?_; rintro e w1 ⟨rfl, hb1⟩)
    go_ret
    rw [Hw.out]; exact ⟨rfl, hb1⟩
  · have Hw : Hid (widR v = 0) := Lib.hid (by rw [hw, if_neg h1, if_neg (by omega)])
    have e1 : (c == 1) = false := by rw [beq_eq_false_iff_ne]; exact h2
    have e2 : (c == 2) = false := by rw [beq_eq_false_iff_ne]; exact h1
    have e3 : (c == 3) = false := by rw [beq_eq_false_iff_ne]; exact h3
    clear hw
    go_enter Tryd.func90, Tryd.ntmps90
    go_wp2_with (go_at_call 42; refine Ho.out.mono ?_; rintro e w1 ⟨rfl, hb1⟩)
    go_ret
    rw [Hw.out]; exact ⟨rfl, hb1⟩
end Go.Proofs.YtcdecnmhogmhaaaDoor
namespace Go.Proofs.YtcdecnmhogmhaaaDoor
open Go.RowKit
theorem inb_self (v x : Int) : inb v x x = true ↔ v = x := by
  unfold inb; simp; omega
theorem find_some_lt {p : Nat → Bool} {n j : Nat} (h : (List.range n).find? p = some j) : j < n ∧ p j = true := by
  have h1 := List.mem_of_find?_eq_some h
  exact ⟨by simpa using h1, List.find?_some h⟩
theorem look_keys : ∀ j : Fin 51, skelR (lks.getD (2 * j.val) 0) = skel (lks.getD (2 * j.val) 0) ∧ skel (lks.getD (2 * j.val) 0) ≠ lks.getD (2 * j.val) 0 := by decide +kernel
theorem look_keys2 : ∀ j : Fin 51, skelR (lSk.getD j.val 0) = skel (lSk.getD j.val 0) := by decide +kernel
/-- Both tables tell the same looks. -/
theorem skel_eq (v : Int) : skelR v = skel v := by
  cases h1 : (List.range 51).find? (hitL v) with
  | some j =>
    have ⟨hj, hp⟩ := find_some_lt h1
    have e : v = lks.getD (2 * j) 0 := (inb_self v _).1 hp
    rw [e]; exact (look_keys ⟨j, hj⟩).1
  | none =>
    cases h2 : (List.range 51).find? (hitS v) with
    | some j =>
      have ⟨hj, hp⟩ := find_some_lt h2
      have e : v = lSk.getD j 0 := by unfold hitS at hp; simpa using (beq_iff_eq.1 hp).symm
      rw [e]; exact look_keys2 ⟨j, hj⟩
    | none => unfold skelR skel; rw [h1, h2]
/-- Is it a look-alike? -/
def isL (v : Int) : Bool := (List.range 51).any (hitL v)
theorem isL_iff (v : Int) : isL v = true ↔ skel v ≠ v := by
  cases h1 : (List.range 51).find? (hitL v) with
  | some j =>
    have ⟨hj, hp⟩ := find_some_lt h1
    have e : v = lks.getD (2 * j) 0 := (inb_self v _).1 hp
    have hk := (look_keys ⟨j, hj⟩).2
    constructor
    · intro _; rw [e]; exact hk
    · intro _; unfold isL; rw [List.any_eq_true]; exact ⟨j, by simpa using hj, hp⟩
  | none =>
    have hn : skel v = v := by unfold skel; rw [h1]
    have : isL v = false := by
      unfold isL; rw [List.any_eq_false]
      rw [List.find?_eq_none] at h1; exact h1
    rw [this, hn]; simp
def toldP (v : Int) : Int := match (List.range 53).find? (hitR v) with | some j => rng.getD (3 * j) 0 | none => if isL v then 3 else 1
def oddP (v : Int) : Int := if wthn lSpace v then 10 else if wthn lZero v then 8 else if wthn lBidi v then 7 else if wthn lMark v then 9 else if wthn lOther v then 11 else 0
def clsP (v : Int) : Int := if 0 < oddP v then oddP v else if isL v then 3 else if wthn lWide v then 2 else 1
theorem told_toldP (v : Int) : told v = toldP v := by
  unfold told toldP
  cases (List.range 53).find? (hitR v) with
  | some j => rfl
  | none =>
    show (if skel v = v then (1 : Int) else 3) = if isL v then 3 else 1
    by_cases h : skel v = v
    · rw [if_pos h]
      have : isL v = false := by
        cases hl : isL v with
        | false => rfl
        | true => exact absurd h ((isL_iff v).1 hl)
      rw [this]; rfl
    · rw [if_neg h, (isL_iff v).2 h]; rfl
/-- Where a test may turn. -/
def brk : List Int := 160 :: ((List.range 53).flatMap fun j => [rng.getD (3 * j + 1) 0, rng.getD (3 * j + 2) 0 + 1]) ++ ((List.range 51).flatMap fun j => [lks.getD (2 * j) 0, lks.getD (2 * j) 0 + 1]) ++
  ([lSpace, lZero, lBidi, lMark, lOther, lWide].flatMap fun l => (List.range (l.length / 2)).flatMap fun j => [l.getD (2 * j) 0, l.getD (2 * j + 1) 0 + 1])
theorem floor_ex (v : Int) : ∀ B : List Int, (∃ b ∈ B, b ≤ v) → ∃ p ∈ B, p ≤ v ∧ ∀ b ∈ B, b ≤ v → b ≤ p := by
  intro B
  induction B with
  | nil => rintro ⟨b, hb, _⟩; cases hb
  | cons a B ih =>
    rintro ⟨b, hb, hv⟩
    by_cases hB : ∃ b ∈ B, b ≤ v
    · obtain ⟨p, hp, hpv, hmax⟩ := ih hB
      by_cases ha : a ≤ v ∧ p ≤ a
      · exact ⟨a, List.mem_cons_self .., ha.1, fun c hc hcv => by
          rcases List.mem_cons.1 hc with rfl | hc
          · exact Int.le_refl _
          · exact Int.le_trans (hmax c hc hcv) ha.2⟩
      · exact ⟨p, List.mem_cons_of_mem _ hp, hpv, fun c hc hcv => by
          rcases List.mem_cons.1 hc with rfl | hc
          · omega
          · exact hmax c hc hcv⟩
    · rcases List.mem_cons.1 hb with rfl | hb
      · exact ⟨b, List.mem_cons_self .., hv, fun c hc hcv => by
          rcases List.mem_cons.1 hc with rfl | hc
          · exact Int.le_refl _
          · exact absurd ⟨c, hc, hcv⟩ hB⟩
      · exact absurd ⟨b, hb, hv⟩ hB
theorem inb_floor {v p x y : Int} {B : List Int} (hp : p ≤ v) (hm : ∀ b ∈ B, b ≤ v → b ≤ p) (hx : x ∈ B) (hy : y + 1 ∈ B) : inb v x y = inb p x y := by
  have h1 := hm x hx; have h2 := hm (y + 1) hy
  unfold inb
  have e1 : decide (x ≤ v) = decide (x ≤ p) := by rw [Bool.eq_iff_iff]; simp; omega
  have e2 : decide (v ≤ y) = decide (p ≤ y) := by rw [Bool.eq_iff_iff]; simp; omega
  rw [e1, e2]
theorem brk_R : ∀ j : Fin 53, rng.getD (3 * j.val + 1) 0 ∈ brk ∧ rng.getD (3 * j.val + 2) 0 + 1 ∈ brk := by decide +kernel
theorem brk_L : ∀ j : Fin 51, lks.getD (2 * j.val) 0 ∈ brk ∧ lks.getD (2 * j.val) 0 + 1 ∈ brk := by decide +kernel
def brkW (l : List Int) : Bool := (List.range (l.length / 2)).all fun j => decide (l.getD (2 * j) 0 ∈ brk ∧ l.getD (2 * j + 1) 0 + 1 ∈ brk)
theorem brk_W : ∀ l ∈ [lSpace, lZero, lBidi, lMark, lOther, lWide], brkW l = true := by decide +kernel
theorem find_congr {p q : Nat → Bool} : ∀ {l : List Nat}, (∀ j ∈ l, p j = q j) → l.find? p = l.find? q
  | [], _ => rfl
  | a :: l, h => by
    rw [List.find?_cons, List.find?_cons, h a (List.mem_cons_self ..), find_congr fun j hj => h j (List.mem_cons_of_mem _ hj)]
theorem any_congr {p q : Nat → Bool} : ∀ {l : List Nat}, (∀ j ∈ l, p j = q j) → l.any p = l.any q
  | [], _ => rfl
  | a :: l, h => by
    rw [List.any_cons, List.any_cons, h a (List.mem_cons_self ..), any_congr fun j hj => h j (List.mem_cons_of_mem _ hj)]
theorem cls_points : ∀ p ∈ brk, 160 ≤ p → p ≤ 1114111 → toldP p = clsP p := by decide +kernel
theorem told_cls (v : Int) (h0 : 160 ≤ v) (h1 : v ≤ 1114111) : told v = clsP v := by
  obtain ⟨p, hpB, hpv, hm⟩ := floor_ex v brk ⟨160, by decide +kernel, h0⟩
  have hp0 : 160 ≤ p := hm 160 (by decide +kernel) h0
  have eR : ∀ j, j < 53 → hitR v j = hitR p j := fun j hj => inb_floor hpv hm (brk_R ⟨j, hj⟩).1 (brk_R ⟨j, hj⟩).2
  have eL : ∀ j, j < 51 → hitL v j = hitL p j := fun j hj => inb_floor hpv hm (brk_L ⟨j, hj⟩).1 (brk_L ⟨j, hj⟩).2
  have eW : ∀ l ∈ [lSpace, lZero, lBidi, lMark, lOther, lWide], wthn l v = wthn l p := fun l hl => by
    have hw := brk_W l hl
    unfold brkW at hw
    rw [List.all_eq_true] at hw
    unfold wthn
    exact any_congr fun j hj => by
      have := of_decide_eq_true (hw j hj)
      exact inb_floor hpv hm this.1 this.2
  have eI : isL v = isL p := any_congr fun j hj => eL j (by simpa using hj)
  have eT : toldP v = toldP p := by
    unfold toldP
    rw [find_congr (p := hitR v) (q := hitR p) fun j hj => eR j (by simpa using hj), eI]
  have eO : oddP v = oddP p := by
    unfold oddP
    rw [eW lSpace (by simp), eW lZero (by simp), eW lBidi (by simp), eW lMark (by simp), eW lOther (by simp)]
  have eC : clsP v = clsP p := by
    unfold clsP
    rw [eO, eI, eW lWide (by simp)]
  rw [told_toldP, eT, eC]
  exact cls_points p hpB hp0 (by omega)
theorem wthn_low {l : List Int} {v : Int} (hl : (List.range (l.length / 2)).all (fun j => decide (160 ≤ l.getD (2 * j) 0)) = true) (h : v < 160) : wthn l v = false := by
  refine wthn_no fun j hj => ?_
  rw [List.all_eq_true] at hl
  have := of_decide_eq_true (hl j (by simpa using hj))
  unfold hitW inb
  rw [decide_eq_false (by omega)]; rfl
theorem skelR_low {v : Int} (h : v < 160) : skelR v = v := by
  have hn : ∀ j, j < 51 → hitS v j = false := fun j hj => by
    have key : ∀ j : Fin 51, 160 ≤ lSk.getD j.val 0 := by decide +kernel
    have := key ⟨j, hj⟩
    unfold hitS
    rw [beq_eq_false_iff_ne]; intro h2; simp only at this; omega
  unfold skelR; rw [find_none hn]
theorem cls_small (v : Int) (h0 : 0 ≤ v) (h : v < 160) : cls v = clsR v := by
  have e : rght v = true := by
    rcases rght_cases v with h2 | h2
    · exact h2.1
    · omega
  have hR : clsR v = if 1114111 < v then 12 else if 0 < oddR v then oddR v else if skelR v ≠ v then 3 else if wthn lWide v then 2 else 1 := by unfold clsR; rw [e, if_neg (show ¬ (true = false) by decide)]
  have hL : cls v = if 1114112 ≤ v then 12 else if v < 32 then 4 else if v = 127 then 5 else if 128 ≤ v ∧ v < 160 then 6 else if v < 160 then 1 else told v := by unfold cls; rw [e, if_neg (show ¬ (true = false) by decide)]
  have w1 := wthn_low (l := lSpace) (by decide +kernel) h
  have w2 := wthn_low (l := lZero) (by decide +kernel) h
  have w3 := wthn_low (l := lBidi) (by decide +kernel) h
  have w4 := wthn_low (l := lMark) (by decide +kernel) h
  have w5 := wthn_low (l := lOther) (by decide +kernel) h
  have w6 := wthn_low (l := lWide) (by decide +kernel) h
  have ho : oddR v = if v ≤ 31 then 4 else if v = 127 then 5 else if 128 ≤ v ∧ v ≤ 159 then 6 else 0 := by unfold oddR; rw [w1, w2, w3, w4, w5]; simp only [Bool.false_eq_true, if_false]
  rw [hR, hL, ho, skelR_low h, w6, if_neg (show ¬ 1114112 ≤ v by omega), if_neg (show ¬ 1114111 < v by omega)]
  rcases (show v < 32 ∨ v = 127 ∨ (128 ≤ v ∧ v < 160) ∨ (32 ≤ v ∧ v < 127) by omega) with c | c | c | c
  · rw [if_pos c, if_pos (show v ≤ 31 by omega)]; simp
  · subst c; simp
  · rw [if_neg (show ¬ v < 32 by omega), if_neg (show ¬ v = 127 by omega), if_pos (show 128 ≤ v ∧ v < 160 by omega), if_neg (show ¬ v ≤ 31 by omega), if_neg (show ¬ v = 127 by omega), if_pos (show 128 ≤ v ∧ v ≤ 159 by omega)]; simp
  · rw [if_neg (show ¬ v < 32 by omega), if_neg (show ¬ v = 127 by omega), if_neg (show ¬ (128 ≤ v ∧ v < 160) by omega), if_pos h, if_neg (show ¬ v ≤ 31 by omega), if_neg (show ¬ v = 127 by omega), if_neg (show ¬ (128 ≤ v ∧ v ≤ 159) by omega)]; simp
/-- Both tell the same class of every value. -/
theorem cls_eq (v : Int) : cls v = clsR v := by
  rcases rght_cases v with ⟨e, h⟩ | ⟨e, h⟩
  · by_cases h1 : v < 160
    · exact cls_small v (by omega) h1
    · have hR : clsR v = if 1114111 < v then 12 else if 0 < oddR v then oddR v else if skelR v ≠ v then 3 else if wthn lWide v then 2 else 1 := by unfold clsR; rw [e, if_neg (show ¬ (true = false) by decide)]
      have hL : cls v = if 1114112 ≤ v then 12 else if v < 32 then 4 else if v = 127 then 5 else if 128 ≤ v ∧ v < 160 then 6 else if v < 160 then 1 else told v := by unfold cls; rw [e, if_neg (show ¬ (true = false) by decide)]
      by_cases h2 : 1114111 < v
      · rw [hR, hL, if_pos (by omega), if_pos h2]
      · have ho : oddR v = oddP v := by unfold oddR oddP; rw [if_neg (by omega), if_neg (by omega), if_neg (by omega)]
        rw [hR, hL, if_neg (by omega), if_neg (by omega), if_neg (by omega), if_neg (by omega), if_neg (by omega), told_cls v (by omega) (by omega), if_neg h2, ho, skel_eq]
        unfold clsP
        by_cases h3 : skel v = v
        · have : isL v = false := by
            cases hl : isL v with
            | false => rfl
            | true => exact absurd h3 ((isL_iff v).1 hl)
          rw [this, if_neg (show ¬ skel v ≠ v by simpa using h3), if_neg (show ¬ (false = true) by decide)]
        · rw [(isL_iff v).2 h3, if_pos (show skel v ≠ v from h3), if_pos rfl]
  · unfold cls clsR; rw [e, if_pos rfl, if_pos rfl]
theorem wid_eq (v : Int) : wid v = widR v := by unfold wid widR; rw [cls_eq]
end Go.Proofs.YtcdecnmhogmhaaaDoor
set_option linter.unusedVariables false
set_option linter.unusedSimpArgs false
namespace Go.Proofs.YtcdecnmhogmhaaaDoor
open Go.RowKit
/-- Hex digits, at least so many. -/
def hexL (n l : Int) : List UInt8 := tell 16 20 n.toNat l.toNat
theorem hex_size (n l : Int) : (⟨(hexL n l).toArray⟩ : ByteArray).size ≤ 20 := by
  have := tell_len 16 20 n.toNat l.toNat
  simpa [hexL, ByteArray.size] using this
theorem hexS_L (n l : Int) (h : 0 ≤ n) (h1 : 1 ≤ l) (h2 : l ≤ 16) : hexS n l = hexL n l := by
  unfold hexS hexL; rw [if_neg (by omega)]
  have : lst l = l := by unfold lst; omega
  rw [this]
theorem hexN_L (n l : Int) (h1 : 1 ≤ l) : hexN n l = hexL n l := by
  unfold hexN hexL; rw [show max l 1 = l by omega]
/-- A value's shown text. -/
def shT (v : Int) : ByteArray :=
  if cls v = 0 then ⟨#[]⟩ else if cls v ≤ 3 then txt (oneI v) else if cls v = 4 then ⟨#[94]⟩ ++ txt [v + 64] else if cls v = 5 then ⟨#[94, 63]⟩
  else if cls v = 12 then ⟨#[92, 120]⟩ ++ ⟨(hexL (v - 1114112) 2).toArray⟩ else ⟨#[60, 85, 43]⟩ ++ ⟨(hexL v 4).toArray⟩ ++ ⟨#[62]⟩
theorem told_rng (v : Int) : told v ≠ 0 ∧ told v ≠ 4 ∧ told v ≠ 5 ∧ told v ≠ 12 ∧ told v ≠ 6 := by
  unfold told
  split
  · rename_i j hj
    have hlt := (find_some_lt hj).1
    have key : ∀ j : Fin 53, rng.getD (3 * j.val) 0 ≠ 0 ∧ rng.getD (3 * j.val) 0 ≠ 4 ∧ rng.getD (3 * j.val) 0 ≠ 5 ∧ rng.getD (3 * j.val) 0 ≠ 12 ∧ rng.getD (3 * j.val) 0 ≠ 6 := by decide +kernel
    exact key ⟨j, hlt⟩
  · split <;> omega
/-- What a class tells of its values. -/
theorem cls_what (v : Int) : (cls v = 0 ∧ rght v = false) ∨ (rght v = true ∧ ((cls v = 12 ∧ 1114240 ≤ v ∧ v ≤ 1114367) ∨ (cls v = 4 ∧ 0 ≤ v ∧ v < 32) ∨ (cls v = 5 ∧ v = 127) ∨ (cls v = 6 ∧ 128 ≤ v ∧ v < 160) ∨ (1 ≤ cls v ∧ cls v ≤ 11 ∧ cls v ≠ 4 ∧ cls v ≠ 5 ∧ cls v ≠ 6 ∧ 32 ≤ v ∧ v ≤ 1114111 ∧ (v < 55296 ∨ 57343 < v) ∧ v ≠ 127 ∧ (v < 128 ∨ 160 ≤ v)))) := by
  have h1 := pnt_cases v
  have h2 := stry_cases v
  have ht := told_rng v
  have hr := cls_rng v
  have e : cls v = if rght v = false then 0 else if 1114112 ≤ v then 12 else if v < 32 then 4 else if v = 127 then 5 else if 128 ≤ v ∧ v < 160 then 6 else if v < 160 then 1 else told v := rfl
  have hrr : rght v = (pnt v || stry v) := rfl
  cases hg : rght v
  · left; rw [hg, if_pos rfl] at e; exact ⟨e, rfl⟩
  · right
    refine ⟨rfl, ?_⟩
    rw [hg, if_neg (by simp)] at e
    rw [hg] at hrr
    by_cases c1 : 1114112 ≤ v
    · rw [if_pos c1] at e
      left
      rcases h1 with ⟨a, b⟩ | ⟨a, b⟩
      · omega
      · rcases h2 with ⟨a2, b2, b3⟩ | ⟨a2, b2⟩
        · exact ⟨e, b2, b3⟩
        · rw [a, a2] at hrr; simp at hrr
    · rw [if_neg c1] at e
      have hv : 0 ≤ v ∧ v < 55296 ∨ 57343 < v ∧ v ≤ 1114111 := by
        rcases h1 with ⟨a, b⟩ | ⟨a, b⟩
        · exact b
        · rcases h2 with ⟨a2, b2, b3⟩ | ⟨a2, b2⟩
          · omega
          · rw [a, a2] at hrr; simp at hrr
      by_cases c2 : v < 32
      · rw [if_pos c2] at e; right; left; exact ⟨e, by omega, c2⟩
      rw [if_neg c2] at e
      by_cases c3 : v = 127
      · rw [if_pos c3] at e; right; right; left; exact ⟨e, c3⟩
      rw [if_neg c3] at e
      by_cases c4 : 128 ≤ v ∧ v < 160
      · rw [if_pos c4] at e; right; right; right; left; exact ⟨e, c4.1, c4.2⟩
      rw [if_neg c4] at e
      right; right; right; right
      by_cases c5 : v < 160
      · rw [if_pos c5] at e; rw [e]; omega
      rw [if_neg c5] at e; rw [e] at hr ⊢; omega
/-- The cases of a shown text. -/
theorem sh_cases (v : Int) : (cls v = 0 ∧ shT v = ⟨#[]⟩) ∨ ((cls v = 1 ∨ cls v = 2 ∨ cls v = 3) ∧ 32 ≤ v ∧ v ≤ 1114111 ∧ (v < 55296 ∨ 57343 < v) ∧ shT v = txt (oneI v)) ∨ (cls v = 4 ∧ 0 ≤ v ∧ v < 32 ∧ shT v = ⟨#[94]⟩ ++ txt [v + 64]) ∨
    (cls v = 5 ∧ shT v = ⟨#[94, 63]⟩) ∨ (cls v = 12 ∧ 1114240 ≤ v ∧ v ≤ 1114367 ∧ shT v = ⟨#[92, 120]⟩ ++ ⟨(hexL (v - 1114112) 2).toArray⟩) ∨
    (6 ≤ cls v ∧ cls v ≤ 11 ∧ 128 ≤ v ∧ v ≤ 1114111 ∧ (v < 55296 ∨ 57343 < v) ∧ shT v = ⟨#[60, 85, 43]⟩ ++ ⟨(hexL v 4).toArray⟩ ++ ⟨#[62]⟩) := by
  have e : shT v = if cls v = 0 then ⟨#[]⟩ else if cls v ≤ 3 then txt (oneI v) else if cls v = 4 then ⟨#[94]⟩ ++ txt [v + 64] else if cls v = 5 then ⟨#[94, 63]⟩
    else if cls v = 12 then ⟨#[92, 120]⟩ ++ ⟨(hexL (v - 1114112) 2).toArray⟩ else ⟨#[60, 85, 43]⟩ ++ ⟨(hexL v 4).toArray⟩ ++ ⟨#[62]⟩ := rfl
  have hlow : v < 128 → 7 ≤ cls v → cls v ≤ 11 → False := fun h h2 h3 => by
    have key : ∀ i : Fin 128, ¬ (7 ≤ cls (i.val : Int) ∧ cls (i.val : Int) ≤ 11) := by decide +kernel
    rcases cls_what v with ⟨h0, _⟩ | ⟨_, ⟨h0, h4, h5⟩ | ⟨h0, _⟩ | ⟨h0, _⟩ | ⟨h0, _⟩ | ⟨_, _, _, _, _, h6, _⟩⟩ <;> try omega
    have := key ⟨v.toNat, by omega⟩
    simp only [] at this
    rw [show ((v.toNat : Nat) : Int) = v by omega] at this
    exact this ⟨h2, h3⟩
  rcases cls_what v with ⟨h0, _⟩ | ⟨_, ⟨h0, h4, h5⟩ | ⟨h0, h4, h5⟩ | ⟨h0, h4⟩ | ⟨h0, h4, h5⟩ | ⟨h1, h2, h3, h4, h5, h6, h7, h8, h9, h10⟩⟩
  · left; exact ⟨h0, by rw [e, if_pos h0]⟩
  · right; right; right; right; left; exact ⟨h0, h4, h5, by rw [e, h0, if_neg (by omega), if_neg (by omega), if_neg (by omega), if_neg (by omega), if_pos rfl]⟩
  · right; right; left; exact ⟨h0, h4, h5, by rw [e, h0, if_neg (by omega), if_neg (by omega), if_pos rfl]⟩
  · right; right; right; left; exact ⟨h0, by rw [e, h0, if_neg (by omega), if_neg (by omega), if_neg (by omega), if_pos rfl]⟩
  · right; right; right; right; right
    exact ⟨by omega, by omega, by omega, by omega, by omega, by rw [e, h0, if_neg (by omega), if_neg (by omega), if_neg (by omega), if_neg (by omega), if_neg (by omega)]⟩
  · by_cases c : cls v ≤ 3
    · right; left; exact ⟨by omega, h6, h7, h8, by rw [e, if_neg (by omega), if_pos c]⟩
    · right; right; right; right; right
      refine ⟨by omega, by omega, ?_, by omega, by omega, by rw [e, if_neg (by omega), if_neg c, if_neg h3, if_neg h4, if_neg (by omega)]⟩
      rcases Int.lt_or_le v 128 with hh | hh
      · exact (hlow hh (by omega) h2).elim
      · exact hh
theorem one_enc {v : Int} (h : 32 ≤ v) (h1 : v ≤ 1114111) (h2 : v < 55296 ∨ 57343 < v) : encS [v] = txt (oneI v) := by simp [encS, encI]
theorem ctl_enc {v : Int} (h : 0 ≤ v) (h1 : v < 32) : encS [v + 64] = txt [v + 64] := by
  have hp : ptB (v + 64) = true := (ptB_iff _).2 (by omega)
  simp [encS, encI, oneI_pt hp]
  rw [Lib.encodeRuneZ_one (by omega) (by omega)]
theorem row_one (w : World) (v : Int) : Row (w.alloc (.cells #[.int .i64 v] 3)) (some ⟨w.heap.size, 0, none⟩) [v] := fun j hj => by
  obtain rfl : j = 0 := by simp at hj; omega
  exact ⟨w.heap.size, 0, rfl, by rw [World.cell?_alloc_new]; rfl, by simp⟩
set_option maxHeartbeats 4000000 in
theorem shtext_any (v : Int) (w : World) (hT : Tabs w) : Calls Tryd.prog 151 #[.int .i64 v] w fun e w' => e = .returned (.string (shT v)) ∧ Below w.heap.size w w' := by
  have O := fun w hT => of_any v w hT
  have E := fun x w => encode_any [x] (some ⟨w.heap.size, 0, none⟩) 1 (w.alloc (.cells #[.int .i64 x] 3)) (by simp) (row_one w x)
  have hc := sh_cases v
  generalize cls v = c at *
  have HT := Lib.hid hT; clear hT
  replace O := Lib.hid O
  rcases hc with ⟨h0, hs⟩ | ⟨h0, h1, h2, h3, hs⟩ | ⟨h0, h1, h2, hs⟩ | ⟨h0, hs⟩ | ⟨h0, h1, h2, hs⟩ | ⟨h0, h00, h1, h2, h3, hs⟩
  · subst h0
    have Hs := Lib.hid hs; clear hs E
    go_enter Tryd.func151, Tryd.ntmps151
    go_wp2_with (go_at_call 117; refine (O.out _ HT.out).mono ?_; rintro e w1 ⟨rfl, hb1⟩)
    go_ret
    rw [Hs.out]; exact ⟨rfl, hb1⟩
  · have he := one_enc h1 h2 h3
    have E1 := fun w => E v w
    rw [he] at E1
    have Hs := Lib.hid hs
    replace E1 := Lib.hid E1
    clear hs E he
    rcases h0 with rfl | rfl | rfl
    all_goals
      go_enter Tryd.func151, Tryd.ntmps151
      go_wp2_with (first
        | (go_at_call 117; refine (O.out _ HT.out).mono ?_; rintro e w1 ⟨rfl, hb1⟩)
        | (go_at_call 104; refine (E1.out _).mono ?_; rintro e w2 ⟨rfl, hb2⟩))
      go_ret
      rw [Hs.out]; exact ⟨rfl, seqB hb1 (seqB (below_alloc _ _) hb2)⟩
  · subst h0
    have he := ctl_enc h1 h2
    have E1 := fun w => E (v + 64) w
    rw [he] at E1
    have Hs := Lib.hid hs
    have hsz : (txt [v + 64]).size ≤ 4 := by simp [txt, ByteArray.size]
    generalize txt [v + 64] = u at *
    replace E1 := Lib.hid E1
    clear hs E he
    go_enter Tryd.func151, Tryd.ntmps151
    go_wp2_with (first
      | (go_at_call 117; refine (O.out _ HT.out).mono ?_; rintro e w1 ⟨rfl, hb1⟩)
      | (go_at_call 104; refine (E1.out _).mono ?_; rintro e w2 ⟨rfl, hb2⟩))
    go_ret
    rw [Hs.out]; exact ⟨rfl, seqB hb1 (seqB (below_alloc _ _) hb2)⟩
  · subst h0
    have Hs := Lib.hid hs; clear hs E
    go_enter Tryd.func151, Tryd.ntmps151
    go_wp2_with (go_at_call 117; refine (O.out _ HT.out).mono ?_; rintro e w1 ⟨rfl, hb1⟩)
    go_ret
    rw [Hs.out]; exact ⟨rfl, hb1⟩
  · subst h0
    have Hx := fun w => hex_any (v - 1114112) 2 w (by omega) (by omega)
    rw [hexS_L _ _ (by omega) (by omega) (by omega)] at Hx
    have Hs := Lib.hid hs
    have hsz : (⟨(hexL (v - 1114112) 2).toArray⟩ : ByteArray).size ≤ 20 := hex_size _ _
    generalize (⟨(hexL (v - 1114112) 2).toArray⟩ : ByteArray) = u at *
    replace Hx := Lib.hid Hx
    clear hs E
    go_enter Tryd.func151, Tryd.ntmps151
    go_wp2_with (first
      | (go_at_call 117; refine (O.out _ HT.out).mono ?_; rintro e w1 ⟨rfl, hb1⟩)
      | (go_at_call 135; refine (Hx.out _).mono ?_; rintro e w2 ⟨rfl, hb2⟩))
    go_ret
    rw [Hs.out]; exact ⟨rfl, seqB hb1 hb2⟩
  · have Hx := fun w => hex_any v 4 w (by omega) (by omega)
    rw [hexS_L _ _ (by omega) (by omega) (by omega)] at Hx
    have Hs := Lib.hid hs
    have hsz : (⟨(hexL v 4).toArray⟩ : ByteArray).size ≤ 20 := hex_size _ _
    generalize (⟨(hexL v 4).toArray⟩ : ByteArray) = u at *
    replace Hx := Lib.hid Hx
    have b0 : (c == 0) = false := by rw [beq_eq_false_iff_ne]; omega
    have b1 : (c == 1) = false := by rw [beq_eq_false_iff_ne]; omega
    have b2 : (c == 2) = false := by rw [beq_eq_false_iff_ne]; omega
    have b3 : (c == 3) = false := by rw [beq_eq_false_iff_ne]; omega
    have b4 : (c == 4) = false := by rw [beq_eq_false_iff_ne]; omega
    have b5 : (c == 5) = false := by rw [beq_eq_false_iff_ne]; omega
    have b12 : (c == 12) = false := by rw [beq_eq_false_iff_ne]; omega
    clear hs E
    go_enter Tryd.func151, Tryd.ntmps151
    go_wp2_with (first
      | (go_at_call 117; refine (O.out _ HT.out).mono ?_; rintro e w1 ⟨rfl, hb1⟩)
      | (go_at_call 135; refine (Hx.out _).mono ?_; rintro e w2 ⟨rfl, hb2⟩))
    go_ret
    rw [Hs.out]; exact ⟨rfl, seqB hb1 hb2⟩
end Go.Proofs.YtcdecnmhogmhaaaDoor
set_option linter.unusedVariables false
set_option linter.unusedSimpArgs false
namespace Go.Proofs.YtcdecnmhogmhaaaDoor
open Go.RowKit
theorem hx16 {n : Int} (h : n ≤ 2000000) : n.toNat < 16 ^ 16 := Nat.lt_of_le_of_lt (show n.toNat ≤ 2000000 by omega) (by decide)
theorem right_cls {v : Int} (h1 : 32 ≤ v) (h2 : v ≤ 1114111) (h3 : v < 55296 ∨ 57343 < v) : rightB v = true := by
  unfold rightB; rw [Bool.or_eq_true]; left; rw [ptB_iff]; omega
set_option maxHeartbeats 4000000 in
theorem shtext_ref (v : Int) (w : World) : Calls Tryd.prog 120 #[.int .i64 v] w fun e w' => e = .returned (.string (shT v)) ∧ Below w.heap.size w w' := by
  have O := fun w => of_ref v w
  rw [← cls_eq] at O
  have hc := sh_cases v
  generalize cls v = c at *
  replace O := Lib.hid O
  rcases hc with ⟨h0, hs⟩ | ⟨h0, h1, h2, h3, hs⟩ | ⟨h0, h1, h2, hs⟩ | ⟨h0, hs⟩ | ⟨h0, h1, h2, hs⟩ | ⟨h0, h00, h1, h2, h3, hs⟩
  · subst h0
    have Hs := Lib.hid hs; clear hs
    go_enter Tryd.func120, Tryd.ntmps120
    go_wp2_with (go_at_call 42; refine (O.out _).mono ?_; rintro e w1 ⟨rfl, hb1⟩)
    go_ret
    rw [Hs.out]; exact ⟨rfl, hb1⟩
  · have B := Lib.hid fun w => bytes_ref v w (right_cls h1 h2 h3)
    have Hs := Lib.hid hs
    clear hs
    rcases h0 with rfl | rfl | rfl
    all_goals
      go_enter Tryd.func120, Tryd.ntmps120
      go_wp2_with (first
        | (go_at_call 42; refine (O.out _).mono ?_; rintro e w1 ⟨rfl, hb1⟩)
        | (go_at_call 108; refine (B.out _).mono ?_; rintro e w2 ⟨rfl, hb2⟩))
      go_ret
      rw [Hs.out]; exact ⟨rfl, seqB hb1 hb2⟩
  · subst h0
    have Hs := Lib.hid hs
    have hcv : ∀ (w : World) dst, Tryd.prog.underlying dst = some .string → (convert 108 dst (.slice (some ⟨w.heap.size, 0, none⟩) 1 1)).run Tryd.prog (w.alloc (Obj.cells #[.int .u8 (v + 64)] 5)) = .ok (.string (txt [v + 64])) (w.alloc (Obj.cells #[.int .u8 (v + 64)] 5)) := fun w => conv_new w [v + 64] 1 rfl
    have hsz : (txt [v + 64]).size ≤ 4 := by simp [txt, ByteArray.size]
    generalize txt [v + 64] = u at *
    clear hs
    go_enter Tryd.func120, Tryd.ntmps120
    go_wp2_with (go_at_call 42; refine (O.out _).mono ?_; rintro e w1 ⟨rfl, hb1⟩)
    go_ret
    rw [Hs.out]; exact ⟨rfl, seqB hb1 (below_alloc _ _)⟩
  · subst h0
    have Hs := Lib.hid hs; clear hs
    go_enter Tryd.func120, Tryd.ntmps120
    go_wp2_with (go_at_call 42; refine (O.out _).mono ?_; rintro e w1 ⟨rfl, hb1⟩)
    go_ret
    rw [Hs.out]; exact ⟨rfl, hb1⟩
  · subst h0
    have Hx := fun w => hex_ref 16 (v - 1114112) 2 w (by omega) (by omega) (hx16 (by omega)) (by omega) (by omega) (by omega)
    rw [hexN_L _ _ (by omega)] at Hx
    have Hs := Lib.hid hs
    have hsz : (⟨(hexL (v - 1114112) 2).toArray⟩ : ByteArray).size ≤ 20 := hex_size _ _
    generalize (⟨(hexL (v - 1114112) 2).toArray⟩ : ByteArray) = u at *
    replace Hx := Lib.hid Hx
    clear hs
    go_enter Tryd.func120, Tryd.ntmps120
    go_wp2_with (first
      | (go_at_call 42; refine (O.out _).mono ?_; rintro e w1 ⟨rfl, hb1⟩)
      | (go_at_call 107; refine (Hx.out _).mono ?_; rintro e w2 ⟨rfl, rfl⟩))
    go_ret
    rw [Hs.out]; exact ⟨rfl, hb1⟩
  · have Hx := fun w => hex_ref 16 v 4 w (by omega) (by omega) (hx16 (by omega)) (by omega) (by omega) (by omega)
    rw [hexN_L _ _ (by omega)] at Hx
    have Hs := Lib.hid hs
    have hsz : (⟨(hexL v 4).toArray⟩ : ByteArray).size ≤ 20 := hex_size _ _
    generalize (⟨(hexL v 4).toArray⟩ : ByteArray) = u at *
    replace Hx := Lib.hid Hx
    have b0 : (c == 0) = false := by rw [beq_eq_false_iff_ne]; omega
    have b4 : (c == 4) = false := by rw [beq_eq_false_iff_ne]; omega
    have b5 : (c == 5) = false := by rw [beq_eq_false_iff_ne]; omega
    have b12 : (c == 12) = false := by rw [beq_eq_false_iff_ne]; omega
    clear hs
    go_enter Tryd.func120, Tryd.ntmps120
    go_wp2_with (first
      | (go_at_call 42; refine (O.out _).mono ?_; rintro e w1 ⟨rfl, hb1⟩)
      | (go_at_call 107; refine (Hx.out _).mono ?_; rintro e w2 ⟨rfl, rfl⟩))
    go_ret
    rw [Hs.out]; exact ⟨rfl, hb1⟩
/-- A value's columns. -/
def shC (v : Int) : Int := if 3 < cls v then ((shT v).size : Int) else wid v
theorem shC_big {v : Int} (h : 3 < cls v) : shC v = ((shT v).size : Int) := by unfold shC; rw [if_pos h]
theorem shC_small {v : Int} (h : ¬ 3 < cls v) : shC v = wid v := by unfold shC; rw [if_neg h]
theorem shT_size (v : Int) : (shT v).size ≤ 30 := by
  have hh := fun n l => hex_size n l
  rcases sh_cases v with ⟨_, hs⟩ | ⟨_, _, _, _, hs⟩ | ⟨_, _, _, hs⟩ | ⟨_, hs⟩ | ⟨_, _, _, hs⟩ | ⟨_, _, _, _, _, hs⟩
  · rw [hs]; decide
  · rw [hs, txt_size]; have := oneI_len v; omega
  · rw [hs, ByteArray.size_append, txt_size]; show 1 + 1 ≤ 30; omega
  · rw [hs]; decide
  · rw [hs, ByteArray.size_append]; have := hh (v - 1114112) 2; show 2 + _ ≤ 30; omega
  · rw [hs, ByteArray.size_append, ByteArray.size_append]; have := hh v 4; show 3 + _ + 1 ≤ 30; omega
/-- A sign's looks. -/
def lkI (v l : Int) : Int := (if 3 < cls v then 1 else 0) + (if l = 2 ∨ l = 3 ∨ l = 4 then 2 else 0) + (if cls v = 3 then 4 else 0)
theorem lk_rng (v l : Int) : 0 ≤ lkI v l ∧ lkI v l ≤ 7 := by unfold lkI; repeat' split
                                                             all_goals omega
set_option maxHeartbeats 4000000 in
theorem looks_any (v l : Int) (w : World) (hT : Tabs w) : Calls Tryd.prog 148 #[.agg #[.int .i64 v, .int .i64 l]] w fun e w' => e = .returned (.int .i64 (lkI v l)) ∧ Below w.heap.size w w' := by
  have D := fun w hT => danger_any v w hT
  have O := fun w hT => of_any v w hT
  have hd : dng v = decide (3 < cls v) := rfl
  rw [hd] at D
  have hk : lkI v l = (if 3 < cls v then 1 else 0) + (if l = 2 ∨ l = 3 ∨ l = 4 then 2 else 0) + (if cls v = 3 then 4 else 0) := rfl
  have HT := Lib.hid (hT.below (below_alloc w (.cells #[.int .i64 v, .int .i64 l] 53)))
  have hb0 := below_alloc w (.cells #[.int .i64 v, .int .i64 l] 53)
  clear hT hd
  generalize cls v = c at *
  have hc : (3 < c) ∨ c = 3 ∨ (c < 3) := by omega
  have hl : l = 2 ∨ l = 3 ∨ l = 4 ∨ (l ≠ 2 ∧ l ≠ 3 ∧ l ≠ 4) := by omega
  rcases hc with hc | hc | hc
  all_goals
    first
      | (have e3 : (c == 3) = false := by rw [beq_eq_false_iff_ne]; omega
         first | rw [decide_eq_true hc] at D | rw [decide_eq_false (by omega)] at D)
      | (subst hc
         have e3 : True := trivial
         rw [decide_eq_false (by omega)] at D)
    replace D := Lib.hid D; replace O := Lib.hid O
    rcases hl with hl | hl | hl | ⟨n2, n3, n4⟩
    all_goals
      first
        | (subst hl
           have l2 : True := trivial; have l3 : True := trivial; have l4 : True := trivial)
        | (have l2 : (l == 2) = false := by rw [beq_eq_false_iff_ne]; exact n2
           have l3 : (l == 3) = false := by rw [beq_eq_false_iff_ne]; exact n3
           have l4 : (l == 4) = false := by rw [beq_eq_false_iff_ne]; exact n4)
      have Hk := Lib.hid hk
      clear hk
      go_enter Tryd.func148, Tryd.ntmps148
      go_wp2_with (first
        | (go_at_call 150; refine (D.out _ HT.out).mono ?_; rintro e w1 ⟨rfl, hb1⟩; have T1 := Lib.hid (HT.out.below hb1); have cc1 := (hb1.cell (p := ⟨w.heap.size, 0, none⟩) (by simp)).trans (World.cell?_alloc_new w (#[.int .i64 v, .int .i64 _]) 53 0); have cc2 := (hb1.cell (p := ⟨w.heap.size, 1, none⟩) (by simp)).trans (World.cell?_alloc_new w (#[.int .i64 v, .int .i64 _]) 53 1))
        | (go_at_call 117; refine (O.out _ T1.out).mono ?_; rintro e w2 ⟨rfl, hb2⟩))
      go_ret
      rw [Hk.out]
      refine ⟨retI ?_, seqB hb0 (seqB hb1 hb2)⟩
      clear HT T1 D O hb0 hb1 hb2
      (repeat' split) <;> first | omega | simp_all
end Go.Proofs.YtcdecnmhogmhaaaDoor
set_option linter.unusedVariables false
set_option linter.unusedSimpArgs false
namespace Go.Proofs.YtcdecnmhogmhaaaDoor
open Go.RowKit
def u8l (l : List Int) : List UInt8 := l.map fun x => x.toNat.toUInt8
theorem txt_list (l : List Int) : txt l = ⟨(u8l l).toArray⟩ := rfl
/-- The cases of a shown text, as lists. -/
theorem sh_lists (v : Int) : (cls v = 0 ∧ shT v = ⟨([] : List UInt8).toArray⟩) ∨ ((cls v = 1 ∨ cls v = 2 ∨ cls v = 3) ∧ 32 ≤ v ∧ v ≠ 127 ∧ v ≤ 1114111 ∧ (v < 55296 ∨ 57343 < v) ∧ shT v = ⟨(u8l (oneI v)).toArray⟩) ∨ (cls v = 4 ∧ 0 ≤ v ∧ v < 32 ∧ shT v = ⟨([94] ++ u8l [v + 64]).toArray⟩) ∨
    (cls v = 5 ∧ v = 127 ∧ shT v = ⟨[94, 63].toArray⟩) ∨ (cls v = 12 ∧ 1114240 ≤ v ∧ v ≤ 1114367 ∧ shT v = ⟨([92, 120] ++ hexL (v - 1114112) 2).toArray⟩) ∨
    (6 ≤ cls v ∧ cls v ≤ 11 ∧ 128 ≤ v ∧ v ≤ 1114111 ∧ (v < 55296 ∨ 57343 < v) ∧ shT v = ⟨([60, 85, 43] ++ hexL v 4 ++ [62]).toArray⟩) := by
  have hw := cls_what v
  rcases sh_cases v with ⟨h0, hs⟩ | ⟨h0, h1, h2, h3, hs⟩ | ⟨h0, h1, h2, hs⟩ | ⟨h0, hs⟩ | ⟨h0, h1, h2, hs⟩ | ⟨h0, h00, h1, h2, h3, hs⟩
  · left; exact ⟨h0, hs⟩
  · right; left
    refine ⟨h0, h1, ?_, h2, h3, hs⟩
    rcases hw with ⟨a, _⟩ | ⟨_, ⟨a, _⟩ | ⟨a, _⟩ | ⟨a, _⟩ | ⟨a, _⟩ | ⟨_, _, _, _, _, _, _, _, a, _⟩⟩ <;> omega
  · right; right; left; exact ⟨h0, h1, h2, by rw [hs, txt_list]; exact ba_app [94] _⟩
  · right; right; right; left
    refine ⟨h0, ?_, hs⟩
    rcases hw with ⟨a, _⟩ | ⟨_, ⟨a, _⟩ | ⟨a, _⟩ | ⟨a, b⟩ | ⟨a, _⟩ | ⟨_, _, _, _, _, _, _, _, a, _⟩⟩ <;> omega
  · right; right; right; right; left; exact ⟨h0, h1, h2, by rw [hs]; exact ba_app [92, 120] _⟩
  · right; right; right; right; right
    exact ⟨h0, h00, h1, h2, h3, by rw [hs]; rw [show (⟨#[60, 85, 43]⟩ : ByteArray) = ⟨([60, 85, 43] : List UInt8).toArray⟩ from rfl, show (⟨#[62]⟩ : ByteArray) = ⟨([62] : List UInt8).toArray⟩ from rfl, ba_app, ba_app]⟩
theorem dg_ok (k : Nat) : 48 ≤ (dg (k % 16)).toNat ∧ (dg (k % 16)).toNat ≤ 70 := by
  have key : ∀ j : Fin 16, 48 ≤ (dg j).toNat ∧ (dg j).toNat ≤ 70 := by decide
  exact key ⟨k % 16, Nat.mod_lt _ (by omega)⟩
theorem tell_ok : ∀ f n l, ∀ c ∈ tell 16 f n l, 48 ≤ c.toNat ∧ c.toNat ≤ 70
  | 0, _, _, c, h => by simp [tell] at h
  | f + 1, n, l, c, h => by
    rw [tell] at h
    split at h
    · simp at h
    · rw [List.mem_append] at h
      rcases h with h | h
      · exact tell_ok f _ _ c h
      · have : c = dg (n % 16) := by simpa using h
        rw [this]; exact dg_ok n
/-- How many digits there are. -/
theorem tell_len2 : ∀ f d n l, n < 16 ^ d → l ≤ d → d ≤ f → l ≤ (tell 16 f n l).length ∧ (tell 16 f n l).length ≤ d
  | 0, d, n, l, h, hl, hd => by simp [tell]; omega
  | f + 1, d, n, l, h, hl, hd => by
    rw [tell]
    split
    · rename_i h0; simp; omega
    · rename_i h0
      cases d with
      | zero => simp at h; omega
      | succ d =>
        have := tell_len2 f d (n / 16) (l - 1) (pow_step 16 d n (by omega) h) (by omega) (by omega)
        simp only [List.length_append, List.length_cons, List.length_nil]
        omega
theorem hexL_len (n l : Int) (d : Nat) (h : n.toNat < 16 ^ d) (hl : l.toNat ≤ d) (hd : d ≤ 20) : l.toNat ≤ (hexL n l).length ∧ (hexL n l).length ≤ d := tell_len2 20 d _ _ h hl hd
theorem u8l_len (l : List Int) : (u8l l).length = l.length := by simp [u8l]
theorem size_list (l : List UInt8) : (⟨l.toArray⟩ : ByteArray).size = l.length := by simp [ByteArray.size]
theorem shC_rng (v : Int) (h : cls v ≠ 0) : 1 ≤ shC v ∧ shC v ≤ 10 ∧ (3 < cls v → 2 ≤ shC v) := by
  have hw : wid v = if cls v = 2 then 2 else if cls v = 1 ∨ cls v = 3 then 1 else 0 := rfl
  rcases sh_lists v with ⟨h0, hs⟩ | ⟨h0, _, _, _, _, hs⟩ | ⟨h0, h1, h2, hs⟩ | ⟨h0, _, hs⟩ | ⟨h0, h1, h2, hs⟩ | ⟨h0, h00, h1, h2, h3, hs⟩
  · exact absurd h0 h
  · rw [shC_small (by omega), hw]
    refine ⟨?_, ?_, by omega⟩ <;> (split <;> (try split) <;> omega)
  · rw [shC_big (by omega), hs, size_list]; simp [u8l]
  · rw [shC_big (by omega), hs, size_list]; simp
  · rw [shC_big (by omega), hs, size_list]
    have := hexL_len (v - 1114112) 2 2 (by show _ < 256; omega) (by decide) (by omega)
    simp only [List.length_append, List.length_cons, List.length_nil]
    have e : (2 : Int).toNat = 2 := rfl
    omega
  · rw [shC_big (by omega), hs, size_list]
    have := hexL_len v 4 6 (by show _ < 16777216; omega) (by decide) (by omega)
    simp only [List.length_append, List.length_cons, List.length_nil]
    have e : (4 : Int).toNat = 4 := rfl
    omega
theorem shT_ne (v : Int) (h : cls v ≠ 0) : shT v ≠ ⟨#[]⟩ := by
  intro e
  have hsz : (shT v).size = 0 := by rw [e]; rfl
  rcases sh_lists v with ⟨h0, hs⟩ | ⟨h0, a, b, c, d, hs⟩ | ⟨h0, h1, h2, hs⟩ | ⟨h0, _, hs⟩ | ⟨h0, h1, h2, hs⟩ | ⟨h0, h00, h1, h2, h3, hs⟩
  · exact h h0
  · rw [hs, size_list, u8l_len] at hsz
    rw [oneI_pt ((ptB_iff v).2 (by omega))] at hsz
    rcases (by omega : v ≤ 127 ∨ (128 ≤ v ∧ v ≤ 2047) ∨ ((2048 ≤ v ∧ v < 55296) ∨ (57343 < v ∧ v ≤ 65535)) ∨ 65536 ≤ v) with k | ⟨k, k2⟩ | k | k
    · rw [Lib.encodeRuneZ_one (by omega) k] at hsz; simp at hsz
    · rw [Lib.encodeRuneZ_two k k2] at hsz; simp at hsz
    · rw [Lib.encodeRuneZ_three k] at hsz; simp at hsz
    · rw [Lib.encodeRuneZ_four k c] at hsz; simp at hsz
  · rw [hs, size_list] at hsz; simp at hsz
  · rw [hs, size_list] at hsz; simp at hsz
  · rw [hs, size_list] at hsz; simp at hsz
  · rw [hs, size_list] at hsz; simp at hsz
theorem rght_rightB (v : Int) : rightB v = rght v := by
  rw [Bool.eq_iff_iff]
  unfold rightB rght
  rw [Bool.or_eq_true, Bool.or_eq_true, ptB_iff, stB_iff]
  rcases pnt_cases v with ⟨a, b⟩ | ⟨a, b⟩ <;> rcases stry_cases v with ⟨c, d⟩ | ⟨c, d⟩ <;> rw [a, c] <;> simp <;> omega
theorem right_no {v : Int} (h : rightB v = false) : cls v = 0 ∧ shC v = 0 ∧ shT v = ⟨#[]⟩ := by
  rw [rght_rightB] at h
  have h0 : cls v = 0 := by unfold cls; rw [if_pos h]
  refine ⟨h0, ?_, ?_⟩
  · rw [shC_small (by omega)]; unfold wid; rw [h0]; rfl
  · unfold shT; rw [if_pos h0]
theorem right_yes {v : Int} (h : rightB v = true) : cls v ≠ 0 := by
  rw [rght_rightB] at h
  rcases cls_what v with ⟨_, h1⟩ | ⟨_, h1⟩
  · rw [h] at h1; cases h1
  · omega
theorem u8_val (x : Int) (h0 : 0 ≤ x) (h1 : x < 256) : ((x.toNat.toUInt8).toNat : Int) = x := by rw [u8_nat h0 h1]; omega
/-- No byte of a shown text is a control. -/
theorem sh_bytes (v : Int) : ∀ c ∈ (shT v).data.toList, 32 ≤ c.toNat ∧ c.toNat ≠ 127 := by
  intro c hc
  rcases sh_lists v with ⟨h0, hs⟩ | ⟨h0, a, b, k, d, hs⟩ | ⟨h0, h1, h2, hs⟩ | ⟨h0, _, hs⟩ | ⟨h0, h1, h2, hs⟩ | ⟨h0, h00, h1, h2, h3, hs⟩
  · rw [hs] at hc; simp at hc
  · rw [hs] at hc
    have hc' : c ∈ u8l (oneI v) := hc
    rw [u8l, List.mem_map] at hc'
    obtain ⟨x, hx, rfl⟩ := hc'
    rw [oneI_pt ((ptB_iff v).2 (by omega))] at hx
    have key : 32 ≤ x ∧ x ≠ 127 ∧ x < 256 := by
      rcases (by omega : v ≤ 127 ∨ (128 ≤ v ∧ v ≤ 2047) ∨ ((2048 ≤ v ∧ v < 55296) ∨ (57343 < v ∧ v ≤ 65535)) ∨ 65536 ≤ v) with e | ⟨e, e2⟩ | e | e
      · rw [Lib.encodeRuneZ_one (by omega) e] at hx; simp at hx; omega
      · rw [Lib.encodeRuneZ_two e e2] at hx; simp at hx; rcases hx with rfl | rfl <;> omega
      · rw [Lib.encodeRuneZ_three e] at hx; simp at hx; rcases hx with rfl | rfl | rfl <;> omega
      · rw [Lib.encodeRuneZ_four e k] at hx; simp at hx; rcases hx with rfl | rfl | rfl | rfl <;> omega
    have := u8_val x (by omega) key.2.2
    omega
  · rw [hs] at hc
    have hc' : c ∈ [94] ++ u8l [v + 64] := hc
    simp [u8l] at hc'
    rcases hc' with rfl | rfl
    · decide
    · have := u8_val (v + 64) (by omega) (by omega); simp at this ⊢; omega
  · rw [hs] at hc
    have hc' : c ∈ ([94, 63] : List UInt8) := hc
    simp at hc'
    rcases hc' with rfl | rfl <;> decide
  · rw [hs] at hc
    have hc' : c ∈ [92, 120] ++ hexL (v - 1114112) 2 := hc
    rw [List.mem_append] at hc'
    rcases hc' with hc' | hc'
    · simp at hc'; rcases hc' with rfl | rfl <;> decide
    · have := tell_ok _ _ _ c hc'; omega
  · rw [hs] at hc
    have hc' : c ∈ [60, 85, 43] ++ hexL v 4 ++ [62] := hc
    rw [List.mem_append, List.mem_append] at hc'
    rcases hc' with (hc' | hc') | hc'
    · simp at hc'; rcases hc' with rfl | rfl | rfl <;> decide
    · have := tell_ok _ _ _ c hc'; omega
    · simp at hc'; rw [hc']; decide
theorem sh_byte (v : Int) (k : Nat) (h : k < (shT v).size) : 32 ≤ (shT v)[k].toNat ∧ (shT v)[k].toNat ≠ 127 := by
  refine sh_bytes v _ ?_
  show (shT v).data[k] ∈ (shT v).data.toList
  rw [Array.mem_toList_iff]; exact Array.getElem_mem _
theorem hexL_inj {n m l : Int} (h0 : 0 ≤ n) (h1 : 0 ≤ m) (hn : n ≤ 2000000) (hm : m ≤ 2000000) (h : hexL n l = hexL m l) : n = m := by
  have a := dv_tell 16 (by omega) (by omega) 20 n.toNat l.toNat (Nat.lt_of_le_of_lt (show n.toNat ≤ 2000000 by omega) (by decide))
  have b := dv_tell 16 (by omega) (by omega) 20 m.toNat l.toNat (Nat.lt_of_le_of_lt (show m.toNat ≤ 2000000 by omega) (by decide))
  unfold hexL at h
  rw [h, b] at a
  omega
theorem u8l_inj {a b : List Int} (ha : ∀ x ∈ a, 0 ≤ x ∧ x < 256) (hb : ∀ x ∈ b, 0 ≤ x ∧ x < 256) (h : u8l a = u8l b) : a = b := by
  have e : txt a = txt b := by rw [txt_list, txt_list, h]
  rw [← bytesOf_txt a ha, ← bytesOf_txt b hb, e]
theorem oneI_inj {v w : Int} (h1 : 0 ≤ v ∧ v < 55296 ∨ 57343 < v ∧ v ≤ 1114111) (h2 : 0 ≤ w ∧ w < 55296 ∨ 57343 < w ∧ w ≤ 1114111) (h : oneI v = oneI w) : v = w := by
  rw [oneI_pt ((ptB_iff v).2 h1), oneI_pt ((ptB_iff w).2 h2)] at h
  have f : ∀ v : Int, (0 ≤ v ∧ v < 55296 ∨ 57343 < v ∧ v ≤ 1114111) → (v ≤ 127 ∧ Lib.encodeRuneZ v = [v]) ∨ (128 ≤ v ∧ v ≤ 2047 ∧ Lib.encodeRuneZ v = [192 + v / 64, 128 + v % 64]) ∨ (2048 ≤ v ∧ v ≤ 65535 ∧ Lib.encodeRuneZ v = [224 + v / 4096, 128 + v / 64 % 64, 128 + v % 64]) ∨ (65536 ≤ v ∧ Lib.encodeRuneZ v = [240 + v / 262144, 128 + v / 4096 % 64, 128 + v / 64 % 64, 128 + v % 64]) := fun v hv => by
    rcases (by omega : v ≤ 127 ∨ (128 ≤ v ∧ v ≤ 2047) ∨ ((2048 ≤ v ∧ v < 55296) ∨ (57343 < v ∧ v ≤ 65535)) ∨ 65536 ≤ v) with k | ⟨k, k2⟩ | k | k
    · left; exact ⟨k, Lib.encodeRuneZ_one (by omega) k⟩
    · right; left; exact ⟨k, k2, Lib.encodeRuneZ_two k k2⟩
    · right; right; left; exact ⟨by omega, by omega, Lib.encodeRuneZ_three k⟩
    · right; right; right; exact ⟨k, Lib.encodeRuneZ_four k (by omega)⟩
  rcases f v h1 with ⟨a, e⟩ | ⟨a, a2, e⟩ | ⟨a, a2, e⟩ | ⟨a, e⟩ <;> rcases f w h2 with ⟨b, e'⟩ | ⟨b, b2, e'⟩ | ⟨b, b2, e'⟩ | ⟨b, e'⟩ <;> rw [e, e'] at h <;> simp at h <;> omega
theorem list_of {a b : List UInt8} (h : (⟨a.toArray⟩ : ByteArray) = ⟨b.toArray⟩) : a = b := by simpa using h
/-- Unlike values are shown by unlike texts, or just one of them is dangerous. -/
theorem sh_apart {v w : Int} (hv : cls v ≠ 0) (hw : cls w ≠ 0) (hd : (3 < cls v) ↔ (3 < cls w)) (h : shT v = shT w) : v = w := by
  rcases sh_lists v with ⟨h0, hs⟩ | ⟨h0, a, b, k, d, hs⟩ | ⟨h0, h1, h2, hs⟩ | ⟨h0, h1, hs⟩ | ⟨h0, h1, h2, hs⟩ | ⟨h0, h00, h1, h2, h3, hs⟩
  · exact absurd h0 hv
  · rcases sh_lists w with ⟨h0', hs'⟩ | ⟨h0', a', b', k', d', hs'⟩ | ⟨h0', h1', h2', hs'⟩ | ⟨h0', h1', hs'⟩ | ⟨h0', h1', h2', hs'⟩ | ⟨h0', h00', h1', h2', h3', hs'⟩ <;> try omega
    rw [hs, hs'] at h
    exact oneI_inj (by omega) (by omega) (u8l_inj (oneI_byte v) (oneI_byte w) (list_of h))
  · rcases sh_lists w with ⟨h0', hs'⟩ | ⟨h0', a', b', k', d', hs'⟩ | ⟨h0', h1', h2', hs'⟩ | ⟨h0', h1', hs'⟩ | ⟨h0', h1', h2', hs'⟩ | ⟨h0', h00', h1', h2', h3', hs'⟩ <;> try omega
    all_goals
      rw [hs, hs'] at h
      have e := list_of h
      simp [u8l] at e
    · have x : ((UInt8.ofNat (v + 64).toNat).toNat : Int) = v + 64 := u8_val (v + 64) (by omega) (by omega)
      have y : ((UInt8.ofNat (w + 64).toNat).toNat : Int) = w + 64 := u8_val (w + 64) (by omega) (by omega)
      rw [e] at x
      omega
    · have x : ((UInt8.ofNat (v + 64).toNat).toNat : Int) = v + 64 := u8_val (v + 64) (by omega) (by omega)
      rw [e] at x
      have : ((63 : UInt8).toNat : Int) = 63 := rfl
      omega
  · rcases sh_lists w with ⟨h0', hs'⟩ | ⟨h0', a', b', k', d', hs'⟩ | ⟨h0', h1', h2', hs'⟩ | ⟨h0', h1', hs'⟩ | ⟨h0', h1', h2', hs'⟩ | ⟨h0', h00', h1', h2', h3', hs'⟩ <;> try omega
    all_goals
      rw [hs, hs'] at h
      have e := list_of h
      simp [u8l] at e
    have y : ((UInt8.ofNat (w + 64).toNat).toNat : Int) = w + 64 := u8_val (w + 64) (by omega) (by omega)
    rw [← e] at y
    have : ((63 : UInt8).toNat : Int) = 63 := rfl
    omega
  · rcases sh_lists w with ⟨h0', hs'⟩ | ⟨h0', a', b', k', d', hs'⟩ | ⟨h0', h1', h2', hs'⟩ | ⟨h0', h1', hs'⟩ | ⟨h0', h1', h2', hs'⟩ | ⟨h0', h00', h1', h2', h3', hs'⟩ <;> try omega
    all_goals
      rw [hs, hs'] at h
      have e := list_of h
      simp at e
    have := hexL_inj (by omega) (by omega) (by omega) (by omega) e
    omega
  · rcases sh_lists w with ⟨h0', hs'⟩ | ⟨h0', a', b', k', d', hs'⟩ | ⟨h0', h1', h2', hs'⟩ | ⟨h0', h1', hs'⟩ | ⟨h0', h1', h2', hs'⟩ | ⟨h0', h00', h1', h2', h3', hs'⟩ <;> try omega
    all_goals
      rw [hs, hs'] at h
      have e := list_of h
      simp at e
    exact hexL_inj (by omega) (by omega) (by omega) (by omega) e
end Go.Proofs.YtcdecnmhogmhaaaDoor
set_option linter.unusedVariables false
set_option linter.unusedSimpArgs false
namespace Go.Proofs.YtcdecnmhogmhaaaDoor
open Go.RowKit
set_option maxHeartbeats 4000000 in
theorem looks_ref (v l : Int) (w : World) : Calls Tryd.prog 119 #[.agg #[.int .i64 v, .int .i64 l]] w fun e w' => e = .returned (.int .i64 (lkI v l)) ∧ Below w.heap.size w w' := by
  have O := fun w => of_ref v w
  rw [← cls_eq] at O
  have hk : lkI v l = (if 3 < cls v then 1 else 0) + (if l = 2 ∨ l = 3 ∨ l = 4 then 2 else 0) + (if cls v = 3 then 4 else 0) := rfl
  have hb0 := below_alloc w (.cells #[.int .i64 v, .int .i64 l] 53)
  generalize cls v = c at *
  replace O := Lib.hid O
  have hc : (3 < c) ∨ c = 3 ∨ (c < 3) := by omega
  have hl : l = 2 ∨ l = 3 ∨ l = 4 ∨ (l ≠ 2 ∧ l ≠ 3 ∧ l ≠ 4) := by omega
  rcases hc with hc | hc | hc
  all_goals
    first
      | (subst hc
         have e3 : True := trivial)
      | (have e3 : (c == 3) = false := by rw [beq_eq_false_iff_ne]; omega)
    rcases hl with hl | hl | hl | ⟨n2, n3, n4⟩
    all_goals
      first
        | (subst hl
           have l2 : True := trivial; have l3 : True := trivial; have l4 : True := trivial)
        | (have l2 : (l == 2) = false := by rw [beq_eq_false_iff_ne]; exact n2
           have l3 : (l == 3) = false := by rw [beq_eq_false_iff_ne]; exact n3
           have l4 : (l == 4) = false := by rw [beq_eq_false_iff_ne]; exact n4)
      have Hk := Lib.hid hk
      clear hk
      go_enter Tryd.func119, Tryd.ntmps119
      go_wp2_with (go_at_call 42; refine (O.out _).mono ?_; rintro e w1 ⟨rfl, hb1⟩; have cc1 := (hb1.cell (p := ⟨w.heap.size, 0, none⟩) (by simp)).trans (World.cell?_alloc_new w (#[.int .i64 v, .int .i64 _]) 53 0); have cc2 := (hb1.cell (p := ⟨w.heap.size, 1, none⟩) (by simp)).trans (World.cell?_alloc_new w (#[.int .i64 v, .int .i64 _]) 53 1))
      go_ret
      rw [Hk.out]
      refine ⟨retI ?_, seqB hb0 hb1⟩
      clear O hb0 hb1
      (repeat' split) <;> first | omega | simp_all
def twM (a b : Int) : Bool := cls a == cls b && shC a == shC b
/-- Do cells look the same? -/
def clE (p q : Cl) : Bool := p.1 == q.1 && p.2.1 == q.2.1
def shS (x y : List Cl) : Bool := x.length == y.length && (List.range x.length).all fun i => clE (x.getD i cl0) (y.getD i cl0)
theorem shS_len {x y : List Cl} (h : x.length ≠ y.length) : shS x y = false := by
  unfold shS; rw [show (x.length == y.length) = false by simpa using h]; rfl
theorem shS_no {x y : List Cl} {k : Nat} (hk : k < x.length) (h : clE (x.getD k cl0) (y.getD k cl0) = false) : shS x y = false := by
  unfold shS
  rw [show ((List.range x.length).all fun i => clE (x.getD i cl0) (y.getD i cl0)) = false by rw [List.all_eq_false]; exact ⟨k, by simpa using hk, by rw [h]; simp⟩, Bool.and_false]
theorem shS_yes {x y : List Cl} (hl : x.length = y.length) (h : ∀ j, j < x.length → clE (x.getD j cl0) (y.getD j cl0) = true) : shS x y = true := by
  unfold shS
  rw [Bool.and_eq_true]
  exact ⟨by simpa using hl, by rw [List.all_eq_true]; intro j hj; exact h j (by simpa using hj)⟩
/-- The very same cells? -/
def shA (x y : List Cl) : Bool := decide (x = y)
theorem shA_len {x y : List Cl} (h : x.length ≠ y.length) : shA x y = false := by unfold shA; rw [decide_eq_false]; intro e; exact h (by rw [e])
theorem shA_no {x y : List Cl} {k : Nat} (h : x.getD k cl0 ≠ y.getD k cl0) : shA x y = false := by unfold shA; rw [decide_eq_false]; intro e; exact h (by rw [e])
theorem shA_yes {x y : List Cl} (hl : x.length = y.length) (h : ∀ j, j < x.length → x.getD j cl0 = y.getD j cl0) : shA x y = true := by
  unfold shA; rw [decide_eq_true]
  apply List.ext_getElem hl
  intro j h1 h2
  have := h j h1
  rwa [List.getD, List.getD, List.getElem?_eq_getElem h1, List.getElem?_eq_getElem h2] at this
end Go.Proofs.YtcdecnmhogmhaaaDoor
set_option linter.unusedVariables false
set_option linter.unusedSimpArgs false
namespace Go.Proofs.YtcdecnmhogmhaaaDoor
open Go.RowKit
theorem grownB {w w' : World} (h : Below w.heap.size w w') : w.grownBy w' none := ⟨h.os, h.tape, h.output, h.size, fun k hk _ => h.block k hk⟩
theorem ownB {w w' : World} {base : Nat} {e : TypeId} {size : Nat} {v : Value} {n : Nat} {xs : List Value} (h : w.ownsRow base e size v n xs) (hb : Below w.heap.size w w') : w'.ownsRow base e size v n xs :=
  h.kept (grownB hb) (by cases hv : v.ownBlock <;> simp)
theorem cCells_one (L : List Cl) : ∀ u ∈ cCells L, u.oneCell' = true := by
  intro u hu
  simp only [cCells, List.mem_flatMap] at hu
  obtain ⟨p, _, hp⟩ := hu
  simp at hp
  rcases hp with rfl | rfl | rfl | rfl | rfl <;> rfl
/-- A row of ints of the call's own. -/
def ownI (w : World) (B : Nat) (v : Value) (L : List Int) : Prop := w.ownsRow B 3 1 v L.length (L.map (Value.int .i64))
theorem row_of_own {w : World} {B : Nat} {v : Value} {L : List Int} (h : ownI w B v L) : ∃ a c, v = .slice a L.length c ∧ Row w a L := by
  unfold ownI at h
  rcases h.2 with ⟨rfl, h0⟩ | ⟨g, cap, cur, rfl, _, hg, _⟩
  · exact ⟨none, 0, by rw [h0], fun j hj => by omega⟩
  · refine ⟨_, cap, rfl, fun j hj => ⟨g, 0, rfl, ?_, blk_lt hg⟩⟩
    rw [Nat.zero_add, h.cellAt j (by omega), List.getElem?_map, List.getD, List.getElem?_eq_getElem hj]; rfl
end Go.Proofs.YtcdecnmhogmhaaaDoor
set_option linter.unusedVariables false
set_option linter.unusedSimpArgs false
namespace Go.Proofs.YtcdecnmhogmhaaaDoor
open Go.RowKit
/-- May a screen's side be? -/
def sideB (n : Int) : Bool := decide (1 ≤ n) && decide (n ≤ 1000)
theorem sideB_cases (n : Int) : (1 ≤ n ∧ n ≤ 1000 ∧ sideB n = true) ∨ (¬ 1 ≤ n ∧ sideB n = false) ∨ (1 ≤ n ∧ ¬ n ≤ 1000 ∧ sideB n = false) := by
  unfold sideB
  by_cases h1 : 1 ≤ n
  · by_cases h2 : n ≤ 1000
    · left; exact ⟨h1, h2, by rw [decide_eq_true h1, decide_eq_true h2]; rfl⟩
    · right; right; exact ⟨h1, h2, by rw [decide_eq_false h2, Bool.and_false]⟩
  · right; left; exact ⟨h1, by rw [decide_eq_false h1, Bool.false_and]⟩
theorem side_any (n : Int) (w : World) : Calls Tryd.prog 64 #[.int .i64 n] w fun e w' => e = .returned (.bool (sideB n)) ∧ w' = w := by
  rcases sideB_cases n with ⟨h1, h2, h3⟩ | ⟨h1, h3⟩ | ⟨h1, h2, h3⟩
  all_goals
    have H := Lib.hid h3
    clear h3
    go_enter Tryd.func64, Tryd.ntmps64
    go_wp2
    go_ret
    rw [H.out]
    first | exact ⟨rfl, rfl⟩ | exact ⟨ret_boolU (by simp [h2]), rfl⟩
theorem sides_ref (n m : Int) (w : World) : Calls Tryd.prog 16 #[.int .i64 n, .int .i64 m] w fun e w' => e = .returned (.bool (sideB n && sideB m)) ∧ w' = w := by
  rcases sideB_cases n with ⟨h1, h2, h3⟩ | ⟨h1, h3⟩ | ⟨h1, h2, h3⟩
  · rw [h3, Bool.true_and]
    clear h3
    rcases sideB_cases m with ⟨g1, g2, g3⟩ | ⟨g1, g3⟩ | ⟨g1, g2, g3⟩
    all_goals
      have H := Lib.hid g3
      clear g3
      go_enter Tryd.func16, Tryd.ntmps16
      go_wp2
      go_ret
      rw [H.out]
      first | exact ⟨rfl, rfl⟩ | exact ⟨ret_boolU (by simp [g2]), rfl⟩
  all_goals
    rw [h3, Bool.false_and]
    clear h3
    go_enter Tryd.func16, Tryd.ntmps16
    go_wp2
    go_ret
    first | exact ⟨rfl, rfl⟩ | exact ⟨ret_boolU (by simp [h2]), rfl⟩
/-- The first of the rows that are shown. -/
def topN (t r h : Nat) : Nat := if t ≤ h then 0 else min (r - h / 2) (t - h)
set_option maxHeartbeats 2000000 in
theorem top_any (t r h : Nat) (w : World) (ht : t ≤ 1000000) (hr : r ≤ 1000000) (hh : h ≤ 1000000) : Calls Tryd.prog 63 #[.int .i64 t, .int .i64 r, .int .i64 h] w fun e w' => e = .returned (.int .i64 (topN t r h)) ∧ w' = w := by
  have e : Hid (topN t r h = if t ≤ h then 0 else min (r - h / 2) (t - h)) := Lib.hid rfl
  go_enter Tryd.func63, Tryd.ntmps63
  go_wp2
  all_goals
    go_ret
    refine ⟨retI ?_, rfl⟩
    have := e.out
    rw [this]
    split <;> omega
theorem high_ref (a b : Int) (w : World) : Calls Tryd.prog 59 #[.int .i64 a, .int .i64 b] w fun e w' => e = .returned (.int .i64 (max a b)) ∧ w' = w := by
  by_cases h : b < a
  · have e : Hid (max a b = a) := Lib.hid (by omega)
    go_enter Tryd.func59, Tryd.ntmps59
    go_wp2
    go_ret
    rw [e.out]; exact ⟨rfl, rfl⟩
  · have e : Hid (max a b = b) := Lib.hid (by omega)
    go_enter Tryd.func59, Tryd.ntmps59
    go_wp2
    go_ret
    rw [e.out]; exact ⟨rfl, rfl⟩
/-- The cells of the piece at k. -/
def pieceM (L : List Cl) (k : Nat) : Int := if k + 1 < L.length ∧ (L.getD (k + 1) cl0).1 = -1 then 2 else 1
set_option maxHeartbeats 1000000 in
theorem piece_any (L : List Cl) (k : Nat) (a : Option Addr) (c : Nat) (w : World) (hl : L.length ≤ 1000000) (hk : k ≤ 1000000) (ha : CellsIn w a L) :
    Calls Tryd.prog 113 #[.slice a L.length c, .int .i64 k] w fun e w' => e = .returned (.int .i64 (pieceM L k)) ∧ w' = w := by
  by_cases h1 : k + 1 < L.length
  · obtain ⟨b1, o1, rfl, hb1, c1, c2, c3, c4, c5⟩ := ha (k + 1) h1
    have hk1 : (k : Int) + 1 < L.length := by omega
    have hk0 : (0 : Int) ≤ (k : Int) + 1 := by omega
    by_cases h2 : (L.getD (k + 1) cl0).1 = -1
    · have e : Hid (pieceM L k = 2) := Lib.hid (by unfold pieceM; rw [if_pos ⟨h1, h2⟩])
      rw [h2] at c1
      clear h2
      go_enter Tryd.func113, Tryd.ntmps113
      go_wp2
      go_ret
      rw [e.out]; exact ⟨rfl, rfl⟩
    · have e : Hid (pieceM L k = 1) := Lib.hid (by unfold pieceM; rw [if_neg (fun h => h2 h.2)])
      generalize (L.getD (k + 1) cl0).1 = v at *
      have hv : (v == -1) = false := by rw [beq_eq_false_iff_ne]; exact h2
      go_enter Tryd.func113, Tryd.ntmps113
      go_wp2
      go_ret
      rw [e.out]; exact ⟨rfl, rfl⟩
  · have e : Hid (pieceM L k = 1) := Lib.hid (by unfold pieceM; rw [if_neg (fun h => h1 h.1)])
    have hk1 : ¬ (k : Int) + 1 < L.length := by omega
    go_enter Tryd.func113, Tryd.ntmps113
    go_wp2
    go_ret
    rw [e.out]; exact ⟨rfl, rfl⟩
end Go.Proofs.YtcdecnmhogmhaaaDoor
set_option linter.unusedVariables false
set_option linter.unusedSimpArgs false
namespace Go.Proofs.YtcdecnmhogmhaaaDoor
open Go.RowKit
set_option maxHeartbeats 4000000 in
theorem shsame_any (x y : List Cl) (a b : Option Addr) (c d : Nat) (w : World) (hx : x.length ≤ 9223372036854775807) (hy : y.length ≤ 9223372036854775807) (ha : CellsIn w a x) (hb : CellsIn w b y) :
    Calls Tryd.prog 78 #[.slice a x.length c, .slice b y.length d] w fun e w' => e = .returned (.bool (shS x y)) ∧ Below w.heap.size w w' := by
  have HA := Lib.hid ha; have HB := Lib.hid hb; clear ha hb
  by_cases hl : x.length = y.length
  · have hln : ((x.length : Int) != (y.length : Int)) = false := by rw [hl]; simp
    have hyl : y.length ≤ x.length ∧ x.length ≤ y.length := by omega
    have Hl := Lib.hid hl; clear hl
    go_enter Tryd.func78, Tryd.ntmps78
    go_wp2
    go_loopw [14] (fun iv wr => ∃ k : Nat, k ≤ x.length ∧ iv = .int .i64 (k : Int) ∧ Hid (∀ j, j < k → clE (x.getD j cl0) (y.getD j cl0) = true) ∧ Below w.heap.size w wr) (fun iv _ => x.length - (intOf iv).toNat)
    case atStart => exact ⟨0, Nat.zero_le _, rfl, Lib.hid (fun j hj => absurd hj (by omega)), Below.refl _ _⟩
    case round =>
      obtain ⟨k, hk, rfl, hall, hbl⟩ := hrel
      by_cases hlt : k < x.length
      · obtain ⟨b1, o1, rfl, hb1, c1, c2, c3, c4, c5⟩ := (HA.out.below hbl) k hlt
        obtain ⟨b2, o2, rfl, hb2, d1, d2, d3, d4, d5⟩ := (HB.out.below hbl) k (by omega)
        have hk1 : (k : Int) < x.length := by omega
        have hk2 : (k : Int) < y.length := by omega
        have hk0 : (0 : Int) ≤ k := by omega
        obtain ⟨v, a1, p1, f1, q1, hp⟩ : ∃ v a p f q, x.getD k cl0 = (v, a, p, f, q) := ⟨_, _, _, _, _, rfl⟩
        obtain ⟨v', a2, p2, f2, q2, hq⟩ : ∃ v a p f q, y.getD k cl0 = (v, a, p, f, q) := ⟨_, _, _, _, _, rfl⟩
        rw [hp] at c1 c2 c3 c4 c5; rw [hq] at d1 d2 d3 d4 d5
        have d1' := fun o => (World.cell?_alloc_lt wr o (⟨b2, o2 + k * 5, none⟩ : Addr) hb2).trans d1
        have d2' := fun o => (World.cell?_alloc_lt wr o (⟨b2, o2 + k * 5 + 1, none⟩ : Addr) hb2).trans d2
        have hbb := fun o1 => hbl.alloc hbl.size o1
        clear d1 d2 d3 d4 d5
        have hor : (v != v') = true ∨ ((v != v') = false ∧ (a1 != a2) = true) ∨ ((v != v') = false ∧ (a1 != a2) = false) := by
          cases h1 : (v != v') <;> cases h2 : (a1 != a2) <;> simp
        rcases hor with e1 | ⟨e1, e2⟩ | ⟨e1, e2⟩
        · have HF : Hid (shS x y = false) := Lib.hid (shS_no hlt (by rw [hp, hq]; unfold clE; rw [show (v == v') = false by simpa using e1]; rfl))
          clear hp hq
          go_wp2
          go_quiet (fail)
          go_wp2
          go_ret
          rw [HF.out]
          exact ⟨rfl, drewN_below (hbb _) _⟩
        · have HF : Hid (shS x y = false) := Lib.hid (shS_no hlt (by rw [hp, hq]; unfold clE; rw [show (a1 == a2) = false by simpa using e2, Bool.and_false]))
          clear hp hq
          go_wp2
          go_quiet (fail)
          go_wp2
          go_ret
          rw [HF.out]
          exact ⟨rfl, drewN_below (hbb _) _⟩
        · have HF : Hid (∀ j, j < k + 1 → clE (x.getD j cl0) (y.getD j cl0) = true) := Lib.hid (by
            intro j hj
            rcases Nat.lt_succ_iff_lt_or_eq.1 hj with h | rfl
            · exact hall.out j h
            · rw [hp, hq]; unfold clE; rw [show (v == v') = true by simpa using e1, show (a1 == a2) = true by simpa using e2]; rfl)
          clear hp hq
          go_wp2
          go_quiet (fail)
          go_wp2
          go_roundw
          case rel => exact ⟨k + 1, by omega, by go_num, HF, drewN_below (hbb _) _⟩
          case measure => simp [intOf]; omega
      · obtain rfl : k = x.length := by omega
        have HF : Hid (shS x y = true) := Lib.hid (shS_yes Hl.out hall.out)
        go_wp2
        go_ret
        rw [HF.out]
        exact ⟨rfl, hbl⟩
  · have hln : ((x.length : Int) != (y.length : Int)) = true := by rw [bne_iff_ne]; omega
    have HF : Hid (shS x y = false) := Lib.hid (shS_len hl)
    go_enter Tryd.func78, Tryd.ntmps78
    go_wp2
    go_ret
    rw [HF.out]
    exact ⟨rfl, Below.refl _ _⟩
set_option maxHeartbeats 4000000 in
theorem shsame_ref (x y : List Cl) (a b : Option Addr) (c d : Nat) (w : World) (hx : x.length ≤ 9223372036854775807) (hy : y.length ≤ 9223372036854775807) (ha : CellsIn w a x) (hb : CellsIn w b y) :
    Calls Tryd.prog 74 #[.slice a x.length c, .slice b y.length d] w fun e w' => e = .returned (.bool (shS x y)) ∧ Below w.heap.size w w' := by
  have HA := Lib.hid ha; have HB := Lib.hid hb; clear ha hb
  by_cases hl : x.length = y.length
  · have hln : ((x.length : Int) != (y.length : Int)) = false := by rw [hl]; simp
    have hyl : y.length ≤ x.length ∧ x.length ≤ y.length := by omega
    have Hl := Lib.hid hl; clear hl
    go_enter Tryd.func74, Tryd.ntmps74
    go_wp2
    go_loopw [5] (fun iv wr => ∃ k : Nat, k ≤ x.length ∧ iv = .int .i64 (k : Int) ∧ Hid (∀ j, j < k → clE (x.getD j cl0) (y.getD j cl0) = true) ∧ Below w.heap.size w wr) (fun iv _ => x.length - (intOf iv).toNat)
    case atStart => exact ⟨0, Nat.zero_le _, rfl, Lib.hid (fun j hj => absurd hj (by omega)), Below.refl _ _⟩
    case round =>
      obtain ⟨k, hk, rfl, hall, hbl⟩ := hrel
      by_cases hlt : k < x.length
      · obtain ⟨b1, o1, rfl, hb1, c1, c2, c3, c4, c5⟩ := (HA.out.below hbl) k hlt
        obtain ⟨b2, o2, rfl, hb2, d1, d2, d3, d4, d5⟩ := (HB.out.below hbl) k (by omega)
        have hk1 : (k : Int) < x.length := by omega
        have hk2 : (k : Int) < y.length := by omega
        have hk0 : (0 : Int) ≤ k := by omega
        obtain ⟨v, a1, p1, f1, q1, hp⟩ : ∃ v a p f q, x.getD k cl0 = (v, a, p, f, q) := ⟨_, _, _, _, _, rfl⟩
        obtain ⟨v', a2, p2, f2, q2, hq⟩ : ∃ v a p f q, y.getD k cl0 = (v, a, p, f, q) := ⟨_, _, _, _, _, rfl⟩
        rw [hp] at c1 c2 c3 c4 c5; rw [hq] at d1 d2 d3 d4 d5
        have hor : (v != v') = true ∨ ((v != v') = false ∧ (a1 != a2) = true) ∨ ((v != v') = false ∧ (a1 != a2) = false) := by
          cases h1 : (v != v') <;> cases h2 : (a1 != a2) <;> simp
        rcases hor with e1 | ⟨e1, e2⟩ | ⟨e1, e2⟩
        · have HF : Hid (shS x y = false) := Lib.hid (shS_no hlt (by rw [hp, hq]; unfold clE; rw [show (v == v') = false by simpa using e1]; rfl))
          clear hp hq
          go_wp2
          go_quiet (fail)
          go_wp2
          go_ret
          rw [HF.out]
          exact ⟨rfl, drewN_below hbl _⟩
        · have HF : Hid (shS x y = false) := Lib.hid (shS_no hlt (by rw [hp, hq]; unfold clE; rw [show (a1 == a2) = false by simpa using e2, Bool.and_false]))
          clear hp hq
          go_wp2
          go_quiet (fail)
          go_wp2
          go_ret
          rw [HF.out]
          exact ⟨rfl, drewN_below hbl _⟩
        · have HF : Hid (∀ j, j < k + 1 → clE (x.getD j cl0) (y.getD j cl0) = true) := Lib.hid (by
            intro j hj
            rcases Nat.lt_succ_iff_lt_or_eq.1 hj with h | rfl
            · exact hall.out j h
            · rw [hp, hq]; unfold clE; rw [show (v == v') = true by simpa using e1, show (a1 == a2) = true by simpa using e2]; rfl)
          clear hp hq
          go_wp2
          go_quiet (fail)
          go_wp2
          go_roundw
          case rel => exact ⟨k + 1, by omega, by go_num, HF, drewN_below hbl _⟩
          case measure => simp [intOf]; omega
      · obtain rfl : k = x.length := by omega
        have HF : Hid (shS x y = true) := Lib.hid (shS_yes Hl.out hall.out)
        go_wp2
        go_ret
        rw [HF.out]
        exact ⟨rfl, hbl⟩
  · have hln : ((x.length : Int) != (y.length : Int)) = true := by rw [bne_iff_ne]; omega
    have HF : Hid (shS x y = false) := Lib.hid (shS_len hl)
    go_enter Tryd.func74, Tryd.ntmps74
    go_wp2
    go_ret
    rw [HF.out]
    exact ⟨rfl, Below.refl _ _⟩
set_option maxHeartbeats 4000000 in
theorem shall_ref (x y : List Cl) (a b : Option Addr) (c d : Nat) (w : World) (hx : x.length ≤ 9223372036854775807) (hy : y.length ≤ 9223372036854775807) (ha : CellsIn w a x) (hb : CellsIn w b y) :
    Calls Tryd.prog 18 #[.slice a x.length c, .slice b y.length d] w fun e w' => e = .returned (.bool (shA x y)) ∧ Below w.heap.size w w' := by
  have HA := Lib.hid ha; have HB := Lib.hid hb; clear ha hb
  by_cases hl : x.length = y.length
  · have hln : ((x.length : Int) != (y.length : Int)) = false := by rw [hl]; simp
    have hyl : y.length ≤ x.length ∧ x.length ≤ y.length := by omega
    have Hl := Lib.hid hl; clear hl
    go_enter Tryd.func18, Tryd.ntmps18
    go_wp2
    go_loopw [5] (fun iv wr => ∃ k : Nat, k ≤ x.length ∧ iv = .int .i64 (k : Int) ∧ Hid (∀ j, j < k → x.getD j cl0 = y.getD j cl0) ∧ Below w.heap.size w wr) (fun iv _ => x.length - (intOf iv).toNat)
    case atStart => exact ⟨0, Nat.zero_le _, rfl, Lib.hid (fun j hj => absurd hj (by omega)), Below.refl _ _⟩
    case round =>
      obtain ⟨k, hk, rfl, hall, hbl⟩ := hrel
      by_cases hlt : k < x.length
      · obtain ⟨b1, o1, rfl, hb1, c1, c2, c3, c4, c5⟩ := (HA.out.below hbl) k hlt
        obtain ⟨b2, o2, rfl, hb2, d1, d2, d3, d4, d5⟩ := (HB.out.below hbl) k (by omega)
        have hk1 : (k : Int) < x.length := by omega
        have hk2 : (k : Int) < y.length := by omega
        have hk0 : (0 : Int) ≤ k := by omega
        obtain ⟨v, a1, p1, f1, q1, hp⟩ : ∃ v a p f q, x.getD k cl0 = (v, a, p, f, q) := ⟨_, _, _, _, _, rfl⟩
        obtain ⟨v', a2, p2, f2, q2, hq⟩ : ∃ v a p f q, y.getD k cl0 = (v, a, p, f, q) := ⟨_, _, _, _, _, rfl⟩
        rw [hp] at c1 c2 c3 c4 c5; rw [hq] at d1 d2 d3 d4 d5
        have N := fun W => neqCell v a1 p1 f1 q1 v' a2 p2 f2 q2 W
        cases he : decide (((v, a1, p1, f1, q1) : Cl) ≠ (v', a2, p2, f2, q2))
        · rw [he] at N
          have HF : Hid (∀ j, j < k + 1 → x.getD j cl0 = y.getD j cl0) := Lib.hid (by
            intro j hj
            rcases Nat.lt_succ_iff_lt_or_eq.1 hj with h | rfl
            · exact hall.out j h
            · rw [hp, hq]; exact Decidable.byContradiction (of_decide_eq_false he))
          clear hp hq he
          go_wp2
          go_quiet (fail)
          go_wp2
          go_roundw
          case rel => exact ⟨k + 1, by omega, by go_num, HF, drewN_below hbl _⟩
          case measure => simp [intOf]; omega
        · rw [he] at N
          have HF : Hid (shA x y = false) := Lib.hid (shA_no (k := k) (by rw [hp, hq]; exact of_decide_eq_true he))
          clear hp hq he
          go_wp2
          go_quiet (fail)
          go_wp2
          go_ret
          rw [HF.out]
          exact ⟨rfl, drewN_below hbl _⟩
      · obtain rfl : k = x.length := by omega
        have HF : Hid (shA x y = true) := Lib.hid (shA_yes Hl.out hall.out)
        go_wp2
        go_ret
        rw [HF.out]
        exact ⟨rfl, hbl⟩
  · have hln : ((x.length : Int) != (y.length : Int)) = true := by rw [bne_iff_ne]; omega
    have HF : Hid (shA x y = false) := Lib.hid (shA_len hl)
    go_enter Tryd.func18, Tryd.ntmps18
    go_wp2
    go_ret
    rw [HF.out]
    exact ⟨rfl, Below.refl _ _⟩
end Go.Proofs.YtcdecnmhogmhaaaDoor
set_option linter.unusedVariables false
set_option linter.unusedSimpArgs false
namespace Go.Proofs.YtcdecnmhogmhaaaDoor
open Go.RowKit
/-- Where the first cell of i or of one behind it stands. -/
def fstM (L : List Cl) (i : Int) : Nat := L.findIdx fun c => decide (i ≤ c.2.2.1)
theorem fstM_at {L : List Cl} {i : Int} {k : Nat} (hk : k < L.length) (h1 : i ≤ (L.getD k cl0).2.2.1) (h : ∀ j, j < k → (L.getD j cl0).2.2.1 < i) : fstM L i = k := by
  unfold fstM
  rw [List.findIdx_eq hk]
  refine ⟨?_, fun j hj => ?_⟩
  · rw [List.getD, List.getElem?_eq_getElem hk] at h1; exact decide_eq_true h1
  · have := h j hj
    rw [List.getD, List.getElem?_eq_getElem (by omega)] at this
    exact decide_eq_false (by simpa using this)
theorem fstM_none {L : List Cl} {i : Int} (h : ∀ j, j < L.length → (L.getD j cl0).2.2.1 < i) : fstM L i = L.length := by
  unfold fstM
  rw [List.findIdx_eq_length]
  intro x hx
  obtain ⟨j, hj, rfl⟩ := List.getElem_of_mem hx
  have := h j hj
  rw [List.getD, List.getElem?_eq_getElem hj] at this
  exact decide_eq_false (by simpa using this)
theorem vfinder_any (i : Int) (w : World) :
    Calls Tryd.prog 114 #[.int .i64 i] w fun e w' => e = .returned (.func (.func 153) #[] #[.pointer (some ⟨w.heap.size, 0, none⟩)]) ∧ w' = w.alloc (.cells #[.int .i64 i] 3) := by
  go_enter Tryd.func114, Tryd.ntmps114
  go_wp2
  go_ret
  exact ⟨rfl, rfl⟩
theorem vfinder1_any (v a o f k i : Int) (p : Nat) (w : World) (hp : p < w.heap.size) (hc : w.cell? ⟨p, 0, none⟩ = some (.int .i64 i)) :
    Calls Tryd.prog 153 #[.agg #[.int .i64 v, .int .i64 a, .int .i64 o, .int .i64 f, .int .i64 k], .pointer (some ⟨p, 0, none⟩)] w fun e w' => e = .returned (.bool (decide (i ≤ o))) ∧ Below w.heap.size w w' := by
  have q := fun o => (World.cell?_alloc_lt w o (⟨p, 0, none⟩ : Addr) hp).trans hc
  go_enter Tryd.func153, Tryd.ntmps153
  go_wp2
  go_ret
  exact ⟨rfl, below_alloc _ _⟩
set_option maxHeartbeats 2000000 in
theorem first_any (L : List Cl) (i : Int) (a : Option Addr) (c : Nat) (w : World) (hl : L.length ≤ 1000000) (ha : CellsIn w a L) :
    Calls Tryd.prog 67 #[.slice a L.length c, .int .i64 i] w fun e w' => e = .returned (.int .i64 (fstM L i)) ∧ Below w.heap.size w w' := by
  have F := Lib.hid (vfinder_any i w)
  have hb0 := below_alloc w (.cells #[.int .i64 i] 3)
  have hc0 : (w.alloc (.cells #[.int .i64 i] 3)).cell? ⟨w.heap.size, 0, none⟩ = some (.int .i64 i) := by simp
  have hs0 : (w.alloc (.cells #[.int .i64 i] 3)).heap.size = w.heap.size + 1 := by simp
  have HA := Lib.hid (ha.below hb0)
  clear ha
  go_enter Tryd.func67, Tryd.ntmps67
  go_wp2_with (go_at_call 114; refine F.out.mono ?_; rintro e w1 ⟨rfl, rfl⟩)
  generalize w.alloc _ = W at *
  have hlt0 : w.heap.size < W.heap.size := by omega
  have Hs0 := Lib.hid hs0
  clear hs0 F
  go_loopw [12] (fun iv wr => ∃ k : Nat, k ≤ L.length ∧ iv = .int .i64 (k : Int) ∧ Hid (∀ j, j < k → (L.getD j cl0).2.2.1 < i) ∧ Below W.heap.size W wr) (fun iv _ => L.length - (intOf iv).toNat)
  case atStart => exact ⟨0, Nat.zero_le _, rfl, Lib.hid (fun j hj => absurd hj (by omega)), Below.refl _ _⟩
  case round =>
    obtain ⟨k, hk, rfl, hall, hbl⟩ := hrel
    by_cases hlt : k < L.length
    · obtain ⟨b1, o1, rfl, hb1, c1, c2, c3, c4, c5⟩ := (HA.out.below hbl) k hlt
      have hk1 : (k : Int) < L.length := by omega
      have hk0 : (0 : Int) ≤ k := by omega
      have hcr := (hbl.cell (p := ⟨w.heap.size, 0, none⟩) hlt0).trans hc0
      have hsr := Nat.lt_of_lt_of_le hlt0 hbl.size
      have C := Lib.hid fun v x o f q w1 hp hc => vfinder1_any v x o f q i w.heap.size w1 hp hc
      by_cases ho : i ≤ (L.getD k cl0).2.2.1
      · have HF := Lib.hid (fstM_at hlt ho hall.out)
        have hd : decide (i ≤ (L.getD k cl0).2.2.1) = true := decide_eq_true ho
        generalize L.getD k cl0 = q at *
        go_wp2_with (go_at_call 153; refine (C.out _ _ _ _ _ _ (by simp; omega) (by rw [World.cell?_alloc_lt _ _ _ hsr]; exact hcr)).mono ?_; rintro e w2 ⟨rfl, hb2⟩)
        go_ret
        rw [HF.out]
        exact ⟨rfl, hb0.trans ((hbl.trans ((seqB (below_alloc _ _) hb2).mono hbl.size)).mono (by omega))⟩
      · have HF : Hid (∀ j, j < k + 1 → (L.getD j cl0).2.2.1 < i) := Lib.hid (by
          intro j hj
          rcases Nat.lt_succ_iff_lt_or_eq.1 hj with h | rfl
          · exact hall.out j h
          · omega)
        have hd : decide (i ≤ (L.getD k cl0).2.2.1) = false := decide_eq_false ho
        generalize L.getD k cl0 = q at *
        go_wp2_with (go_at_call 153; refine (C.out _ _ _ _ _ _ (by simp; omega) (by rw [World.cell?_alloc_lt _ _ _ hsr]; exact hcr)).mono ?_; rintro e w2 ⟨rfl, hb2⟩)
        go_roundw
        case rel => exact ⟨k + 1, by omega, by go_num, HF, hbl.trans ((seqB (below_alloc _ _) hb2).mono hbl.size)⟩
        case measure => (simp [intOf]; try omega)
    · obtain rfl : k = L.length := by omega
      have HF := Lib.hid (fstM_none hall.out)
      go_wp2
      go_ret
      rw [HF.out]
      exact ⟨rfl, hb0.trans (hbl.mono (by omega))⟩
/-- Whose a cell is. -/
def ownM (L : List Cl) (at_ : Int) : Int := if L.length = 0 then 0 else if (L.length : Int) ≤ at_ then (L.getD (L.length - 1) cl0).2.2.1 + 1 else (L.getD (max at_ 0).toNat cl0).2.2.1
end Go.Proofs.YtcdecnmhogmhaaaDoor
set_option linter.unusedVariables false
set_option linter.unusedSimpArgs false
namespace Go.Proofs.YtcdecnmhogmhaaaDoor
open Go.RowKit
set_option maxHeartbeats 4000000 in
theorem top_ref (t r h : Nat) (w : World) (ht : t ≤ 1000000) (hr : r ≤ 1000000) (hh : h ≤ 1000000) : Calls Tryd.prog 71 #[.int .i64 t, .int .i64 r, .int .i64 h] w fun e w' => e = .returned (.int .i64 (topN t r h)) ∧ w' = w := by
  have e : Hid (topN t r h = if t ≤ h then 0 else min (r - h / 2) (t - h)) := Lib.hid rfl
  have H1 := fun w => high_ref (t : Int) 0 w
  have H2 := fun w => high_ref (r : Int) 0 w
  have H3 := fun w => high_ref (h : Int) 0 w
  rw [show max (t : Int) 0 = t by omega] at H1
  rw [show max (r : Int) 0 = r by omega] at H2
  rw [show max (h : Int) 0 = h by omega] at H3
  replace H1 := Lib.hid H1; replace H2 := Lib.hid H2; replace H3 := Lib.hid H3
  go_enter Tryd.func71, Tryd.ntmps71
  go_wp2_with (first
    | (go_at_call 59; (with_reducible refine (H1.out _).mono ?_); rintro e w1 ⟨rfl, rfl⟩)
    | (go_at_call 59; (with_reducible refine (H2.out _).mono ?_); rintro e w1 ⟨rfl, rfl⟩)
    | (go_at_call 59; (with_reducible refine (H3.out _).mono ?_); rintro e w1 ⟨rfl, rfl⟩))
  all_goals
    go_ret
    refine ⟨retI ?_, rfl⟩
    have := e.out
    rw [this]
    split <;> omega
/-- May cells be laid? -/
def layB (L : List Cl) : Bool := (List.range L.length).all fun i => !((L.getD i cl0).1 == -1 && (i == 0 || (L.getD (i - 1) cl0).1 == -1))
theorem layB_no {L : List Cl} {k : Nat} (hk : k < L.length) (h : (L.getD k cl0).1 = -1) (h2 : k = 0 ∨ (L.getD (k - 1) cl0).1 = -1) : layB L = false := by
  unfold layB
  rw [List.all_eq_false]
  refine ⟨k, by simpa using hk, ?_⟩
  rw [h]
  rcases h2 with h2 | h2
  · subst h2; simp
  · rw [h2]; simp
theorem layB_yes {L : List Cl} (h : ∀ j, j < L.length → (L.getD j cl0).1 = -1 → j ≠ 0 ∧ (L.getD (j - 1) cl0).1 ≠ -1) : layB L = true := by
  unfold layB
  rw [List.all_eq_true]
  intro j hj
  have hj' : j < L.length := by simpa using hj
  by_cases e : (L.getD j cl0).1 = -1
  · obtain ⟨a, b⟩ := h j hj' e
    have b1 : (j == 0) = false := by rw [beq_eq_false_iff_ne]; exact a
    have b2 : ((L.getD (j - 1) cl0).1 == -1) = false := by rw [beq_eq_false_iff_ne]; exact b
    rw [b1, b2]; simp
  · have b2 : ((L.getD j cl0).1 == -1) = false := by rw [beq_eq_false_iff_ne]; exact e
    rw [b2]; rfl
theorem layB_at {L : List Cl} (h : layB L = true) {j : Nat} (hj : j < L.length) (e : (L.getD j cl0).1 = -1) : j ≠ 0 ∧ (L.getD (j - 1) cl0).1 ≠ -1 := by
  constructor
  · intro h0; rw [layB_no hj e (Or.inl h0)] at h; cases h
  · intro h0; rw [layB_no hj e (Or.inr h0)] at h; cases h
set_option maxHeartbeats 4000000 in
theorem layable_any (L : List Cl) (a : Option Addr) (c : Nat) (w : World) (hl : L.length ≤ 1000000) (ha : CellsIn w a L) :
    Calls Tryd.prog 111 #[.slice a L.length c] w fun e w' => e = .returned (.bool (layB L)) ∧ Below w.heap.size w w' := by
  have HA := Lib.hid ha; clear ha
  go_enter Tryd.func111, Tryd.ntmps111
  go_wp2
  go_loopw [7] (fun iv wr => ∃ k : Nat, k ≤ L.length ∧ iv = .int .i64 (k : Int) ∧ Hid (∀ j, j < k → (L.getD j cl0).1 = -1 → j ≠ 0 ∧ (L.getD (j - 1) cl0).1 ≠ -1) ∧ Below w.heap.size w wr) (fun iv _ => L.length - (intOf iv).toNat)
  case atStart => exact ⟨0, Nat.zero_le _, rfl, Lib.hid (fun j hj => absurd hj (by omega)), Below.refl _ _⟩
  case round =>
    obtain ⟨k, hk, rfl, hall, hbl⟩ := hrel
    by_cases hlt : k < L.length
    · obtain ⟨b1, o1, rfl, hb1, c1, c2, c3, c4, c5⟩ := (HA.out.below hbl) k hlt
      have hk1 : (k : Int) < L.length := by omega
      have hk0 : (0 : Int) ≤ k := by omega
      have step : ((L.getD k cl0).1 = -1 → k ≠ 0 ∧ (L.getD (k - 1) cl0).1 ≠ -1) → Hid (∀ j, j < k + 1 → (L.getD j cl0).1 = -1 → j ≠ 0 ∧ (L.getD (j - 1) cl0).1 ≠ -1) := fun h => Lib.hid (by
        intro j hj
        rcases Nat.lt_succ_iff_lt_or_eq.1 hj with h' | rfl
        · exact hall.out j h'
        · exact h)
      by_cases hv : (L.getD k cl0).1 = -1
      · by_cases h0 : k = 0
        · have HF := Lib.hid (layB_no hlt hv (Or.inl h0))
          subst h0
          rw [hv] at c1
          simp only [Nat.zero_mul, Nat.add_zero] at c1 c2 c3 c4 c5
          clear step hv
          generalize L.getD 0 cl0 = q at *
          go_wp2
          go_ret
          rw [HF.out]
          exact ⟨rfl, hbl.alloc hbl.size _⟩
        · obtain ⟨b2, o2, e2, hb2, d1, d2, d3, d4, d5⟩ := (HA.out.below hbl) (k - 1) (by omega)
          obtain ⟨rfl, rfl⟩ : b1 = b2 ∧ o1 = o2 := by simpa using e2
          have d1' := fun o => (World.cell?_alloc_lt wr o (⟨b1, o1 + (k - 1) * 5, none⟩ : Addr) hb1).trans d1
          have hkm : (k : Int) - 1 = ((k - 1 : Nat) : Int) := by omega
          have hkm0 : ((k : Int) == 0) = false := by rw [beq_eq_false_iff_ne]; omega
          have hkm1 : ((k - 1 : Nat) : Int) < L.length := by omega
          by_cases hp : (L.getD (k - 1) cl0).1 = -1
          · have HF := Lib.hid (layB_no hlt hv (Or.inr hp))
            rw [hv] at c1
            rw [hp] at d1'
            clear step hv hp d1 d2 d3 d4 d5 e2
            generalize L.getD k cl0 = q at *
            generalize hm : k - 1 = m at *
            go_wp2
            go_ret
            rw [HF.out]
            exact ⟨rfl, hbl.alloc hbl.size _⟩
          · have HF := step (fun _ => ⟨h0, hp⟩)
            rw [hv] at c1
            have hpb : ((L.getD (k - 1) cl0).1 == -1) = false := by rw [beq_eq_false_iff_ne]; exact hp
            clear step hv d1 d2 d3 d4 d5 e2
            generalize L.getD k cl0 = q at *
            generalize (L.getD (k - 1) cl0).1 = v at *
            generalize hm : k - 1 = m at *
            go_wp2
            go_roundw
            case rel => exact ⟨k + 1, by omega, by go_num, HF, hbl.alloc hbl.size _⟩
            case measure => (simp [intOf]; try omega)
      · have HF := step (fun h => absurd h hv)
        have hvb : ((L.getD k cl0).1 == -1) = false := by rw [beq_eq_false_iff_ne]; exact hv
        clear step
        generalize L.getD k cl0 = q at *
        go_wp2
        go_roundw
        case rel => exact ⟨k + 1, by omega, by go_num, HF, hbl.alloc hbl.size _⟩
        case measure => (simp [intOf]; try omega)
    · obtain rfl : k = L.length := by omega
      have HF := Lib.hid (layB_yes hall.out)
      go_wp2
      go_ret
      rw [HF.out]
      exact ⟨rfl, hbl⟩
end Go.Proofs.YtcdecnmhogmhaaaDoor
