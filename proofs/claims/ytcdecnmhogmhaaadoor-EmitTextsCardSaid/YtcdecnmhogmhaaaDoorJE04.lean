/-
  Joined: C6 M0 Ow U4 C7 U5 C8 U6 U7 U8 U9 M1 M6 M2.
-/
import Derived.Test.YtcdecnmhogmhaaaDoorJE01
import Derived.Test.YtcdecnmhogmhaaaDoorJE02
import Derived.Test.YtcdecnmhogmhaaaDoorJE03
import Derived.Lib.ItoaWalk
import Derived.Laws.StructEq
import Derived.Lib.RuneBytes
import Derived.Test.YtcdecnmhogmhaaaDoorProg
import Derived.Shelf.Strings.BuilderX
import Derived.Lib.Builder
import Derived.Lib.AppendStr
import Derived.Laws.Externs
import Derived.Lib.IndexMore
set_option maxRecDepth 100000
set_option linter.unusedVariables false
set_option linter.unusedSimpArgs false
namespace Go.Proofs.YtcdecnmhogmhaaaDoor
set_option linter.unusedVariables false
set_option linter.unusedSimpArgs false
open Go.RowKit
theorem cright_ref (v : Int) (w : World) : Calls Tryd.prog 92 #[.int .i64 v] w fun e w' => e = .returned (.bool (rght v)) ∧ w = w' := by
  rcases rght_cases v with ⟨e, h | h | h⟩ | ⟨e, h | h | h | h⟩
  all_goals
    rw [e]; clear e
    go_enter Tryd.func92, Tryd.ntmps92
    go_wp2
    all_goals
      first
        | (go_ret; first | exact ⟨rfl, rfl⟩ | exact ⟨ret_bool (by simp; omega), rfl⟩)
        | (exfalso; omega)
theorem w64_u8 (c : UInt8) : wrap64 (c.toNat : Int) = (c.toNat : Int) := by have := c.toNat_lt; unfold wrap64; omega
/-- The reference's look. -/
def hitS (v : Int) (j : Nat) : Bool := lSk.getD j 0 == v
def skelR (v : Int) : Int := match (List.range 51).find? (hitS v) with | some j => ((sSk.getD j 0).toNat : Int) | none => v
theorem sk_byte (k : Nat) (h : k < (⟨#[65, 66, 69, 90, 72, 73, 75, 77, 78, 79, 80, 84, 89, 88, 118, 111, 112, 83, 73, 74, 65, 66, 69, 75, 77, 72, 79, 80, 67, 84, 88, 97, 101, 111, 112, 99, 121, 120, 115, 105, 106, 100, 113, 119, 59, 45, 45, 47, 47, 46, 44]⟩ : ByteArray).size) : (⟨#[65, 66, 69, 90, 72, 73, 75, 77, 78, 79, 80, 84, 89, 88, 118, 111, 112, 83, 73, 74, 65, 66, 69, 75, 77, 72, 79, 80, 67, 84, 88, 97, 101, 111, 112, 99, 121, 120, 115, 105, 106, 100, 113, 119, 59, 45, 45, 47, 47, 46, 44]⟩ : ByteArray)[k] = sSk.getD k 0 := by
  have h' : k < sSk.length := h
  rw [List.getD, List.getElem?_eq_getElem h']
  rfl
set_option maxRecDepth 100000 in
set_option maxHeartbeats 1000000 in
theorem skel_ref (v : Int) (w : World) : Calls Tryd.prog 94 #[.int .i64 v] w fun e w' => e = .returned (.int .i64 (skelR v)) ∧ Below w.heap.size w w' := by
  have hcell : ∀ i, i < 51 → (w.alloc (.cells #[.int .i64 913, .int .i64 914, .int .i64 917, .int .i64 918, .int .i64 919, .int .i64 921, .int .i64 922, .int .i64 924, .int .i64 925, .int .i64 927, .int .i64 929, .int .i64 932, .int .i64 933, .int .i64 935, .int .i64 957, .int .i64 959, .int .i64 961, .int .i64 1029, .int .i64 1030, .int .i64 1032, .int .i64 1040, .int .i64 1042, .int .i64 1045, .int .i64 1050, .int .i64 1052, .int .i64 1053, .int .i64 1054, .int .i64 1056, .int .i64 1057, .int .i64 1058, .int .i64 1061, .int .i64 1072, .int .i64 1077, .int .i64 1086, .int .i64 1088, .int .i64 1089, .int .i64 1091, .int .i64 1093, .int .i64 1109, .int .i64 1110, .int .i64 1112, .int .i64 1281, .int .i64 1307, .int .i64 1309, .int .i64 894, .int .i64 8208, .int .i64 8722, .int .i64 8260, .int .i64 8725, .int .i64 8228, .int .i64 8218] 3)).cell? ⟨w.heap.size, i, none⟩ = some (.int .i64 (lSk.getD i 0)) := by
    intro i hi
    rw [World.cell?_alloc_new]
    have key : ∀ j : Fin 51, (#[.int .i64 913, .int .i64 914, .int .i64 917, .int .i64 918, .int .i64 919, .int .i64 921, .int .i64 922, .int .i64 924, .int .i64 925, .int .i64 927, .int .i64 929, .int .i64 932, .int .i64 933, .int .i64 935, .int .i64 957, .int .i64 959, .int .i64 961, .int .i64 1029, .int .i64 1030, .int .i64 1032, .int .i64 1040, .int .i64 1042, .int .i64 1045, .int .i64 1050, .int .i64 1052, .int .i64 1053, .int .i64 1054, .int .i64 1056, .int .i64 1057, .int .i64 1058, .int .i64 1061, .int .i64 1072, .int .i64 1077, .int .i64 1086, .int .i64 1088, .int .i64 1089, .int .i64 1091, .int .i64 1093, .int .i64 1109, .int .i64 1110, .int .i64 1112, .int .i64 1281, .int .i64 1307, .int .i64 1309, .int .i64 894, .int .i64 8208, .int .i64 8722, .int .i64 8260, .int .i64 8725, .int .i64 8228, .int .i64 8218] : Array Value)[j.val]? = some (Value.int .i64 (lSk.getD j.val 0)) := by
      intro j
      have : (#[.int .i64 913, .int .i64 914, .int .i64 917, .int .i64 918, .int .i64 919, .int .i64 921, .int .i64 922, .int .i64 924, .int .i64 925, .int .i64 927, .int .i64 929, .int .i64 932, .int .i64 933, .int .i64 935, .int .i64 957, .int .i64 959, .int .i64 961, .int .i64 1029, .int .i64 1030, .int .i64 1032, .int .i64 1040, .int .i64 1042, .int .i64 1045, .int .i64 1050, .int .i64 1052, .int .i64 1053, .int .i64 1054, .int .i64 1056, .int .i64 1057, .int .i64 1058, .int .i64 1061, .int .i64 1072, .int .i64 1077, .int .i64 1086, .int .i64 1088, .int .i64 1089, .int .i64 1091, .int .i64 1093, .int .i64 1109, .int .i64 1110, .int .i64 1112, .int .i64 1281, .int .i64 1307, .int .i64 1309, .int .i64 894, .int .i64 8208, .int .i64 8722, .int .i64 8260, .int .i64 8725, .int .i64 8228, .int .i64 8218] : Array Value) = (lSk.map (Value.int .i64)).toArray := rfl
      rw [this, List.getElem?_toArray, List.getElem?_map, List.getD, List.getElem?_eq_getElem (show j.val < lSk.length from j.isLt)]
      rfl
    exact key ⟨i, hi⟩
  have Hc := Lib.hid hcell; clear hcell
  go_enter Tryd.func94, Tryd.ntmps94
  go_wp2
  go_name_bytes S hS
  have hsz : S.size = 51 := by rw [← hS]; rfl
  have hby : ∀ (k : Nat) (h : k < S.size), S[k] = sSk.getD k 0 := by subst hS; exact sk_byte
  have Hby := Lib.hid hby; clear hby hS
  generalize hW : w.alloc (.cells #[.int .i64 913, .int .i64 914, .int .i64 917, .int .i64 918, .int .i64 919, .int .i64 921, .int .i64 922, .int .i64 924, .int .i64 925, .int .i64 927, .int .i64 929, .int .i64 932, .int .i64 933, .int .i64 935, .int .i64 957, .int .i64 959, .int .i64 961, .int .i64 1029, .int .i64 1030, .int .i64 1032, .int .i64 1040, .int .i64 1042, .int .i64 1045, .int .i64 1050, .int .i64 1052, .int .i64 1053, .int .i64 1054, .int .i64 1056, .int .i64 1057, .int .i64 1058, .int .i64 1061, .int .i64 1072, .int .i64 1077, .int .i64 1086, .int .i64 1088, .int .i64 1089, .int .i64 1091, .int .i64 1093, .int .i64 1109, .int .i64 1110, .int .i64 1112, .int .i64 1281, .int .i64 1307, .int .i64 1309, .int .i64 894, .int .i64 8208, .int .i64 8722, .int .i64 8260, .int .i64 8725, .int .i64 8228, .int .i64 8218] 3) = W at *
  have hbW : Below w.heap.size w W := by rw [← hW]; exact below_alloc _ _
  generalize hBe : w.heap.size = B at *
  have HB := Lib.hid hBe
  clear hW hBe
  have Hsz := Lib.hid hsz
  have hs51 : 51 ≤ S.size := by omega
  clear hsz
  go_loop [5] (fun i => ∃ k : Nat, k ≤ 51 ∧ i = .int .i64 (k : Int) ∧ Hid (∀ j, j < k → hitS v j = false)) (fun i => 51 - (intOf i).toNat)
  case atStart => exact ⟨0, by omega, rfl, Lib.hid (by intro j hj; omega)⟩
  case round =>
    obtain ⟨k, hk, rfl, hno⟩ := hrel
    by_cases hlt : k < 51
    · have c0 := Hc.out k hlt
      have hh : hitS v k = (lSk.getD k 0 == v) := rfl
      have Hy : Hid (hitS v k = true → skelR v = ((sSk.getD k 0).toNat : Int)) := Lib.hid (fun h => by unfold skelR; rw [find_first hlt h hno.out])
      generalize lSk.getD k 0 = x at *
      have hks : k < S.size := by omega
      have Hk := Lib.hid (Hby.out k hks)
      cases hb : (x == v)
      · rw [hb] at hh
        have Hh := Lib.hid hh; clear hh
        go_wp2
        go_round
        case rel => exact ⟨k + 1, by omega, by go_num, Lib.hid (by intro j hj; rcases Nat.lt_succ_iff_lt_or_eq.1 hj with h | rfl; exact hno.out j h; exact Hh.out)⟩
        case measure => simp [intOf]; omega
      · rw [hb] at hh
        have Hy2 := Lib.hid (Hy.out hh)
        clear hh Hy
        go_wp2
        go_ret
        rw [Hy2.out, ← Hk.out]
        exact ⟨congrArg (fun x => Ending.returned (.int .i64 x)) (w64_u8 _), HB.out ▸ hbW⟩
    · obtain rfl : k = 51 := by omega
      have Hn : Hid (skelR v = v) := Lib.hid (by unfold skelR; rw [find_none hno.out])
      clear hlt
      go_wp2
      go_ret
      rw [Hn.out]
      exact ⟨rfl, HB.out ▸ hbW⟩
end Go.Proofs.YtcdecnmhogmhaaaDoor
set_option linter.unusedVariables false
set_option linter.unusedSimpArgs false
namespace Go.Proofs.YtcdecnmhogmhaaaDoor
open Go.RowKit
/-- A piece: kind, two numbers, text. -/
abbrev Ot := Int × Int × Int × ByteArray
abbrev ot0 : Ot := (0, 0, 0, ⟨#[]⟩)
/-- A piece's cells, and its value in a slot. -/
def otL (p : Ot) : List Value := [.int .i64 p.1, .int .i64 p.2.1, .int .i64 p.2.2.1, .string p.2.2.2]
def otV (p : Ot) : Value := .agg #[.int .i64 p.1, .int .i64 p.2.1, .int .i64 p.2.2.1, .string p.2.2.2]
/-- A slice of pieces lies in memory. -/
def OutsIn (w : World) (a : Option Addr) (l : List Ot) : Prop :=
  ∀ i, i < l.length → ∃ b off, a = some ⟨b, off, none⟩ ∧ b < w.heap.size ∧ w.cell? ⟨b, off + i * 4, none⟩ = some (.int .i64 (l.getD i ot0).1) ∧ w.cell? ⟨b, off + i * 4 + 1, none⟩ = some (.int .i64 (l.getD i ot0).2.1) ∧
    w.cell? ⟨b, off + i * 4 + 2, none⟩ = some (.int .i64 (l.getD i ot0).2.2.1) ∧ w.cell? ⟨b, off + i * 4 + 3, none⟩ = some (.string (l.getD i ot0).2.2.2)
theorem OutsIn.below {w w' : World} {a : Option Addr} {l : List Ot} (h : OutsIn w a l) (hb : Below w.heap.size w w') : OutsIn w' a l := fun i hi => by
  obtain ⟨b, off, e, hlt, h1, h2, h3, h4⟩ := h i hi
  exact ⟨b, off, e, Nat.lt_of_lt_of_le hlt hb.size, (hb.cell (p := ⟨b, off + i * 4, none⟩) hlt).trans h1, (hb.cell (p := ⟨b, off + i * 4 + 1, none⟩) hlt).trans h2, (hb.cell (p := ⟨b, off + i * 4 + 2, none⟩) hlt).trans h3,
    (hb.cell (p := ⟨b, off + i * 4 + 3, none⟩) hlt).trans h4⟩
def oCells (L : List Ot) : List Value := L.flatMap otL
/-- A row of pieces in memory. -/
def oRow (L : List Ot) : Array Value := (oCells L).toArray
theorem oCells_len (L : List Ot) : (oCells L).length = L.length * 4 := by
  unfold oCells; induction L with
  | nil => rfl
  | cons x R ih => simp only [List.flatMap_cons, List.length_append, otL, List.length_cons, List.length_nil, ih]; omega
theorem oCells_at (L : List Ot) : ∀ i, i < L.length → (oCells L)[i * 4]? = some (.int .i64 (L.getD i ot0).1) ∧ (oCells L)[i * 4 + 1]? = some (.int .i64 (L.getD i ot0).2.1) ∧ (oCells L)[i * 4 + 2]? = some (.int .i64 (L.getD i ot0).2.2.1) ∧
    (oCells L)[i * 4 + 3]? = some (.string (L.getD i ot0).2.2.2) := by
  induction L with
  | nil => intro i hi; simp at hi
  | cons x L ih =>
    intro i hi
    cases i with
    | zero => exact ⟨rfl, rfl, rfl, rfl⟩
    | succ i =>
      have h := ih i (by simpa using hi)
      rw [show (i + 1) * 4 = i * 4 + 1 + 1 + 1 + 1 by omega]
      exact h
theorem oCells_snoc (L : List Ot) (x : Ot) : oCells (L ++ [x]) = oCells L ++ [.int .i64 x.1, .int .i64 x.2.1, .int .i64 x.2.2.1, .string x.2.2.2] := by simp [oCells, otL]
theorem oCells_append (L M : List Ot) : oCells (L ++ M) = oCells L ++ oCells M := by simp [oCells]
theorem outs_of_blk {w : World} {g : Nat} {L : List Ot} {t : TypeId} {f : Nat × Nat} (h : w.heap[g]? = some (.cells (oRow L) t f)) : OutsIn w (some ⟨g, 0, none⟩) L := fun j hj => by
  have hh := oCells_at L j hj
  refine ⟨g, 0, rfl, blk_lt h, ?_, ?_, ?_, ?_⟩
  · rw [Nat.zero_add, cell_of_row _ _ _ _ _ _ h, oRow, List.getElem?_toArray]; exact hh.1
  · rw [Nat.zero_add, cell_of_row _ _ _ _ _ _ h, oRow, List.getElem?_toArray]; exact hh.2.1
  · rw [Nat.zero_add, cell_of_row _ _ _ _ _ _ h, oRow, List.getElem?_toArray]; exact hh.2.2.1
  · rw [Nat.zero_add, cell_of_row _ _ _ _ _ _ h, oRow, List.getElem?_toArray]; exact hh.2.2.2
/-- A row of pieces of the call's own. -/
def ownT (w : World) (B : Nat) (v : Value) (L : List Ot) : Prop := w.ownsRow B 61 4 v L.length (oCells L)
theorem outs_of_own {w : World} {B : Nat} {v : Value} {L : List Ot} (h : ownT w B v L) : ∃ a c, v = .slice a L.length c ∧ OutsIn w a L := by
  unfold ownT at h
  rcases h.2 with ⟨rfl, h0⟩ | ⟨g, cap, cur, rfl, _, hg, _⟩
  · exact ⟨none, 0, by rw [h0], fun j hj => by omega⟩
  · refine ⟨_, cap, rfl, fun j hj => ⟨g, 0, rfl, blk_lt hg, ?_, ?_, ?_, ?_⟩⟩
    · rw [Nat.zero_add, h.cellAt (j * 4) (by omega)]; exact (oCells_at L j hj).1
    · rw [Nat.zero_add, h.cellAt (j * 4 + 1) (by omega)]; exact (oCells_at L j hj).2.1
    · rw [Nat.zero_add, h.cellAt (j * 4 + 2) (by omega)]; exact (oCells_at L j hj).2.2.1
    · rw [Nat.zero_add, h.cellAt (j * 4 + 3) (by omega)]; exact (oCells_at L j hj).2.2.2
theorem infoOut : (Tryd.prog.info? 61).map (fun i => (i.zero, i.size, i.bytes)) = some (some (.agg #[.int .i64 0, .int .i64 0, .int .i64 0, .string ⟨#[]⟩]), 4, 40) := by kernel_rfl
theorem toL_ne {a b : ByteArray} (h : ¬ a = b) : ¬ a.toList = b.toList := by
  rw [ByteArray.toList_eq, ByteArray.toList_eq]; intro e; exact h (ByteArray.ext (Array.ext' e))
set_option maxHeartbeats 1000000 in
theorem neqOut (k n m : Int) (t : ByteArray) (k' n' m' : Int) (t' : ByteArray) (w : World) : (binOp .neq 61 (.agg #[.int .i64 k, .int .i64 n, .int .i64 m, .string t]) (.agg #[.int .i64 k', .int .i64 n', .int .i64 m', .string t'])).run Tryd.prog w = .ok (.bool (decide (((k, n, m, t) : Ot) ≠ (k', n', m', t')))) w := by
  by_cases h1 : k = k'
  · by_cases h2 : n = n'
    · by_cases h3 : m = m'
      · by_cases h4 : t = t'
        · subst h1; subst h2; subst h3; subst h4
          simp [go_sem]
        · simp [go_sem, h1, h2, h3, h4, toL_ne h4]
      · simp [go_sem, h1, h2, h3]
    · simp [go_sem, h1, h2]
  · simp [go_sem, h1]
set_option maxHeartbeats 1000000 in
theorem eqOut (k n m : Int) (t : ByteArray) (k' n' m' : Int) (t' : ByteArray) (w : World) : (binOp .eql 61 (.agg #[.int .i64 k, .int .i64 n, .int .i64 m, .string t]) (.agg #[.int .i64 k', .int .i64 n', .int .i64 m', .string t'])).run Tryd.prog w = .ok (.bool (decide (((k, n, m, t) : Ot) = (k', n', m', t')))) w := by
  by_cases h1 : k = k'
  · by_cases h2 : n = n'
    · by_cases h3 : m = m'
      · by_cases h4 : t = t'
        · subst h1; subst h2; subst h3; subst h4
          simp [go_sem]
        · simp [go_sem, h1, h2, h3, h4, toL_ne h4]
      · simp [go_sem, h1, h2, h3]
    · simp [go_sem, h1, h2]
  · simp [go_sem, h1]
end Go.Proofs.YtcdecnmhogmhaaaDoor
set_option linter.unusedVariables false
set_option linter.unusedSimpArgs false
namespace Go.Proofs.YtcdecnmhogmhaaaDoor
open Go.RowKit
theorem own_ne_kind {w : World} {B n size b : Nat} {e T : TypeId} {v : Value} {xs : List Value} {cs : Array Value} {fr : Nat × Nat} (h : w.ownsRow B e size v n xs) (hb : w.heap[b]? = some (.cells cs T fr)) (hT : T ≠ e) : v.ownBlock ≠ some b := by
  rcases h.2 with ⟨rfl, _⟩ | ⟨g, cap, cur, rfl, _, hg, _⟩
  · simp [Value.ownBlock]
  · intro e'
    obtain rfl : g = b := by simpa [Value.ownBlock] using e'
    rw [hg] at hb; simp at hb; exact hT hb.2.1.symm
theorem own_ne_own {w : World} {B B' n n' size size' : Nat} {e e' : TypeId} {v v' : Value} {xs xs' : List Value} (h : w.ownsRow B e size v n xs) (h' : w.ownsRow B' e' size' v' n' xs') (hT : e ≠ e') : v.ownBlock = none ∨ v.ownBlock ≠ v'.ownBlock := by
  rcases h.2 with ⟨rfl, _⟩ | ⟨g, cap, cur, rfl, _, hg, _⟩
  · exact .inl rfl
  · exact .inr fun e'' => own_ne_kind h' hg hT e''.symm
theorem own_set {w : World} {B n size : Nat} {e : TypeId} {v : Value} {xs : List Value} (h : w.ownsRow B e size v n xs) {a : Addr} (ha : v.ownBlock ≠ some a.block) (u : Value) : (w.setCell a u).ownsRow B e size v n xs := by
  refine ⟨h.1, ?_⟩
  rcases h.2 with h2 | ⟨g, cap, cur, rfl, hB, hg, r⟩
  · exact .inl h2
  · exact .inr ⟨g, cap, cur, rfl, hB, by rw [Below.heap_setCell _ _ _ _ (fun e => ha (by rw [← e]; rfl))]; exact hg, r⟩
/-- A row of numbers of the call's own, read as a slice. -/
theorem row_ofI {w : World} {B : Nat} {v : Value} {L : List Int} (h : w.ownsRow B 3 1 v L.length (L.map (Value.int .i64))) : ∃ a c, v = .slice a L.length c ∧ Row w a L := by
  rcases h.2 with ⟨rfl, h0⟩ | ⟨g, cap, cur, rfl, _, hg, _⟩
  · exact ⟨none, 0, by rw [h0], fun j hj => by omega⟩
  · refine ⟨_, cap, rfl, fun j hj => ⟨g, 0, rfl, ?_, blk_lt hg⟩⟩
    rw [Nat.zero_add, h.cellAt j (by omega), List.getElem?_map, List.getD, List.getElem?_eq_getElem hj]; rfl
end Go.Proofs.YtcdecnmhogmhaaaDoor
namespace Go.Proofs.YtcdecnmhogmhaaaDoor
open Go.RowKit
theorem sizeB_cases (c : Nat) (h : c < 256) : (c < 128 ∧ sizeB c = 1) ∨ (194 ≤ c ∧ c ≤ 223 ∧ sizeB c = 2) ∨ (224 ≤ c ∧ c ≤ 239 ∧ sizeB c = 3) ∨ (240 ≤ c ∧ c ≤ 244 ∧ sizeB c = 4) ∨ (128 ≤ c ∧ c < 194 ∧ sizeB c = 0) ∨ (244 < c ∧ sizeB c = 0) := by
  unfold sizeB; repeat' split
  all_goals omega
set_option maxRecDepth 100000 in
theorem size_ref (c : UInt8) (w : World) : Calls Tryd.prog 133 #[.int .u8 (c.toNat : Int)] w fun e w' => e = .returned (.int .i64 (sizeB c.toNat : Int)) ∧ w' = w := by
  have h1 := c.toNat_lt
  generalize c.toNat = n at *
  rcases sizeB_cases n (by omega) with ⟨h, e⟩ | ⟨h, h', e⟩ | ⟨h, h', e⟩ | ⟨h, h', e⟩ | ⟨h, h', e⟩ | ⟨h, e⟩
  all_goals
    rw [e]; clear e
    go_enter Tryd.func133, Tryd.ntmps133
    go_wp2
    go_ret
    exact ⟨rfl, rfl⟩
set_option maxRecDepth 100000 in
set_option maxHeartbeats 4000000 in
theorem may_ref (f c : UInt8) (i : Int) (w : World) : Calls Tryd.prog 161 #[.int .u8 (f.toNat : Int), .int .u8 (c.toNat : Int), .int .i64 i] w fun e w' => e = .returned (.bool (mayB f.toNat c.toNat i.toNat)) ∧ w' = w := by
  have h1 := c.toNat_lt
  have h2 := f.toNat_lt
  have hm := mayB_iff f.toNat c.toNat i.toNat
  generalize c.toNat = n at *
  generalize f.toNat = k at *
  by_cases ha : 128 ≤ n ∧ n ≤ 191
  · by_cases hb : 1 < i
    · have e : mayB k n i.toNat = true := hm.2 ⟨ha, Or.inl (by omega)⟩
      rw [e]; clear e hm
      obtain ⟨ha1, ha2⟩ := ha
      go_enter Tryd.func161, Tryd.ntmps161
      go_wp2
      go_ret
      exact ⟨rfl, rfl⟩
    · obtain ⟨ha1, ha2⟩ := ha
      have e : mayB k n i.toNat = !(decide (k = 224 ∧ n < 160) || decide (k = 237 ∧ 159 < n) || decide (k = 240 ∧ n < 144) || decide (k = 244 ∧ 143 < n)) := by
        rw [Bool.eq_iff_iff, hm]; simp; omega
      rw [e]; clear e hm
      rcases (show k = 224 ∨ k = 237 ∨ k = 240 ∨ k = 244 ∨ (k ≠ 224 ∧ k ≠ 237 ∧ k ≠ 240 ∧ k ≠ 244) by omega) with rfl | rfl | rfl | rfl | ⟨n1, n2, n3, n4⟩
      case inr.inr.inr.inr =>
        have e1 : ((k : Int) == 224) = false := by rw [beq_eq_false_iff_ne]; omega
        have e2 : ((k : Int) == 237) = false := by rw [beq_eq_false_iff_ne]; omega
        have e3 : ((k : Int) == 240) = false := by rw [beq_eq_false_iff_ne]; omega
        have e4 : ((k : Int) == 244) = false := by rw [beq_eq_false_iff_ne]; omega
        go_enter Tryd.func161, Tryd.ntmps161
        go_wp2
        go_ret
        exact ⟨ret_boolU (by first | (simp; done) | (simp; omega)), rfl⟩
      all_goals
        go_enter Tryd.func161, Tryd.ntmps161
        go_wp2
        all_goals
          go_ret
          exact ⟨ret_boolU (by first | (simp; done) | (simp; omega)), rfl⟩
  · have e : mayB k n i.toNat = false := by
      cases hx : mayB k n i.toNat with
      | false => rfl
      | true => exact absurd (hm.1 hx).1 ha
    rw [e]; clear e hm
    rcases (show n < 128 ∨ 191 < n by omega) with h | h
    all_goals
      go_enter Tryd.func161, Tryd.ntmps161
      go_wp2
      go_ret
      exact ⟨rfl, rfl⟩
end Go.Proofs.YtcdecnmhogmhaaaDoor
namespace Go.Proofs.YtcdecnmhogmhaaaDoor
open Go.RowKit
/-- The reference's class and width. -/
def clsR (v : Int) : Int := if rght v = false then 0 else if 1114111 < v then 12 else if 0 < oddR v then oddR v else if skelR v ≠ v then 3 else if wthn lWide v then 2 else 1
def widR (v : Int) : Int := if clsR v = 2 then 2 else if clsR v = 1 ∨ clsR v = 3 then 1 else 0
set_option maxRecDepth 100000 in
set_option maxHeartbeats 2000000 in
theorem of_ref (v : Int) (w : World) : Calls Tryd.prog 42 #[.int .i64 v] w fun e w' => e = .returned (.int .i64 (clsR v)) ∧ Below w.heap.size w w' := by
  have R := fun w => cright_ref v w
  have O := fun w => odd_any v w
  have K := fun w => skel_ref v w
  have W1 := w_lWide v
  have hc : clsR v = if rght v = false then 0 else if 1114111 < v then 12 else if 0 < oddR v then oddR v else if skelR v ≠ v then 3 else if wthn lWide v then 2 else 1 := rfl
  generalize rght v = r at *
  generalize oddR v = o at *
  generalize skelR v = s at *
  generalize wthn lWide v = b at *
  have R := Lib.hid R; have O := Lib.hid O; have K := Lib.hid K; have W1 := Lib.hid W1
  cases r
  · have Hc : Hid (clsR v = 0) := Lib.hid (by rw [hc, if_pos rfl])
    clear hc
    go_enter Tryd.func42, Tryd.ntmps42
    go_wp2_with (go_at_call 92; refine (R.out _).mono ?_; rintro e w' ⟨rfl, rfl⟩)
    go_ret
    rw [Hc.out]; exact ⟨rfl, Below.refl _ _⟩
  · rw [if_neg (by simp)] at hc
    by_cases h1 : 1114111 < v
    · have Hc : Hid (clsR v = 12) := Lib.hid (by rw [hc, if_pos h1])
      clear hc
      go_enter Tryd.func42, Tryd.ntmps42
      go_wp2_with (go_at_call 92; refine (R.out _).mono ?_; rintro e w' ⟨rfl, rfl⟩)
      go_ret
      rw [Hc.out]; exact ⟨rfl, Below.refl _ _⟩
    · rw [if_neg h1] at hc
      by_cases h2 : 0 < o
      · have Hc : Hid (clsR v = o) := Lib.hid (by rw [hc, if_pos h2])
        clear hc
        go_enter Tryd.func42, Tryd.ntmps42
        go_wp2_with (first | (go_at_call 92; refine (R.out _).mono ?_; rintro e w' ⟨rfl, rfl⟩) | (go_at_call 93; refine (O.out _).mono ?_; rintro e w1 ⟨rfl, hb1⟩))
        go_ret
        rw [Hc.out]; exact ⟨rfl, hb1⟩
      · rw [if_neg h2] at hc
        by_cases h3 : s = v
        · have h3b : (s != v) = false := by rw [h3]; simp
          have Hc : Hid (clsR v = if b then 2 else 1) := Lib.hid (by rw [hc, if_neg (by simpa using h3)])
          clear hc h3
          cases b
          all_goals
            go_enter Tryd.func42, Tryd.ntmps42
            go_wp2_with (first | (go_at_call 92; refine (R.out _).mono ?_; rintro e w' ⟨rfl, rfl⟩) | (go_at_call 93; refine (O.out _).mono ?_; rintro e w1 ⟨rfl, hb1⟩) | (go_at_call 94; refine (K.out _).mono ?_; rintro e w2 ⟨rfl, hb2⟩) | (go_at_call 95; (with_reducible refine (W1.out _ _ (by simp)).mono ?_); rintro e w3 ⟨rfl, rfl⟩))
            go_ret
            rw [Hc.out]
            exact ⟨rfl, seqB (seqB hb1 hb2) (below_alloc _ _)⟩
        · have h3b : (s != v) = true := by simpa using h3
          have Hc : Hid (clsR v = 3) := Lib.hid (by rw [hc, if_pos h3])
          clear hc h3
          go_enter Tryd.func42, Tryd.ntmps42
          go_wp2_with (first | (go_at_call 92; refine (R.out _).mono ?_; rintro e w' ⟨rfl, rfl⟩) | (go_at_call 93; refine (O.out _).mono ?_; rintro e w1 ⟨rfl, hb1⟩) | (go_at_call 94; refine (K.out _).mono ?_; rintro e w2 ⟨rfl, hb2⟩))
          go_ret
          rw [Hc.out]; exact ⟨rfl, seqB hb1 hb2⟩
theorem width_ref (v : Int) (w : World) : Calls Tryd.prog 90 #[.int .i64 v] w fun e w' => e = .returned (.int .i64 (widR v)) ∧ Below w.heap.size w w' := by
  have ho := of_ref v w
  have hw : widR v = if clsR v = 2 then 2 else if clsR v = 1 ∨ clsR v = 3 then 1 else 0 := rfl
  generalize clsR v = c at *
  have Ho := Lib.hid ho; clear ho
  rcases (show c = 2 ∨ c = 1 ∨ c = 3 ∨ (c ≠ 2 ∧ c ≠ 1 ∧ c ≠ 3) by omega) with rfl | rfl | rfl | ⟨h1, h2, h3⟩
  · have Hw : Hid (widR v = 2) := Lib.hid (by rw [hw]; rfl)
    clear hw
    go_enter Tryd.func90, Tryd.ntmps90
    go_wp2_with (go_at_call 42; refine Ho.out.mono ?_; rintro e w1 ⟨rfl, hb1⟩)
    go_ret
    rw [Hw.out]; exact ⟨rfl, hb1⟩
  · have Hw : Hid (widR v = 1) := Lib.hid (by rw [hw]; rfl)
    clear hw
    go_enter Tryd.func90, Tryd.ntmps90
    go_wp2_with (go_at_call 42; refine Ho.out.mono ?_; rintro e w1 ⟨rfl, hb1⟩)
    go_ret
    rw [Hw.out]; exact ⟨rfl, hb1⟩
  · have Hw : Hid (widR v = 1) := Lib.hid (by rw [hw]; rfl)
    clear hw
    go_enter Tryd.func90, Tryd.ntmps90
    go_wp2_with (go_at_call 42; refine Ho.out.mono ?_; rintro e w1 ⟨rfl, hb1⟩)
    go_ret
    rw [Hw.out]; exact ⟨rfl, hb1⟩
  · have Hw : Hid (widR v = 0) := Lib.hid (by rw [hw, if_neg h1, if_neg (by omega)])
    have e1 : (c == 1) = false := by rw [beq_eq_false_iff_ne]; exact h2
    have e2 : (c == 2) = false := by rw [beq_eq_false_iff_ne]; exact h1
    have e3 : (c == 3) = false := by rw [beq_eq_false_iff_ne]; exact h3
    clear hw
    go_enter Tryd.func90, Tryd.ntmps90
    go_wp2_with (go_at_call 42; refine Ho.out.mono ?_; rintro e w1 ⟨rfl, hb1⟩)
    go_ret
    rw [Hw.out]; exact ⟨rfl, hb1⟩
end Go.Proofs.YtcdecnmhogmhaaaDoor
set_option linter.unusedVariables false
set_option linter.unusedSimpArgs false
namespace Go.Proofs.YtcdecnmhogmhaaaDoor
open Go.RowKit
/-- Does another byte belong to it? -/
def more (s : ByteArray) (m : Nat) : Prop := m < sizeB (s.get! 0).toNat ∧ m < s.size ∧ mayB (s.get! 0).toNat (s.get! m).toNat m = true
/-- How many bytes belong to what the first one begins, from m on. -/
def bgF (s : ByteArray) : Nat → Nat → Nat
  | 0, m => m
  | f + 1, m => if m < sizeB (s.get! 0).toNat ∧ m < s.size ∧ mayB (s.get! 0).toNat (s.get! m).toNat m = true then bgF s f (m + 1) else m
def begS (s : ByteArray) : Nat := bgF s 4 1
theorem sizeB_le (c : Nat) : sizeB c ≤ 4 := by unfold sizeB; repeat' split
                                               all_goals omega
theorem begS_B (s : ByteArray) : begS s = begB s.size (s.get! 0).toNat (s.get! 1).toNat (s.get! 2).toNat (s.get! 3).toNat := by
  have h4 : ¬ (4 < sizeB (s.get! 0).toNat ∧ 4 < s.size ∧ mayB (s.get! 0).toNat (s.get! 4).toNat 4 = true) := by have := sizeB_le (s.get! 0).toNat; omega
  unfold begS begB
  simp only [bgF]
  rw [if_neg h4]
theorem bgF_le (s : ByteArray) (hs : 0 < s.size) : ∀ f m, m ≤ s.size → bgF s f m ≤ s.size := by
  intro f
  induction f with
  | zero => intro m h; exact h
  | succ f ih =>
    intro m h
    rw [bgF]
    split
    · rename_i hm; exact ih (m + 1) hm.2.1
    · exact h
theorem begS_rng (s : ByteArray) (hs : 0 < s.size) : 1 ≤ begS s ∧ begS s ≤ 4 ∧ begS s ≤ s.size := by
  refine ⟨?_, ?_, bgF_le s hs 4 1 (by omega)⟩
  · rw [begS_B]; unfold begB; repeat' split
    all_goals omega
  · rw [begS_B]; unfold begB; repeat' split
    all_goals omega
set_option maxRecDepth 100000 in
set_option maxHeartbeats 4000000 in
theorem begins_ref (s : ByteArray) (w : World) (hs : 0 < s.size) (hs' : s.size ≤ 1000000) : Calls Tryd.prog 132 #[.string s] w fun e w' => e = .returned (.int .i64 (begS s : Int)) ∧ ∃ n, w' = w.drewN n := by
  go_enter Tryd.func132, Tryd.ntmps132
  go_wp2
  go_loopw [3] (fun n wr => ∃ (m f k : Nat), n = .int .i64 (m : Int) ∧ Hid (bgF s f m = begS s) ∧ m + f = 5 ∧ 1 ≤ m ∧ wr = w.drewN k) (fun n _ => 5 - (intOf n).toNat)
  case atStart => exact ⟨1, 4, 0, rfl, Lib.hid rfl, rfl, Nat.le_refl _, rfl⟩
  case round =>
    obtain ⟨m, f, k, rfl, hb, hf, hm, rfl⟩ := hrel
    have g0 := get_get s 0 hs
    have S0 := Lib.hid fun w => size_ref (s[0]) w
    have hsz := sizeB_le (s.get! 0).toNat
    rw [g0] at hsz
    have hbm : Hid (f = 0 → m = begS s) := Lib.hid fun h => by have := hb.out; rw [h] at this; exact this
    have hbs : Hid (∀ f', f = f' + 1 → (if m < sizeB (s.get! 0).toNat ∧ m < s.size ∧ mayB (s.get! 0).toNat (s.get! m).toNat m = true then bgF s f' (m + 1) else m) = begS s) := Lib.hid fun f' h => by have := hb.out; rw [h] at this; exact this
    rw [g0] at hbs
    clear g0
    have hs0 : (0 : Int) < (s.size : Int) := by omega
    generalize hz : sizeB (s[0]).toNat = z at *
    have Hz := Lib.hid hz; clear hz
    by_cases t1 : m < z
    · obtain ⟨f', rfl⟩ : ∃ f', f = f' + 1 := ⟨f - 1, by omega⟩
      have hB := Lib.hid (hbs.out f' rfl)
      clear hbs hbm hb
      by_cases t2 : m < s.size
      · have M0 := fun w => may_ref (s[0]) (s[m]) (m : Int) w
        have hB2 := hB.out
        rw [get_get s m t2] at hB2
        simp only [Int.toNat_natCast] at M0
        have t2i : (m : Int) < (s.size : Int) := by omega
        clear hB
        generalize hy : mayB (s[0]).toNat (s[m]).toNat m = y at *
        have Hy := Lib.hid hy; clear hy
        replace M0 := Lib.hid M0
        have t1i : (m : Int) < (z : Int) := by omega
        cases y
        · have hfin : Hid (m = begS s) := Lib.hid (by rw [← hB2, if_neg (by simp)])
          clear hB2
          go_wp2
          go_quiet (((first | (go_at_call 133; exact qsame (S0.out _)) | (go_at_call 161; exact qsame (M0.out _)))))
          go_wp2
          go_ret
          rw [← hfin.out]
          exact ⟨rfl, _, World.drewN_drewN _ _ _⟩
        · have hnext : Hid (bgF s f' (m + 1) = begS s) := Lib.hid (by rw [← hB2, if_pos ⟨t1, t2, rfl⟩])
          clear hB2
          go_wp2
          go_quiet (((first | (go_at_call 133; exact qsame (S0.out _)) | (go_at_call 161; exact qsame (M0.out _)))))
          go_wp2
          go_roundw
          case rel => exact ⟨m + 1, f', _, by go_num, hnext, by omega, by omega, rfl⟩
          case measure => simp [intOf]; omega
      · have hfin : Hid (m = begS s) := Lib.hid (by rw [← hB.out, if_neg (by omega)])
        have t2d : decide ((m : Int) < (s.size : Int)) = false := decide_eq_false (by omega)
        have t2e : decide (m < s.size) = false := decide_eq_false (by omega)
        have t1i : (m : Int) < (z : Int) := by omega
        clear hB
        go_wp2
        go_quiet ((go_at_call 133; exact qsame (S0.out _)))
        go_wp2
        go_ret
        rw [← hfin.out]
        exact ⟨rfl, _, World.drewN_drewN _ _ _⟩
    · have hfin : Hid (m = begS s) := Lib.hid (by
        rcases Nat.eq_zero_or_pos f with e | e
        · exact hbm.out e
        · have := hbs.out (f - 1) (by omega)
          rw [if_neg (by omega)] at this; exact this)
      have t1d : decide ((m : Int) < (z : Int)) = false := decide_eq_false (by omega)
      have t1e : decide (m < z) = false := decide_eq_false (by omega)
      clear hbm hbs hb
      go_wp2
      go_quiet ((go_at_call 133; exact qsame (S0.out _)))
      go_wp2
      go_ret
      rw [← hfin.out]
      exact ⟨rfl, _, World.drewN_drewN _ _ _⟩
end Go.Proofs.YtcdecnmhogmhaaaDoor
namespace Go.Proofs.YtcdecnmhogmhaaaDoor
open Go.RowKit
theorem inb_self (v x : Int) : inb v x x = true ↔ v = x := by
  unfold inb; simp; omega
theorem find_some_lt {p : Nat → Bool} {n j : Nat} (h : (List.range n).find? p = some j) : j < n ∧ p j = true := by
  have h1 := List.mem_of_find?_eq_some h
  exact ⟨by simpa using h1, List.find?_some h⟩
theorem look_keys : ∀ j : Fin 51, skelR (lks.getD (2 * j.val) 0) = skel (lks.getD (2 * j.val) 0) ∧ skel (lks.getD (2 * j.val) 0) ≠ lks.getD (2 * j.val) 0 := by decide +kernel
theorem look_keys2 : ∀ j : Fin 51, skelR (lSk.getD j.val 0) = skel (lSk.getD j.val 0) := by decide +kernel
/-- Both tables tell the same looks. -/
theorem skel_eq (v : Int) : skelR v = skel v := by
  cases h1 : (List.range 51).find? (hitL v) with
  | some j =>
    have ⟨hj, hp⟩ := find_some_lt h1
    have e : v = lks.getD (2 * j) 0 := (inb_self v _).1 hp
    rw [e]; exact (look_keys ⟨j, hj⟩).1
  | none =>
    cases h2 : (List.range 51).find? (hitS v) with
    | some j =>
      have ⟨hj, hp⟩ := find_some_lt h2
      have e : v = lSk.getD j 0 := by unfold hitS at hp; simpa using (beq_iff_eq.1 hp).symm
      rw [e]; exact look_keys2 ⟨j, hj⟩
    | none => unfold skelR skel; rw [h1, h2]
/-- Is it a look-alike? -/
def isL (v : Int) : Bool := (List.range 51).any (hitL v)
theorem isL_iff (v : Int) : isL v = true ↔ skel v ≠ v := by
  cases h1 : (List.range 51).find? (hitL v) with
  | some j =>
    have ⟨hj, hp⟩ := find_some_lt h1
    have e : v = lks.getD (2 * j) 0 := (inb_self v _).1 hp
    have hk := (look_keys ⟨j, hj⟩).2
    constructor
    · intro _; rw [e]; exact hk
    · intro _; unfold isL; rw [List.any_eq_true]; exact ⟨j, by simpa using hj, hp⟩
  | none =>
    have hn : skel v = v := by unfold skel; rw [h1]
    have : isL v = false := by
      unfold isL; rw [List.any_eq_false]
      rw [List.find?_eq_none] at h1; exact h1
    rw [this, hn]; simp
def toldP (v : Int) : Int := match (List.range 53).find? (hitR v) with | some j => rng.getD (3 * j) 0 | none => if isL v then 3 else 1
def oddP (v : Int) : Int := if wthn lSpace v then 10 else if wthn lZero v then 8 else if wthn lBidi v then 7 else if wthn lMark v then 9 else if wthn lOther v then 11 else 0
def clsP (v : Int) : Int := if 0 < oddP v then oddP v else if isL v then 3 else if wthn lWide v then 2 else 1
theorem told_toldP (v : Int) : told v = toldP v := by
  unfold told toldP
  cases (List.range 53).find? (hitR v) with
  | some j => rfl
  | none =>
    show (if skel v = v then (1 : Int) else 3) = if isL v then 3 else 1
    by_cases h : skel v = v
    · rw [if_pos h]
      have : isL v = false := by
        cases hl : isL v with
        | false => rfl
        | true => exact absurd h ((isL_iff v).1 hl)
      rw [this]; rfl
    · rw [if_neg h, (isL_iff v).2 h]; rfl
/-- Where a test may turn. -/
def brk : List Int := 160 :: ((List.range 53).flatMap fun j => [rng.getD (3 * j + 1) 0, rng.getD (3 * j + 2) 0 + 1]) ++ ((List.range 51).flatMap fun j => [lks.getD (2 * j) 0, lks.getD (2 * j) 0 + 1]) ++
  ([lSpace, lZero, lBidi, lMark, lOther, lWide].flatMap fun l => (List.range (l.length / 2)).flatMap fun j => [l.getD (2 * j) 0, l.getD (2 * j + 1) 0 + 1])
theorem floor_ex (v : Int) : ∀ B : List Int, (∃ b ∈ B, b ≤ v) → ∃ p ∈ B, p ≤ v ∧ ∀ b ∈ B, b ≤ v → b ≤ p := by
  intro B
  induction B with
  | nil => rintro ⟨b, hb, _⟩; cases hb
  | cons a B ih =>
    rintro ⟨b, hb, hv⟩
    by_cases hB : ∃ b ∈ B, b ≤ v
    · obtain ⟨p, hp, hpv, hmax⟩ := ih hB
      by_cases ha : a ≤ v ∧ p ≤ a
      · exact ⟨a, List.mem_cons_self .., ha.1, fun c hc hcv => by
          rcases List.mem_cons.1 hc with rfl | hc
          · exact Int.le_refl _
          · exact Int.le_trans (hmax c hc hcv) ha.2⟩
      · exact ⟨p, List.mem_cons_of_mem _ hp, hpv, fun c hc hcv => by
          rcases List.mem_cons.1 hc with rfl | hc
          · omega
          · exact hmax c hc hcv⟩
    · rcases List.mem_cons.1 hb with rfl | hb
      · exact ⟨b, List.mem_cons_self .., hv, fun c hc hcv => by
          rcases List.mem_cons.1 hc with rfl | hc
          · exact Int.le_refl _
          · exact absurd ⟨c, hc, hcv⟩ hB⟩
      · exact absurd ⟨b, hb, hv⟩ hB
theorem inb_floor {v p x y : Int} {B : List Int} (hp : p ≤ v) (hm : ∀ b ∈ B, b ≤ v → b ≤ p) (hx : x ∈ B) (hy : y + 1 ∈ B) : inb v x y = inb p x y := by
  have h1 := hm x hx; have h2 := hm (y + 1) hy
  unfold inb
  have e1 : decide (x ≤ v) = decide (x ≤ p) := by rw [Bool.eq_iff_iff]; simp; omega
  have e2 : decide (v ≤ y) = decide (p ≤ y) := by rw [Bool.eq_iff_iff]; simp; omega
  rw [e1, e2]
theorem brk_R : ∀ j : Fin 53, rng.getD (3 * j.val + 1) 0 ∈ brk ∧ rng.getD (3 * j.val + 2) 0 + 1 ∈ brk := by decide +kernel
theorem brk_L : ∀ j : Fin 51, lks.getD (2 * j.val) 0 ∈ brk ∧ lks.getD (2 * j.val) 0 + 1 ∈ brk := by decide +kernel
def brkW (l : List Int) : Bool := (List.range (l.length / 2)).all fun j => decide (l.getD (2 * j) 0 ∈ brk ∧ l.getD (2 * j + 1) 0 + 1 ∈ brk)
theorem brk_W : ∀ l ∈ [lSpace, lZero, lBidi, lMark, lOther, lWide], brkW l = true := by decide +kernel
theorem find_congr {p q : Nat → Bool} : ∀ {l : List Nat}, (∀ j ∈ l, p j = q j) → l.find? p = l.find? q
  | [], _ => rfl
  | a :: l, h => by
    rw [List.find?_cons, List.find?_cons, h a (List.mem_cons_self ..), find_congr fun j hj => h j (List.mem_cons_of_mem _ hj)]
theorem any_congr {p q : Nat → Bool} : ∀ {l : List Nat}, (∀ j ∈ l, p j = q j) → l.any p = l.any q
  | [], _ => rfl
  | a :: l, h => by
    rw [List.any_cons, List.any_cons, h a (List.mem_cons_self ..), any_congr fun j hj => h j (List.mem_cons_of_mem _ hj)]
theorem cls_points : ∀ p ∈ brk, 160 ≤ p → p ≤ 1114111 → toldP p = clsP p := by decide +kernel
theorem told_cls (v : Int) (h0 : 160 ≤ v) (h1 : v ≤ 1114111) : told v = clsP v := by
  obtain ⟨p, hpB, hpv, hm⟩ := floor_ex v brk ⟨160, by decide +kernel, h0⟩
  have hp0 : 160 ≤ p := hm 160 (by decide +kernel) h0
  have eR : ∀ j, j < 53 → hitR v j = hitR p j := fun j hj => inb_floor hpv hm (brk_R ⟨j, hj⟩).1 (brk_R ⟨j, hj⟩).2
  have eL : ∀ j, j < 51 → hitL v j = hitL p j := fun j hj => inb_floor hpv hm (brk_L ⟨j, hj⟩).1 (brk_L ⟨j, hj⟩).2
  have eW : ∀ l ∈ [lSpace, lZero, lBidi, lMark, lOther, lWide], wthn l v = wthn l p := fun l hl => by
    have hw := brk_W l hl
    unfold brkW at hw
    rw [List.all_eq_true] at hw
    unfold wthn
    exact any_congr fun j hj => by
      have := of_decide_eq_true (hw j hj)
      exact inb_floor hpv hm this.1 this.2
  have eI : isL v = isL p := any_congr fun j hj => eL j (by simpa using hj)
  have eT : toldP v = toldP p := by
    unfold toldP
    rw [find_congr (p := hitR v) (q := hitR p) fun j hj => eR j (by simpa using hj), eI]
  have eO : oddP v = oddP p := by
    unfold oddP
    rw [eW lSpace (by simp), eW lZero (by simp), eW lBidi (by simp), eW lMark (by simp), eW lOther (by simp)]
  have eC : clsP v = clsP p := by
    unfold clsP
    rw [eO, eI, eW lWide (by simp)]
  rw [told_toldP, eT, eC]
  exact cls_points p hpB hp0 (by omega)
theorem wthn_low {l : List Int} {v : Int} (hl : (List.range (l.length / 2)).all (fun j => decide (160 ≤ l.getD (2 * j) 0)) = true) (h : v < 160) : wthn l v = false := by
  refine wthn_no fun j hj => ?_
  rw [List.all_eq_true] at hl
  have := of_decide_eq_true (hl j (by simpa using hj))
  unfold hitW inb
  rw [decide_eq_false (by omega)]; rfl
theorem skelR_low {v : Int} (h : v < 160) : skelR v = v := by
  have hn : ∀ j, j < 51 → hitS v j = false := fun j hj => by
    have key : ∀ j : Fin 51, 160 ≤ lSk.getD j.val 0 := by decide +kernel
    have := key ⟨j, hj⟩
    unfold hitS
    rw [beq_eq_false_iff_ne]; intro h2; simp only at this; omega
  unfold skelR; rw [find_none hn]
theorem cls_small (v : Int) (h0 : 0 ≤ v) (h : v < 160) : cls v = clsR v := by
  have e : rght v = true := by
    rcases rght_cases v with h2 | h2
    · exact h2.1
    · omega
  have hR : clsR v = if 1114111 < v then 12 else if 0 < oddR v then oddR v else if skelR v ≠ v then 3 else if wthn lWide v then 2 else 1 := by unfold clsR; rw [e, if_neg (show ¬ (true = false) by decide)]
  have hL : cls v = if 1114112 ≤ v then 12 else if v < 32 then 4 else if v = 127 then 5 else if 128 ≤ v ∧ v < 160 then 6 else if v < 160 then 1 else told v := by unfold cls; rw [e, if_neg (show ¬ (true = false) by decide)]
  have w1 := wthn_low (l := lSpace) (by decide +kernel) h
  have w2 := wthn_low (l := lZero) (by decide +kernel) h
  have w3 := wthn_low (l := lBidi) (by decide +kernel) h
  have w4 := wthn_low (l := lMark) (by decide +kernel) h
  have w5 := wthn_low (l := lOther) (by decide +kernel) h
  have w6 := wthn_low (l := lWide) (by decide +kernel) h
  have ho : oddR v = if v ≤ 31 then 4 else if v = 127 then 5 else if 128 ≤ v ∧ v ≤ 159 then 6 else 0 := by unfold oddR; rw [w1, w2, w3, w4, w5]; simp only [Bool.false_eq_true, if_false]
  rw [hR, hL, ho, skelR_low h, w6, if_neg (show ¬ 1114112 ≤ v by omega), if_neg (show ¬ 1114111 < v by omega)]
  rcases (show v < 32 ∨ v = 127 ∨ (128 ≤ v ∧ v < 160) ∨ (32 ≤ v ∧ v < 127) by omega) with c | c | c | c
  · rw [if_pos c, if_pos (show v ≤ 31 by omega)]; simp
  · subst c; simp
  · rw [if_neg (show ¬ v < 32 by omega), if_neg (show ¬ v = 127 by omega), if_pos (show 128 ≤ v ∧ v < 160 by omega), if_neg (show ¬ v ≤ 31 by omega), if_neg (show ¬ v = 127 by omega), if_pos (show 128 ≤ v ∧ v ≤ 159 by omega)]; simp
  · rw [if_neg (show ¬ v < 32 by omega), if_neg (show ¬ v = 127 by omega), if_neg (show ¬ (128 ≤ v ∧ v < 160) by omega), if_pos h, if_neg (show ¬ v ≤ 31 by omega), if_neg (show ¬ v = 127 by omega), if_neg (show ¬ (128 ≤ v ∧ v ≤ 159) by omega)]; simp
/-- Both tell the same class of every value. -/
theorem cls_eq (v : Int) : cls v = clsR v := by
  rcases rght_cases v with ⟨e, h⟩ | ⟨e, h⟩
  · by_cases h1 : v < 160
    · exact cls_small v (by omega) h1
    · have hR : clsR v = if 1114111 < v then 12 else if 0 < oddR v then oddR v else if skelR v ≠ v then 3 else if wthn lWide v then 2 else 1 := by unfold clsR; rw [e, if_neg (show ¬ (true = false) by decide)]
      have hL : cls v = if 1114112 ≤ v then 12 else if v < 32 then 4 else if v = 127 then 5 else if 128 ≤ v ∧ v < 160 then 6 else if v < 160 then 1 else told v := by unfold cls; rw [e, if_neg (show ¬ (true = false) by decide)]
      by_cases h2 : 1114111 < v
      · rw [hR, hL, if_pos (by omega), if_pos h2]
      · have ho : oddR v = oddP v := by unfold oddR oddP; rw [if_neg (by omega), if_neg (by omega), if_neg (by omega)]
        rw [hR, hL, if_neg (by omega), if_neg (by omega), if_neg (by omega), if_neg (by omega), if_neg (by omega), told_cls v (by omega) (by omega), if_neg h2, ho, skel_eq]
        unfold clsP
        by_cases h3 : skel v = v
        · have : isL v = false := by
            cases hl : isL v with
            | false => rfl
            | true => exact absurd h3 ((isL_iff v).1 hl)
          rw [this, if_neg (show ¬ skel v ≠ v by simpa using h3), if_neg (show ¬ (false = true) by decide)]
        · rw [(isL_iff v).2 h3, if_pos (show skel v ≠ v from h3), if_pos rfl]
  · unfold cls clsR; rw [e, if_pos rfl, if_pos rfl]
theorem wid_eq (v : Int) : wid v = widR v := by unfold wid widR; rw [cls_eq]
end Go.Proofs.YtcdecnmhogmhaaaDoor
namespace Go.Proofs.YtcdecnmhogmhaaaDoor
open Go.RowKit
theorem get0 (s : ByteArray) (i : Nat) : (s.get! i).toNat < 256 := (s.get! i).toNat_lt
theorem vAt_one (s : ByteArray) (hs : 0 < s.size) : vAt s 0 = oneB s.size (s.get! 0).toNat (s.get! 1).toNat (s.get! 2).toNat (s.get! 3).toNat := by
  rw [vAt_val, one_val _ _ _ _ _ (by omega) (get0 _ _) (get0 _ _) (get0 _ _) (get0 _ _)]; simp
theorem beg_m1 {n b0 b1 b2 b3 : Nat} (h : 2 ≤ begB n b0 b1 b2 b3) : 128 ≤ b1 := by
  unfold begB at h
  split at h
  · rename_i h1; exact ((mayB_iff _ _ _).1 h1.2.2).1.1
  · omega
theorem beg_m2 {n b0 b1 b2 b3 : Nat} (h : 3 ≤ begB n b0 b1 b2 b3) : 128 ≤ b2 := by
  unfold begB at h
  split at h
  · split at h
    · rename_i h1; exact ((mayB_iff _ _ _).1 h1.2.2).1.1
    · omega
  · omega
theorem beg_m3 {n b0 b1 b2 b3 : Nat} (h : 4 ≤ begB n b0 b1 b2 b3) : 128 ≤ b3 := by
  unfold begB at h
  split at h
  · split at h
    · split at h
      · rename_i h1; exact ((mayB_iff _ _ _).1 h1.2.2).1.1
      · omega
    · omega
  · omega
theorem wv2 (a b : Nat) (h0 : 194 ≤ a) (h1 : a ≤ 223) (h2 : 128 ≤ b) (h3 : b < 256) :
    wrap64 (wrap64 (wrap64 (wrap64 (wrap64 (a : Int) - 192) * 64) + wrap64 (b : Int)) - 128) = (((a - 192) * 64 + b - 128 : Nat) : Int) := by
  simp (disch := omega) only [IntWalk.wrap64_in]; omega
theorem wv3 (a b c : Nat) (h0 : 224 ≤ a) (h1 : a ≤ 239) (h2 : 128 ≤ b) (h3 : b < 256) (h4 : 128 ≤ c) (h5 : c < 256) :
    wrap64 (wrap64 (wrap64 (wrap64 (wrap64 (wrap64 (wrap64 (wrap64 (a : Int) - 224) * 64) + wrap64 (b : Int)) - 128) * 64) + wrap64 (c : Int)) - 128) = ((((a - 224) * 64 + b - 128) * 64 + c - 128 : Nat) : Int) := by
  simp (disch := omega) only [IntWalk.wrap64_in]; omega
theorem wv4 (a b c d : Nat) (h0 : 240 ≤ a) (h1 : a ≤ 244) (h2 : 128 ≤ b) (h3 : b < 256) (h4 : 128 ≤ c) (h5 : c < 256) (h6 : 128 ≤ d) (h7 : d < 256) :
    wrap64 (wrap64 (wrap64 (wrap64 (wrap64 (wrap64 (wrap64 (wrap64 (wrap64 (wrap64 (wrap64 (a : Int) - 240) * 64) + wrap64 (b : Int)) - 128) * 64) + wrap64 (c : Int)) - 128) * 64) + wrap64 (d : Int)) - 128) = (((((a - 240) * 64 + b - 128) * 64 + c - 128) * 64 + d - 128 : Nat) : Int) := by
  simp (disch := omega) only [IntWalk.wrap64_in]; omega
set_option maxRecDepth 100000 in
set_option maxHeartbeats 4000000 in
theorem one_ref (s : ByteArray) (w : World) (hs : 0 < s.size) (hs' : s.size ≤ 1000000) : Calls Tryd.prog 91 #[.string s] w fun e w' => e = .returned (.tuple #[.int .i64 ((vAt s 0).1 : Int), .int .i64 ((vAt s 0).2 : Int)]) ∧ ∃ n, w' = w.drewN n := by
  have Bg := Lib.hid fun w => begins_ref s w hs hs'
  have S0 := fun w => size_ref (s[0]) w
  have hv := vAt_one s hs
  have hb := begS_B s
  have hr := begS_rng s hs
  rw [get_get s 0 hs] at hv hb
  have hlt := (s[0]).toNat_lt
  have h0 := sizeB_cases (s[0]).toNat (by omega)
  generalize hz : sizeB (s[0]).toNat = z at *
  generalize hm : begS s = m at *
  have Hm := Lib.hid hm
  by_cases hne : m = z
  · subst hne
    have hmm : ((m : Int) != (m : Int)) = false := by simp
    have hz' : sizeB (s[0]).toNat = m := hz
    have hm4 : m = 1 ∨ m = 2 ∨ m = 3 ∨ m = 4 := by omega
    rcases hm4 with rfl | rfl | rfl | rfl
    · have Hv : Hid (vAt s 0 = ((s[0]).toNat, 1)) := Lib.hid (by rw [hv]; exact one_1 hb.symm hz')
      have hw : wrap64 (((s[0]).toNat : Nat) : Int) = (((s[0]).toNat : Nat) : Int) := by unfold wrap64; omega
      have Hw := Lib.hid hw
      replace S0 := Lib.hid S0
      clear hv hb hw hz hz' hm h0 hlt
      go_enter Tryd.func91, Tryd.ntmps91
      go_wp2_with (first | (go_at_call 132; refine (Bg.out _).mono ?_; rintro e w1 ⟨rfl, n, rfl⟩) | (go_at_call 133; refine (S0.out _).mono ?_; rintro e w1 ⟨rfl, rfl⟩))
      refine wp_loop_rounds 1 ?_
      rw [rounds_succ]
      go_wp2
      go_ret2
      rw [Hv.out]
      exact ⟨ret_ii Hw.out rfl, _, rfl⟩
    · rw [get_get s 1 (by omega)] at hv hb
      have k1 := beg_m1 (n := s.size) (b0 := (s[0]).toNat) (b1 := _) (b2 := _) (b3 := _) (by rw [← hb]; omega)
      have l1 := (s[1]'(by omega)).toNat_lt
      have hv2 := hv.trans (one_2 hb.symm hz')
      have hw := wv2 (s[0]'(by omega)).toNat (s[1]'(by omega)).toNat (by omega) (by omega) (by omega) (by omega)
      have Hv := Lib.hid hv2; have Hw := Lib.hid hw
      have hs4 : 2 ≤ s.size := by omega
      replace S0 := Lib.hid S0
      clear hv hb hw hz hz' hm h0 hlt hv2 k1 l1
      go_enter Tryd.func91, Tryd.ntmps91
      go_wp2_with (first | (go_at_call 132; refine (Bg.out _).mono ?_; rintro e w1 ⟨rfl, n, rfl⟩) | (go_at_call 133; refine (S0.out _).mono ?_; rintro e w1 ⟨rfl, rfl⟩))
      refine wp_loop_rounds 2 ?_
      rw [rounds_succ]
      go_wp2
      rw [rounds_succ]
      go_wp2
      go_ret2
      rw [Hv.out]
      exact ⟨ret_ii Hw.out rfl, _, rfl⟩
    · rw [get_get s 1 (by omega)] at hv hb
      rw [get_get s 2 (by omega)] at hv hb
      have k1 := beg_m1 (n := s.size) (b0 := (s[0]).toNat) (b1 := _) (b2 := _) (b3 := _) (by rw [← hb]; omega)
      have l1 := (s[1]'(by omega)).toNat_lt
      have k2 := beg_m2 (n := s.size) (b0 := (s[0]).toNat) (b1 := _) (b2 := _) (b3 := _) (by rw [← hb]; omega)
      have l2 := (s[2]'(by omega)).toNat_lt
      have hv2 := hv.trans (one_3 hb.symm hz')
      have hw := wv3 (s[0]'(by omega)).toNat (s[1]'(by omega)).toNat (s[2]'(by omega)).toNat (by omega) (by omega) (by omega) (by omega) (by omega) (by omega)
      have Hv := Lib.hid hv2; have Hw := Lib.hid hw
      have hs4 : 3 ≤ s.size := by omega
      replace S0 := Lib.hid S0
      clear hv hb hw hz hz' hm h0 hlt hv2 k1 l1 k2 l2
      go_enter Tryd.func91, Tryd.ntmps91
      go_wp2_with (first | (go_at_call 132; refine (Bg.out _).mono ?_; rintro e w1 ⟨rfl, n, rfl⟩) | (go_at_call 133; refine (S0.out _).mono ?_; rintro e w1 ⟨rfl, rfl⟩))
      refine wp_loop_rounds 3 ?_
      rw [rounds_succ]
      go_wp2
      rw [rounds_succ]
      go_wp2
      rw [rounds_succ]
      go_wp2
      go_ret2
      rw [Hv.out]
      exact ⟨ret_ii Hw.out rfl, _, rfl⟩
    · rw [get_get s 1 (by omega)] at hv hb
      rw [get_get s 2 (by omega)] at hv hb
      rw [get_get s 3 (by omega)] at hv hb
      have k1 := beg_m1 (n := s.size) (b0 := (s[0]).toNat) (b1 := _) (b2 := _) (b3 := _) (by rw [← hb]; omega)
      have l1 := (s[1]'(by omega)).toNat_lt
      have k2 := beg_m2 (n := s.size) (b0 := (s[0]).toNat) (b1 := _) (b2 := _) (b3 := _) (by rw [← hb]; omega)
      have l2 := (s[2]'(by omega)).toNat_lt
      have k3 := beg_m3 (n := s.size) (b0 := (s[0]).toNat) (b1 := _) (b2 := _) (b3 := _) (by rw [← hb]; omega)
      have l3 := (s[3]'(by omega)).toNat_lt
      have hv2 := hv.trans (one_4 hb.symm hz')
      have hw := wv4 (s[0]'(by omega)).toNat (s[1]'(by omega)).toNat (s[2]'(by omega)).toNat (s[3]'(by omega)).toNat (by omega) (by omega) (by omega) (by omega) (by omega) (by omega) (by omega) (by omega)
      have Hv := Lib.hid hv2; have Hw := Lib.hid hw
      have hs4 : 4 ≤ s.size := by omega
      replace S0 := Lib.hid S0
      clear hv hb hw hz hz' hm h0 hlt hv2 k1 l1 k2 l2 k3 l3
      go_enter Tryd.func91, Tryd.ntmps91
      go_wp2_with (first | (go_at_call 132; refine (Bg.out _).mono ?_; rintro e w1 ⟨rfl, n, rfl⟩) | (go_at_call 133; refine (S0.out _).mono ?_; rintro e w1 ⟨rfl, rfl⟩))
      refine wp_loop_rounds 4 ?_
      rw [rounds_succ]
      go_wp2
      rw [rounds_succ]
      go_wp2
      rw [rounds_succ]
      go_wp2
      rw [rounds_succ]
      go_wp2
      go_ret2
      rw [Hv.out]
      exact ⟨ret_ii Hw.out rfl, _, rfl⟩
  · have hne2 : ((m : Int) != (z : Int)) = true := by rw [bne_iff_ne]; omega
    have Hv : Hid (vAt s 0 = (1114112 + (s[0]).toNat, 1)) := Lib.hid (by rw [hv]; unfold oneB; rw [if_pos (by rw [← hb, hz]; exact hne)])
    have hw : wrap64 (1114112 + wrap64 (((s[0]).toNat : Nat) : Int)) = ((1114112 + (s[0]).toNat : Nat) : Int) := by unfold wrap64; omega
    have Hw := Lib.hid hw
    replace S0 := Lib.hid S0
    clear hv hb hw hz hm h0 hlt hne
    go_enter Tryd.func91, Tryd.ntmps91
    go_wp2_with (first | (go_at_call 132; refine (Bg.out _).mono ?_; rintro e w1 ⟨rfl, n, rfl⟩) | (go_at_call 133; refine (S0.out _).mono ?_; rintro e w1 ⟨rfl, rfl⟩))
    go_ret2
    rw [Hv.out]
    exact ⟨ret_ii Hw.out rfl, _, rfl⟩
end Go.Proofs.YtcdecnmhogmhaaaDoor
namespace Go.Proofs.YtcdecnmhogmhaaaDoor
open Go.RowKit
theorem ext_size (s : ByteArray) (n : Nat) : (s.extract n s.size).size = s.size - n := by simp
theorem ext_get (s : ByteArray) (n j : Nat) (h : n + j < s.size) : (s.extract n s.size).get! j = s.get! (n + j) := by
  rw [get_get _ j (by rw [ext_size]; omega), get_get _ (n + j) h]
  simp [ByteArray.getElem_extract]
theorem vAt_tail (s : ByteArray) (n j : Nat) (h : n + j < s.size) : vAt (s.extract n s.size) j = vAt s (n + j) := by
  unfold vAt; rw [Lib.tail_decode, ext_get s n j h]
theorem valsF_tail (s : ByteArray) (n : Nat) : ∀ f j, valsF (s.extract n s.size) f j = valsF s f (n + j) := by
  intro f
  induction f with
  | zero => intro j; rfl
  | succ f ih =>
    intro j
    by_cases h : n + j < s.size
    · rw [valsF_step _ f j (by rw [ext_size]; omega), valsF_step s f (n + j) h, vAt_tail s n j h, Lib.tail_decode, ih, Nat.add_assoc]
    · rw [valsF_end _ _ _ (by rw [ext_size]; omega), valsF_end _ _ _ h]
theorem valsF_fuel (s : ByteArray) : ∀ f f' i, s.size ≤ i + f → s.size ≤ i + f' → valsF s f i = valsF s f' i := by
  intro f
  induction f with
  | zero => intro f' i h h'; rw [valsF_end s 0 i (by omega), valsF_end s f' i (by omega)]
  | succ f ih =>
    intro f' i h h'
    by_cases hi : i < s.size
    · obtain ⟨g, rfl⟩ : ∃ g, f' = g + 1 := ⟨f' - 1, by omega⟩
      have := (dec_pos s i hi).1
      rw [valsF_step s f i hi, valsF_step s g i hi, ih g _ (by omega) (by omega)]
    · rw [valsF_end _ _ _ hi, valsF_end _ _ _ hi]
theorem valsS_cons (s : ByteArray) (h : 0 < s.size) : valsS s = ((vAt s 0).1 : Int) :: valsS (s.extract (vAt s 0).2 s.size) := by
  have hp := dec_pos s 0 h
  obtain ⟨f, hf⟩ : ∃ f, s.size = f + 1 := ⟨s.size - 1, by omega⟩
  unfold valsS
  rw [vAt_size s 0 h, valsF_tail, Nat.add_zero]
  have e : valsF s s.size 0 = valsF s (f + 1) 0 := by rw [hf]
  rw [e, valsF_step s f 0 h, Nat.zero_add]
  rw [valsF_fuel s f (s.extract (Utf8.decode s 0).2 s.size).size _ (by omega) (by rw [ext_size]; omega)]
theorem valsS_nil (s : ByteArray) (h : ¬ 0 < s.size) : valsS s = [] := by unfold valsS; exact valsF_end s _ 0 h
theorem valsS_len (s : ByteArray) : (valsS s).length ≤ s.size := by
  rcases valsF_len s s.size 0 with h | h
  · exact h
  · unfold valsS; rw [h]; simp
def strSize : Value → Nat
  | .string t => t.size
  | _ => 0
structure DrInv (s : ByteArray) (w : World) (t : ByteArray) (acc : List Int) (v : Value) (wr : World) : Prop where
  sz : t.size + acc.length ≤ s.size
  own : wr.ownsRow w.heap.size 3 1 v acc.length (acc.map (Value.int .i64))
  ac : acc ++ valsS t = valsS s
  bl : Below w.heap.size w wr
theorem cut_nat (t : ByteArray) (n : Nat) : t.extract (n : Int).toNat t.size = t.extract n t.size := rfl
theorem cell_k (w : World) (k : Nat) (x : Int) : ((w.drewN k).alloc (Obj.cells #[Value.int IntKind.i64 x] 3)).cell? ({ block := w.heap.size, off := 0 } : Addr) = some (Value.int .i64 x) := cell_new (w.drewN k) _ _
set_option maxRecDepth 100000 in
set_option maxHeartbeats 2000000 in
theorem decode_ref (s : ByteArray) (w : World) (hs : s.size ≤ 1000000) :
    Calls Tryd.prog 41 #[.string s] w fun e w' => ∃ v, e = .returned v ∧ w'.ownsRow w.heap.size 3 1 v (valsS s).length ((valsS s).map (Value.int .i64)) ∧ Below w.heap.size w w' := by
  obtain ⟨i0, hi, hz0, hz1, hz2⟩ := info_parts infoInt
  go_enter Tryd.func41, Tryd.ntmps41
  go_wp2
  go_loopw [0, 3] (fun sv v wr => ∃ (t : ByteArray) (acc : List Int), sv = .string t ∧ DrInv s w t acc v wr) (fun sv _ _ => strSize sv)
  case atStart => exact ⟨s, [], rfl, by simp, World.ownsRow_nil _ _ _ _, rfl, Below.refl _ _⟩
  case round =>
    obtain ⟨t, acc, rfl, hI⟩ := hrel
    by_cases hlt : 0 < t.size
    · have hv := valsS_cons t hlt
      have hp := dec_pos t 0 hlt
      have hsz := hI.sz; have hown := hI.own; have hbw := hI.bl
      rw [← vAt_size t 0 hlt] at hp
      have O := one_ref t wr hlt (by omega)
      have hac2 := hI.ac
      clear hI
      rw [hv] at hac2
      generalize ((vAt t 0).1 : Int) = x at *
      generalize (vAt t 0).2 = n at *
      have hbk : ∀ k, Below wr.heap.size wr (wr.drewN k) := fun k => drewN_below (Below.refl _ _) k
      have hsw := hbw.size
      have Hac := Lib.hid hac2; have Ob := Lib.hid O
      clear hv hac2 O
      go_wp2_with (first
        | (go_at_call 91; refine Ob.out.mono ?_; rintro e w2 ⟨rfl, k, rfl⟩)
        | (at_builtin; refine wpList_append_own _ rfl _ _ 47 rfl w.heap.size 3 i0 (.int .i64 0) 1 8 Tryd.underlying47 hi hz0 hz1 hz2 rfl (by decide) _ _ _ rfl ((own_below hown (drewN_below (Below.refl _ _) k)).alloc _) ⟨wr.heap.size, 0, none⟩ 1 1 [.int .i64 x] rfl rfl ?c1 ?c2 ?c3 ?c4 ?c5 ?_)
        | fail)
      case c1 =>
        intro j u hj
        match j, hj with
        | 0, hj => simp at hj; subst hj; exact cell_k wr k x
      case c2 => intro u hu; simp at hu; subst hu; rfl
      case c3 => unfold maxLen; omega
      case c4 => omega
      case c5 => have := (hbk k).size; have := (below_alloc (wr.drewN k) (Obj.cells #[Value.int IntKind.i64 x] 3)).size; omega
      intro v' w3 hown3 hgrow3 _
      have hbl3 : Below w.heap.size w w3 := by
        have h1 : Below w.heap.size w (wr.drewN k) := hbw.trans ((hbk k).mono hbw.size)
        have h2 : Below w.heap.size w ((wr.drewN k).alloc (.cells #[.int .i64 x] 3)) := h1.alloc h1.size _
        exact h2.grown hgrow3 (by have := h1.size; simp; omega) (fun k hk => by have := (hown.lt k hk).1; exact this)
      have hown3' : w3.ownsRow w.heap.size 3 1 v' (acc ++ [x]).length ((acc ++ [x]).map (Value.int .i64)) := by
        have := hown3
        rw [iBuild] at this
        simpa using this
      clear hown3 hgrow3 hown hbw hbk
      go_wp2
      go_roundw
      case rel => exact ⟨t.extract n t.size, acc ++ [x], rfl, by rw [ext_size]; simp; omega, hown3', by rw [List.append_assoc]; exact Hac.out, hbl3⟩
      case measure => simp only [strSize, ext_size]; omega
    · have hac := hI.ac
      rw [valsS_nil t hlt, List.append_nil] at hac
      subst hac
      have hown := hI.own; have hbl := hI.bl
      clear hI
      go_wp2
      go_ret
      exact ⟨_, rfl, hown, hbl⟩
end Go.Proofs.YtcdecnmhogmhaaaDoor
set_option linter.unusedVariables false
set_option linter.unusedSimpArgs false
namespace Go.Proofs.YtcdecnmhogmhaaaDoor
open Go.RowKit
/-- The value at the front is the bytes that it took. -/
theorem val_bytes (n b0 b1 b2 b3 : Nat) (h0 : b0 < 256) (h1 : b1 < 256) (h2 : b2 < 256) (h3 : b3 < 256) :
    oneI ((valN n b0 b1 b2 b3).1 : Int) = ([b0, b1, b2, b3].take (valN n b0 b1 b2 b3).2).map Int.ofNat ∧ (valN n b0 b1 b2 b3).2 ≤ max n 1 := by
  have bad : valN n b0 b1 b2 b3 = (1114112 + b0, 1) → 128 ≤ b0 → oneI ((valN n b0 b1 b2 b3).1 : Int) = ([b0, b1, b2, b3].take (valN n b0 b1 b2 b3).2).map Int.ofNat ∧ (valN n b0 b1 b2 b3).2 ≤ max n 1 := by
    intro h hb; rw [h]
    refine ⟨?_, by simp; omega⟩
    rw [oneI_st ((stB_iff _).2 (by simp; omega))]
    simp; omega
  by_cases c0 : b0 < 128
  · have hv : valN n b0 b1 b2 b3 = (b0, 1) := val_ok (b0, 1) (by unfold Lib.decodeN; rw [if_pos c0]) (Or.inl (by simp; omega))
    rw [hv]
    refine ⟨?_, by simp; omega⟩
    rw [oneI_pt ((ptB_iff _).2 (Or.inl (by simp; omega))), Lib.encodeRuneZ_one (by simp) (by simp; omega)]
    simp
  · by_cases c1 : b0 / 32 = 6 ∧ (1 < n ∧ b1 / 64 = 2)
    · by_cases c2 : b0 % 32 * 64 + b1 % 64 ≥ 128
      · have hv : valN n b0 b1 b2 b3 = (b0 % 32 * 64 + b1 % 64, 2) := val_ok _ (by unfold Lib.decodeN; rw [if_neg c0, if_pos c1, if_pos c2]) (Or.inl (by simp; omega))
        rw [hv]
        refine ⟨?_, by simp; omega⟩
        rw [oneI_pt ((ptB_iff _).2 (Or.inl (by simp; omega))), Lib.encodeRuneZ_two (by simp; omega) (by simp; omega)]
        simp; omega
      · exact bad (val_bad (by unfold Lib.decodeN; rw [if_neg c0, if_pos c1, if_neg c2])) (by omega)
    · by_cases c3 : b0 / 16 = 14 ∧ (1 < n ∧ b1 / 64 = 2) ∧ (2 < n ∧ b2 / 64 = 2)
      · by_cases c2 : b0 % 16 * 4096 + b1 % 64 * 64 + b2 % 64 ≥ 2048 ∧ (b0 % 16 * 4096 + b1 % 64 * 64 + b2 % 64 < 55296 ∨ (57344 ≤ b0 % 16 * 4096 + b1 % 64 * 64 + b2 % 64 ∧ b0 % 16 * 4096 + b1 % 64 * 64 + b2 % 64 ≤ 1114111))
        · have hv : valN n b0 b1 b2 b3 = (b0 % 16 * 4096 + b1 % 64 * 64 + b2 % 64, 3) := val_ok _ (by unfold Lib.decodeN; rw [if_neg c0, if_neg c1, if_pos c3, if_pos c2]) (Or.inr (by simp))
          rw [hv]
          refine ⟨?_, by simp; omega⟩
          rw [oneI_pt ((ptB_iff _).2 (by simp; omega)), Lib.encodeRuneZ_three (by simp; omega)]
          simp; omega
        · exact bad (val_bad (by unfold Lib.decodeN; rw [if_neg c0, if_neg c1, if_pos c3, if_neg c2])) (by omega)
      · by_cases c4 : b0 / 8 = 30 ∧ (1 < n ∧ b1 / 64 = 2) ∧ (2 < n ∧ b2 / 64 = 2) ∧ (3 < n ∧ b3 / 64 = 2)
        · by_cases c2 : b0 % 8 * 262144 + b1 % 64 * 4096 + b2 % 64 * 64 + b3 % 64 ≥ 65536 ∧ (b0 % 8 * 262144 + b1 % 64 * 4096 + b2 % 64 * 64 + b3 % 64 < 55296 ∨ (57344 ≤ b0 % 8 * 262144 + b1 % 64 * 4096 + b2 % 64 * 64 + b3 % 64 ∧ b0 % 8 * 262144 + b1 % 64 * 4096 + b2 % 64 * 64 + b3 % 64 ≤ 1114111))
          · have hv : valN n b0 b1 b2 b3 = (b0 % 8 * 262144 + b1 % 64 * 4096 + b2 % 64 * 64 + b3 % 64, 4) := val_ok _ (by unfold Lib.decodeN; rw [if_neg c0, if_neg c1, if_neg c3, if_pos c4, if_pos c2]) (Or.inr (by simp))
            rw [hv]
            refine ⟨?_, by simp; omega⟩
            rw [oneI_pt ((ptB_iff _).2 (by simp; omega)), Lib.encodeRuneZ_four (by simp; omega) (by simp; omega)]
            simp; omega
          · exact bad (val_bad (by unfold Lib.decodeN; rw [if_neg c0, if_neg c1, if_neg c3, if_pos c4, if_neg c2])) (by omega)
        · exact bad (val_bad (by unfold Lib.decodeN; rw [if_neg c0, if_neg c1, if_neg c3, if_neg c4])) (by omega)
/-- .. and what a code point's bytes begin is that code point. -/
theorem bytes_val1 (n v b1 b2 b3 : Nat) (h : v < 128) : valN n v b1 b2 b3 = (v, 1) := val_ok (v, 1) (by unfold Lib.decodeN; rw [if_pos h]) (Or.inl (by simp; omega))
theorem bytes_val2 (n v b2 b3 : Nat) (h : 128 ≤ v) (h' : v < 2048) (hn : 2 ≤ n) : valN n (192 + v / 64) (128 + v % 64) b2 b3 = (v, 2) := by
  have e : (192 + v / 64) % 32 * 64 + (128 + v % 64) % 64 = v := by omega
  refine val_ok (v, 2) ?_ (Or.inl (by simp; omega))
  unfold Lib.decodeN
  rw [if_neg (by omega), if_pos (by omega), e, if_pos (by omega)]
theorem bytes_val3 (n v b3 : Nat) (h : 2048 ≤ v) (h' : v < 65536) (hs : v < 55296 ∨ 57344 ≤ v) (hn : 3 ≤ n) : valN n (224 + v / 4096) (128 + v / 64 % 64) (128 + v % 64) b3 = (v, 3) := by
  have e : (224 + v / 4096) % 16 * 4096 + (128 + v / 64 % 64) % 64 * 64 + (128 + v % 64) % 64 = v := by omega
  refine val_ok (v, 3) ?_ (Or.inr (by simp))
  unfold Lib.decodeN
  rw [if_neg (by omega), if_neg (by omega), if_pos (by omega), e, if_pos (by omega)]
theorem bytes_val4 (n v : Nat) (h : 65536 ≤ v) (h' : v ≤ 1114111) (hn : 4 ≤ n) : valN n (240 + v / 262144) (128 + v / 4096 % 64) (128 + v / 64 % 64) (128 + v % 64) = (v, 4) := by
  have e : (240 + v / 262144) % 8 * 262144 + (128 + v / 4096 % 64) % 64 * 4096 + (128 + v / 64 % 64) % 64 * 64 + (128 + v % 64) % 64 = v := by omega
  refine val_ok (v, 4) ?_ (Or.inr (by simp))
  unfold Lib.decodeN
  rw [if_neg (by omega), if_neg (by omega), if_neg (by omega), if_pos (by omega), e, if_pos (by omega)]
end Go.Proofs.YtcdecnmhogmhaaaDoor
namespace Go.Proofs.YtcdecnmhogmhaaaDoor
open Go.RowKit
theorem front (s : ByteArray) (i n : Nat) (hn : n ≤ 4) (h : i + n ≤ s.size) :
    ([(s.get! i).toNat, (s.get! (i + 1)).toNat, (s.get! (i + 2)).toNat, (s.get! (i + 3)).toNat].take n).map Int.ofNat = ((bytesOf s).drop i).take n := by
  apply List.ext_getElem
  · simp [bytesOf_size]; omega
  · intro j h1 h2
    have hj : j < n := by simp at h1; omega
    rw [List.getElem_map, List.getElem_take, List.getElem_take, List.getElem_drop, bytesOf_get s (i + j) (by omega)]
    match j, hj with
    | 0, _ => rfl
    | 1, _ => rfl
    | 2, _ => rfl
    | 3, _ => rfl
    | k + 4, hj => omega
theorem enc_valsF (s : ByteArray) : ∀ f i, s.size ≤ i + f → encI (valsF s f i) = (bytesOf s).drop i := by
  intro f
  induction f with
  | zero =>
    intro i h
    rw [valsF_end s 0 i (by omega), List.drop_of_length_le (by rw [bytesOf_size]; omega)]; rfl
  | succ f ih =>
    intro i h
    by_cases hi : i < s.size
    · have hp := dec_pos s i hi
      rw [valsF_step s f i hi, encI_cons, ih _ (by omega), ← vAt_size s i hi]
      have hv := (val_bytes (s.size - i) (s.get! i).toNat (s.get! (i + 1)).toNat (s.get! (i + 2)).toNat (s.get! (i + 3)).toNat (get0 _ _) (get0 _ _) (get0 _ _) (get0 _ _)).1
      rw [← vAt_val] at hv
      rw [← vAt_size s i hi] at hp
      rw [hv, front s i _ hp.2.1 hp.2.2, ← List.drop_drop, List.take_append_drop]
    · rw [valsF_end s _ i hi, List.drop_of_length_le (by rw [bytesOf_size]; omega)]; rfl
theorem enc_vals (s : ByteArray) : encI (valsS s) = bytesOf s := enc_valsF s _ 0 (by omega)
theorem encS_vals (s : ByteArray) : encS (valsS s) = s := by unfold encS; rw [enc_vals, txt_bytesOf]
theorem vAt_enc (v : Int) (r : List Int) (h : ptB v = true) : vAt (txt (oneI v ++ r)) 0 = (v.toNat, (oneI v).length) := by
  obtain ⟨n, rfl⟩ := nat_of_pt h
  have hp := (ptB_iff _).1 h
  rw [vAt_val, oneI_pt h, txt_size]
  rcases (by omega : n < 128 ∨ (128 ≤ n ∧ n < 2048) ∨ (2048 ≤ n ∧ n < 65536) ∨ (65536 ≤ n ∧ n ≤ 1114111)) with h1 | h1 | h1 | h1
  · rw [Lib.encodeRuneZ_one (by omega) (by omega)]
    rw [txt_get _ 0 (by simp)]
    have e0 : ((([(n : Int)] ++ r)[0]'(by simp)).toNat.toUInt8).toNat = n := u8n _ _ rfl (by omega)
    rw [e0, bytes_val1 _ n _ _ _ h1]; simp
  · rw [Lib.encodeRuneZ_two (by omega) (by omega)]
    rw [txt_get _ 0 (by simp), txt_get _ (0 + 1) (by simp)]
    have e0 : ((([192 + (n : Int) / 64, 128 + (n : Int) % 64] ++ r)[0]'(by simp)).toNat.toUInt8).toNat = 192 + n / 64 := u8n _ _ (by show 192 + (n : Int) / 64 = _; omega) (by omega)
    have e1 : ((([192 + (n : Int) / 64, 128 + (n : Int) % 64] ++ r)[0 + 1]'(by simp)).toNat.toUInt8).toNat = 128 + n % 64 := u8n _ _ (by show 128 + (n : Int) % 64 = _; omega) (by omega)
    rw [e0, e1, bytes_val2 _ n _ _ h1.1 h1.2 (by simp)]; simp
  · rw [Lib.encodeRuneZ_three (by omega)]
    rw [txt_get _ 0 (by simp), txt_get _ (0 + 1) (by simp), txt_get _ (0 + 2) (by simp)]
    have e0 : ((([224 + (n : Int) / 4096, 128 + (n : Int) / 64 % 64, 128 + (n : Int) % 64] ++ r)[0]'(by simp)).toNat.toUInt8).toNat = 224 + n / 4096 := u8n _ _ (by show 224 + (n : Int) / 4096 = _; omega) (by omega)
    have e1 : ((([224 + (n : Int) / 4096, 128 + (n : Int) / 64 % 64, 128 + (n : Int) % 64] ++ r)[0 + 1]'(by simp)).toNat.toUInt8).toNat = 128 + n / 64 % 64 := u8n _ _ (by show 128 + (n : Int) / 64 % 64 = _; omega) (by omega)
    have e2 : ((([224 + (n : Int) / 4096, 128 + (n : Int) / 64 % 64, 128 + (n : Int) % 64] ++ r)[0 + 2]'(by simp)).toNat.toUInt8).toNat = 128 + n % 64 := u8n _ _ (by show 128 + (n : Int) % 64 = _; omega) (by omega)
    rw [e0, e1, e2, bytes_val3 _ n _ h1.1 h1.2 (by omega) (by simp)]; simp
  · rw [Lib.encodeRuneZ_four (by omega) (by omega)]
    rw [txt_get _ 0 (by simp), txt_get _ (0 + 1) (by simp), txt_get _ (0 + 2) (by simp), txt_get _ (0 + 3) (by simp)]
    have e0 : ((([240 + (n : Int) / 262144, 128 + (n : Int) / 4096 % 64, 128 + (n : Int) / 64 % 64, 128 + (n : Int) % 64] ++ r)[0]'(by simp)).toNat.toUInt8).toNat = 240 + n / 262144 := u8n _ _ (by show 240 + (n : Int) / 262144 = _; omega) (by omega)
    have e1 : ((([240 + (n : Int) / 262144, 128 + (n : Int) / 4096 % 64, 128 + (n : Int) / 64 % 64, 128 + (n : Int) % 64] ++ r)[0 + 1]'(by simp)).toNat.toUInt8).toNat = 128 + n / 4096 % 64 := u8n _ _ (by show 128 + (n : Int) / 4096 % 64 = _; omega) (by omega)
    have e2 : ((([240 + (n : Int) / 262144, 128 + (n : Int) / 4096 % 64, 128 + (n : Int) / 64 % 64, 128 + (n : Int) % 64] ++ r)[0 + 2]'(by simp)).toNat.toUInt8).toNat = 128 + n / 64 % 64 := u8n _ _ (by show 128 + (n : Int) / 64 % 64 = _; omega) (by omega)
    have e3 : ((([240 + (n : Int) / 262144, 128 + (n : Int) / 4096 % 64, 128 + (n : Int) / 64 % 64, 128 + (n : Int) % 64] ++ r)[0 + 3]'(by simp)).toNat.toUInt8).toNat = 128 + n % 64 := u8n _ _ (by show 128 + (n : Int) % 64 = _; omega) (by omega)
    rw [e0, e1, e2, e3, bytes_val4 _ n h1.1 h1.2 (by simp)]; simp
theorem vals_enc1 (v : Int) (r : List Int) (h : ptB v = true) : valsS (txt (oneI v ++ r)) = v :: valsS (txt r) := by
  have hl : 1 ≤ (oneI v).length := by rw [oneI_pt h]; exact (Lib.encodeRuneZ_length v).1
  rw [valsS_cons _ (by rw [txt_size]; simp; omega), vAt_enc v r h, txt_ext]
  obtain ⟨n, rfl⟩ := nat_of_pt h
  simp
theorem vals_encs (a : List Int) (r : List Int) (h : ∀ v ∈ a, ptB v = true) : valsS (txt (encI a ++ r)) = a ++ valsS (txt r) := by
  induction a with
  | nil => rfl
  | cons v a ih =>
    rw [encI_cons, List.append_assoc, vals_enc1 v _ (h v (by simp)), ih (fun x hx => h x (by simp [hx]))]; rfl
theorem valsS_enc (a : List Int) (h : ∀ v ∈ a, ptB v = true) : valsS (encS a) = a := by
  have := vals_encs a [] h
  rw [List.append_nil] at this
  rw [encS, this, valsS_nil (txt []) (by rw [txt_size]; simp), List.append_nil]
/-- Values of a text: each may be. -/
theorem vals_right (s : ByteArray) : ∀ f i, ∀ v ∈ valsF s f i, ptB v = true ∨ stB v = true := by
  intro f
  induction f with
  | zero => intro i v hv; rw [valsF] at hv; cases hv
  | succ f ih =>
    intro i v hv
    by_cases hi : i < s.size
    · rw [valsF_step s f i hi] at hv
      rcases List.mem_cons.1 hv with rfl | hv
      · have hb := (val_bytes (s.size - i) (s.get! i).toNat (s.get! (i + 1)).toNat (s.get! (i + 2)).toNat (s.get! (i + 3)).toNat (get0 _ _) (get0 _ _) (get0 _ _) (get0 _ _)).1
        rw [← vAt_val] at hb
        have hp := dec_pos s i hi
        rw [← vAt_size s i hi] at hp
        cases h1 : ptB ((vAt s i).1 : Int)
        · cases h2 : stB ((vAt s i).1 : Int)
          · rw [oneI_no h1 h2] at hb
            have := congrArg List.length hb
            simp at this; omega
          · right; rfl
        · left; rfl
      · exact ih _ v hv
    · rw [valsF_end s _ i hi] at hv; cases hv
theorem pt_of_le {s : ByteArray} {v : Int} (h : v ∈ valsS s) (hl : v ≤ 1114111) : ptB v = true := by
  rcases vals_right s _ _ v h with h1 | h1
  · exact h1
  · have := (stB_iff v).1 h1; omega
theorem vals_join (s t : ByteArray) (h : ∀ v ∈ valsS s, v ≤ 1114111) : valsS (s ++ t) = valsS s ++ valsS t := by
  have e : s ++ t = txt (encI (valsS s) ++ bytesOf t) := by
    rw [enc_vals]
    conv => lhs; rw [← txt_bytesOf s, ← txt_bytesOf t]
    apply ByteArray.ext
    simp [txt]
  rw [e, vals_encs _ _ (fun v hv => pt_of_le hv (h v hv)), txt_bytesOf]
/-- How many. -/
theorem valsF_count (s : ByteArray) : ∀ f i, (valsF s f i).length = Lib.runeCountFrom s f i := by
  intro f
  induction f with
  | zero => intro i; rfl
  | succ f ih =>
    intro i
    by_cases hi : i < s.size
    · rw [valsF_step s f i hi, Lib.runeCountFrom, if_pos hi, ← ih]; simp; omega
    · rw [valsF_end s _ i hi, Lib.runeCountFrom_end s _ _ hi]; rfl
theorem vals_count (s : ByteArray) : (valsS s).length = Lib.runeCount s := valsF_count s _ _
end Go.Proofs.YtcdecnmhogmhaaaDoor
set_option linter.unusedVariables false
set_option linter.unusedSimpArgs false
namespace Go.Proofs.YtcdecnmhogmhaaaDoor
open Go.RowKit
def mt : ByteArray := ⟨#[]⟩
def bL (s : ByteArray) : List UInt8 := s.data.toList
def mkB (l : List UInt8) : ByteArray := ⟨l.toArray⟩
theorem mkB_bL (s : ByteArray) : mkB (bL s) = s := by apply ByteArray.ext; simp [mkB, bL]
theorem bL_mkB (l : List UInt8) : bL (mkB l) = l := by simp [mkB, bL]
theorem bL_app (a b : ByteArray) : bL (a ++ b) = bL a ++ bL b := by unfold bL; rw [ByteArray.data_append]; simp
theorem bL_ext (s : ByteArray) (a b : Nat) : bL (s.extract a b) = ((bL s).take b).drop a := by
  unfold bL; rw [ByteArray.data_extract, Array.toList_extract, List.extract_eq_take_drop, List.drop_take]
theorem bL_inj {a b : ByteArray} (h : bL a = bL b) : a = b := by rw [← mkB_bL a, ← mkB_bL b, h]
theorem bL_len (s : ByteArray) : (bL s).length = s.size := by unfold bL; exact Array.length_toList
theorem bL_mt : bL mt = [] := rfl
theorem app_mt (s : ByteArray) : s ++ mt = s := bL_inj (by rw [bL_app, bL_mt, List.append_nil])
theorem mt_app (s : ByteArray) : mt ++ s = s := bL_inj (by rw [bL_app, bL_mt, List.nil_append])
theorem size0 {s : ByteArray} (h : s.size = 0) : s = mt := bL_inj (by rw [bL_mt]; apply List.eq_nil_of_length_eq_zero; rw [bL_len]; exact h)
theorem ext_all (s : ByteArray) : s.extract 0 s.size = s := bL_inj (by rw [bL_ext, ← bL_len, List.take_length, List.drop_zero])
theorem ext_front (a b : ByteArray) : (a ++ b).extract 0 a.size = a := bL_inj (by rw [bL_ext, bL_app, ← bL_len, List.take_left, List.drop_zero])
theorem ext_back (a b : ByteArray) : (a ++ b).extract a.size (a ++ b).size = b := bL_inj (by rw [bL_ext, ← bL_len (a ++ b), List.take_length, bL_app, ← bL_len a, List.drop_left])
theorem ext_join (s : ByteArray) (n : Nat) (h : n ≤ s.size) : s.extract 0 n ++ s.extract n s.size = s := bL_inj (by rw [bL_app, bL_ext, bL_ext, ← bL_len, List.take_length, List.drop_zero, List.take_append_drop])
theorem ba_asc (a b c : ByteArray) : a ++ b ++ c = a ++ (b ++ c) := bL_inj (by simp only [bL_app, List.append_assoc])
theorem bytesOf_bL (s : ByteArray) : bytesOf s = (bL s).map fun b => (b.toNat : Int) := rfl
theorem bytesOf_ext (s : ByteArray) (a b : Nat) : bytesOf (s.extract a b) = ((bytesOf s).take b).drop a := by rw [bytesOf_bL, bL_ext, List.map_drop, List.map_take]; rfl
/-- Is a value shown as it is? -/
def shwB (v : Int) : Bool := decide (1 ≤ cls v) && decide (cls v ≤ 3)
theorem shwB_pt {v : Int} (h : shwB v = true) : ptB v = true := by
  unfold shwB at h
  simp only [Bool.and_eq_true, decide_eq_true_eq] at h
  unfold cls at h
  rw [ptB_iff]
  rcases pnt_cases v with ⟨h1, h2⟩ | ⟨h1, h2⟩
  · omega
  · rcases stry_cases v with ⟨h3, h4⟩ | ⟨h3, h4⟩
    · have hr : rght v = true := by unfold rght; rw [h3]; simp
      rw [if_neg (by rw [hr]; simp), if_pos (by omega)] at h
      omega
    · have hr : rght v = false := by unfold rght; rw [h1, h3]; rfl
      rw [if_pos hr] at h
      omega
theorem pt_le {v : Int} (h : ptB v = true) : v ≤ 1114111 := by have := (ptB_iff v).1 h; omega
theorem shwB_low (v : Int) (h : v < 32) : shwB v = false := by
  unfold shwB
  by_cases h0 : v < 0
  · have : cls v = 0 := by
      unfold cls
      rw [if_pos]
      rcases pnt_cases v with ⟨h1, h2⟩ | ⟨h1, h2⟩
      · omega
      · rcases stry_cases v with ⟨h3, h4⟩ | ⟨h3, h4⟩
        · omega
        · unfold rght; rw [h1, h3]; rfl
    rw [this]; rfl
  · have : cls v = 4 := by
      unfold cls
      rw [if_neg, if_neg (by omega), if_pos h]
      rcases pnt_cases v with ⟨h1, h2⟩ | ⟨h1, h2⟩
      · unfold rght; rw [h1]; simp
      · omega
    rw [this]; rfl
/-- How long a text's beginning is that is shown as it is. -/
def tl (s : ByteArray) : Nat := (encI ((valsS s).takeWhile shwB)).length
def allW (t : ByteArray) : Bool := (valsS t).all shwB
theorem enc_split (s : ByteArray) : bytesOf s = encI ((valsS s).takeWhile shwB) ++ encI ((valsS s).dropWhile shwB) := by
  rw [← encI_append, List.takeWhile_append_dropWhile, enc_vals]
theorem tl_le (s : ByteArray) : tl s ≤ s.size := by
  have := congrArg List.length (enc_split s)
  rw [bytesOf_size, List.length_append] at this
  unfold tl; omega
theorem tl_take (s : ByteArray) : s.extract 0 (tl s) = encS ((valsS s).takeWhile shwB) := by
  rw [← txt_bytesOf (s.extract 0 (tl s)), bytesOf_ext, enc_split s, List.drop_zero]
  unfold tl encS
  rw [List.take_left]
theorem tl_drop (s : ByteArray) : s.extract (tl s) s.size = encS ((valsS s).dropWhile shwB) := by
  rw [← txt_bytesOf (s.extract (tl s) s.size), bytesOf_ext, List.take_of_length_le (by rw [bytesOf_size]; exact Nat.le_refl _), enc_split s]
  unfold tl encS
  rw [List.drop_left]
theorem pts_take (s : ByteArray) : ∀ v ∈ (valsS s).takeWhile shwB, ptB v = true := fun v hv => shwB_pt (List.all_eq_true.1 List.all_takeWhile v hv)
theorem vals_take (s : ByteArray) : valsS (s.extract 0 (tl s)) = (valsS s).takeWhile shwB := by rw [tl_take]; exact valsS_enc _ (pts_take s)
theorem vals_drop (s : ByteArray) : valsS (s.extract (tl s) s.size) = (valsS s).dropWhile shwB := by
  rw [tl_drop]
  have h := vals_encs ((valsS s).takeWhile shwB) (encI ((valsS s).dropWhile shwB)) (pts_take s)
  rw [← enc_split, txt_bytesOf] at h
  have h2 := List.takeWhile_append_dropWhile (p := shwB) (l := valsS s)
  exact List.append_cancel_left (h.symm.trans h2.symm)
theorem tw_dw {α : Type} (p : α → Bool) : ∀ l : List α, (l.dropWhile p).takeWhile p = []
  | [] => rfl
  | a :: l => by
    cases h : p a
    · rw [List.dropWhile_cons, h]; simp [List.takeWhile_cons, h]
    · rw [List.dropWhile_cons, h]; simpa using tw_dw p l
theorem tl_rest (s : ByteArray) : tl (s.extract (tl s) s.size) = 0 := by
  show (encI ((valsS (s.extract (tl s) s.size)).takeWhile shwB)).length = 0
  rw [vals_drop, tw_dw]; rfl
theorem allW_take (s : ByteArray) : allW (s.extract 0 (tl s)) = true := by unfold allW; rw [vals_take]; exact List.all_takeWhile
theorem allW_pt {t : ByteArray} (h : allW t = true) : ∀ v ∈ valsS t, v ≤ 1114111 := fun v hv => pt_le (shwB_pt (List.all_eq_true.1 h v hv))
theorem tl_app (t r : ByteArray) (h : allW t = true) : tl (t ++ r) = t.size + tl r := by
  have hp : ∀ v ∈ valsS t, shwB v = true := List.all_eq_true.1 h
  unfold tl
  rw [vals_join t r (allW_pt h), List.takeWhile_append_of_pos hp, encI_append, List.length_append, enc_vals, bytesOf_size]
theorem vals_mt : valsS mt = [] := rfl
theorem tl_mt : tl mt = 0 := rfl
theorem tl_all {t : ByteArray} (h : allW t = true) : tl t = t.size := by
  have := tl_app t mt h
  rw [app_mt, tl_mt] at this; exact this
theorem allW_of {s : ByteArray} (h : tl s = s.size) : allW s = true := by
  have := allW_take s
  rw [h, ext_all] at this; exact this
theorem allW_app {t r : ByteArray} (h : allW t = true) (h2 : allW r = true) : allW (t ++ r) = true := by
  unfold allW at *
  rw [vals_join t r (allW_pt h), List.all_append, h, h2]; rfl
theorem vAt_low (s : ByteArray) (h : (s.get! 0).toNat < 128) : vAt s 0 = ((s.get! 0).toNat, 1) := by
  rw [vAt_val]; exact bytes_val1 _ _ _ _ _ h
theorem tl_low (s : ByteArray) (h : 0 < s.size) (hc : (s.get! 0).toNat < 32) : tl s = 0 := by
  unfold tl
  rw [valsS_cons s h, vAt_low s (by omega), List.takeWhile_cons, if_neg (by rw [shwB_low _ (by omega)]; simp)]; rfl
end Go.Proofs.YtcdecnmhogmhaaaDoor
set_option linter.unusedVariables false
set_option linter.unusedSimpArgs false
namespace Go.Proofs.YtcdecnmhogmhaaaDoor
open Go.RowKit
/-- A builder of the call's own, at block b, that holds some bytes. -/
abbrev BldAt (B b : Nat) (p : Value) (bs : List Value) (w : World) : Prop := Lib.BuilderAt 110 5 B b p bs w
abbrev IsBld (B b : Nat) (bs : List Value) (w : World) : Prop := Lib.IsBuilder 110 5 B b bs w
theorem sizeBld : (Tryd.prog.info? 110).map (fun i => i.size) = some 2 := by kernel_rfl
theorem liesBld : liesAt Tryd.prog Tryd.prog.depth 110 (2 / Tryd.prog.cellsOf 110) 0 110 1 = true := by kernel_rfl
theorem infoU8 : (Tryd.prog.info? 5).map (fun i => (i.zero, i.size, i.bytes)) = some (some (.int .u8 0), 1, 1) := by kernel_rfl
set_option maxHeartbeats 1000000 in
set_option maxRecDepth 100000 in
theorem bcheck_used (b : Nat) (w : World) (h0 : w.cell? ⟨b, 0, none⟩ = some (.pointer (some ⟨b, 0, none⟩))) :
    Calls Tryd.prog 121 #[.pointer (some ⟨b, 0, none⟩)] w fun e w' => e = .returned (.tuple #[]) ∧ w = w' := by
  obtain ⟨j, hj, _⟩ := Option.map_eq_some_iff.1 sizeBld
  go_enter Tryd.func121, Tryd.ntmps121
  go_wp2
  rw [Lib.run_neq_ptr_same w _ Tryd.underlying107 hj]
  go_wp2
  go_end0
  exact ⟨rfl, rfl⟩
set_option maxHeartbeats 1000000 in
set_option maxRecDepth 100000 in
theorem bcheck_fresh (b : Nat) (w : World) (h0 : w.cell? ⟨b, 0, none⟩ = some (.pointer none)) (hsh : w.shape? b = some (110, 2)) (hfz : w.frozen? ⟨b, 0, none⟩ = false) :
    Calls Tryd.prog 121 #[.pointer (some ⟨b, 0, none⟩)] w fun e w' => e = .returned (.tuple #[]) ∧ w' = w.setCell ⟨b, 0, none⟩ (.pointer (some ⟨b, 0, none⟩)) := by
  obtain ⟨j, hj, hjs⟩ := Option.map_eq_some_iff.1 sizeBld
  go_enter Tryd.func121, Tryd.ntmps121
  go_wp2
  rw [Lib.run_to_unsafe w ⟨b, 0, none⟩ Tryd.underlying107 Tryd.underlying157 hj (by rw [hjs]; decide) hsh (Nat.zero_lt_succ 1)]
  simp only [Result.andThen]
  rw [Oper.upon_value]
  go_wp2
  rw [run_callFunc_extern Tryd.func156 (by kernel_rfl) (by kernel_rfl) (by kernel_rfl) (e := Extern.AbiNoEscape.same) (by kernel_rfl)]
  rw [Lib.run_noEscape]
  simp only [Result.andThen]
  rw [Oper.upon_value]
  go_wp2
  rw [Lib.run_from_unsafe w ⟨b, 0, none⟩ Tryd.underlying157 Tryd.underlying107 hj hsh liesBld]
  simp only [Result.andThen]
  rw [Oper.upon_value]
  go_wp2
  go_end0
  exact ⟨rfl, rfl⟩
theorem bcheck_any (B b : Nat) (bs : List Value) (w : World) (h : IsBld B b bs w) :
    Calls Tryd.prog 121 #[.pointer (some ⟨b, 0, none⟩)] w fun e w' => e = .returned (.tuple #[]) ∧ BldAt B b (.pointer (some ⟨b, 0, none⟩)) bs w' ∧ Below B w w' := by
  rcases h with h | h
  · refine (bcheck_fresh b w h.cell0 h.shape h.frozen0).mono ?_
    rintro e w' ⟨rfl, rfl⟩
    exact ⟨rfl, h.used _, (Below.refl B w).setCell (p := ⟨b, 0, none⟩) h.1 _⟩
  · refine (bcheck_used b w h.cell0).mono ?_
    rintro e w' ⟨rfl, rfl⟩
    exact ⟨rfl, h, Below.refl B _⟩
set_option maxHeartbeats 2000000 in
set_option maxRecDepth 100000 in
theorem bwrite_any (B b : Nat) (bs : List Value) (s : ByteArray) (w : World) (h : IsBld B b bs w) (hlen : bs.length + s.size ≤ 140737488355328) (hBw : B ≤ w.heap.size) :
    Calls Tryd.prog 79 #[.pointer (some ⟨b, 0, none⟩), .string s] w fun e w' => e = .returned (.tuple #[.int .i64 s.size, .nilIface]) ∧ BldAt B b (.pointer (some ⟨b, 0, none⟩)) (bs ++ Lib.strCells s) w' ∧ Below B w w' := by
  obtain ⟨i0, hi, hz0, hz1, hz2⟩ := info_parts infoU8
  have C := Lib.hid (bcheck_any B b bs w h)
  clear h
  go_enter Tryd.func79, Tryd.ntmps79
  go_wp2_with (go_at_call 121; refine C.out.mono ?_)
  rintro e w1 ⟨rfl, ⟨hB, v, hbk, hown, hne⟩, hb1⟩
  have c0 := Lib.cell_of_heap hbk 0; have c1 := Lib.cell_of_heap hbk 1
  dsimp at c0 c1
  go_wp2_with (at_builtin; refine Lib.wpList_append_own_string _ rfl _ _ 108 9 rfl B 5 i0 Tryd.underlying108 Tryd.underlying9 hi hz0 hz1 hz2 _ _ _ rfl hown s rfl ?g3 ?g4 ?g5 ?_)
  case g3 => unfold maxLen; omega
  case g4 => omega
  case g5 => have := hb1.size; omega
  intro v' w2 hown' hgrow _
  have hlt := blk_lt hbk
  have hb2 : w2.heap[b]? = some (.cells #[.pointer (some ⟨b, 0, none⟩), v] 110 (0, 0)) := (hgrow.block b hlt (fun e => hne e.symm)).trans hbk
  have d0 := Lib.cell_of_heap hb2 0
  have d1 := Lib.cell_of_heap hb2 1
  have f1 : w2.frozen? ⟨b, 1, none⟩ = false := Lib.frozen_of_heap hb2 1
  dsimp at d0 d1
  obtain ⟨ao, n', cap, rfl⟩ : ∃ ao n' cap, v' = .slice ao n' cap := by
    rcases hown'.2 with ⟨hv, _⟩ | ⟨g, cap, cur, hv, _⟩
    · exact ⟨_, _, _, hv⟩
    · exact ⟨_, _, _, hv⟩
  go_wp2
  go_ret2
  refine ⟨rfl, ?_, ?_⟩
  · exact Lib.BuilderAt.put (T := 110) (e := 5) hB hb2 (bs' := bs ++ Lib.strCells s) (by simpa [Lib.strCells_length] using hown') (by decide)
  · exact (hb1.grown hgrow (by have := hb1.size; omega) (fun k hk => (hown.lt k hk).1)).setCell (p := ⟨b, 1, none⟩) hB _
end Go.Proofs.YtcdecnmhogmhaaaDoor
set_option linter.unusedVariables false
set_option linter.unusedSimpArgs false
namespace Go.Proofs.YtcdecnmhogmhaaaDoor
open Go.RowKit
def sideI (n : Int) : Bool := decide (1 ≤ n) && decide (n ≤ 1000)
/-- What is sent of looks, ahead of the letter. -/
def lkL : List (List UInt8) := [[48], [48, 59, 55], [48, 59, 52], [48, 59, 55, 59, 52], [48, 59, 49], [48, 59, 55, 59, 49], [48, 59, 52, 59, 49], [48, 59, 55, 59, 52, 59, 49]]
def lkT (n : Int) : List UInt8 := lkL.getD n.toNat []
/-- A piece's bytes. -/
def byL (o : Ot) : List UInt8 :=
  if o.1 = 0 then bL o.2.2.2 else if o.1 = 6 then [7] else if o.1 = 7 then [13] else if o.1 = 8 then [10]
  else if o.1 = 1 then 27 :: 91 :: (decS o.2.1 ++ 59 :: (decS o.2.2.1 ++ [72])) else if o.1 = 2 then [27, 91, 50, 74] else if o.1 = 3 then [27, 91, 75]
  else if o.1 = 4 then 27 :: 91 :: (lkT o.2.1 ++ [109]) else if o.2.1 = 1 then [27, 91, 63, 50, 48, 48, 52, 104] else [27, 91, 63, 50, 48, 48, 52, 108]
def bt (o : Ot) : ByteArray := mkB (byL o)
/-- May a piece be? -/
def mayP (o : Ot) : Bool :=
  if o.1 = 0 then decide (o.2.1 = 0) && (decide (o.2.2.1 = 0) && (decide (0 < o.2.2.2.size) && allW o.2.2.2))
  else decide (o.2.2.2.size = 0) && (if o.1 = 1 then sideI o.2.1 && sideI o.2.2.1 else decide (o.2.2.1 = 0) && (if o.1 = 4 then decide (0 ≤ o.2.1) && decide (o.2.1 ≤ 7) else if o.1 = 5 then decide (o.2.1 = 0) || decide (o.2.1 = 1) else (decide (2 ≤ o.1) && decide (o.1 ≤ 8)) && decide (o.2.1 = 0)))
/-- The kinds of pieces that may be. -/
inductive Pc : Ot → Prop where
  | text (t : ByteArray) (h : 0 < t.size) (hw : allW t = true) : Pc (0, 0, 0, t)
  | move (n m : Int) (h1 : 1 ≤ n) (h2 : n ≤ 1000) (h3 : 1 ≤ m) (h4 : m ≤ 1000) : Pc (1, n, m, mt)
  | erase : Pc (2, 0, 0, mt)
  | rest : Pc (3, 0, 0, mt)
  | looks (n : Int) (h1 : 0 ≤ n) (h2 : n ≤ 7) : Pc (4, n, 0, mt)
  | paste1 : Pc (5, 1, 0, mt)
  | paste0 : Pc (5, 0, 0, mt)
  | bell : Pc (6, 0, 0, mt)
  | cr : Pc (7, 0, 0, mt)
  | lf : Pc (8, 0, 0, mt)
theorem pc_of {o : Ot} (h : mayP o = true) : Pc o := by
  obtain ⟨k, n, m, t⟩ := o
  unfold mayP at h
  dsimp only at h
  split at h
  · rename_i hk
    simp only [Bool.and_eq_true, decide_eq_true_eq] at h
    obtain ⟨rfl, rfl, h1, h2⟩ := h
    rw [hk]; exact .text t h1 h2
  · rename_i hk
    rw [Bool.and_eq_true, decide_eq_true_eq] at h
    obtain ⟨h0, h⟩ := h
    obtain rfl := size0 h0
    split at h
    · rename_i h1
      unfold sideI at h
      simp only [Bool.and_eq_true, decide_eq_true_eq] at h
      obtain ⟨⟨a, b⟩, c, d⟩ := h
      rw [h1]; exact .move n m a b c d
    · rename_i h1
      rw [Bool.and_eq_true, decide_eq_true_eq] at h
      obtain ⟨rfl, h⟩ := h
      split at h
      · rename_i h4
        simp only [Bool.and_eq_true, decide_eq_true_eq] at h
        rw [h4]; exact .looks n h.1 h.2
      · rename_i h4
        split at h
        · rename_i h5
          simp only [Bool.or_eq_true, decide_eq_true_eq] at h
          rw [h5]
          rcases h with rfl | rfl
          · exact .paste0
          · exact .paste1
        · rename_i h5
          simp only [Bool.and_eq_true, decide_eq_true_eq] at h
          obtain ⟨⟨a, b⟩, rfl⟩ := h
          have : k = 2 ∨ k = 3 ∨ k = 6 ∨ k = 7 ∨ k = 8 := by omega
          rcases this with rfl | rfl | rfl | rfl | rfl
          · exact .erase
          · exact .rest
          · exact .bell
          · exact .cr
          · exact .lf
theorem mt_size : mt.size = 0 := rfl
theorem may_of {o : Ot} (h : Pc o) : mayP o = true := by
  cases h with
  | text t h hw => unfold mayP; rw [if_pos rfl]; simp [h, hw]
  | move n m h1 h2 h3 h4 => simp [mayP, sideI, h1, h2, h3, h4, mt_size]
  | looks n h1 h2 => simp [mayP, h1, h2, mt_size]
  | _ => rfl
theorem by_text (t : ByteArray) (n m : Int) : bt (0, n, m, t) = t := by unfold bt byL; rw [if_pos rfl]; exact mkB_bL t
/-- The reading of controls. -/
def ltF (s : ByteArray) : Nat → Nat → Option Nat
  | 0, _ => none
  | f + 1, i => if i < s.size ∧ i ≤ 11 then if 64 ≤ (s.get! i).toNat then some i else ltF s f (i + 1) else none
def ltr (s : ByteArray) : Option Nat := ltF s 10 2
def lkF (body : List UInt8) : Option Nat := (List.range 8).find? fun n => lkL.getD n [] == body
/-- Which piece a letter is of. -/
def ctl (body : ByteArray) (e : Nat) : Ot × Bool :=
  if e = 72 then ((1, undR (Lib.cut (bL body) [59]).1, undR (Lib.cut (bL body) [59]).2.1, mt), decide (undE (Lib.cut (bL body) [59]).1 = 0) && decide (undE (Lib.cut (bL body) [59]).2.1 = 0))
  else if e = 74 then ((2, 0, 0, mt), true) else if e = 75 then ((3, 0, 0, mt), true)
  else if e = 109 then (match lkF (bL body) with | some n => ((4, (n : Int), 0, mt), true) | none => (ot0, false))
  else if e = 104 then ((5, 1, 0, mt), true) else if e = 108 then ((5, 0, 0, mt), true) else (ot0, false)
/-- The piece of a control. -/
def oneC (s : ByteArray) : Ot × Nat :=
  match ltr s with
  | none => (ot0, 0)
  | some e => if (ctl (s.extract 2 e) (s.get! e).toNat).2 = true ∧ mayP (ctl (s.extract 2 e) (s.get! e).toNat).1 = true ∧ bt (ctl (s.extract 2 e) (s.get! e).toNat).1 = s.extract 0 (e + 1) then ((ctl (s.extract 2 e) (s.get! e).toNat).1, e + 1) else (ot0, 0)
/-- The piece that a text begins with. -/
def oneP (s : ByteArray) : Ot × Nat :=
  if 0 < tl s then ((0, 0, 0, s.extract 0 (tl s)), tl s) else if s.size = 0 then (ot0, 0)
  else if (s.get! 0).toNat = 7 then ((6, 0, 0, mt), 1) else if (s.get! 0).toNat = 13 then ((7, 0, 0, mt), 1) else if (s.get! 0).toNat = 10 then ((8, 0, 0, mt), 1)
  else if Lib.hasPrefix (bL s) [27, 91] = false then (ot0, 0) else oneC s
theorem ctl_kind {b : ByteArray} {e : Nat} (h : (ctl b e).2 = true) : (ctl b e).1.1 ≠ 0 := by
  unfold ctl at h ⊢
  by_cases a1 : e = 72
  · rw [if_pos a1]; show (1 : Int) ≠ 0; decide
  rw [if_neg a1] at h ⊢
  by_cases a2 : e = 74
  · rw [if_pos a2]; show (2 : Int) ≠ 0; decide
  rw [if_neg a2] at h ⊢
  by_cases a3 : e = 75
  · rw [if_pos a3]; show (3 : Int) ≠ 0; decide
  rw [if_neg a3] at h ⊢
  by_cases a4 : e = 109
  · rw [if_pos a4] at h ⊢
    cases hl : lkF (bL b) with
    | none => rw [hl] at h; cases h
    | some n => show (4 : Int) ≠ 0; decide
  rw [if_neg a4] at h ⊢
  by_cases a5 : e = 104
  · rw [if_pos a5]; show (5 : Int) ≠ 0; decide
  rw [if_neg a5] at h ⊢
  by_cases a6 : e = 108
  · rw [if_pos a6]; show (5 : Int) ≠ 0; decide
  rw [if_neg a6] at h; cases h
theorem ltF_some {s : ByteArray} : ∀ f i e, ltF s f i = some e → i ≤ e ∧ e < s.size ∧ e ≤ 11
  | 0, _, _, h => by simp [ltF] at h
  | f + 1, i, e, h => by
    rw [ltF] at h
    split at h
    · rename_i hi
      split at h
      · obtain rfl := Option.some.inj h; omega
      · have := ltF_some f (i + 1) e h; omega
    · cases h
theorem extOne (s : ByteArray) (h : 0 < s.size) : s.extract 0 1 = mkB [s.get! 0] := by
  apply bL_inj
  rw [bL_ext, bL_mkB, List.drop_zero]
  have h1 : 0 < (bL s).length := by rw [bL_len]; exact h
  rw [List.take_succ_eq_append_getElem h1, List.take_zero, List.nil_append, get_get s 0 h]; rfl
theorem one_sound {s : ByteArray} (h : (oneP s).2 ≠ 0) : mayP (oneP s).1 = true ∧ bt (oneP s).1 = s.extract 0 (oneP s).2 ∧ (oneP s).2 ≤ s.size ∧ ((oneP s).1.1 = 0 → 0 < tl s ∧ (oneP s).2 = tl s) := by
  unfold oneP at h ⊢
  split
  · rename_i ht
    refine ⟨?_, by_text _ _ _, tl_le s, fun _ => ⟨ht, rfl⟩⟩
    refine may_of (.text _ ?_ (allW_take s))
    have := tl_le s
    rw [ByteArray.size_extract]; omega
  · rename_i ht
    rw [if_neg ht] at h
    split
    · rename_i h0; rw [if_pos h0] at h; exact absurd rfl h
    · rename_i h0
      have hs : 0 < s.size := by omega
      have hc : (s.get! 0) = UInt8.ofNat (s.get! 0).toNat := by simp
      split
      · rename_i h7
        rw [h7] at hc
        refine ⟨rfl, ?_, hs, fun e => absurd e (by decide)⟩
        rw [extOne s hs, hc]; rfl
      · split
        · rename_i _ h13
          rw [h13] at hc
          refine ⟨rfl, ?_, hs, fun e => absurd e (by decide)⟩
          rw [extOne s hs, hc]; rfl
        · split
          · rename_i _ _ h10
            rw [h10] at hc
            refine ⟨rfl, ?_, hs, fun e => absurd e (by decide)⟩
            rw [extOne s hs, hc]; rfl
          · rename_i h7 h13 h10
            rw [if_neg h0, if_neg h7, if_neg h13, if_neg h10] at h
            split
            · rename_i hp; rw [if_pos hp] at h; exact absurd rfl h
            · rename_i hp
              rw [if_neg hp] at h
              unfold oneC at h ⊢
              cases hl : ltr s with
              | none => rw [hl] at h; exact absurd rfl h
              | some e =>
                rw [hl] at h
                dsimp only at h ⊢
                have he := ltF_some _ _ _ hl
                split
                · rename_i hh
                  refine ⟨hh.2.1, hh.2.2, by omega, fun hk => ?_⟩
                  exact absurd hk (ctl_kind hh.1)
                · rename_i hh; rw [if_neg hh] at h; exact absurd rfl h
theorem get_bL (s : ByteArray) (k : Nat) (h : k < s.size) : s.get! k = (bL s).getD k 0 := by
  rw [get_get s k h, List.getD, List.getElem?_eq_getElem (by rw [bL_len]; exact h)]; rfl
theorem size_mkB (l : List UInt8) (r : ByteArray) : (mkB l ++ r).size = l.length + r.size := by rw [← bL_len, bL_app, bL_mkB, List.length_append, bL_len]
theorem get_mkB (l : List UInt8) (r : ByteArray) (k : Nat) (h : k < l.length) : (mkB l ++ r).get! k = l.getD k 0 := by
  rw [get_bL _ _ (by rw [size_mkB]; omega), bL_app, bL_mkB, List.getD, List.getD, List.getElem?_append_left h]
theorem ltF_at {s : ByteArray} : ∀ j f i, (∀ k, k < j → (s.get! (i + k)).toNat < 64) → 64 ≤ (s.get! (i + j)).toNat → i + j < s.size → i + j ≤ 11 → j < f → ltF s f i = some (i + j)
  | _, 0, _, _, _, _, _, hf => absurd hf (by omega)
  | 0, f + 1, i, _, h2, h3, h4, _ => by
    have h2' : 64 ≤ (s.get! i).toNat := h2
    rw [ltF, if_pos ⟨h3, h4⟩, if_pos h2']; rfl
  | j + 1, f + 1, i, h1, h2, h3, h4, hf => by
    have h0 := h1 0 (by omega)
    rw [Nat.add_zero] at h0
    rw [ltF, if_pos ⟨by omega, by omega⟩, if_neg (by omega), ltF_at j f (i + 1) (fun k hk => by have := h1 (k + 1) (by omega); rwa [show i + 1 + k = i + (k + 1) by omega]) (by rw [show i + 1 + j = i + (j + 1) by omega]; exact h2) (by omega) (by omega) (by omega)]
    rw [show i + 1 + j = i + (j + 1) by omega]
/-- A control is read. -/
theorem one_ctl {o : Ot} {body : List UInt8} {x : UInt8} (r : ByteArray) (hb : ∀ c ∈ body, c.toNat < 64) (hx : 64 ≤ x.toNat) (hl : body.length ≤ 9) (hc : ctl (mkB body) x.toNat = (o, true)) (ho : mayP o = true) (he : bt o = mkB (27 :: 91 :: (body ++ [x]))) :
    oneP (bt o ++ r) = (o, (bt o).size) := by
  have hbt : (bt o).size = body.length + 3 := by rw [he, ← bL_len, bL_mkB]; simp
  have hsz : (bt o ++ r).size = body.length + 3 + r.size := by rw [he, size_mkB]; simp
  have hg : ∀ k, k < body.length + 3 → (bt o ++ r).get! k = (27 :: 91 :: (body ++ [x])).getD k 0 := fun k hk => by
    rw [he]; exact get_mkB _ _ _ (by simp; omega)
  have hL : bL (bt o ++ r) = 27 :: 91 :: (body ++ (x :: bL r)) := by rw [bL_app, he, bL_mkB]; simp
  have g0 : ((bt o ++ r).get! 0).toNat = 27 := by rw [hg 0 (by omega)]; rfl
  have ht : tl (bt o ++ r) = 0 := tl_low _ (by omega) (by omega)
  have gb : ∀ k, k < body.length → ((bt o ++ r).get! (2 + k)).toNat < 64 := fun k hk => by
    rw [hg (2 + k) (by omega), show 2 + k = k + 1 + 1 by omega]
    show ((body ++ [x]).getD k 0).toNat < 64
    rw [List.getD, List.getElem?_append_left hk, List.getElem?_eq_getElem hk]
    exact hb _ (List.getElem_mem hk)
  have gx : (bt o ++ r).get! (2 + body.length) = x := by
    rw [hg (2 + body.length) (by omega), show 2 + body.length = body.length + 1 + 1 by omega]
    show (body ++ [x]).getD body.length 0 = x
    rw [List.getD, List.getElem?_append_right (Nat.le_refl _), Nat.sub_self]; rfl
  have hlt : ltr (bt o ++ r) = some (2 + body.length) := ltF_at body.length 10 2 gb (by rw [gx]; exact hx) (by omega) (by omega) (by omega)
  have e1 : (bt o ++ r).extract 2 (2 + body.length) = mkB body := bL_inj (by rw [bL_ext, hL, bL_mkB, Nat.add_comm]; simp)
  have e2 : (bt o ++ r).extract 0 (2 + body.length + 1) = bt o := by
    have := ext_front (bt o) r
    rw [hbt] at this
    rw [show 2 + body.length + 1 = body.length + 3 by omega]; exact this
  unfold oneP
  rw [if_neg (by omega), if_neg (by omega), if_neg (by omega), if_neg (by omega), if_neg (by omega), if_neg (by rw [hL]; simp [Lib.hasPrefix])]
  unfold oneC
  rw [hlt]
  dsimp only
  rw [e1, gx, e2, hc, hbt]
  dsimp only
  rw [if_pos ⟨rfl, ho, rfl⟩, show 2 + body.length + 1 = body.length + 3 by omega]
theorem index_at (a b : List UInt8) (h : ∀ c ∈ a, c ≠ 59) : Lib.index (a ++ 59 :: b) [59] = a.length := by
  induction a with
  | nil => simp [Lib.index]
  | cons x a ih =>
    have hx : x ≠ 59 := h x (List.mem_cons_self)
    have ih' := ih fun c hc => h c (List.mem_cons_of_mem _ hc)
    have hp : ([59] : List UInt8).isPrefixOf (x :: (a ++ 59 :: b)) = false := by
      simp [List.isPrefixOf]; exact fun e => hx e.symm
    rw [List.cons_append, Lib.index, if_neg (by rw [hp]; simp), ih', if_neg (by simp)]
    simp
theorem cut_at (a b : List UInt8) (h : ∀ c ∈ a, c ≠ 59) : Lib.cut (a ++ 59 :: b) [59] = (a, b, true) := by
  unfold Lib.cut
  rw [index_at a b h, if_pos (by omega)]
  simp
theorem dec_small (n : Int) (h1 : 1 ≤ n) (h2 : n ≤ 1000) : (decS n).length ≤ 4 ∧ ∀ c ∈ decS n, c.toNat < 64 ∧ c ≠ 59 := by
  have key : ∀ k : Fin 1001, ((decS (k.val : Int)).length ≤ 4 ∧ ((decS (k.val : Int)).all fun c => decide (c.toNat < 64) && decide (c ≠ 59)) = true) := by decide +kernel
  obtain ⟨k, rfl⟩ := Int.eq_ofNat_of_zero_le (show 0 ≤ n by omega)
  have := key ⟨k, by omega⟩
  refine ⟨this.1, fun c hc => ?_⟩
  have h := List.all_eq_true.1 this.2 c hc
  simpa using h
theorem one_byte {o : Ot} {x : UInt8} (r : ByteArray) (hx : x.toNat < 32) (he : bt o = mkB [x]) (h : (7 = x.toNat ∧ o = (6, 0, 0, mt)) ∨ (13 = x.toNat ∧ o = (7, 0, 0, mt)) ∨ (10 = x.toNat ∧ o = (8, 0, 0, mt))) : oneP (bt o ++ r) = (o, (bt o).size) := by
  have hsz : (bt o ++ r).size = 1 + r.size := by rw [he, size_mkB]; rfl
  have hbt : (bt o).size = 1 := by rw [he]; rfl
  have g0 : (bt o ++ r).get! 0 = x := by rw [he, get_mkB _ _ _ (by simp)]; rfl
  have ht : tl (bt o ++ r) = 0 := tl_low _ (by omega) (by rw [g0]; exact hx)
  unfold oneP
  rw [if_neg (by omega), if_neg (by omega), g0, hbt]
  rcases h with ⟨h, rfl⟩ | ⟨h, rfl⟩ | ⟨h, rfl⟩
  · rw [if_pos h.symm]
  · rw [if_neg (by omega), if_pos h.symm]
  · rw [if_neg (by omega), if_neg (by omega), if_pos h.symm]
theorem lk_small : ∀ k : Fin 8, (lkT (k.val : Int)).length ≤ 9 ∧ ((lkT (k.val : Int)).all fun c => decide (c.toNat < 64)) = true ∧ lkF (lkT (k.val : Int)) = some k.val := by decide +kernel
theorem one_full {o : Ot} (r : ByteArray) (ho : mayP o = true) (hr : o.1 = 0 → tl r = 0) : oneP (bt o ++ r) = (o, (bt o).size) := by
  have hpc := pc_of ho
  cases hpc with
  | text t h hw =>
    have e : bt (0, 0, 0, t) = t := by_text t 0 0
    rw [e]
    unfold oneP
    rw [tl_app t r hw, hr rfl, Nat.add_zero, if_pos h, ext_front]
  | move n m h1 h2 h3 h4 =>
    obtain ⟨a1, a2⟩ := dec_small n h1 h2
    obtain ⟨b1, b2⟩ := dec_small m h3 h4
    refine one_ctl (body := decS n ++ 59 :: decS m) (x := 72) r ?_ (by decide) (by simp; omega) ?_ ho ?_
    · intro c hc
      rcases List.mem_append.1 hc with hc | hc
      · exact (a2 c hc).1
      · rcases List.mem_cons.1 hc with rfl | hc
        · decide
        · exact (b2 c hc).1
    · unfold ctl
      rw [if_pos (by decide), bL_mkB, cut_at _ _ fun c hc => (a2 c hc).2]
      dsimp only
      rw [(und_dec n (by omega) (by omega)).1, (und_dec n (by omega) (by omega)).2, (und_dec m (by omega) (by omega)).1, (und_dec m (by omega) (by omega)).2]; rfl
    · unfold bt byL
      dsimp only
      rw [if_neg (by decide), if_neg (by decide), if_neg (by decide), if_neg (by decide), if_pos rfl, List.append_assoc]; rfl
  | erase => exact one_ctl (body := [50]) (x := 74) r (by decide) (by decide) (by decide) (by decide) ho rfl
  | rest => exact one_ctl (body := []) (x := 75) r (by decide) (by decide) (by decide) (by decide) ho rfl
  | looks n h1 h2 =>
    obtain ⟨k, rfl⟩ := Int.eq_ofNat_of_zero_le h1
    have hk := lk_small ⟨k, by omega⟩
    dsimp only at hk
    refine one_ctl (body := lkT (k : Int)) (x := 109) r (fun c hc => ?_) (by decide) hk.1 ?_ ho rfl
    · have := List.all_eq_true.1 hk.2.1 c hc; simpa using this
    · unfold ctl
      rw [if_neg (by decide), if_neg (by decide), if_neg (by decide), if_pos (by decide), bL_mkB, hk.2.2]
  | paste1 => exact one_ctl (body := [63, 50, 48, 48, 52]) (x := 104) r (by decide) (by decide) (by decide) (by decide) ho rfl
  | paste0 => exact one_ctl (body := [63, 50, 48, 48, 52]) (x := 108) r (by decide) (by decide) (by decide) (by decide) ho rfl
  | bell => exact one_byte (x := 7) r (by decide) rfl (Or.inl ⟨rfl, rfl⟩)
  | cr => exact one_byte (x := 13) r (by decide) rfl (Or.inr (Or.inl ⟨rfl, rfl⟩))
  | lf => exact one_byte (x := 10) r (by decide) rfl (Or.inr (Or.inr ⟨rfl, rfl⟩))
theorem bt_pos {o : Ot} (ho : mayP o = true) : 0 < (bt o).size := by
  have hpc := pc_of ho
  cases hpc with
  | text t h hw => rw [by_text]; exact h
  | move n m h1 h2 h3 h4 => rw [← bL_len]; unfold bt byL; rw [bL_mkB]; simp
  | looks n h1 h2 => rw [← bL_len]; unfold bt byL; rw [bL_mkB]; simp
  | _ => decide
/-- A piece that is no text begins with a control. -/
theorem bt_low {o : Ot} (ho : mayP o = true) (hk : o.1 ≠ 0) (r : ByteArray) : tl (bt o ++ r) = 0 := by
  have key : ∀ (x : UInt8) (l : List UInt8), byL o = x :: l → x.toNat < 32 → tl (bt o ++ r) = 0 := fun x l h hx => by
    refine tl_low _ (by unfold bt; rw [size_mkB, h]; simp; omega) ?_
    unfold bt
    rw [get_mkB _ _ _ (by rw [h]; simp), h]; exact hx
  have hpc := pc_of ho
  cases hpc with
  | text t h hw => exact absurd rfl hk
  | bell => exact key 7 _ rfl (by decide)
  | cr => exact key 13 _ rfl (by decide)
  | lf => exact key 10 _ rfl (by decide)
  | _ => exact key 27 _ rfl (by decide)
end Go.Proofs.YtcdecnmhogmhaaaDoor
