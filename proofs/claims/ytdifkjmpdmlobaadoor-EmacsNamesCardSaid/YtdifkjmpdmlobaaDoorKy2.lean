/-
  Keys: the table of the keys of one name, and who looks it up.
-/
import Derived.Test.YtdifkjmpdmlobaaDoorKy1
import Derived.Test.YtdifkjmpdmlobaaDoorSg1
import Derived.Laws.Rows
import Derived.Deep.RegionHeld3
set_option linter.unusedVariables false
set_option linter.unusedSimpArgs false
namespace Go.Proofs.YtdifkjmpdmlobaaDoor
set_option maxRecDepth 100000
open Go.RowKit
def rowL (r : KRow) : List Value := [.int .i64 r.1, .int .i64 r.2.1, .string ⟨r.2.2.1.toArray⟩, .string ⟨r.2.2.2.toArray⟩]
def rowV (r : KRow) : Value := .agg #[.int .i64 r.1, .int .i64 r.2.1, .string ⟨r.2.2.1.toArray⟩, .string ⟨r.2.2.2.toArray⟩]
def kCells : List Value := kTab.flatMap rowL
/-- The table lies in memory. -/
structure KT (w : World) : Prop where
  cell : ∀ i, i < 52 → w.cell? ⟨1, i, none⟩ = kCells[i]?
  lt : 1 < w.heap.size
theorem KT.below {w w' : World} (h : KT w) (hb : Below w.heap.size w w') : KT w' :=
  ⟨fun i hi => (hb.cell (p := ⟨1, i, none⟩) h.lt).trans (h.cell i hi), Nat.lt_of_lt_of_le h.lt hb.size⟩
theorem undK : Tryd.prog.underlying 176 = some (.array 13 170) := by kernel_rfl
theorem infoK : (Tryd.prog.info? 176).map (·.size) = some 52 := by kernel_rfl
theorem infoR : (Tryd.prog.info? 170).map (·.size) = some 4 := by kernel_rfl
/-- A whole variable, out of its cells. -/
theorem run_loadVar_cells {P : Program} (w : World) (g : Nat) (ty : TypeId) (cs : List Value) (d : TypeDesc) (hg : ∀ j v, cs[j]? = some v → w.cell? ⟨g, j, none⟩ = some v)
    (hu : P.underlying ty = some d) (hd : (match d with | .struct _ | .array _ _ => true | _ => false) = true) (hi : (P.info? ty).map (·.size) = some cs.length) :
    (loadVar ty ⟨g, 0, none⟩).run P w = .ok (.agg cs.toArray) w := by
  have hl : (loadCells ⟨g, 0, none⟩ cs.length).run P w = .ok cs.toArray w :=
    run_loadCells_list (P := P) w ⟨g, 0, none⟩ cs (fun j v hv => by
      have hadd : (⟨g, 0, none⟩ : Addr).add j = ⟨g, j, none⟩ := by unfold Addr.add; split <;> simp_all
      rw [hadd]; exact hg j v hv)
  cases hq : P.info? ty with
  | none => simp [hq] at hi
  | some i =>
    have hs : i.size = cs.length := by simpa [hq] using hi
    have hagg : (isAgg ty).run P w = .ok true w := by
      unfold isAgg
      rw [Sem.run_bind, run_underlying hu w]
      cases d <;> simp_all
    simp [loadVar, Sem.run_bind, hagg, sizeOf, typeInfo, hq, hs, hl]
theorem kLoad (w : World) (h : KT w) : (loadVar 176 ⟨1, 0, none⟩).run Tryd.prog w = .ok (.agg kCells.toArray) w :=
  run_loadVar_cells w _ _ kCells _ (fun j v hv => by
    have hj : j < 52 := by
      have := (List.getElem?_eq_some_iff.1 hv).1
      exact this
    rw [h.cell j hj]; exact hv) undK rfl infoK
theorem kLoad2 (w : World) (h : KT w) : (loadCellsFrom ⟨1, 0, none⟩ 0 52 #[]).run Tryd.prog w = .ok kCells.toArray w := by
  have := run_loadCells_list (P := Tryd.prog) w ⟨1, 0, none⟩ kCells (fun j v hv => by
      have hadd : (⟨1, 0, none⟩ : Addr).add j = ⟨1, j, none⟩ := by unfold Addr.add; split <;> simp_all
      have hj : j < 52 := (List.getElem?_eq_some_iff.1 hv).1
      rw [hadd, h.cell j hj]; exact hv)
  have e : kCells.length = 52 := rfl
  simpa [loadCells, e] using this
/-- The walk's step where the whole table is loaded. -/
theorem wpList_load_kt {ops : Array Oper} {rest : List Oper} {dst : Option Tmp} {ty : TypeId} {pos : String} {after : Array Edge} {a : Act} {w : World} {Q : Exit → Act → World → Prop} (hT : KT w)
    (h : wpList Tryd.prog ops Q rest (a.put dst (.agg kCells.toArray)) w) :
    wpList Tryd.prog ops Q ({ dst := dst, op := .load 176 (.global 1), type := ty, pos := pos, after := after, guard := none } :: rest) a w := by
  refine wpList_plain rfl fun _ hK => ?_
  have hx : a.eval (.global 1) = .pointer (some ⟨1, 0, none⟩) := rfl
  unfold Oper.wp execOp
  simp only [hx, Instr.loadAt, Instr.sureAddr, Sem.run_bind, Sem.run_pure, Result.andThen_ok, kLoad w hT]
  exact hK _ _ h
theorem kIdx (k : Nat) (hk : k < 13) (w : World) : (Instr.index 176 (.agg kCells.toArray) (.int .i64 (k : Int))).run Tryd.prog w = .ok (rowV (kTab.getD k kr0)) w := by
  have hagg : (isAgg 170).run Tryd.prog w = .ok true w := by kernel_rfl
  have hsz : (sizeOf 170).run Tryd.prog w = .ok 4 w := by kernel_rfl
  have hex : List.take 4 (List.drop (k * 4) kCells) = rowL (kTab.getD k kr0) := by
    match k, hk with
    | 0, _ => rfl
    | 1, _ => rfl
    | 2, _ => rfl
    | 3, _ => rfl
    | 4, _ => rfl
    | 5, _ => rfl
    | 6, _ => rfl
    | 7, _ => rfl
    | 8, _ => rfl
    | 9, _ => rfl
    | 10, _ => rfl
    | 11, _ => rfl
    | 12, _ => rfl
  have h0 : (0 : Int) ≤ k := by omega
  have h1 : (k : Int) < 13 := by omega
  simp only [Instr.index, asIntOf, Sem.run_bind, run_underlying undK, Sem.run_pure, Result.andThen, Result.andThen_ok]
  simp only [h0, h1, true_and, if_true, part, Sem.run_bind, hsz, hagg, Result.andThen, Result.andThen_ok, Sem.run_pure, Int.toNat_natCast]
  simp [hex, rowV, h1]
  simp [rowL]
/-- From a row on: which is a key's. -/
def kFrom (kind v : Int) (k : Nat) : Option KRow := (kTab.drop k).find? (kIs kind v)
theorem kFrom_end (kind v : Int) : kFrom kind v 13 = none := rfl
theorem kTab_len : kTab.length = 13 := rfl
theorem kFrom_step (kind v : Int) (k : Nat) (hk : k < 13) : kFrom kind v k = if (kTab.getD k kr0).1 = kind ∧ (kTab.getD k kr0).2.1 = v then some (kTab.getD k kr0) else kFrom kind v (k + 1) := by
  unfold kFrom
  have hk' : k < kTab.length := hk
  rw [List.drop_eq_getElem_cons hk', List.find?_cons]
  have e : kTab.getD k kr0 = kTab[k] := by rw [List.getD, List.getElem?_eq_getElem hk']; rfl
  rw [e]
  unfold kIs
  by_cases h : (kTab[k]).1 = kind ∧ (kTab[k]).2.1 = v
  · rw [if_pos h, show ((kTab[k]).1 == kind && (kTab[k]).2.1 == v) = true by rw [h.1, h.2]; simp]
  · rw [if_neg h]
    have hb : ((kTab[k]).1 == kind && (kTab[k]).2.1 == v) = false := by
      cases hx : ((kTab[k]).1 == kind && (kTab[k]).2.1 == v) with
      | false => rfl
      | true => exact absurd (by simpa using hx) h
    rw [hb]
set_option maxRecDepth 100000 in
theorem kfinder_any (kind : Int) (w : World) : Calls Tryd.prog 120 #[.int .i64 kind] w fun e w' => e = .returned (.func (.func 132) #[] #[.pointer (some ⟨w.heap.size, 0, none⟩)]) ∧ w.alloc (.cells #[.int .i64 kind] 3) = w' := by
  have hmf : ∀ (fn : Fn) (first cap : Array Value) (w : World), (Instr.makeFunc fn first cap).run Tryd.prog w = .ok (.func fn first cap) w := fun _ _ _ _ => rfl
  go_enter Tryd.func120, Tryd.ntmps120
  go_wp2
  go_ret
  exact ⟨rfl, rfl⟩
end Go.Proofs.YtdifkjmpdmlobaaDoor
