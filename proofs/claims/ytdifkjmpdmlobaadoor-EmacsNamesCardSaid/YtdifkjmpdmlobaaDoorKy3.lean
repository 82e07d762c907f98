/-
  Keys: who looks a kind and a value up in the table.
-/
import Derived.Test.YtdifkjmpdmlobaaDoorKy2
import Derived.Deep.Cut
set_option linter.unusedVariables false
set_option linter.unusedSimpArgs false
namespace Go.Proofs.YtdifkjmpdmlobaaDoor
set_option maxRecDepth 100000
open Go.RowKit
theorem rowV_eq (a b : Int) (c d : List UInt8) : rowV (a, b, c, d) = .agg #[.int .i64 a, .int .i64 b, .string ⟨c.toArray⟩, .string ⟨d.toArray⟩] := rfl
theorem kFrom_hit {kind v : Int} {k : Nat} {r : KRow} (h : kFrom kind v k = kFind kind v) (hk : k < 13) (e : kTab.getD k kr0 = r) (h1 : r.1 = kind) (h2 : r.2.1 = v) : kFind kind v = some r := by
  rw [← h, kFrom_step kind v k hk, e, if_pos ⟨h1, h2⟩]
theorem kFrom_miss {kind v : Int} {k : Nat} {r : KRow} (h : kFrom kind v k = kFind kind v) (hk : k < 13) (e : kTab.getD k kr0 = r) (h1 : ¬ (r.1 = kind ∧ r.2.1 = v)) : kFrom kind v (k + 1) = kFind kind v := by
  rw [← h, kFrom_step kind v k hk, e, if_neg h1]
/-- Four stores into a block. -/
theorem four_set {w : World} {b : Nat} {x0 x1 x2 x3 : Value} {T : TypeId} {f : Nat × Nat} (h : w.heap[b]? = some (.cells #[x0, x1, x2, x3] T f)) (v0 v1 v2 v3 : Value) :
    ((((w.setCell ⟨b, 0, none⟩ v0).setCell ⟨b, 1, none⟩ v1).setCell ⟨b, 2, none⟩ v2).setCell ⟨b, 3, none⟩ v3).heap[b]? = some (.cells #[v0, v1, v2, v3] T f) :=
  blk_set (blk_set (blk_set (blk_set h 0 _) 1 _) 2 _) 3 _
theorem four_below (w w0 : World) (b : Nat) (v0 v1 v2 v3 : Value) (hb : w0.heap.size ≤ b) (h : Below w0.heap.size w0 w) :
    Below w0.heap.size w0 ((((w.setCell ⟨b, 0, none⟩ v0).setCell ⟨b, 1, none⟩ v1).setCell ⟨b, 2, none⟩ v2).setCell ⟨b, 3, none⟩ v3) :=
  (((h.setCell (p := ⟨b, 0, none⟩) hb v0).setCell (p := ⟨b, 1, none⟩) hb v1).setCell (p := ⟨b, 2, none⟩) hb v2).setCell (p := ⟨b, 3, none⟩) hb v3
set_option maxHeartbeats 4000000 in
set_option maxRecDepth 100000 in
theorem kfind_any (v kind : Int) (p : Nat) (w : World) (hK : KT w) (hp : w.cell? ⟨p, 0, none⟩ = some (.int .i64 kind)) :
    Calls Tryd.prog 132 #[.int .i64 v, .pointer (some ⟨p, 0, none⟩)] w fun e w' => e = .returned (.tuple #[rowV (kRowOf kind v), .bool (kFind kind v).isSome]) ∧ Below w.heap.size w w' := by
  have B0 := below_alloc w (.cells #[.int .i64 0, .int .i64 0, .string ⟨#[]⟩, .string ⟨#[]⟩] 170)
  have hq := Lib.hid (heap_alloc_new w (.cells #[.int .i64 0, .int .i64 0, .string ⟨#[]⟩, .string ⟨#[]⟩] 170))
  have hpl : p < w.heap.size := block_lt_of_cell hp
  have hld := Lib.hid (hK.below B0)
  have hp0 := Lib.hid ((B0.cell (p := ⟨p, 0, none⟩) hpl).trans hp)
  have hs0 := B0.size
  clear hK hp
  go_enter Tryd.func132, Tryd.ntmps132
  go_wp2_with (with_reducible refine wpList_load_kt hld.out ?_)
  clear hld
  go_loopw [8] (fun iv wr => ∃ k : Nat, k ≤ 13 ∧ iv = .int .i64 (k : Int) ∧ Hid (kFrom kind v k = kFind kind v) ∧ Below (w.alloc (.cells #[.int .i64 0, .int .i64 0, .string ⟨#[]⟩, .string ⟨#[]⟩] 170)).heap.size (w.alloc (.cells #[.int .i64 0, .int .i64 0, .string ⟨#[]⟩, .string ⟨#[]⟩] 170)) wr) (fun iv _ => 13 - (intOf iv).toNat)
  case atStart => exact ⟨0, by omega, rfl, Lib.hid rfl, Below.refl _ _⟩
  case round =>
    obtain ⟨k, hk, rfl, HE, hb⟩ := hrel
    have hql : w.heap.size < (w.alloc (.cells #[.int .i64 0, .int .i64 0, .string ⟨#[]⟩, .string ⟨#[]⟩] 170)).heap.size := blk_lt hq.out
    have hqr := blk_below hq.out hb
    have hpr : wr.cell? ⟨p, 0, none⟩ = some (.int .i64 kind) := (hb.cell (p := ⟨p, 0, none⟩) (by show p < _; omega)).trans hp0.out
    have hsz := hb.size
    by_cases hlt : k < 13
    · have hk0 : (0 : Int) ≤ k := by omega
      have hk1 : (k : Int) < 13 := by omega
      have hix := fun w => kIdx k hlt w
      obtain ⟨r, hr⟩ : ∃ r, kTab.getD k kr0 = r := ⟨_, rfl⟩
      rw [hr] at hix
      obtain ⟨a, b, c, d⟩ := r
      rw [rowV_eq] at hix
      have B1 := below_alloc wr (.cells #[.int .i64 a, .int .i64 b, .string ⟨c.toArray⟩, .string ⟨d.toArray⟩] 170)
      have hpr1 := (B1.cell (p := ⟨p, 0, none⟩) (by show p < _; omega)).trans hpr
      by_cases h1 : a = kind
      · by_cases h2 : b = v
        · have HF := Lib.hid (kFrom_hit HE.out hlt hr h1 h2)
          have hq1 := blk_below hqr B1
          have HN := seqB B0 (hb.trans (B1.mono hsz))
          clear HE hr hqr
          subst h1; subst h2
          have zf := fun i => frozen_of_row _ w.heap.size i _ _ hq1
          have zz := fun i => cell_of_row _ _ i _ _ _ hq1
          have z0 := zz 0; have z1 := zz 1; have z2 := zz 2; have z3 := zz 3
          dsimp at z0 z1 z2 z3
          have hql1 := blk_lt hq1
          have hfin := Lib.hid (four_set hq1 (.int .i64 a) (.int .i64 b) (.string ⟨c.toArray⟩) (.string ⟨d.toArray⟩))
          have NF := Lib.hid (four_below _ w w.heap.size (.int .i64 a) (.int .i64 b) (.string ⟨c.toArray⟩) (.string ⟨d.toArray⟩) (Nat.le_refl _) HN)
          clear zz hq1 HN
          go_wp2
          generalize hWF : World.setCell _ _ _ = WF
          have hqf : WF.heap[w.heap.size]? = some (.cells #[.int .i64 a, .int .i64 b, .string ⟨c.toArray⟩, .string ⟨d.toArray⟩] 170 (0, 0)) := by rw [← hWF]; exact hfin.out
          have hN : Below w.heap.size w WF := by rw [← hWF]; exact NF.out
          have y := fun i => cell_of_row _ _ i _ _ _ hqf
          have y0 := y 0; have y1 := y 1; have y2 := y 2; have y3 := y 3
          dsimp at y0 y1 y2 y3
          clear y hqf hWF
          refine bodyPost_ret (v := .tuple #[.agg #[.int .i64 a, .int .i64 b, .string ⟨c.toArray⟩, .string ⟨d.toArray⟩], .bool true]) (by simp [results, Tryd.results132, go_sem, y0, y1, y2, y3]) rfl ?_
          unfold kRowOf
          rw [HF.out]
          exact ⟨rfl, hN⟩
        · have HF := Lib.hid (kFrom_miss HE.out hlt hr (fun h => h2 h.2))
          clear HE hr hqr
          subst h1
          go_wp2
          go_roundw
          case rel => exact ⟨k + 1, by omega, by go_num, HF, hb.trans (B1.mono hsz)⟩
          case measure => (simp [intOf]; try omega)
      · have HF := Lib.hid (kFrom_miss HE.out hlt hr (fun h => h1 h.1))
        clear HE hr hqr
        go_wp2
        go_roundw
        case rel => exact ⟨k + 1, by omega, by go_num, HF, hb.trans (B1.mono hsz)⟩
        case measure => (simp [intOf]; try omega)
    · obtain rfl : k = 13 := by omega
      have HF : Hid (kFind kind v = none) := Lib.hid (by rw [← HE.out]; rfl)
      have HN := seqB B0 hb
      have zf := fun i => frozen_of_row _ w.heap.size i _ _ hqr
      have zz := fun i => cell_of_row _ _ i _ _ _ hqr
      have z0 := zz 0; have z1 := zz 1; have z2 := zz 2; have z3 := zz 3
      dsimp at z0 z1 z2 z3
      have hql1 := blk_lt hqr
      have hfin := Lib.hid (four_set hqr (.int .i64 0) (.int .i64 0) (.string ⟨#[]⟩) (.string ⟨#[]⟩))
      have NF := Lib.hid (four_below _ w w.heap.size (.int .i64 0) (.int .i64 0) (.string ⟨#[]⟩) (.string ⟨#[]⟩) (Nat.le_refl _) HN)
      clear zz hqr HN HE
      go_wp2
      generalize hWF : World.setCell _ _ _ = WF
      have hqf : WF.heap[w.heap.size]? = some (.cells #[.int .i64 0, .int .i64 0, .string ⟨#[]⟩, .string ⟨#[]⟩] 170 (0, 0)) := by rw [← hWF]; exact hfin.out
      have hN : Below w.heap.size w WF := by rw [← hWF]; exact NF.out
      have y := fun i => cell_of_row _ _ i _ _ _ hqf
      have y0 := y 0; have y1 := y 1; have y2 := y 2; have y3 := y 3
      dsimp at y0 y1 y2 y3
      clear y hqf hWF
      refine bodyPost_ret (v := .tuple #[.agg #[.int .i64 0, .int .i64 0, .string ⟨#[]⟩, .string ⟨#[]⟩], .bool false]) (by simp [results, Tryd.results132, go_sem, y0, y1, y2, y3]) rfl ?_
      unfold kRowOf
      rw [HF.out]
      exact ⟨rfl, hN⟩
end Go.Proofs.YtdifkjmpdmlobaaDoor
