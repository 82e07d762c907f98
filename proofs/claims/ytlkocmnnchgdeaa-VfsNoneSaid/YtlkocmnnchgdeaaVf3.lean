/-
  vfs: what no disk answers; a disk's small questions; New.
-/
import Derived.Test.YtlkocmnnchgdeaaVf2
import Derived.Test.YtlkocmnnchgdeaaArgU8
import Derived.Deep.RegionHeld3
set_option linter.unusedVariables false
set_option linter.unusedSimpArgs false
namespace Go.Proofs.Ytlkocmnnchgdeaa
set_option maxRecDepth 100000
open Go.RowKit
theorem vup_nil (w : World) : Calls Try.prog 15 #[.pointer none] w fun e w' => e = .returned (.int .i64 1) ∧ w = w' := by
  go_enter Try.func15, Try.ntmps15
  go_wp2
  go_ret
  exact ⟨rfl, rfl⟩
theorem vpower_nil (w : World) : Calls Try.prog 5 #[.pointer none] w fun e w' => e = .returned (.tuple #[]) ∧ w = w' := by
  go_enter Try.func5, Try.ntmps5
  go_wp2
  first | refine bodyPost_end (results_none rfl _ _ _) rfl ?_ | refine bodyPost_ret (results_none rfl _ _ _) rfl ?_
  exact ⟨rfl, rfl⟩
theorem vread_nil (s : ByteArray) (w : World) : Calls Try.prog 6 #[.pointer none, .string s] w fun e w' => e = .returned (.tuple #[.string ⟨#[]⟩, .int .i64 1]) ∧ w = w' := by
  go_enter Try.func6, Try.ntmps6
  go_wp2_with (go_at_call 15; refine (vup_nil _).mono ?_; rintro e w' ⟨rfl, h⟩; subst h)
  refine bodyPost_ret (results_tmp2 rfl _ _ _) rfl ?_
  exact ⟨rfl, rfl⟩
theorem vwrite_nil (s t : ByteArray) (w : World) : Calls Try.prog 8 #[.pointer none, .string s, .string t] w fun e w' => e = .returned (.int .i64 1) ∧ w = w' := by
  go_enter Try.func8, Try.ntmps8
  go_wp2_with (go_at_call 15; refine (vup_nil _).mono ?_; rintro e w' ⟨rfl, h⟩; subst h)
  go_ret
  exact ⟨rfl, rfl⟩
theorem vrename_nil (s t : ByteArray) (w : World) : Calls Try.prog 10 #[.pointer none, .string s, .string t] w fun e w' => e = .returned (.int .i64 1) ∧ w = w' := by
  go_enter Try.func10, Try.ntmps10
  go_wp2_with (go_at_call 15; refine (vup_nil _).mono ?_; rintro e w' ⟨rfl, h⟩; subst h)
  go_ret
  exact ⟨rfl, rfl⟩
theorem vremove_nil (s : ByteArray) (w : World) : Calls Try.prog 11 #[.pointer none, .string s] w fun e w' => e = .returned (.int .i64 1) ∧ w = w' := by
  go_enter Try.func11, Try.ntmps11
  go_wp2_with (go_at_call 15; refine (vup_nil _).mono ?_; rintro e w' ⟨rfl, h⟩; subst h)
  go_ret
  exact ⟨rfl, rfl⟩
theorem vsync_nil (w : World) : Calls Try.prog 9 #[.pointer none] w fun e w' => e = .returned (.int .i64 1) ∧ Below w.heap.size w w' := by
  have HB := Lib.hid (below_alloc w (.cells #[.pointer none] 24))
  go_enter Try.func9, Try.ntmps9
  go_wp2_with (go_at_call 15; refine (vup_nil _).mono ?_; rintro e w' ⟨rfl, h⟩; subst h)
  go_ret
  exact ⟨rfl, HB.out⟩
theorem vdown_nil (w : World) : Calls Try.prog 12 #[.pointer none] w fun e w' => e = .returned (.bool true) ∧ w = w' := by
  go_enter Try.func12, Try.ntmps12
  go_wp2
  go_ret
  exact ⟨rfl, rfl⟩
theorem vops_nil (w : World) : Calls Try.prog 13 #[.pointer none] w fun e w' => e = .returned (.int .i64 0) ∧ w = w' := by
  go_enter Try.func13, Try.ntmps13
  go_wp2
  go_ret
  exact ⟨rfl, rfl⟩
theorem vnames_nil (w : World) : Calls Try.prog 14 #[.pointer none] w fun e w' => e = .returned (.slice none 0 0) ∧ w = w' := by
  go_enter Try.func14, Try.ntmps14
  go_wp2_with (go_at_call 15; refine (vup_nil _).mono ?_; rintro e w' ⟨rfl, h⟩; subst h)
  go_ret
  exact ⟨rfl, rfl⟩
section
variable {B P : Nat} {D : VD} {ops : Int} {down : Bool} {g2 g3 : Value} {w w' : World}
theorem Dk.cells (h : Dk B P D ops down g2 g3 w) : w.cell? ⟨P, 0, none⟩ = some (.map (some D.b1)) ∧ w.cell? ⟨P, 1, none⟩ = some g2 ∧ w.cell? ⟨P, 2, none⟩ = some g3 ∧ w.cell? ⟨P, 3, none⟩ = some D.cv ∧ w.cell? ⟨P, 4, none⟩ = some (.int .i64 ops) ∧ w.cell? ⟨P, 5, none⟩ = some (.bool down) ∧ ∀ i, w.frozen? ⟨P, i, none⟩ = false := by
  have y := fun i => cell_of_row _ _ i _ _ _ h.blk
  exact ⟨y 0, y 1, y 2, y 3, y 4, y 5, fun i => frozen_of_row _ P i _ _ h.blk⟩
theorem vup_any (h : Dk B P D ops down g2 g3 w) : Calls Try.prog 15 #[.pointer (some ⟨P, 0, none⟩)] w fun e w' => e = .returned (.int .i64 (if down then 9 else 0)) ∧ w = w' := by
  obtain ⟨_, _, _, _, _, y5, _⟩ := h.cells
  cases down with
  | true =>
    go_enter Try.func15, Try.ntmps15
    go_wp2
    go_ret
    exact ⟨rfl, rfl⟩
  | false =>
    go_enter Try.func15, Try.ntmps15
    go_wp2
    go_ret
    exact ⟨rfl, rfl⟩
theorem vup_ok (h : Dk B P D ops false g2 g3 w) : Calls Try.prog 15 #[.pointer (some ⟨P, 0, none⟩)] w fun e w' => e = .returned (.int .i64 0) ∧ w = w' := vup_any h
theorem vdown_any (h : Dk B P D ops down g2 g3 w) : Calls Try.prog 12 #[.pointer (some ⟨P, 0, none⟩)] w fun e w' => e = .returned (.bool down) ∧ w = w' := by
  obtain ⟨_, _, _, _, _, y5, _⟩ := h.cells
  clear h
  go_enter Try.func12, Try.ntmps12
  go_wp2
  go_ret
  exact ⟨rfl, rfl⟩
theorem vops_any (h : Dk B P D ops down g2 g3 w) : Calls Try.prog 13 #[.pointer (some ⟨P, 0, none⟩)] w fun e w' => e = .returned (.int .i64 ops) ∧ w = w' := by
  obtain ⟨_, _, _, _, y4, _, _⟩ := h.cells
  clear h
  go_enter Try.func13, Try.ntmps13
  go_wp2
  go_ret
  exact ⟨rfl, rfl⟩
theorem vpower_any (h : Dk B P D ops down g2 g3 w) : Calls Try.prog 5 #[.pointer (some ⟨P, 0, none⟩)] w fun e w' => e = .returned (.tuple #[]) ∧ Dk B P D ops false g2 g3 w' ∧ Below B w w' := by
  obtain ⟨_, _, _, _, _, y5, yf⟩ := h.cells
  have H := Lib.hid (h.put 5 (.bool false) (ops' := ops) (down' := false) (g2' := g2) (g3' := g3) rfl)
  clear h
  go_enter Try.func5, Try.ntmps5
  go_wp2
  first | refine bodyPost_end (results_none rfl _ _ _) rfl ?_ | refine bodyPost_ret (results_none rfl _ _ _) rfl ?_
  exact ⟨rfl, H.out.1, H.out.2⟩
/-- The function that looks a name up. -/
theorem vlook_yes {t s : ByteArray} {q : Nat} (h : Dk B P D ops down (.map (some D.b2)) g3 w) (hq : w.cell? ⟨q, 0, none⟩ = some (.pointer (some ⟨P, 0, none⟩))) (ht : t.size ≤ maxLen) (hf : D.f2 t.data.toList = some s) : Calls Try.prog 25 #[.string t, .pointer (some ⟨q, 0, none⟩)] w fun e w' => e = .returned (.tuple #[.string s, .int .i64 0]) ∧ Below w.heap.size w w' := by
  obtain ⟨_, y1, _⟩ := h.cells
  have hl := h.m2.look_yes ht hf
  have HB := Lib.hid (below_alloc w (.cells #[.string s] 55))
  have hr := heap_alloc_new w (.cells #[.string s] 55)
  have z0 := cell_of_row _ _ 0 _ _ _ hr
  dsimp at z0
  clear h hr
  go_enter Try.func25, Try.ntmps25
  go_wp2
  refine bodyPost_ret (results_tmp2 rfl _ _ _) rfl ?_
  exact ⟨rfl, HB.out⟩
theorem vlook_no {t : ByteArray} {q : Nat} (h : Dk B P D ops down (.map (some D.b2)) g3 w) (hq : w.cell? ⟨q, 0, none⟩ = some (.pointer (some ⟨P, 0, none⟩))) (ht : t.size ≤ maxLen) (hf : D.f2 t.data.toList = none) : Calls Try.prog 25 #[.string t, .pointer (some ⟨q, 0, none⟩)] w fun e w' => e = .returned (.tuple #[.string ⟨#[]⟩, .int .i64 7]) ∧ Below w.heap.size w w' := by
  obtain ⟨_, y1, _⟩ := h.cells
  have hl := h.m2.look_no ht hf
  have HB := Lib.hid (below_alloc w (.cells #[.string ⟨#[]⟩] 55))
  have hr := heap_alloc_new w (.cells #[.string ⟨#[]⟩] 55)
  have z0 := cell_of_row _ _ 0 _ _ _ hr
  dsimp at z0
  clear h hr
  go_enter Try.func25, Try.ntmps25
  go_wp2
  refine bodyPost_ret (results_tmp2 rfl _ _ _) rfl ?_
  exact ⟨rfl, HB.out⟩
theorem vlooker_any (p : Option Addr) (w : World) : Calls Try.prog 16 #[.pointer p] w fun e w' => ∃ q, e = .returned (.func (.func 25) #[] #[.pointer (some ⟨q, 0, none⟩)]) ∧ w'.cell? ⟨q, 0, none⟩ = some (.pointer p) ∧ Below w.heap.size w w' := by
  have hmf : ∀ (fn : Fn) (first cap : Array Value) (w : World), (Instr.makeFunc fn first cap).run Try.prog w = .ok (.func fn first cap) w := fun _ _ _ _ => rfl
  have HB := Lib.hid (below_alloc w (.cells #[.pointer p] 24))
  have HR := Lib.hid (cell_of_row _ _ 0 _ _ _ (heap_alloc_new w (.cells #[.pointer p] 24)))
  go_enter Try.func16, Try.ntmps16
  go_wp2
  go_ret
  exact ⟨_, rfl, HR.out, HB.out⟩
theorem vread_yes {t s : ByteArray} (h : DkS B P D ops false w) (ht : t.size ≤ maxLen) (hf : D.f2 t.data.toList = some s) : Calls Try.prog 6 #[.pointer (some ⟨P, 0, none⟩), .string t] w fun e w' => e = .returned (.tuple #[.string s, .int .i64 0]) ∧ Below w.heap.size w w' := by
  have H := Lib.hid h
  have UP := Lib.hid (vup_ok h)
  clear h
  go_enter Try.func6, Try.ntmps6
  go_wp2_with (first
    | (go_at_call 15; refine UP.out.mono ?_; rintro e w1 ⟨rfl, h1⟩; subst h1)
    | (go_at_call 16; refine (vlooker_any _ _).mono ?_; rintro e w2 ⟨q, rfl, hq, hb2⟩; have B2 := Lib.hid hb2; have H2 := Lib.hid (H.out.below hb2); have HQ := Lib.hid hq; clear hb2 hq)
    | (go_at_call 25; refine (vlook_yes H2.out HQ.out ht hf).mono ?_; rintro e w3 ⟨rfl, hb3⟩; have B3 := Lib.hid (seqB B2.out hb3); clear hb3))
  refine bodyPost_ret (results_tmp2 rfl _ _ _) rfl ?_
  exact ⟨rfl, B3.out⟩
theorem vremove_none {t : ByteArray} (h : DkS B P D ops false w) (ht : t.size ≤ maxLen) (ht0 : t.toList.isEmpty = false) (hf : D.f2 t.data.toList = none) : Calls Try.prog 11 #[.pointer (some ⟨P, 0, none⟩), .string t] w fun e w' => e = .returned (.int .i64 7) ∧ Below w.heap.size w w' := by
  have H := Lib.hid h
  have UP := Lib.hid (vup_ok h)
  clear h
  go_enter Try.func11, Try.ntmps11
  go_wp2_with (first
    | (go_at_call 15; refine UP.out.mono ?_; rintro e w1 ⟨rfl, h1⟩; subst h1)
    | (go_at_call 16; refine (vlooker_any _ _).mono ?_; rintro e w2 ⟨q, rfl, hq, hb2⟩; have B2 := Lib.hid hb2; have H2 := Lib.hid (H.out.below hb2); have HQ := Lib.hid hq; clear hb2 hq)
    | (go_at_call 25; refine (vlook_no H2.out HQ.out ht hf).mono ?_; rintro e w3 ⟨rfl, hb3⟩; have B3 := Lib.hid (seqB B2.out hb3); clear hb3))
  go_ret
  exact ⟨rfl, B3.out⟩
end
end Go.Proofs.Ytlkocmnnchgdeaa
