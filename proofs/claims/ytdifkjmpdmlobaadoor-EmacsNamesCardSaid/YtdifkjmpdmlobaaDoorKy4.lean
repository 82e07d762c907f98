/-
  Keys: which may be.
-/
import Derived.Test.YtdifkjmpdmlobaaDoorKy3
set_option linter.unusedVariables false
set_option linter.unusedSimpArgs false
namespace Go.Proofs.YtdifkjmpdmlobaaDoor
set_option maxRecDepth 100000
open Go.RowKit
theorem kcell (w : World) (v : Value) (t : TypeId) : (w.alloc (.cells #[v] t)).cell? ⟨w.heap.size, 0, none⟩ = some v := by rw [World.cell?_alloc_new]; rfl
theorem may_sign (v : Int) : mayB 1 v = (decide (32 ≤ v) && decide (v ≠ 127) && rightB v) := by unfold mayB; rw [if_pos rfl]
theorem may_ctrl (v : Int) : mayB 2 v = ctB v := by unfold mayB; rw [if_neg (by decide), if_pos rfl]
theorem may_meta (v : Int) : mayB 3 v = (decide (0 ≤ v ∧ v < 128) && !lnB v) := by unfold mayB; rw [if_neg (by decide), if_neg (by decide), if_pos rfl]
theorem may_other (kind v : Int) (h1 : kind ≠ 1) (h2 : kind ≠ 2) (h3 : kind ≠ 3) : mayB kind v = (kFind kind v).isSome := by unfold mayB; rw [if_neg h1, if_neg h2, if_neg h3]
set_option maxHeartbeats 2000000 in
set_option maxRecDepth 100000 in
theorem kmay_any (kind v : Int) (w : World) (hK : KT w) : Calls Tryd.prog 100 #[.int .i64 kind, .int .i64 v] w fun e w' => e = .returned (.bool (mayB kind v)) ∧ Below w.heap.size w w' := by
  by_cases h1 : kind = 1
  · subst h1
    rw [may_sign]
    have R := Lib.hid fun w => right_any v w
    clear hK
    by_cases h32 : 32 ≤ v
    · by_cases h127 : v = 127
      · subst h127
        go_enter Tryd.func100, Tryd.ntmps100
        go_wp2_with fail
        go_ret
        exact ⟨rfl, Below.refl _ _⟩
      · rw [decide_eq_true h32, decide_eq_true h127]
        go_enter Tryd.func100, Tryd.ntmps100
        go_wp2_with (go_at_call 94; refine (R.out _).mono ?_; rintro e w1 ⟨rfl, rfl⟩)
        go_ret
        refine ⟨?_, Below.refl _ _⟩
        show Ending.returned (.bool (v != 127 && rightB v)) = _
        rw [show (v != 127) = true by simp [h127]]
        rfl
    · rw [decide_eq_false h32]
      go_enter Tryd.func100, Tryd.ntmps100
      go_wp2_with fail
      go_ret
      exact ⟨rfl, Below.refl _ _⟩
  by_cases h2 : kind = 2
  · subst h2
    rw [may_ctrl]
    have L := Lib.hid fun w => lineByte_any v w
    clear hK h1
    by_cases h0 : 0 ≤ v
    · by_cases h32 : v < 32
      · have e : ctB v = !lnB v := by unfold ctB; rw [decide_eq_true (by omega)]; rfl
        rw [e]
        go_enter Tryd.func100, Tryd.ntmps100
        go_wp2_with (go_at_call 119; refine (L.out _).mono ?_; rintro e w1 ⟨rfl, hb1⟩)
        go_ret
        exact ⟨rfl, hb1⟩
      · have e : ctB v = false := by unfold ctB; rw [decide_eq_false (by omega)]; rfl
        rw [e]
        go_enter Tryd.func100, Tryd.ntmps100
        go_wp2_with fail
        go_ret
        exact ⟨rfl, Below.refl _ _⟩
    · have e : ctB v = false := by unfold ctB; rw [decide_eq_false (by omega)]; rfl
      rw [e]
      go_enter Tryd.func100, Tryd.ntmps100
      go_wp2_with fail
      go_ret
      exact ⟨rfl, Below.refl _ _⟩
  by_cases h3 : kind = 3
  · subst h3
    rw [may_meta]
    have L := Lib.hid fun w => lineByte_any v w
    clear hK h1 h2
    by_cases h0 : 0 ≤ v
    · by_cases h32 : v < 128
      · rw [decide_eq_true ⟨h0, h32⟩]
        go_enter Tryd.func100, Tryd.ntmps100
        go_wp2_with (go_at_call 119; refine (L.out _).mono ?_; rintro e w1 ⟨rfl, hb1⟩)
        go_ret
        exact ⟨rfl, hb1⟩
      · rw [decide_eq_false (by omega)]
        go_enter Tryd.func100, Tryd.ntmps100
        go_wp2_with fail
        go_ret
        exact ⟨rfl, Below.refl _ _⟩
    · rw [decide_eq_false (by omega)]
      go_enter Tryd.func100, Tryd.ntmps100
      go_wp2_with fail
      go_ret
      exact ⟨rfl, Below.refl _ _⟩
  · rw [may_other kind v h1 h2 h3]
    have B0 := below_alloc w (.cells #[.int .i64 kind] 3)
    have F := kfind_any v kind w.heap.size (w.alloc (.cells #[.int .i64 kind] 3)) (hK.below B0) (kcell _ _ _)
    obtain ⟨r, hr⟩ : ∃ r, kRowOf kind v = r := ⟨_, rfl⟩
    rw [hr] at F
    obtain ⟨a, b, c, d⟩ := r
    rw [rowV_eq] at F
    generalize (kFind kind v).isSome = q at *
    replace F := Lib.hid F
    clear hK hr
    go_enter Tryd.func100, Tryd.ntmps100
    go_wp2_with (first
      | (go_at_call 120; refine (kfinder_any _ _).mono ?_; rintro e w1 ⟨rfl, rfl⟩)
      | (go_at_call 132; refine F.out.mono ?_; rintro e w1 ⟨rfl, hb1⟩))
    go_ret
    exact ⟨rfl, seqB (seqB B0 hb1) (below_alloc _ _)⟩
/-- A key as a value. -/
def kyV (k : Ky) : Value := .agg #[.int .i64 k.1, .int .i64 k.2.1, .string k.2.2.1, .bool k.2.2.2]
theorem key_paste (v : Int) (t : ByteArray) (c : Bool) : keyB (15, v, t, c) = (decide (v = 0) && decide (t.size ≤ 65536)) := by unfold keyB; rw [if_pos rfl]
theorem key_other (kind v : Int) (t : ByteArray) (c : Bool) (h : kind ≠ 15) : keyB (kind, v, t, c) = (decide (t.size = 0) && !c && mayB kind v) := by unfold keyB; rw [if_neg h]
theorem kstr_ne {s t : ByteArray} (h : ¬ s = t) : (s.toList == t.toList) = false ∧ (s.toList != t.toList) = true ∧ ¬ s.toList = t.toList := by
  have h1 : ¬ s.toList = t.toList := by rw [ByteArray.toList_eq, ByteArray.toList_eq]; intro e; exact h (ByteArray.ext (Array.ext' e))
  exact ⟨by simpa using h1, by simpa using h1, h1⟩
theorem kstr_nil {t : ByteArray} (h : ¬ t = ⟨#[]⟩) : ¬ t.toList = [] := by
  have h1 := (kstr_ne h).2.2
  rwa [show (⟨#[]⟩ : ByteArray).toList = [] by rw [ByteArray.toList_eq]] at h1
def ckE (k : Ky) : Int := if keyB k then 0 else 2
theorem ckE_yes {k : Ky} (h : keyB k = true) : ckE k = 0 := by unfold ckE; rw [h]; rfl
theorem ckE_no {k : Ky} (h : keyB k = false) : ckE k = 2 := by unfold ckE; rw [h]; rfl
set_option maxHeartbeats 2000000 in
set_option maxRecDepth 100000 in
theorem kcheck_any (k : Ky) (w : World) (hK : KT w) : Calls Tryd.prog 82 #[kyV k] w fun e w' => e = .returned (.int .i64 (ckE k)) ∧ Below w.heap.size w w' := by
  obtain ⟨kind, v, t, c⟩ := k
  show Calls _ _ #[.agg #[.int .i64 kind, .int .i64 v, .string t, .bool c]] _ _
  have B0 := below_alloc w (.cells #[.int .i64 kind, .int .i64 v, .string t, .bool c] 107)
  by_cases h15 : kind = 15
  · subst h15
    clear hK
    by_cases hv : v = 0
    · subst hv
      by_cases ht : t.size ≤ 65536
      · have e : Hid (ckE (15, 0, t, c) = 0) := Lib.hid (ckE_yes (by rw [key_paste, decide_eq_true rfl, decide_eq_true ht]; rfl))
        have ht' : (t.size : Int) ≤ 65536 := by omega
        go_enter Tryd.func82, Tryd.ntmps82
        go_wp2_with fail
        go_ret
        rw [e.out]; exact ⟨rfl, B0⟩
      · have e : Hid (ckE (15, 0, t, c) = 2) := Lib.hid (ckE_no (by rw [key_paste, decide_eq_false ht]; simp))
        have ht' : ¬ (t.size : Int) ≤ 65536 := by omega
        go_enter Tryd.func82, Tryd.ntmps82
        go_wp2_with fail
        go_ret
        rw [e.out]; exact ⟨rfl, B0⟩
    · have e : Hid (ckE (15, v, t, c) = 2) := Lib.hid (ckE_no (by rw [key_paste, decide_eq_false hv]; rfl))
      go_enter Tryd.func82, Tryd.ntmps82
      go_wp2_with fail
      go_ret
      rw [e.out]; exact ⟨rfl, B0⟩
  · by_cases ht : t = ⟨#[]⟩
    · subst ht
      cases c with
      | true =>
        have e : Hid (ckE (kind, v, ⟨#[]⟩, true) = 2) := Lib.hid (ckE_no (by rw [key_other _ _ _ _ h15]; simp))
        clear hK
        go_enter Tryd.func82, Tryd.ntmps82
        go_wp2_with fail
        go_ret
        rw [e.out]; exact ⟨rfl, B0⟩
      | false =>
        have M := kmay_any kind v (w.alloc (.cells #[.int .i64 kind, .int .i64 v, .string ⟨#[]⟩, .bool false] 107)) (hK.below B0)
        have e : keyB (kind, v, ⟨#[]⟩, false) = mayB kind v := by rw [key_other _ _ _ _ h15]; show (decide (0 = 0) && !false && mayB kind v) = _; simp
        have e2 : ckE (kind, v, ⟨#[]⟩, false) = if mayB kind v then 0 else 2 := by unfold ckE; rw [e]
        rw [e2]
        clear e e2 hK
        cases hm : mayB kind v with
        | true =>
          rw [hm] at M
          replace M := Lib.hid M
          clear hm
          go_enter Tryd.func82, Tryd.ntmps82
          go_wp2_with (go_at_call 100; refine M.out.mono ?_; rintro e w1 ⟨rfl, hb1⟩)
          go_ret
          exact ⟨rfl, seqB B0 hb1⟩
        | false =>
          rw [hm] at M
          replace M := Lib.hid M
          clear hm
          go_enter Tryd.func82, Tryd.ntmps82
          go_wp2_with (go_at_call 100; refine M.out.mono ?_; rintro e w1 ⟨rfl, hb1⟩)
          go_ret
          exact ⟨rfl, seqB B0 hb1⟩
    · have e : Hid (ckE (kind, v, t, c) = 2) := Lib.hid (ckE_no (by rw [key_other _ _ _ _ h15, decide_eq_false (fun h => ht (kzero h))]; rfl))
      have s3 : ¬ t.toList = [] := kstr_nil ht
      clear hK
      go_enter Tryd.func82, Tryd.ntmps82
      go_wp2_with fail
      go_ret
      rw [e.out]; exact ⟨rfl, B0⟩
end Go.Proofs.YtdifkjmpdmlobaaDoor
