/-
  Joined: Ky4 Em1 Em2 Ud1 Ud2 Ud3 Ud4 Sp1 Sp2 Sp3 Ky5 Ky6.
-/
import Derived.Test.YtgnhnalaakgamaaDoorJB04
import Derived.Test.YtgnhnalaakgamaaDoorJB05
import Derived.Test.YtgnhnalaakgamaaDoorJB07
import Derived.Test.YtgnhnalaakgamaaDoorJB08
import Derived.Lib.AppendZerosOnto
import Derived.Lib.SliceRun
import Derived.BigQuiet
import Derived.BigRegion
import Derived.Lib.Overlaps
import Derived.Test.YtgnhnalaakgamaaDoorShelf
import Derived.Lib.UnsafeStr
import Derived.Deep.Cut
set_option linter.unusedVariables false
set_option linter.unusedSimpArgs false
set_option maxRecDepth 100000
set_option linter.unusedVariables false
set_option linter.unusedSimpArgs false
namespace Go.Proofs.YtgnhnalaakgamaaDoor
open Go.RowKit
theorem kcell (w : World) (v : Value) (t : TypeId) : (w.alloc (.cells #[v] t)).cell? ⟨w.heap.size, 0, none⟩ = some v := by rw [World.cell?_alloc_new]; rfl
theorem may_sign (v : Int) : kmB 1 v = (decide (32 ≤ v) && decide (v ≠ 127) && rightB v) := by unfold kmB; rw [if_pos rfl]
theorem may_ctrl (v : Int) : kmB 2 v = ctB v := by unfold kmB; rw [if_neg (by decide), if_pos rfl]
theorem may_meta (v : Int) : kmB 3 v = (decide (0 ≤ v ∧ v < 128) && !lnB v) := by unfold kmB; rw [if_neg (by decide), if_neg (by decide), if_pos rfl]
theorem may_other (kind v : Int) (h1 : kind ≠ 1) (h2 : kind ≠ 2) (h3 : kind ≠ 3) : kmB kind v = (kFind kind v).isSome := by unfold kmB; rw [if_neg h1, if_neg h2, if_neg h3]
set_option maxHeartbeats 2000000 in
set_option maxRecDepth 100000 in
theorem kmay_any (kind v : Int) (w : World) (hK : KT w) : Calls Tryd.prog 51 #[.int .i64 kind, .int .i64 v] w fun e w' => e = .returned (.bool (kmB kind v)) ∧ Below w.heap.size w w' := by
  by_cases h1 : kind = 1
  · subst h1
    rw [may_sign]
    have R := Lib.hid fun w => right_any v w
    clear hK
    by_cases h32 : 32 ≤ v
    · by_cases h127 : v = 127
      · subst h127
        go_enter Tryd.func51, Tryd.ntmps51
        go_wp2_with fail
        go_ret
        exact ⟨rfl, Below.refl _ _⟩
      · rw [decide_eq_true h32, decide_eq_true h127]
        go_enter Tryd.func51, Tryd.ntmps51
        go_wp2_with (go_at_call 68; refine (R.out _).mono ?_; rintro e w1 ⟨rfl, rfl⟩)
        go_ret
        refine ⟨?_, Below.refl _ _⟩
        show Ending.returned (.bool (v != 127 && rightB v)) = _
        rw [show (v != 127) = true by simp [h127]]
        rfl
    · rw [decide_eq_false h32]
      go_enter Tryd.func51, Tryd.ntmps51
      go_wp2_with fail
      go_ret
      exact ⟨rfl, Below.refl _ _⟩
  by_cases h2 : kind = 2
  · subst h2
    rw [may_ctrl]
    have L := Lib.hid fun w => lineByte_any v w
    clear hK h1
    by_cases h0 : 0 ≤ v
    · by_cases h32 : v < 32
      · have e : ctB v = !lnB v := by unfold ctB; rw [decide_eq_true (by omega)]; rfl
        rw [e]
        go_enter Tryd.func51, Tryd.ntmps51
        go_wp2_with (go_at_call 69; refine (L.out _).mono ?_; rintro e w1 ⟨rfl, hb1⟩)
        go_ret
        exact ⟨rfl, hb1⟩
      · have e : ctB v = false := by unfold ctB; rw [decide_eq_false (by omega)]; rfl
        rw [e]
        go_enter Tryd.func51, Tryd.ntmps51
        go_wp2_with fail
        go_ret
        exact ⟨rfl, Below.refl _ _⟩
    · have e : ctB v = false := by unfold ctB; rw [decide_eq_false (by omega)]; rfl
      rw [e]
      go_enter Tryd.func51, Tryd.ntmps51
      go_wp2_with fail
      go_ret
      exact ⟨rfl, Below.refl _ _⟩
  by_cases h3 : kind = 3
  · subst h3
    rw [may_meta]
    have L := Lib.hid fun w => lineByte_any v w
    clear hK h1 h2
    by_cases h0 : 0 ≤ v
    · by_cases h32 : v < 128
      · rw [decide_eq_true ⟨h0, h32⟩]
        go_enter Tryd.func51, Tryd.ntmps51
        go_wp2_with (go_at_call 69; refine (L.out _).mono ?_; rintro e w1 ⟨rfl, hb1⟩)
        go_ret
        exact ⟨rfl, hb1⟩
      · rw [decide_eq_false (by omega)]
        go_enter Tryd.func51, Tryd.ntmps51
        go_wp2_with fail
        go_ret
        exact ⟨rfl, Below.refl _ _⟩
    · rw [decide_eq_false (by omega)]
      go_enter Tryd.func51, Tryd.ntmps51
      go_wp2_with fail
      go_ret
      exact ⟨rfl, Below.refl _ _⟩
  · rw [may_other kind v h1 h2 h3]
    have B0 := below_alloc w (.cells #[.int .i64 kind] 3)
    have F := kfind_any v kind w.heap.size (w.alloc (.cells #[.int .i64 kind] 3)) (hK.below B0) (kcell _ _ _)
    obtain ⟨r, hr⟩ : ∃ r, kRowOf kind v = r := ⟨_, rfl⟩
    rw [hr] at F
    obtain ⟨a, b, c, d⟩ := r
    rw [rowV_eq] at F
    generalize (kFind kind v).isSome = q at *
    replace F := Lib.hid F
    clear hK hr
    go_enter Tryd.func51, Tryd.ntmps51
    go_wp2_with (first
      | (go_at_call 48; refine (kfinder_any _ _).mono ?_; rintro e w1 ⟨rfl, rfl⟩)
      | (go_at_call 65; refine F.out.mono ?_; rintro e w1 ⟨rfl, hb1⟩))
    go_ret
    exact ⟨rfl, seqB (seqB B0 hb1) (below_alloc _ _)⟩
/-- A key as a value. -/
def kyV (k : Ky) : Value := .agg #[.int .i64 k.1, .int .i64 k.2.1, .string k.2.2.1, .bool k.2.2.2]
theorem key_paste (v : Int) (t : ByteArray) (c : Bool) : keyB (15, v, t, c) = (decide (v = 0) && decide (t.size ≤ 65536)) := by unfold keyB; rw [if_pos rfl]
theorem key_other (kind v : Int) (t : ByteArray) (c : Bool) (h : kind ≠ 15) : keyB (kind, v, t, c) = (decide (t.size = 0) && !c && kmB kind v) := by unfold keyB; rw [if_neg h]
theorem kstr_ne {s t : ByteArray} (h : ¬ s = t) : (s.toList == t.toList) = false ∧ (s.toList != t.toList) = true ∧ ¬ s.toList = t.toList := by
  have h1 : ¬ s.toList = t.toList := by rw [ByteArray.toList_eq, ByteArray.toList_eq]; intro e; exact h (ByteArray.ext (Array.ext' e))
  exact ⟨by simpa using h1, by simpa using h1, h1⟩
theorem kstr_nil {t : ByteArray} (h : ¬ t = ⟨#[]⟩) : ¬ t.toList = [] := by
  have h1 := (kstr_ne h).2.2
  rwa [show (⟨#[]⟩ : ByteArray).toList = [] by rw [ByteArray.toList_eq]] at h1
def ckE (k : Ky) : Int := if keyB k then 0 else 2
theorem ckE_yes {k : Ky} (h : keyB k = true) : ckE k = 0 := by unfold ckE; rw [h]; rfl
theorem ckE_no {k : Ky} (h : keyB k = false) : ckE k = 2 := by unfold ckE; rw [h]; rfl
set_option maxHeartbeats 2000000 in
set_option maxRecDepth 100000 in
theorem kcheck_any (k : Ky) (w : World) (hK : KT w) : Calls Tryd.prog 36 #[kyV k] w fun e w' => e = .returned (.int .i64 (ckE k)) ∧ Below w.heap.size w w' := by
  obtain ⟨kind, v, t, c⟩ := k
  show Calls _ _ #[.agg #[.int .i64 kind, .int .i64 v, .string t, .bool c]] _ _
  have B0 := below_alloc w (.cells #[.int .i64 kind, .int .i64 v, .string t, .bool c] 34)
  by_cases h15 : kind = 15
  · subst h15
    clear hK
    by_cases hv : v = 0
    · subst hv
      by_cases ht : t.size ≤ 65536
      · have e : Hid (ckE (15, 0, t, c) = 0) := Lib.hid (ckE_yes (by rw [key_paste, decide_eq_true rfl, decide_eq_true ht]; rfl))
        have ht' : (t.size : Int) ≤ 65536 := by omega
        go_enter Tryd.func36, Tryd.ntmps36
        go_wp2_with fail
        go_ret
        rw [e.out]; exact ⟨rfl, B0⟩
      · have e : Hid (ckE (15, 0, t, c) = 2) := Lib.hid (ckE_no (by rw [key_paste, decide_eq_false ht]; simp))
        have ht' : ¬ (t.size : Int) ≤ 65536 := by omega
        go_enter Tryd.func36, Tryd.ntmps36
        go_wp2_with fail
        go_ret
        rw [e.out]; exact ⟨rfl, B0⟩
    · have e : Hid (ckE (15, v, t, c) = 2) := Lib.hid (ckE_no (by rw [key_paste, decide_eq_false hv]; rfl))
      go_enter Tryd.func36, Tryd.ntmps36
      go_wp2_with fail
      go_ret
      rw [e.out]; exact ⟨rfl, B0⟩
  · by_cases ht : t = ⟨#[]⟩
    · subst ht
      cases c with
      | true =>
        have e : Hid (ckE (kind, v, ⟨#[]⟩, true) = 2) := Lib.hid (ckE_no (by rw [key_other _ _ _ _ h15]; simp))
        clear hK
        go_enter Tryd.func36, Tryd.ntmps36
        go_wp2_with fail
        go_ret
        rw [e.out]; exact ⟨rfl, B0⟩
      | false =>
        have M := kmay_any kind v (w.alloc (.cells #[.int .i64 kind, .int .i64 v, .string ⟨#[]⟩, .bool false] 34)) (hK.below B0)
        have e : keyB (kind, v, ⟨#[]⟩, false) = kmB kind v := by rw [key_other _ _ _ _ h15]; show (decide (0 = 0) && !false && kmB kind v) = _; simp
        have e2 : ckE (kind, v, ⟨#[]⟩, false) = if kmB kind v then 0 else 2 := by unfold ckE; rw [e]
        rw [e2]
        clear e e2 hK
        cases hm : kmB kind v with
        | true =>
          rw [hm] at M
          replace M := Lib.hid M
          clear hm
          go_enter Tryd.func36, Tryd.ntmps36
          go_wp2_with (go_at_call 51; refine M.out.mono ?_; rintro e w1 ⟨rfl, hb1⟩)
          go_ret
          exact ⟨rfl, seqB B0 hb1⟩
        | false =>
          rw [hm] at M
          replace M := Lib.hid M
          clear hm
          go_enter Tryd.func36, Tryd.ntmps36
          go_wp2_with (go_at_call 51; refine M.out.mono ?_; rintro e w1 ⟨rfl, hb1⟩)
          go_ret
          exact ⟨rfl, seqB B0 hb1⟩
    · have e : Hid (ckE (kind, v, t, c) = 2) := Lib.hid (ckE_no (by rw [key_other _ _ _ _ h15, decide_eq_false (fun h => ht (kzero h))]; rfl))
      have s3 : ¬ t.toList = [] := kstr_nil ht
      clear hK
      go_enter Tryd.func36, Tryd.ntmps36
      go_wp2_with fail
      go_ret
      rw [e.out]; exact ⟨rfl, B0⟩
end Go.Proofs.YtgnhnalaakgamaaDoor
set_option linter.unusedVariables false
set_option linter.unusedSimpArgs false
namespace Go.Proofs.YtgnhnalaakgamaaDoor
open Go.RowKit
/-- The names of the commands. -/
def enS : List ByteArray := [⟨#[110, 111, 110, 101]⟩, ⟨#[115, 101, 108, 102]⟩, ⟨#[108, 101, 102, 116]⟩, ⟨#[114, 105, 103, 104, 116]⟩, ⟨#[119, 111, 114, 100, 45, 108, 101, 102, 116]⟩, ⟨#[119, 111, 114, 100, 45, 114, 105, 103, 104, 116]⟩, ⟨#[104, 111, 109, 101]⟩, ⟨#[101, 110, 100]⟩, ⟨#[100, 101, 108, 101, 116, 101]⟩, ⟨#[98, 97, 99, 107]⟩, ⟨#[107, 105, 108, 108, 45, 101, 110, 100]⟩, ⟨#[107, 105, 108, 108, 45, 104, 111, 109, 101]⟩, ⟨#[107, 105, 108, 108, 45, 119, 111, 114, 100]⟩, ⟨#[107, 105, 108, 108, 45, 98, 97, 99, 107]⟩, ⟨#[107, 105, 108, 108, 45, 97, 108, 108]⟩, ⟨#[121, 97, 110, 107]⟩, ⟨#[112, 111, 112]⟩, ⟨#[115, 119, 97, 112]⟩, ⟨#[115, 119, 97, 112, 45, 119, 111, 114, 100, 115]⟩, ⟨#[117, 112, 112, 101, 114]⟩, ⟨#[108, 111, 119, 101, 114]⟩, ⟨#[99, 97, 112]⟩, ⟨#[117, 110, 100, 111]⟩, ⟨#[114, 101, 100, 111]⟩, ⟨#[109, 97, 114, 107]⟩, ⟨#[101, 120, 99, 104, 97, 110, 103, 101]⟩, ⟨#[117, 112]⟩, ⟨#[100, 111, 119, 110]⟩, ⟨#[102, 105, 114, 115, 116]⟩, ⟨#[108, 97, 115, 116]⟩, ⟨#[112, 114, 101, 102, 105, 120]⟩, ⟨#[115, 101, 101, 107]⟩, ⟨#[99, 111, 109, 112, 108, 101, 116, 101]⟩, ⟨#[101, 110, 116, 101, 114]⟩, ⟨#[113, 117, 111, 116, 101]⟩, ⟨#[99, 97, 110, 99, 101, 108]⟩, ⟨#[101, 114, 97, 115, 101]⟩, ⟨#[101, 111, 102]⟩, ⟨#[112, 97, 115, 116, 101]⟩, ⟨#[101, 115, 99]⟩, ⟨#[99, 111, 112, 121]⟩, ⟨#[107, 105, 108, 108, 45, 109, 97, 114, 107]⟩]
def enC : List Value := enS.map Value.string
/-- They lie in memory. -/
structure EN (w : World) : Prop where
  cell : ∀ i, i < 42 → w.cell? ⟨0, i, none⟩ = some (.string (enS.getD i ⟨#[]⟩))
  lt : 0 < w.heap.size
theorem EN.below {w w' : World} (h : EN w) (hb : Below w.heap.size w w') : EN w' :=
  ⟨fun i hi => (hb.cell (p := ⟨0, i, none⟩) h.lt).trans (h.cell i hi), Nat.lt_of_lt_of_le h.lt hb.size⟩
theorem undEn : Tryd.prog.underlying 69 = some (.array 42 9) := by kernel_rfl
theorem infoEn : (Tryd.prog.info? 69).map (·.size) = some 42 := by kernel_rfl
theorem enC_at (j : Nat) (hj : j < 42) : enC[j]? = some (.string (enS.getD j ⟨#[]⟩)) := by
  have h : j < enS.length := hj
  rw [enC, List.getElem?_map, List.getD, List.getElem?_eq_getElem h]
  rfl
theorem enLoad (w : World) (h : EN w) : (loadVar 69 ⟨0, 0, none⟩).run Tryd.prog w = .ok (.agg enC.toArray) w :=
  run_loadVar_cells w _ _ enC _ (fun j v hv => by
    have hj : j < 42 := (List.getElem?_eq_some_iff.1 hv).1
    rw [h.cell j hj, ← enC_at j hj]; exact hv) undEn rfl infoEn
theorem wpList_load_en {ops : Array Oper} {rest : List Oper} {dst : Option Tmp} {ty : TypeId} {pos : String} {after : Array Edge} {a : Act} {w : World} {Q : Exit → Act → World → Prop} (hT : EN w)
    (h : wpList Tryd.prog ops Q rest (a.put dst (.agg enC.toArray)) w) :
    wpList Tryd.prog ops Q ({ dst := dst, op := .load 69 (.global 0), type := ty, pos := pos, after := after, guard := none } :: rest) a w := by
  refine wpList_plain rfl fun _ hK => ?_
  have hx : a.eval (.global 0) = .pointer (some ⟨0, 0, none⟩) := rfl
  unfold Oper.wp execOp
  simp only [hx, Instr.loadAt, Instr.sureAddr, Sem.run_bind, Sem.run_pure, Result.andThen_ok, enLoad w hT]
  exact hK _ _ h
theorem enIdx (k : Nat) (hk : k < 42) (w : World) : (Instr.index 69 (.agg enC.toArray) (.int .i64 (k : Int))).run Tryd.prog w = .ok (.string (enS.getD k ⟨#[]⟩)) w := by
  have hagg : (isAgg 9).run Tryd.prog w = .ok false w := by kernel_rfl
  have hsz : (sizeOf 9).run Tryd.prog w = .ok 1 w := by kernel_rfl
  have hex := enC_at k hk
  have h0 : (0 : Int) ≤ k := by omega
  have h1 : (k : Int) < 42 := by omega
  simp only [Instr.index, asIntOf, Sem.run_bind, run_underlying undEn, Sem.run_pure, Result.andThen, Result.andThen_ok]
  simp only [h0, h1, true_and, if_true, part, Sem.run_bind, hsz, hagg, Result.andThen, Result.andThen_ok, Sem.run_pure, Int.toNat_natCast]
  simp [hex, h1]
/-- What Name answers. -/
def enN (n : Int) : ByteArray := if 0 ≤ n ∧ n ≤ 41 then enS.getD n.toNat ⟨#[]⟩ else ⟨#[]⟩
def enE (n : Int) : Int := if 0 ≤ n ∧ n ≤ 41 then 0 else 3
set_option maxRecDepth 100000 in
theorem ename_any (n : Int) (w : World) (hN : EN w) : Calls Tryd.prog 14 #[.int .i64 n] w fun e w' => e = .returned (.tuple #[.string (enN n), .int .i64 (enE n)]) ∧ w' = w := by
  by_cases h0 : n < 0
  · have he : Hid (enN n = ⟨#[]⟩ ∧ enE n = 3) := Lib.hid ⟨if_neg (by omega), if_neg (by omega)⟩
    clear hN
    go_enter Tryd.func14, Tryd.ntmps14
    go_wp2
    refine bodyPost_ret (results_tmp2 rfl _ _ _) rfl ?_
    exact ⟨by rw [he.out.1, he.out.2]; rfl, rfl⟩
  by_cases h1 : 42 ≤ n
  · have he : Hid (enN n = ⟨#[]⟩ ∧ enE n = 3) := Lib.hid ⟨if_neg (by omega), if_neg (by omega)⟩
    clear hN
    go_enter Tryd.func14, Tryd.ntmps14
    go_wp2
    refine bodyPost_ret (results_tmp2 rfl _ _ _) rfl ?_
    exact ⟨by rw [he.out.1, he.out.2]; rfl, rfl⟩
  · obtain ⟨k, rfl⟩ : ∃ k : Nat, n = (k : Int) := ⟨n.toNat, by omega⟩
    have hk : k < 42 := by omega
    have hk42 : (k : Int) < 42 := by omega
    have he : Hid (enN k = enS.getD k ⟨#[]⟩ ∧ enE k = 0) := Lib.hid ⟨by unfold enN; rw [if_pos (by omega)]; rfl, if_pos (by omega)⟩
    have c0 := hN.cell k hk
    generalize enS.getD k ⟨#[]⟩ = s at *
    clear hN
    go_enter Tryd.func14, Tryd.ntmps14
    go_wp2
    refine bodyPost_ret (results_tmp2 rfl _ _ _) rfl ?_
    exact ⟨by rw [he.out.1, he.out.2]; rfl, rfl⟩
/-- What Parse answers. -/
def PaPost (s : ByteArray) (w : World) (e : Ending) (w' : World) : Prop := ((∃ k : Nat, k < 42 ∧ enS.getD k ⟨#[]⟩ = s ∧ e = .returned (.tuple #[.int .i64 (k : Int), .int .i64 0])) ∨ ((∀ j, j < 42 → enS.getD j ⟨#[]⟩ ≠ s) ∧ e = .returned (.tuple #[.int .i64 0, .int .i64 6]))) ∧ Below w.heap.size w w'
set_option maxHeartbeats 4000000 in
set_option maxRecDepth 100000 in
theorem eparse_any (s : ByteArray) (w : World) (hN : EN w) : Calls Tryd.prog 27 #[.string s] w (PaPost s w) := by
  have hld := Lib.hid hN
  clear hN
  go_enter Tryd.func27, Tryd.ntmps27
  go_wp2_with (with_reducible refine wpList_load_en hld.out ?_)
  clear hld
  go_loopw [7] (fun iv wr => ∃ k : Nat, k ≤ 42 ∧ iv = .int .i64 (k : Int) ∧ Hid (∀ j, j < k → enS.getD j ⟨#[]⟩ ≠ s) ∧ Hid (Below w.heap.size w wr)) (fun iv _ => 42 - (intOf iv).toNat)
  case atStart => exact ⟨0, by omega, rfl, Lib.hid (fun j hj => absurd hj (Nat.not_lt_zero j)), Lib.hid (Below.refl _ _)⟩
  case round =>
    obtain ⟨k, hk, rfl, HE, hb⟩ := hrel
    by_cases hlt : k < 42
    · have hk0 : (0 : Int) ≤ k := by omega
      have hk1 : (k : Int) < 42 := by omega
      have hix := fun w => enIdx k hlt w
      obtain ⟨r, hr⟩ : ∃ r, enS.getD k ⟨#[]⟩ = r := ⟨_, rfl⟩
      rw [hr] at hix
      have HR := Lib.hid hr
      by_cases h1 : r = s
      · subst h1
        have h1b : (r.toList == r.toList) = true := by simp
        clear hr
        go_wp2_with fail
        refine bodyPost_ret (results_tmp2 rfl _ _ _) rfl ?_
        exact ⟨Or.inl ⟨k, hlt, HR.out, rfl⟩, hb.out⟩
      · have h1b := (kstr_ne h1).1
        have HE2 : Hid (∀ j, j < k + 1 → enS.getD j ⟨#[]⟩ ≠ s) := Lib.hid fun j hj => by
          by_cases e : j = k
          · rw [e, HR.out]; exact h1
          · exact HE.out j (by omega)
        clear hr
        go_wp2_with fail
        go_roundw
        case rel => exact ⟨k + 1, by omega, by go_num, HE2, hb⟩
        case measure => (simp [intOf]; try omega)
    · obtain rfl : k = 42 := by omega
      go_wp2_with fail
      refine bodyPost_ret (results_tmp2 rfl _ _ _) rfl ?_
      exact ⟨Or.inr ⟨HE.out, rfl⟩, hb.out⟩
end Go.Proofs.YtgnhnalaakgamaaDoor
set_option linter.unusedVariables false
set_option linter.unusedSimpArgs false
namespace Go.Proofs.YtgnhnalaakgamaaDoor
open Go.RowKit
/-- A row of the tables: a key's name, and what it asks for. -/
abbrev ER := ByteArray × Int
def erCells (L : List ER) : Array Value := (L.flatMap fun r => [Value.string r.1, .int .i64 r.2]).toArray
/-- A table that lies. -/
def ErB (w : World) (q : Nat) (L : List ER) : Prop := w.heap[q]? = some (.cells (erCells L) 82 (0, 0))
theorem erCells_at (L : List ER) : ∀ k, k < L.length → (erCells L)[k * 2]? = some (.string (L.getD k (⟨#[]⟩, 0)).1) ∧ (erCells L)[k * 2 + 1]? = some (.int .i64 (L.getD k (⟨#[]⟩, 0)).2) := by
  unfold erCells
  induction L with
  | nil => intro k hk; exact absurd hk (Nat.not_lt_zero k)
  | cons r L ih =>
    intro k hk
    cases k with
    | zero => exact ⟨rfl, rfl⟩
    | succ k =>
      have h := ih k (by simpa using hk)
      rw [List.getElem?_toArray] at h ⊢
      rw [List.getElem?_toArray] at h ⊢
      rw [List.flatMap_cons, show (k + 1) * 2 = k * 2 + 2 by omega, show k * 2 + 2 + 1 = (k * 2 + 1) + 2 by omega]
      exact h
theorem ErB.cells {w : World} {q : Nat} {L : List ER} (h : ErB w q L) (k : Nat) (hk : k < L.length) : w.cell? ⟨q, k * 2, none⟩ = some (.string (L.getD k (⟨#[]⟩, 0)).1) ∧ w.cell? ⟨q, k * 2 + 1, none⟩ = some (.int .i64 (L.getD k (⟨#[]⟩, 0)).2) := by
  rw [cell_of_row _ _ _ _ _ _ h, cell_of_row _ _ _ _ _ _ h]
  exact erCells_at L k hk
def erA : List ER := [(⟨#[67, 45, 97]⟩, 6), (⟨#[67, 45, 98]⟩, 2), (⟨#[67, 45, 99]⟩, 35), (⟨#[67, 45, 100]⟩, 37), (⟨#[67, 45, 101]⟩, 7), (⟨#[67, 45, 102]⟩, 3), (⟨#[67, 45, 103]⟩, 35), (⟨#[67, 45, 104]⟩, 9), (⟨#[67, 45, 105]⟩, 32), (⟨#[67, 45, 107]⟩, 10), (⟨#[67, 45, 108]⟩, 36), (⟨#[67, 45, 110]⟩, 27), (⟨#[67, 45, 112]⟩, 26), (⟨#[67, 45, 113]⟩, 34), (⟨#[67, 45, 114]⟩, 31), (⟨#[67, 45, 116]⟩, 17), (⟨#[67, 45, 117]⟩, 11), (⟨#[67, 45, 118]⟩, 34), (⟨#[67, 45, 119]⟩, 13), (⟨#[67, 45, 121]⟩, 15), (⟨#[67, 45, 64]⟩, 24), (⟨#[67, 45, 95]⟩, 22)]
set_option maxRecDepth 100000 in
set_option maxHeartbeats 4000000 in
theorem econtrols_any (w : World) : Calls Tryd.prog 53 #[] w fun e w' => e = .returned (.slice (some ⟨w.heap.size, 0, none⟩) 22 22) ∧ ErB w' w.heap.size erA ∧ Below w.heap.size w w' := by
  have hb := Lib.hid fun (o : Obj) => below_alloc w o
  have hn := Lib.hid (heap_alloc_new w (.cells (erCells erA) 82))
  go_enter Tryd.func53, Tryd.ntmps53
  go_wp2
  go_ret
  exact ⟨rfl, hn.out, hb.out _⟩
def erB : List ER := [(⟨#[77, 45, 102]⟩, 5), (⟨#[77, 45, 98]⟩, 4), (⟨#[77, 45, 100]⟩, 12), (⟨#[77, 45, 60, 55, 70, 62]⟩, 13), (⟨#[77, 45, 67, 45, 104]⟩, 13), (⟨#[77, 45, 121]⟩, 16), (⟨#[77, 45, 116]⟩, 18), (⟨#[77, 45, 117]⟩, 19), (⟨#[77, 45, 108]⟩, 20), (⟨#[77, 45, 99]⟩, 21), (⟨#[77, 45, 60, 51, 67, 62]⟩, 28), (⟨#[77, 45, 62]⟩, 29), (⟨#[77, 45, 112]⟩, 30), (⟨#[77, 45, 119]⟩, 40), (⟨#[77, 45, 107]⟩, 41), (⟨#[77, 45, 120]⟩, 25), (⟨#[77, 45, 114]⟩, 23), (⟨#[77, 45, 97]⟩, 14)]
set_option maxRecDepth 100000 in
set_option maxHeartbeats 4000000 in
theorem emetas_any (w : World) : Calls Tryd.prog 54 #[] w fun e w' => e = .returned (.slice (some ⟨w.heap.size, 0, none⟩) 18 18) ∧ ErB w' w.heap.size erB ∧ Below w.heap.size w w' := by
  have hb := Lib.hid fun (o : Obj) => below_alloc w o
  have hn := Lib.hid (heap_alloc_new w (.cells (erCells erB) 82))
  go_enter Tryd.func54, Tryd.ntmps54
  go_wp2
  go_ret
  exact ⟨rfl, hn.out, hb.out _⟩
def erC : List ER := [(⟨#[82, 69, 84]⟩, 33), (⟨#[76, 70, 68]⟩, 33), (⟨#[69, 83, 67]⟩, 35), (⟨#[68, 69, 76]⟩, 9), (⟨#[85, 80]⟩, 26), (⟨#[68, 79, 87, 78]⟩, 27), (⟨#[82, 73, 71, 72, 84]⟩, 3), (⟨#[76, 69, 70, 84]⟩, 2), (⟨#[72, 79, 77, 69]⟩, 6), (⟨#[69, 78, 68]⟩, 7), (⟨#[68, 69, 76, 69, 84, 69]⟩, 8), (⟨#[80, 71, 85, 80]⟩, 28), (⟨#[80, 71, 68, 78]⟩, 29)]
set_option maxRecDepth 100000 in
set_option maxHeartbeats 4000000 in
theorem eothers_any (w : World) : Calls Tryd.prog 55 #[] w fun e w' => e = .returned (.slice (some ⟨w.heap.size, 0, none⟩) 13 13) ∧ ErB w' w.heap.size erC ∧ Below w.heap.size w w' := by
  have hb := Lib.hid fun (o : Obj) => below_alloc w o
  have hn := Lib.hid (heap_alloc_new w (.cells (erCells erC) 82))
  go_enter Tryd.func55, Tryd.ntmps55
  go_wp2
  go_ret
  exact ⟨rfl, hn.out, hb.out _⟩
end Go.Proofs.YtgnhnalaakgamaaDoor
set_option linter.unusedVariables false
set_option linter.unusedSimpArgs false
namespace Go.Proofs.YtgnhnalaakgamaaDoor
open Go.RowKit
theorem zeroC2 (n : Nat) : Builtin.zeroCells #[.int .i64 0, .int .i64 0] n = sRow (List.replicate n (0, 0)) := by
  apply Array.ext
  · simp [Builtin.zeroCells, sRow, List.length_flatMap]
  · intro i h1 h2
    have hl : i < n * 2 := by simpa [Builtin.zeroCells] using h1
    have hs := sRow_at (List.replicate n (0, 0)) (i / 2) (by simp; omega)
    have hg : (List.replicate n ((0 : Int), (0 : Int))).getD (i / 2) (0, 0) = (0, 0) := by
      rw [List.getD, List.getElem?_replicate]; split <;> rfl
    rw [hg] at hs
    have key : (sRow (List.replicate n (0, 0)))[i]? = some (.int .i64 0) := by
      rw [sRow, List.getElem?_toArray]
      rcases Nat.mod_two_eq_zero_or_one i with hm | hm
      · rw [show i = i / 2 * 2 by omega]; exact hs.1
      · rw [show i = i / 2 * 2 + 1 by omega]; exact hs.2
    rw [Array.getElem?_eq_getElem h2] at key
    rw [Option.some.inj key]
    simp only [Builtin.zeroCells, Array.getElem_map, Array.getElem_range]
    rcases Nat.mod_two_eq_zero_or_one i with hm | hm <;> simp [hm]
theorem row_take {g : Nat} {w : World} {D : List Sn} {t : TypeId} (h : w.heap[g]? = some (.cells (sRow D) t (0, 0))) (n : Nat) (hn : n ≤ D.length) : ∀ j v, (sC (D.take n))[j]? = some v → w.cell? ((⟨g, 0, none⟩ : Addr).add j) = some v := fun j v hv => by
  have := signs_of_row h (x := 0) (n := n) (by omega)
  rw [List.drop_zero, Nat.zero_mul] at this
  exact apR_news this j v hv
end Go.Proofs.YtgnhnalaakgamaaDoor
set_option linter.unusedVariables false
set_option linter.unusedSimpArgs false
namespace Go.Proofs.YtgnhnalaakgamaaDoor
open Go.RowKit
theorem cpL_take {D X : List Sn} {o : Nat} (h : o ≤ D.length) : (cpL D o X).take (o + X.length) = D.take o ++ X := by
  unfold cpL
  rw [List.take_left']
  rw [List.length_append, List.length_take]; omega
theorem cpL_low {D X : List Sn} {o i : Nat} (h : i ≤ o) (ho : o ≤ D.length) : (cpL D o X).take i = D.take i := by
  unfold cpL
  rw [List.append_assoc, List.take_append_of_le_length (by rw [List.length_take]; omega), List.take_take, Nat.min_eq_left h]
theorem cpL_high {D X : List Sn} {o : Nat} (h : o + X.length ≤ D.length) : ((cpL D o X).drop o).take X.length = X := by
  unfold cpL
  have e : (D.take o).length = o := by rw [List.length_take]; omega
  rw [List.append_assoc, List.drop_left' e, List.take_left']
  rfl
theorem cpL_len' {D X : List Sn} {o : Nat} (h : o + X.length ≤ D.length) : (cpL D o X).length = D.length := cpL_len D o X h
/-- First ahead, then behind. -/
theorem cp_ab {D C R : List Sn} {i : Nat} (h : i + C.length + R.length ≤ D.length) : (cpL (cpL D i C) (i + C.length) R).take (i + C.length + R.length) = D.take i ++ C ++ R := by
  rw [cpL_take (by rw [cpL_len' (by omega)]; omega), cpL_take (by omega)]
/-- First behind, then ahead. -/
theorem cp_ba {D C R : List Sn} {i : Nat} (h : i + C.length + R.length ≤ D.length) : (cpL (cpL D (i + C.length) R) i C).take (i + C.length + R.length) = D.take i ++ C ++ R := by
  have hl := cpL_len' (D := D) (X := R) (o := i + C.length) (by omega)
  have h1 := cpL_low (D := D) (X := R) (o := i + C.length) (i := i) (by omega) (by omega)
  have h2 := cpL_high (D := D) (X := R) (o := i + C.length) (by omega)
  generalize cpL D (i + C.length) R = X at *
  unfold cpL
  rw [h1]
  have e : (D.take i ++ C).length = i + C.length := by rw [List.length_append, List.length_take]; omega
  rw [show i + C.length + R.length = (D.take i ++ C).length + R.length by rw [e], List.take_length_add_append, h2]
theorem tdR {D L : List Sn} {i : Nat} (h : D.take L.length = L) (hi : i ≤ L.length) : D.take i = L.take i ∧ (D.drop i).take (L.length - i) = L.drop i := by
  constructor
  · conv => rhs; rw [← h]
    rw [List.take_take, Nat.min_eq_left hi]
  · conv => rhs; rw [← h]
    rw [List.drop_take]
end Go.Proofs.YtgnhnalaakgamaaDoor
set_option linter.unusedVariables false
set_option linter.unusedSimpArgs false
namespace Go.Proofs.YtgnhnalaakgamaaDoor
open Go.RowKit
end Go.Proofs.YtgnhnalaakgamaaDoor
set_option linter.unusedVariables false
set_option linter.unusedSimpArgs false
namespace Go.Proofs.YtgnhnalaakgamaaDoor
open Go.RowKit
/-- A block of cells none of which is frozen. -/
def PlB (w : World) (a : Option Addr) : Prop := ∀ ad, a = some ad → ∃ tA csA lo hi, w.heap[ad.block]? = some (.cells csA tA (lo, hi)) ∧ hi ≤ lo
theorem ud_grown_below {w w' : World} {row : Option Nat} (h : Below w.heap.size w w') : w.grownBy w' row := ⟨h.os, h.tape, h.output, h.size, fun k hk _ => h.block k hk⟩
end Go.Proofs.YtgnhnalaakgamaaDoor
set_option linter.unusedVariables false
set_option linter.unusedSimpArgs false
namespace Go.Proofs.YtgnhnalaakgamaaDoor
open Go.RowKit
/-- A text told value by value. -/
def tellL (f : Int → List UInt8) (l : List Int) : List UInt8 := l.flatMap f
def tellS (f : Int → List UInt8) (s : ByteArray) : ByteArray := ⟨(tellL f (valsS s)).toArray⟩
/-- What each value becomes: nothing, if it is dangerous; what it looks like; how it is shown. -/
def stF (v : Int) : List UInt8 := if 3 < cls v then [] else u8l (oneI v)
def foF (v : Int) : List UInt8 := u8l (oneI (skel v))
def shF (v : Int) : List UInt8 := (shT v).data.toList
theorem u8l_app (a b : List Int) : u8l (a ++ b) = u8l a ++ u8l b := by unfold u8l; rw [List.map_append]
theorem tellF_app (f : Int → List UInt8) (a b : List Int) : tellL f (a ++ b) = tellL f a ++ tellL f b := by unfold tellL; rw [List.flatMap_append]
theorem tellF_len (f : Int → List UInt8) (n : Nat) (h : ∀ v, (f v).length ≤ n) (l : List Int) : (tellL f l).length ≤ n * l.length := by
  induction l with
  | nil => exact Nat.zero_le _
  | cons v l ih =>
    have : tellL f (v :: l) = f v ++ tellL f l := rfl
    rw [this, List.length_append, List.length_cons, Nat.mul_add]
    have := h v
    omega
theorem tellF_size (f : Int → List UInt8) (n : Nat) (h : ∀ v, (f v).length ≤ n) (s : ByteArray) : (tellS f s).size ≤ n * s.size := by
  have h1 := tellF_len f n h (valsS s)
  have h2 := valsS_len s
  have h3 : n * (valsS s).length ≤ n * s.size := Nat.mul_le_mul_left _ h2
  have h4 : (tellS f s).size = (tellL f (valsS s)).length := by unfold tellS; exact size_list _
  omega
theorem u8l_one (v : Int) : (u8l (oneI v)).length ≤ 4 := by rw [u8l_len]; exact oneI_len v
theorem stF_len (v : Int) : (stF v).length ≤ 4 := by
  unfold stF; split
  · exact Nat.zero_le _
  · exact u8l_one v
theorem foF_len (v : Int) : (foF v).length ≤ 4 := u8l_one _
theorem shF_len (v : Int) : (shF v).length ≤ 30 := by
  have h : (shF v).length = (shT v).size := by
    unfold shF
    exact Array.length_toList
  rw [h]; exact shT_size v
/-- Values that may stand in a text. -/
theorem in_vals {s : ByteArray} {v : Int} (h : v ∈ valsS s) : ptB v = true ∨ stB v = true := vals_right s _ _ v h
theorem cls_st {v : Int} (h : stB v = true) : cls v = 12 := by
  have hv := (stB_iff v).1 h
  have hr : rght v = true := by
    rw [← rght_rightB]; unfold rightB; rw [h, Bool.or_true]
  unfold cls
  rw [hr, if_neg (by simp), if_pos (by omega)]
theorem pt_small {v : Int} (h : ptB v = true ∨ stB v = true) (hc : ¬ 3 < cls v) : ptB v = true := by
  rcases h with h | h
  · exact h
  · rw [cls_st h] at hc; omega
/-- The values of a text told so: those that are harmless. -/
def stV (l : List Int) : List Int := l.filter fun v => !decide (3 < cls v)
theorem stV_mem {l : List Int} {v : Int} (h : v ∈ stV l) : v ∈ l ∧ ¬ 3 < cls v := by
  unfold stV at h
  rw [List.mem_filter] at h
  exact ⟨h.1, by simpa using h.2⟩
theorem tell_st (l : List Int) : tellL stF l = u8l (encI (stV l)) := by
  induction l with
  | nil => rfl
  | cons v l ih =>
    have h1 : tellL stF (v :: l) = stF v ++ tellL stF l := rfl
    rw [h1, ih]
    unfold stF stV
    by_cases h : 3 < cls v
    · rw [if_pos h, List.filter_cons_of_neg (by simp [h])]; rfl
    · rw [if_neg h, List.filter_cons_of_pos (by simp [h]), encI_cons, u8l_app]
theorem tellS_st (s : ByteArray) : tellS stF s = encS (stV (valsS s)) := by
  unfold tellS; rw [tell_st]; rfl
theorem stV_pt (s : ByteArray) : ∀ v ∈ stV (valsS s), ptB v = true := fun v hv => pt_small (in_vals (stV_mem hv).1) (stV_mem hv).2
theorem vals_st (s : ByteArray) : valsS (tellS stF s) = stV (valsS s) := by rw [tellS_st, valsS_enc _ (stV_pt s)]
/-- How a value is shown: as values. -/
def shV (v : Int) : List Int := if 3 < cls v then (shF v).map (fun c => (c.toNat : Int)) else if cls v = 0 then [] else [v]
theorem hexL_ascii (n l : Int) : ∀ c ∈ hexL n l, 48 ≤ c.toNat ∧ c.toNat ≤ 70 := tell_ok 20 n.toNat l.toNat
theorem sh_ascii (v : Int) (h : 3 < cls v) : ∀ c ∈ shF v, 32 ≤ c.toNat ∧ c.toNat < 127 := by
  unfold shF
  rcases sh_lists v with ⟨h0, hs⟩ | ⟨h0, _⟩ | ⟨h0, h1, h2, hs⟩ | ⟨h0, h1, hs⟩ | ⟨h0, h1, h2, hs⟩ | ⟨h0, h00, h1, h2, h3, hs⟩
  · omega
  · omega
  · rw [hs]
    intro c hc
    simp only [List.cons_append, List.nil_append, u8l, List.map_cons, List.map_nil, List.mem_cons, List.not_mem_nil, or_false] at hc
    rcases hc with rfl | rfl
    · decide
    · have := u8_nat (x := v + 64) (by omega) (by omega)
      omega
  · rw [hs]
    intro c hc
    simp only [List.mem_cons, List.not_mem_nil, or_false] at hc
    rcases hc with rfl | rfl <;> decide
  · rw [hs]
    intro c hc
    simp only [List.cons_append, List.nil_append, List.mem_cons] at hc
    rcases hc with rfl | rfl | hc
    · decide
    · decide
    · have := hexL_ascii _ _ c hc; omega
  · rw [hs]
    intro c hc
    simp only [List.cons_append, List.nil_append, List.mem_cons, List.mem_append, List.not_mem_nil, or_false] at hc
    rcases hc with rfl | rfl | rfl | hc | rfl
    · decide
    · decide
    · decide
    · have := hexL_ascii _ _ c hc; omega
    · decide
theorem ascii_one {x : Int} (h0 : 0 ≤ x) (h1 : x < 128) : oneI x = [x] := by
  have hp : ptB x = true := (ptB_iff x).2 (by omega)
  rw [oneI_pt hp]
  unfold Lib.encodeRuneZ
  rw [if_pos (by omega)]
theorem ascii_cls {x : Int} (h0 : 32 ≤ x) (h1 : x < 127) : cls x = 1 ∧ ptB x = true := by
  have hp : ptB x = true := (ptB_iff x).2 (by omega)
  have hr : rght x = true := by rw [← rght_rightB]; unfold rightB; rw [hp]; rfl
  refine ⟨?_, hp⟩
  unfold cls
  rw [hr, if_neg (by simp), if_neg (by omega), if_neg (by omega), if_neg (by omega), if_neg (by omega), if_pos (by omega)]
theorem enc_ascii (l : List Int) (h : ∀ x ∈ l, 0 ≤ x ∧ x < 128) : encI l = l := by
  induction l with
  | nil => rfl
  | cons x l ih =>
    rw [encI_cons, ascii_one (h x (List.mem_cons_self ..)).1 (h x (List.mem_cons_self ..)).2, ih (fun y hy => h y (List.mem_cons_of_mem _ hy))]; rfl
theorem u8_back (c : UInt8) : ((c.toNat : Int)).toNat.toUInt8 = c := by simp
theorem shF_enc (v : Int) : shF v = u8l (encI (shV v)) := by
  unfold shV
  by_cases h : 3 < cls v
  · rw [if_pos h, enc_ascii]
    · unfold u8l
      rw [List.map_map]
      conv => lhs; rw [← List.map_id (shF v)]
      refine List.map_congr_left fun c _ => ?_
      exact (u8_back c).symm
    · intro x hx
      rw [List.mem_map] at hx
      obtain ⟨c, hc, rfl⟩ := hx
      have := sh_ascii v h c hc
      omega
  · rw [if_neg h]
    unfold shF
    rcases sh_lists v with ⟨h0, hs⟩ | ⟨h0, h1, h2, h3, h4, hs⟩ | ⟨h0, h1, h2, hs⟩ | ⟨h0, h1, hs⟩ | ⟨h0, h1, h2, hs⟩ | ⟨h0, h00, h1, h2, h3, hs⟩
    · rw [if_pos h0, hs]; rfl
    · rw [if_neg (by omega), hs]; simp [encI]
    all_goals omega
theorem shV_ok {v : Int} (hv : ptB v = true ∨ stB v = true) : ∀ x ∈ shV v, ptB x = true ∧ ¬ 3 < cls x := by
  intro x hx
  unfold shV at hx
  by_cases h : 3 < cls v
  · rw [if_pos h, List.mem_map] at hx
    obtain ⟨c, hc, rfl⟩ := hx
    have ha := sh_ascii v h c hc
    have := ascii_cls (x := (c.toNat : Int)) (by omega) (by omega)
    exact ⟨this.2, by omega⟩
  · rw [if_neg h] at hx
    split at hx
    · cases hx
    · rw [List.mem_singleton] at hx
      subst hx
      exact ⟨pt_small hv h, h⟩
def shA2 (l : List Int) : List Int := l.flatMap shV
theorem tell_sh (l : List Int) : tellL shF l = u8l (encI (shA2 l)) := by
  induction l with
  | nil => rfl
  | cons v l ih =>
    have h1 : tellL shF (v :: l) = shF v ++ tellL shF l := rfl
    have h2 : shA2 (v :: l) = shV v ++ shA2 l := rfl
    rw [h1, h2, ih, encI_append, u8l_app, shF_enc]
theorem tellS_sh (s : ByteArray) : tellS shF s = encS (shA2 (valsS s)) := by unfold tellS; rw [tell_sh]; rfl
theorem shA2_ok (s : ByteArray) : ∀ x ∈ shA2 (valsS s), ptB x = true ∧ ¬ 3 < cls x := by
  intro x hx
  unfold shA2 at hx
  rw [List.mem_flatMap] at hx
  obtain ⟨v, hv, hx⟩ := hx
  exact shV_ok (in_vals hv) x hx
/-- Neither text has a dangerous value. -/
theorem both_ok (s : ByteArray) : ∀ v ∈ valsS (tellS stF s ++ tellS shF s), ¬ 3 < cls v := by
  have h : tellS stF s ++ tellS shF s = encS (stV (valsS s) ++ shA2 (valsS s)) := by
    rw [tellS_st, tellS_sh]
    unfold encS
    rw [encI_append, txt_append]
  rw [h, valsS_enc]
  · intro v hv
    rcases List.mem_append.1 hv with hv | hv
    · exact (stV_mem hv).2
    · exact (shA2_ok s v hv).2
  · intro v hv
    rcases List.mem_append.1 hv with hv | hv
    · exact stV_pt s v hv
    · exact (shA2_ok s v hv).1
theorem st_of_ok {l : List Int} (h : ∀ v ∈ l, ptB v = true ∧ ¬ 3 < cls v) : tellS stF (encS l) = encS l := by
  rw [tellS_st, valsS_enc l (fun v hv => (h v hv).1)]
  congr 1
  unfold stV
  rw [List.filter_eq_self]
  intro v hv
  simpa using (h v hv).2
theorem st_st (s : ByteArray) : tellS stF (tellS stF s) = tellS stF s := by
  rw [tellS_st s]
  exact st_of_ok fun v hv => ⟨stV_pt s v hv, (stV_mem hv).2⟩
theorem st_sh (s : ByteArray) : tellS stF (tellS shF s) = tellS shF s := by
  rw [tellS_sh s]
  exact st_of_ok (shA2_ok s)
end Go.Proofs.YtgnhnalaakgamaaDoor
set_option linter.unusedVariables false
set_option linter.unusedSimpArgs false
namespace Go.Proofs.YtgnhnalaakgamaaDoor
open Go.RowKit
theorem look_ascii : ∀ j : Fin 51, 0 ≤ lks.getD (2 * j.val + 1) 0 ∧ lks.getD (2 * j.val + 1) 0 < 128 ∧ 128 ≤ lks.getD (2 * j.val) 0 ∧ lks.getD (2 * j.val) 0 ≤ 65535 := by decide +kernel
theorem skel_what (v : Int) : skel v = v ∨ (0 ≤ skel v ∧ skel v < 128 ∧ 128 ≤ v ∧ v ≤ 65535) := by
  cases h1 : (List.range 51).find? (hitL v) with
  | some j =>
    have ⟨hj, hp⟩ := find_some_lt h1
    have e : skel v = lks.getD (2 * j + 1) 0 := by unfold skel; rw [h1]
    have hk := look_ascii ⟨j, hj⟩
    dsimp at hk
    have hv : v = lks.getD (2 * j) 0 := (inb_self v _).1 hp
    right
    rw [e]
    exact ⟨hk.1, hk.2.1, by omega, by omega⟩
  | none =>
    left; unfold skel; rw [h1]
theorem skel_pt {v : Int} (h : ptB v = true) : ptB (skel v) = true := by
  rcases skel_what v with e | ⟨h0, h1, _⟩
  · rw [e]; exact h
  · exact (ptB_iff _).2 (by omega)
theorem skel_st {v : Int} (h : stB v = true) : skel v = v := by
  have := (stB_iff v).1 h
  rcases skel_what v with e | ⟨h0, h1, h2, h3⟩
  · exact e
  · omega
/-- Bytes that go together up to where the second ones go on with no further byte. -/
def PreR (r r' : List Int) : Prop := r = r' ∨ ∃ p q y z, r = p ++ q ∧ r' = p ++ y :: z ∧ ¬ (128 ≤ y ∧ y ≤ 191)
theorem PreR.cons {r r' : List Int} (h : PreR r r') (a : List Int) : PreR (a ++ r) (a ++ r') := by
  rcases h with rfl | ⟨p, q, y, z, rfl, rfl, hy⟩
  · exact Or.inl rfl
  · exact Or.inr ⟨a ++ p, q, y, z, by rw [List.append_assoc], by rw [List.append_assoc], hy⟩
theorem preR_skel : ∀ l : List Int, PreR (encI l) (encI (l.map skel))
  | [] => Or.inl rfl
  | v :: l => by
    rw [List.map_cons, encI_cons, encI_cons]
    rcases skel_what v with e | ⟨h0, h1, _⟩
    · rw [e]; exact (preR_skel l).cons _
    · rw [ascii_one h0 h1]
      exact Or.inr ⟨[], _, skel v, _, rfl, rfl, by omega⟩
theorem preR_same {r r' : List Int} (h : PreR r r') (m : Nat) (hm : m ≤ r'.length) (hc : ∀ i, i < m → 128 ≤ r'.getD i 0 ∧ r'.getD i 0 ≤ 191) : m ≤ r.length ∧ ∀ i, i < m → r.getD i 0 = r'.getD i 0 := by
  rcases h with rfl | ⟨p, q, y, z, rfl, rfl, hy⟩
  · exact ⟨hm, fun _ _ => rfl⟩
  · have hp : m ≤ p.length := by
      rcases Nat.lt_or_ge p.length m with h | h
      · exfalso
        have := hc p.length h
        rw [List.getD, List.getElem?_append_right (Nat.le_refl _), Nat.sub_self] at this
        exact hy this
      · exact h
    refine ⟨by rw [List.length_append]; omega, fun i hi => ?_⟩
    rw [List.getD, List.getD, List.getElem?_append_left (by omega), List.getElem?_append_left (by omega)]
theorem may_cont {f c i : Nat} (h : mayB f c i = true) : 128 ≤ c ∧ c ≤ 191 := ((mayB_iff f c i).1 h).1
/-- A byte that begins no value stays so, whatever of what follows becomes a letter. -/
theorem beg_keep (b : Nat) (r r' : List Int) (hb : 128 ≤ b) (hb2 : b < 256) (hr : ∀ x ∈ r', 0 ≤ x ∧ x < 256) (h : PreR r r') (hbad : begB (1 + r.length) b (r.getD 0 0).toNat (r.getD 1 0).toNat (r.getD 2 0).toNat ≠ sizeB b) :
    begB (1 + r'.length) b (r'.getD 0 0).toNat (r'.getD 1 0).toNat (r'.getD 2 0).toNat ≠ sizeB b := by
  intro heq
  apply hbad
  have hz : sizeB b ≠ 1 := by
    unfold sizeB; rw [if_neg (by omega)]; repeat' split
    all_goals omega
  have hc : ∀ (i j : Nat), mayB b (r'.getD i 0).toNat j = true → 128 ≤ r'.getD i 0 ∧ r'.getD i 0 ≤ 191 := fun i j hm => by
    have := may_cont hm; omega
  unfold begB at heq ⊢
  by_cases h1 : 1 < sizeB b ∧ 1 < 1 + r'.length ∧ mayB b (r'.getD 0 0).toNat 1 = true
  · rw [if_pos h1] at heq
    by_cases h2 : 2 < sizeB b ∧ 2 < 1 + r'.length ∧ mayB b (r'.getD 1 0).toNat 2 = true
    · rw [if_pos h2] at heq
      by_cases h3 : 3 < sizeB b ∧ 3 < 1 + r'.length ∧ mayB b (r'.getD 2 0).toNat 3 = true
      · rw [if_pos h3] at heq
        obtain ⟨hm, hs⟩ := preR_same h 3 (by omega) (fun i hi => by
          match i, hi with
          | 0, _ => exact hc 0 _ h1.2.2
          | 1, _ => exact hc 1 _ h2.2.2
          | 2, _ => exact hc 2 _ h3.2.2)
        rw [hs 0 (by omega), hs 1 (by omega), hs 2 (by omega), if_pos ⟨h1.1, by omega, h1.2.2⟩, if_pos ⟨h2.1, by omega, h2.2.2⟩, if_pos ⟨h3.1, by omega, h3.2.2⟩]
        exact heq
      · rw [if_neg h3] at heq
        obtain ⟨hm, hs⟩ := preR_same h 2 (by omega) (fun i hi => by
          match i, hi with
          | 0, _ => exact hc 0 _ h1.2.2
          | 1, _ => exact hc 1 _ h2.2.2)
        rw [hs 0 (by omega), hs 1 (by omega), if_pos ⟨h1.1, by omega, h1.2.2⟩, if_pos ⟨h2.1, by omega, h2.2.2⟩, if_neg (by omega)]
        exact heq
    · rw [if_neg h2] at heq
      obtain ⟨hm, hs⟩ := preR_same h 1 (by omega) (fun i hi => by
        match i, hi with
        | 0, _ => exact hc 0 _ h1.2.2)
      rw [hs 0 (by omega), if_pos ⟨h1.1, by omega, h1.2.2⟩, if_neg (by omega)]
      exact heq
  · rw [if_neg h1] at heq
    omega
theorem cons_get (b : Int) (r : List Int) (i : Nat) (hr : ∀ x ∈ r, 0 ≤ x ∧ x < 256) : ((txt (b :: r)).get! (i + 1)).toNat = (r.getD i 0).toNat := by
  by_cases h : i < r.length
  · rw [txt_get _ _ (by simpa using h)]
    have hm := hr (r[i]) (List.getElem_mem h)
    rw [List.getElem_cons_succ, u8_nat hm.1 hm.2, List.getD, List.getElem?_eq_getElem h]; rfl
  · rw [List.getD, List.getElem?_eq_none (by omega)]
    have hs : ¬ i + 1 < (txt (b :: r)).size := by rw [txt_size]; simp; omega
    have : (txt (b :: r)).get! (i + 1) = 0 := by
      unfold ByteArray.get!
      have : ¬ i + 1 < (txt (b :: r)).data.size := hs
      simp [Array.getElem!_eq_getD, Array.getD, this]
      rw [dif_neg hs]; rfl
    rw [this]; rfl
/-- The value of a byte that begins none, and of what follows. -/
theorem stray_iff (b : Nat) (r : List Int) (hb : 128 ≤ b) (hb2 : b < 256) (hr : ∀ x ∈ r, 0 ≤ x ∧ x < 256) :
    (begB (1 + r.length) b (r.getD 0 0).toNat (r.getD 1 0).toNat (r.getD 2 0).toNat ≠ sizeB b → vAt (txt ((b : Int) :: r)) 0 = (1114112 + b, 1)) ∧
    ((vAt (txt ((b : Int) :: r)) 0).1 = 1114112 + b → begB (1 + r.length) b (r.getD 0 0).toNat (r.getD 1 0).toNat (r.getD 2 0).toNat ≠ sizeB b) := by
  have hsz : (txt ((b : Int) :: r)).size = 1 + r.length := by rw [txt_size, List.length_cons]; omega
  have hg0 : ((txt ((b : Int) :: r)).get! 0).toNat = b := by
    rw [txt_get _ _ (by simp)]
    exact u8n _ _ rfl hb2
  have hv := vAt_one (txt ((b : Int) :: r)) (by omega)
  rw [hsz, hg0, cons_get _ _ 0 hr, cons_get _ _ 1 hr, cons_get _ _ 2 hr] at hv
  constructor
  · intro h
    rw [hv]
    exact one_bad rfl rfl h
  · intro h heq
    have hsmall : (vAt (txt ((b : Int) :: r)) 0).1 = 1114112 + b → (vAt (txt ((b : Int) :: r)) 0).2 = 1 := fun h1 => by
      unfold vAt at h1 ⊢
      split at h1
      · rename_i hc; rw [if_pos hc]
      · rename_i hc
        rcases dec_cases (txt ((b : Int) :: r)) 0 with hd | hd
        · exact absurd (by rw [hd]; exact ⟨rfl, by omega⟩) hc
        · unfold Fine at hd; omega
    have h2 := hsmall h
    rw [hv] at h h2
    obtain ⟨k, hk⟩ : ∃ k, sizeB b = k := ⟨_, rfl⟩
    have hk2 : k = 0 ∨ k = 2 ∨ k = 3 ∨ k = 4 := by
      rw [← hk]; unfold sizeB; rw [if_neg (by omega)]; repeat' split
      all_goals omega
    have hbg : ∀ n b1 b2 b3, 1 ≤ begB n b b1 b2 b3 := fun n b1 b2 b3 => by unfold begB; split <;> (try split) <;> (try split) <;> omega
    have h1 := hbg (1 + r.length) (r.getD 0 0).toNat (r.getD 1 0).toNat (r.getD 2 0).toNat
    rcases hk2 with rfl | rfl | rfl | rfl
    · omega
    · rw [one_2 (heq.trans hk) hk] at h2; cases h2
    · rw [one_3 (heq.trans hk) hk] at h2; cases h2
    · rw [one_4 (heq.trans hk) hk] at h2; cases h2
/-- Values that a text has: the text of what they look like has what they look like. -/
theorem good_skel : ∀ l : List Int, valsS (encS l) = l → (∀ v ∈ l, ptB v = true ∨ stB v = true) → valsS (encS (l.map skel)) = l.map skel
  | [], _, _ => by unfold encS; exact valsS_nil _ (by rw [txt_size]; simp [encI])
  | v :: l, hg, hv => by
    have hl : ∀ x ∈ l, ptB x = true ∨ stB x = true := fun x hx => hv x (List.mem_cons_of_mem _ hx)
    unfold encS at hg ⊢
    rw [List.map_cons, encI_cons]
    rw [encI_cons] at hg
    rcases hv v (List.mem_cons_self ..) with hp | hs
    · rw [vals_enc1 v _ hp] at hg
      have ih := good_skel l (List.cons.inj hg).2 hl
      rw [vals_enc1 _ _ (skel_pt hp)]
      unfold encS at ih
      rw [ih]
    · have hvr := (stB_iff v).1 hs
      obtain ⟨b, rfl⟩ : ∃ b : Nat, v = ((1114112 + b : Nat) : Int) := ⟨(v - 1114112).toNat, by omega⟩
      have hb : 128 ≤ b := by omega
      have hb2 : b < 256 := by omega
      have ho : oneI ((1114112 + b : Nat) : Int) = [(b : Int)] := by rw [oneI_st hs]; congr 1; omega
      rw [skel_st hs, ho, List.singleton_append]
      rw [ho, List.singleton_append] at hg
      have hby := encI_byte l
      have hby2 := encI_byte (l.map skel)
      have hpos : ∀ r : List Int, 0 < (txt ((b : Int) :: r)).size := fun r => by rw [txt_size]; simp
      rw [valsS_cons _ (hpos _)] at hg
      have hg1 := (List.cons.inj hg).1
      have hbad := (stray_iff b (encI l) hb hb2 hby).2 (by omega)
      have hva := (stray_iff b (encI l) hb hb2 hby).1 hbad
      have hg2 := (List.cons.inj hg).2
      rw [hva, txt_ext] at hg2
      have ih := good_skel l hg2 hl
      have hva2 := (stray_iff b (encI (l.map skel)) hb hb2 hby2).1 (beg_keep b _ _ hb hb2 hby2 (preR_skel l) hbad)
      rw [valsS_cons _ (hpos _), hva2, txt_ext]
      unfold encS at ih
      rw [show ((b : Int) :: encI (l.map skel)).drop ((1114112 + b, 1) : Nat × Nat).2 = encI (l.map skel) from rfl, ih]
theorem tell_fo (l : List Int) : tellL foF l = u8l (encI (l.map skel)) := by
  induction l with
  | nil => rfl
  | cons v l ih =>
    have h1 : tellL foF (v :: l) = foF v ++ tellL foF l := rfl
    rw [h1, ih, List.map_cons, encI_cons, u8l_app]; rfl
theorem tellS_fo (s : ByteArray) : tellS foF s = encS ((valsS s).map skel) := by unfold tellS; rw [tell_fo]; rfl
theorem fo_fo (s : ByteArray) : tellS foF (tellS foF s) = tellS foF s := by
  rw [tellS_fo (tellS foF s), tellS_fo s, good_skel (valsS s) (by rw [encS_vals]) (fun v hv => in_vals hv), List.map_map]
  congr 1
  refine List.map_congr_left fun v _ => ?_
  exact (skel_idem v).1
end Go.Proofs.YtgnhnalaakgamaaDoor
set_option linter.unusedVariables false
set_option linter.unusedSimpArgs false
namespace Go.Proofs.YtgnhnalaakgamaaDoor
open Go.RowKit
def mkL (l : List UInt8) : ByteArray := ⟨l.toArray⟩
theorem enc_one (v : Int) : encS [v] = mkL (u8l (oneI v)) := by unfold encS encI; rw [List.flatMap_cons, List.flatMap_nil, List.append_nil]; rfl
end Go.Proofs.YtgnhnalaakgamaaDoor
set_option linter.unusedVariables false
set_option linter.unusedSimpArgs false
namespace Go.Proofs.YtgnhnalaakgamaaDoor
open Go.RowKit
abbrev mkS (l : List UInt8) : ByteArray := ⟨l.toArray⟩
theorem mkS_app (a b : List UInt8) : mkS a ++ mkS b = mkS (a ++ b) := ba_app a b
theorem mkS_size (l : List UInt8) : (mkS l).size = l.length := by simp [mkS, ByteArray.size]
theorem mkS_of (s : ByteArray) : mkS s.data.toList = s := by cases s; simp [mkS]
theorem mkS_inj {a b : List UInt8} (h : mkS a = mkS b) : a = b := by
  have := congrArg (fun s : ByteArray => s.data.toList) h
  simpa [mkS] using this
theorem krow_one (w : World) (v : Int) : Row (w.alloc (.cells #[.int .i64 v] 3)) (some ⟨w.heap.size, 0, none⟩) [v] := fun j hj => by
  obtain rfl : j = 0 := by simp at hj; omega
  exact ⟨w.heap.size, 0, rfl, by rw [World.cell?_alloc_new]; rfl, by simp⟩
theorem kenc_one (x : Int) (w : World) : Calls Tryd.prog 63 #[.slice (some ⟨w.heap.size, 0, none⟩) 1 1] (w.alloc (.cells #[.int .i64 x] 3)) fun e w' => e = .returned (.string (txt (oneI x))) ∧ Below w.heap.size w w' := by
  have h := encode_any [x] (some ⟨w.heap.size, 0, none⟩) 1 (w.alloc (.cells #[.int .i64 x] 3)) (by simp) (krow_one w x)
  rw [show encS [x] = txt (oneI x) by simp [encS, encI]] at h
  exact h.mono fun e w' ⟨h1, h2⟩ => ⟨h1, seqB (below_alloc _ _) h2⟩
theorem one_byte {v : Int} (h0 : 0 ≤ v) (h1 : v < 128) : txt (oneI v) = mkS [v.toNat.toUInt8] := by
  rw [oneI_pt ((ptB_iff _).2 (by omega)), Lib.encodeRuneZ_one (by omega) (by omega)]; rfl
theorem kstr_ret {a b : ByteArray} (h : a = b) : Ending.returned (.string a) = .returned (.string b) := by rw [h]
theorem ksum (a b : ByteArray) (h : a.size + b.size ≤ 8388608) (w : World) : (Op.stringOp .add a b).run Tryd.prog w = .ok (.string (a ++ b)) w := run_string_add_sum w a b (by omega)
theorem khex1 (v : Int) (w : World) (h0 : 0 ≤ v) (h1 : v ≤ 9223372036854775807) : Calls Tryd.prog 64 #[.int .i64 v, .int .i64 1] w fun e w' => e = .returned (.string (mkS (hexN v 1))) ∧ Below w.heap.size w w' := by
  have X := hex_any v 1 w (by omega) h1
  rw [show hexS v 1 = hexN v 1 by rw [hexS_pos v 1 h0]; rfl] at X
  exact X
theorem khex2 (v : Int) (w : World) (h0 : 0 ≤ v) (h1 : v ≤ 9223372036854775807) : Calls Tryd.prog 64 #[.int .i64 v, .int .i64 2] w fun e w' => e = .returned (.string (mkS (hexN v 2))) ∧ Below w.heap.size w w' := by
  have X := hex_any v 2 w (by omega) h1
  rw [show hexS v 2 = hexN v 2 by rw [hexS_pos v 2 h0]; rfl] at X
  exact X
set_option maxHeartbeats 2000000 in
set_option maxRecDepth 100000 in
theorem ksign_any (v : Int) (w : World) (h0 : 0 ≤ v) (hm : v ≤ 1114367) : Calls Tryd.prog 45 #[.int .i64 v] w fun e w' => e = .returned (.string (mkS (sgN v))) ∧ Below w.heap.size w w' := by
  by_cases h : 32 < v ∧ v < 127 ∧ v ≠ 60
  · obtain ⟨h1, h2, h3⟩ := h
    have e : Hid (mkS (sgN v) = txt (oneI v)) := Lib.hid (by rw [one_byte (by omega) (by omega)]; unfold sgN; rw [if_pos ⟨h1, h2, h3⟩])
    have E := Lib.hid (kenc_one v w)
    go_enter Tryd.func45, Tryd.ntmps45
    go_wp2_with (go_at_call 63; refine E.out.mono ?_; rintro e w2 ⟨rfl, hb2⟩)
    go_ret
    rw [e.out]; exact ⟨rfl, hb2⟩
  · have e : sgN v = 60 :: (hexN v 1 ++ [62]) := by unfold sgN; rw [if_neg h]
    have X := fun w => khex1 v w h0 (by omega)
    rw [e]
    have hl := hexN_len v 1
    generalize hexN v 1 = hs at *
    have hsz := mkS_size hs
    have R1 := ksum ⟨#[60]⟩ (mkS hs) (by rw [hsz]; show 1 + _ ≤ _; omega)
    have R2 := ksum (⟨#[60]⟩ ++ mkS hs) ⟨#[62]⟩ (by rw [ByteArray.size_append, hsz]; show 1 + hs.length + 1 ≤ _; omega)
    have hf : Hid (⟨#[60]⟩ ++ mkS hs ++ ⟨#[62]⟩ = mkS (60 :: (hs ++ [62]))) := Lib.hid (by rw [show (⟨#[60]⟩ : ByteArray) = mkS [60] from rfl, show (⟨#[62]⟩ : ByteArray) = mkS [62] from rfl, mkS_app, mkS_app]; simp)
    replace X := Lib.hid X
    clear e hl hsz
    generalize mkS hs = u at *
    by_cases h1 : 32 < v
    · by_cases h2 : v < 127
      · have h3 : v = 60 := Decidable.byContradiction fun h3 => h ⟨h1, h2, h3⟩
        subst h3
        go_enter Tryd.func45, Tryd.ntmps45
        go_wp2_with (go_at_call 64; refine (X.out _).mono ?_; rintro e w2 ⟨rfl, hb2⟩)
        go_ret
        rw [← hf.out]; exact ⟨rfl, hb2⟩
      · clear h
        go_enter Tryd.func45, Tryd.ntmps45
        go_wp2_with (go_at_call 64; refine (X.out _).mono ?_; rintro e w2 ⟨rfl, hb2⟩)
        go_ret
        rw [← hf.out]; exact ⟨rfl, hb2⟩
    · clear h
      go_enter Tryd.func45, Tryd.ntmps45
      go_wp2_with (go_at_call 64; refine (X.out _).mono ?_; rintro e w2 ⟨rfl, hb2⟩)
      go_ret
      rw [← hf.out]; exact ⟨rfl, hb2⟩
set_option maxHeartbeats 2000000 in
set_option maxRecDepth 100000 in
theorem kctrl_any (v : Int) (w : World) (h0 : 0 ≤ v) (hm : v < 32) : Calls Tryd.prog 46 #[.int .i64 v] w fun e w' => e = .returned (.string (mkS (ctN v))) ∧ Below w.heap.size w w' := by
  by_cases h : 1 ≤ v ∧ v ≤ 26
  · obtain ⟨h1, h2⟩ := h
    have E := kenc_one (v + 96) w
    rw [one_byte (by omega) (by omega)] at E
    have hs := mkS_size [(v + 96).toNat.toUInt8]
    have hf : Hid (⟨#[67, 45]⟩ ++ mkS [(v + 96).toNat.toUInt8] = mkS (ctN v)) := Lib.hid (by rw [show (⟨#[67, 45]⟩ : ByteArray) = mkS [67, 45] from rfl, mkS_app]; unfold ctN; rw [if_pos ⟨h1, h2⟩]; rfl)
    generalize mkS [(v + 96).toNat.toUInt8] = u at *
    replace E := Lib.hid E
    have R1 := ksum ⟨#[67, 45]⟩ u (by rw [hs]; show 2 + 1 ≤ 8388608; omega)
    clear hs
    go_enter Tryd.func46, Tryd.ntmps46
    go_wp2_with (go_at_call 63; refine E.out.mono ?_; rintro e w2 ⟨rfl, hb2⟩)
    go_ret
    rw [← hf.out]; exact ⟨rfl, hb2⟩
  · have E := kenc_one (v + 64) w
    rw [one_byte (by omega) (by omega)] at E
    have hs := mkS_size [(v + 64).toNat.toUInt8]
    have hf : Hid (⟨#[67, 45]⟩ ++ mkS [(v + 64).toNat.toUInt8] = mkS (ctN v)) := Lib.hid (by rw [show (⟨#[67, 45]⟩ : ByteArray) = mkS [67, 45] from rfl, mkS_app]; unfold ctN; rw [if_neg h]; rfl)
    generalize mkS [(v + 64).toNat.toUInt8] = u at *
    replace E := Lib.hid E
    have R1 := ksum ⟨#[67, 45]⟩ u (by rw [hs]; show 2 + 1 ≤ 8388608; omega)
    clear hs
    by_cases h1 : 1 ≤ v
    · have h2 : ¬ v ≤ 26 := fun h2 => h ⟨h1, h2⟩
      clear h
      go_enter Tryd.func46, Tryd.ntmps46
      go_wp2_with (go_at_call 63; refine E.out.mono ?_; rintro e w2 ⟨rfl, hb2⟩)
      go_ret
      rw [← hf.out]; exact ⟨rfl, hb2⟩
    · clear h
      go_enter Tryd.func46, Tryd.ntmps46
      go_wp2_with (go_at_call 63; refine E.out.mono ?_; rintro e w2 ⟨rfl, hb2⟩)
      go_ret
      rw [← hf.out]; exact ⟨rfl, hb2⟩
end Go.Proofs.YtgnhnalaakgamaaDoor
set_option linter.unusedVariables false
set_option linter.unusedSimpArgs false
namespace Go.Proofs.YtgnhnalaakgamaaDoor
open Go.RowKit
theorem kgrown {w w' : World} (h : Below w.heap.size w w') : w.grownBy w' none := ⟨h.os, h.tape, h.output, h.size, fun k hk _ => h.block k hk⟩
theorem kown_below {w w' : World} {base : Nat} {e : TypeId} {size : Nat} {v : Value} {n : Nat} {xs : List Value} (h : w.ownsRow base e size v n xs) (hb : Below w.heap.size w w') : w'.ownsRow base e size v n xs :=
  h.kept (kgrown hb) (by cases hv : v.ownBlock <;> simp)
set_option maxRecDepth 100000 in
set_option maxHeartbeats 2000000 in
theorem kbld_below {B b : Nat} {bs : List Value} {w w' : World} (h : IsBld B b bs w) (hb : Below w.heap.size w w') : IsBld B b bs w' := by
  rcases h with ⟨hB, v, h1, h2, h3⟩ | ⟨hB, v, h1, h2, h3⟩
  · exact Or.inl ⟨hB, v, blk_below h1 hb, kown_below h2 hb, h3⟩
  · exact Or.inr ⟨hB, v, blk_below h1 hb, kown_below h2 hb, h3⟩
theorem kbld_new (w : World) : IsBld w.heap.size w.heap.size [] (w.alloc (.cells #[.pointer none, .slice none 0 0] 45)) :=
  Or.inl ⟨Nat.le_refl _, _, heap_alloc_new w _, World.ownsRow_nil _ _ _ _, by simp [Value.ownBlock]⟩
theorem hx2_snoc (l : List UInt8) (b : UInt8) : hx2 (l ++ [b]) = hx2 l ++ hexN (b.toNat : Int) 2 := by unfold hx2; rw [List.flatMap_append]; simp
theorem strC (l : List UInt8) : Lib.strCells (mkS l) = Lib.byteCells l := by unfold Lib.strCells mkS Lib.byteCells; simp
set_option maxHeartbeats 4000000 in
set_option maxRecDepth 100000 in
theorem kpaste_any (kind v : Int) (t : ByteArray) (c : Bool) (w : World) (ht : t.size ≤ 1000000) : Calls Tryd.prog 47 #[.agg #[.int .i64 kind, .int .i64 v, .string t, .bool c]] w fun e w' => e = .returned (.string (mkS (psN t.data.toList c))) ∧ Below w.heap.size w w' := by
  have B0 := below_alloc w (.cells #[.int .i64 kind, .int .i64 v, .string t, .bool c] 34)
  have Q0 := heap_alloc_new w (.cells #[.int .i64 kind, .int .i64 v, .string t, .bool c] 34)
  obtain ⟨W0, hW0⟩ : ∃ W0, w.alloc (.cells #[.int .i64 kind, .int .i64 v, .string t, .bool c] 34) = W0 := ⟨_, rfl⟩
  rw [hW0] at B0 Q0
  have I0 := Lib.hid (kbld_new W0)
  have B1 := below_alloc W0 (.cells #[.pointer none, .slice none 0 0] 45)
  have W1 := Lib.hid (fun (B : Nat) (w : World) h hB => bwrite_any B B [] ⟨#[80, 45]⟩ w h (by show 0 + 2 ≤ _; omega) hB)
  have HE : Hid (([] : List Value) ++ Lib.strCells ⟨#[80, 45]⟩ = Lib.byteCells (80 :: 45 :: hx2 (t.data.toList.take 0))) := Lib.hid (by rw [List.take_zero]; exact strC [80, 45])
  have HQ := Lib.hid Q0; clear Q0
  have HB := Lib.hid B0; clear B0
  go_enter Tryd.func47, Tryd.ntmps47
  go_upto_region 1 with fail
  clear hW0
  go_wp2_with (first
    | (go_at_call 15; refine (W1.out _ _ I0.out B1.size).mono ?_; rintro e w2 ⟨rfl, hI2, hb2⟩; have N2 := B1.trans hb2))
  rw [HE.out] at hI2
  go_loopw [4] (fun iv wr => ∃ k : Nat, k ≤ t.size ∧ iv = .int .i64 (k : Int) ∧ Hid (IsBld W0.heap.size W0.heap.size (Lib.byteCells (80 :: 45 :: hx2 (t.data.toList.take k))) wr) ∧ Below W0.heap.size W0 wr) (fun iv _ => t.size - (intOf iv).toNat)
  case atStart => exact ⟨0, Nat.zero_le _, rfl, Lib.hid (Or.inr hI2), N2⟩
  case round =>
    obtain ⟨k, hk, rfl, hI, hb⟩ := hrel
    have q := blk_below HQ.out hb
    have hPw : W0.heap.size ≤ wr.heap.size := hb.size
    have ql := blk_lt q
    have y := fun i => cell_of_row _ _ i _ _ _ q; have y2 := y 2; have y3 := y 3; clear y; dsimp at y2 y3
    have hlen : (Lib.byteCells (80 :: 45 :: hx2 (t.data.toList.take k))).length ≤ 2 + 2 * k := by
      rw [Lib.byteCells_length]; simp only [List.length_cons, hx2_len]; have := List.length_take_le k t.data.toList; omega
    clear q
    by_cases hlt : k < t.size
    · have hk1 : (k : Int) < t.size := by omega
      have hk0 : (0 : Int) ≤ k := by omega
      have H : ∀ w, Calls Tryd.prog 64 #[.int .i64 (wrap64 ((t[k]).toNat : Int)), .int .i64 2] w fun e w' => e = .returned (.string (mkS (hexN ((t[k]).toNat : Int) 2))) ∧ Below w.heap.size w w' := fun w => by
        rw [show wrap64 ((t[k]).toNat : Int) = (t[k]).toNat by have := u8_lt t[k]; unfold wrap64; omega]
        exact khex2 ((t[k]).toNat : Int) w (by omega) (by have := u8_lt t[k]; omega)
      have hst : hx2 (t.data.toList.take (k + 1)) = hx2 (t.data.toList.take k) ++ hexN ((t[k]).toNat : Int) 2 := by rw [take_snoc t k hlt, hx2_snoc]
      have hl2 := (hex2 t[k]).1
      generalize hexN ((t[k]).toNat : Int) 2 = hs at *
      have hcell : Hid (Lib.byteCells (80 :: 45 :: hx2 (t.data.toList.take (k + 1))) = Lib.byteCells (80 :: 45 :: hx2 (t.data.toList.take k)) ++ Lib.strCells (mkS hs)) := Lib.hid (by rw [hst, strC, ← Lib.byteCells_append]; rfl)
      have hus : (mkS hs).size ≤ 2 := by rw [mkS_size]; omega
      have W2 := Lib.hid (fun (B : Nat) (w : World) h hB => bwrite_any B B (Lib.byteCells (80 :: 45 :: hx2 (t.data.toList.take k))) (mkS hs) w h (by omega) hB)
      generalize mkS hs = u at *
      generalize Lib.byteCells (80 :: 45 :: hx2 (t.data.toList.take k)) = bs at *
      replace H := Lib.hid H
      clear hst hl2 hus hlen
      go_wp2_with (first
        | (go_at_call 64; refine (H.out _).mono ?_; rintro e w3 ⟨rfl, hb3⟩; have I3 := Lib.hid (kbld_below hI.out hb3); have hP3 := Nat.le_trans hPw hb3.size)
        | (go_at_call 15; refine (W2.out _ _ I3.out hP3).mono ?_; rintro e w4 ⟨rfl, hI4, hb4⟩; have N4 := (hb.trans (hb3.mono hPw)).trans hb4))
      go_roundw
      case rel => exact ⟨k + 1, by omega, by go_num, Lib.hid (Or.inr (by rw [hcell.out]; exact hI4)), N4⟩
      case measure => (simp [intOf]; try omega)
    · obtain rfl : k = t.size := by omega
      have htk : t.data.toList.take t.size = t.data.toList := take_all t _ (Nat.le_refl _)
      rw [htk] at hI hlen
      have NB := Lib.hid (HB.out.trans (hb.mono HB.out.size))
      cases c with
      | true =>
        have hcell : Hid (Lib.byteCells (psN t.data.toList true) = Lib.byteCells (80 :: 45 :: hx2 t.data.toList) ++ Lib.strCells ⟨#[33]⟩) := Lib.hid (by
          rw [show (⟨#[33]⟩ : ByteArray) = mkS [33] from rfl, strC, ← Lib.byteCells_append]; rfl)
        have W2 := Lib.hid (fun (B : Nat) (w : World) h hB => bwrite_any B B (Lib.byteCells (80 :: 45 :: hx2 t.data.toList)) ⟨#[33]⟩ w h (by show _ + 1 ≤ _; omega) hB)
        have ST := Lib.hid (fun (B : Nat) (w : World) h hB => Tryd.Builder_String_any B B (psN t.data.toList true) w h hB)
        generalize Lib.byteCells (80 :: 45 :: hx2 t.data.toList) = bs at *
        clear hlen htk
        go_wp2_with (first
          | (go_at_call 15; refine (W2.out _ _ hI.out hPw).mono ?_; rintro e w4 ⟨rfl, hI4, hb4⟩; rw [← hcell.out] at hI4; have I4 := Lib.hid (Or.inr hI4 : IsBld W0.heap.size W0.heap.size (Lib.byteCells (psN t.data.toList true)) w4); have hP4 := Nat.le_trans hPw hb4.size)
          | (go_at_call 16; refine (ST.out _ _ I4.out hP4).mono ?_; rintro e w5 ⟨rfl, hb5⟩))
        go_ret
        exact ⟨rfl, (NB.out.trans (hb4.mono HB.out.size)).trans (hb5.mono HB.out.size)⟩
      | false =>
        have e : 80 :: 45 :: hx2 t.data.toList = psN t.data.toList false := by show _ = 80 :: 45 :: (hx2 t.data.toList ++ []); rw [List.append_nil]
        have ST := Lib.hid (fun (B : Nat) (w : World) h hB => Tryd.Builder_String_any B B (psN t.data.toList false) w h hB)
        rw [e] at hI
        clear hlen htk e
        go_wp2_with (first
          | (go_at_call 16; refine (ST.out _ _ hI.out hPw).mono ?_; rintro e w5 ⟨rfl, hb5⟩))
        go_ret
        exact ⟨rfl, NB.out.trans (hb5.mono HB.out.size)⟩
end Go.Proofs.YtgnhnalaakgamaaDoor
