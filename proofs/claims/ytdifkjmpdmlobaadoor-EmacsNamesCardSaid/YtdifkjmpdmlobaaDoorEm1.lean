/-
  emacs: the commands' names.
-/
import Derived.Test.YtdifkjmpdmlobaaDoorKy4
set_option linter.unusedVariables false
set_option linter.unusedSimpArgs false
namespace Go.Proofs.YtdifkjmpdmlobaaDoor
set_option maxRecDepth 100000
open Go.RowKit
/-- The names of the commands. -/
def enS : List ByteArray := [⟨#[110, 111, 110, 101]⟩, ⟨#[115, 101, 108, 102]⟩, ⟨#[108, 101, 102, 116]⟩, ⟨#[114, 105, 103, 104, 116]⟩, ⟨#[119, 111, 114, 100, 45, 108, 101, 102, 116]⟩, ⟨#[119, 111, 114, 100, 45, 114, 105, 103, 104, 116]⟩, ⟨#[104, 111, 109, 101]⟩, ⟨#[101, 110, 100]⟩, ⟨#[100, 101, 108, 101, 116, 101]⟩, ⟨#[98, 97, 99, 107]⟩, ⟨#[107, 105, 108, 108, 45, 101, 110, 100]⟩, ⟨#[107, 105, 108, 108, 45, 104, 111, 109, 101]⟩, ⟨#[107, 105, 108, 108, 45, 119, 111, 114, 100]⟩, ⟨#[107, 105, 108, 108, 45, 98, 97, 99, 107]⟩, ⟨#[107, 105, 108, 108, 45, 97, 108, 108]⟩, ⟨#[121, 97, 110, 107]⟩, ⟨#[112, 111, 112]⟩, ⟨#[115, 119, 97, 112]⟩, ⟨#[115, 119, 97, 112, 45, 119, 111, 114, 100, 115]⟩, ⟨#[117, 112, 112, 101, 114]⟩, ⟨#[108, 111, 119, 101, 114]⟩, ⟨#[99, 97, 112]⟩, ⟨#[117, 110, 100, 111]⟩, ⟨#[114, 101, 100, 111]⟩, ⟨#[109, 97, 114, 107]⟩, ⟨#[101, 120, 99, 104, 97, 110, 103, 101]⟩, ⟨#[117, 112]⟩, ⟨#[100, 111, 119, 110]⟩, ⟨#[102, 105, 114, 115, 116]⟩, ⟨#[108, 97, 115, 116]⟩, ⟨#[112, 114, 101, 102, 105, 120]⟩, ⟨#[115, 101, 101, 107]⟩, ⟨#[99, 111, 109, 112, 108, 101, 116, 101]⟩, ⟨#[101, 110, 116, 101, 114]⟩, ⟨#[113, 117, 111, 116, 101]⟩, ⟨#[99, 97, 110, 99, 101, 108]⟩, ⟨#[101, 114, 97, 115, 101]⟩, ⟨#[101, 111, 102]⟩, ⟨#[112, 97, 115, 116, 101]⟩, ⟨#[101, 115, 99]⟩, ⟨#[99, 111, 112, 121]⟩, ⟨#[107, 105, 108, 108, 45, 109, 97, 114, 107]⟩]
def enC : List Value := enS.map Value.string
/-- They lie in memory. -/
structure EN (w : World) : Prop where
  cell : ∀ i, i < 42 → w.cell? ⟨0, i, none⟩ = some (.string (enS.getD i ⟨#[]⟩))
  lt : 0 < w.heap.size
theorem EN.below {w w' : World} (h : EN w) (hb : Below w.heap.size w w') : EN w' :=
  ⟨fun i hi => (hb.cell (p := ⟨0, i, none⟩) h.lt).trans (h.cell i hi), Nat.lt_of_lt_of_le h.lt hb.size⟩
theorem undEn : Tryd.prog.underlying 110 = some (.array 42 9) := by kernel_rfl
theorem infoEn : (Tryd.prog.info? 110).map (·.size) = some 42 := by kernel_rfl
theorem enC_at (j : Nat) (hj : j < 42) : enC[j]? = some (.string (enS.getD j ⟨#[]⟩)) := by
  have h : j < enS.length := hj
  rw [enC, List.getElem?_map, List.getD, List.getElem?_eq_getElem h]
  rfl
theorem enLoad (w : World) (h : EN w) : (loadVar 110 ⟨0, 0, none⟩).run Tryd.prog w = .ok (.agg enC.toArray) w :=
  run_loadVar_cells w _ _ enC _ (fun j v hv => by
    have hj : j < 42 := (List.getElem?_eq_some_iff.1 hv).1
    rw [h.cell j hj, ← enC_at j hj]; exact hv) undEn rfl infoEn
theorem wpList_load_en {ops : Array Oper} {rest : List Oper} {dst : Option Tmp} {ty : TypeId} {pos : String} {after : Array Edge} {a : Act} {w : World} {Q : Exit → Act → World → Prop} (hT : EN w)
    (h : wpList Tryd.prog ops Q rest (a.put dst (.agg enC.toArray)) w) :
    wpList Tryd.prog ops Q ({ dst := dst, op := .load 110 (.global 0), type := ty, pos := pos, after := after, guard := none } :: rest) a w := by
  refine wpList_plain rfl fun _ hK => ?_
  have hx : a.eval (.global 0) = .pointer (some ⟨0, 0, none⟩) := rfl
  unfold Oper.wp execOp
  simp only [hx, Instr.loadAt, Instr.sureAddr, Sem.run_bind, Sem.run_pure, Result.andThen_ok, enLoad w hT]
  exact hK _ _ h
theorem enIdx (k : Nat) (hk : k < 42) (w : World) : (Instr.index 110 (.agg enC.toArray) (.int .i64 (k : Int))).run Tryd.prog w = .ok (.string (enS.getD k ⟨#[]⟩)) w := by
  have hagg : (isAgg 9).run Tryd.prog w = .ok false w := by kernel_rfl
  have hsz : (sizeOf 9).run Tryd.prog w = .ok 1 w := by kernel_rfl
  have hex := enC_at k hk
  have h0 : (0 : Int) ≤ k := by omega
  have h1 : (k : Int) < 42 := by omega
  simp only [Instr.index, asIntOf, Sem.run_bind, run_underlying undEn, Sem.run_pure, Result.andThen, Result.andThen_ok]
  simp only [h0, h1, true_and, if_true, part, Sem.run_bind, hsz, hagg, Result.andThen, Result.andThen_ok, Sem.run_pure, Int.toNat_natCast]
  simp [hex, h1]
/-- What Name answers. -/
def enN (n : Int) : ByteArray := if 0 ≤ n ∧ n ≤ 41 then enS.getD n.toNat ⟨#[]⟩ else ⟨#[]⟩
def enE (n : Int) : Int := if 0 ≤ n ∧ n ≤ 41 then 0 else 3
set_option maxRecDepth 100000 in
theorem ename_any (n : Int) (w : World) (hN : EN w) : Calls Tryd.prog 27 #[.int .i64 n] w fun e w' => e = .returned (.tuple #[.string (enN n), .int .i64 (enE n)]) ∧ w' = w := by
  by_cases h0 : n < 0
  · have he : Hid (enN n = ⟨#[]⟩ ∧ enE n = 3) := Lib.hid ⟨if_neg (by omega), if_neg (by omega)⟩
    clear hN
    go_enter Tryd.func27, Tryd.ntmps27
    go_wp2
    refine bodyPost_ret (results_tmp2 rfl _ _ _) rfl ?_
    exact ⟨by rw [he.out.1, he.out.2]; rfl, rfl⟩
  by_cases h1 : 42 ≤ n
  · have he : Hid (enN n = ⟨#[]⟩ ∧ enE n = 3) := Lib.hid ⟨if_neg (by omega), if_neg (by omega)⟩
    clear hN
    go_enter Tryd.func27, Tryd.ntmps27
    go_wp2
    refine bodyPost_ret (results_tmp2 rfl _ _ _) rfl ?_
    exact ⟨by rw [he.out.1, he.out.2]; rfl, rfl⟩
  · obtain ⟨k, rfl⟩ : ∃ k : Nat, n = (k : Int) := ⟨n.toNat, by omega⟩
    have hk : k < 42 := by omega
    have hk42 : (k : Int) < 42 := by omega
    have he : Hid (enN k = enS.getD k ⟨#[]⟩ ∧ enE k = 0) := Lib.hid ⟨by unfold enN; rw [if_pos (by omega)]; rfl, if_pos (by omega)⟩
    have c0 := hN.cell k hk
    generalize enS.getD k ⟨#[]⟩ = s at *
    clear hN
    go_enter Tryd.func27, Tryd.ntmps27
    go_wp2
    refine bodyPost_ret (results_tmp2 rfl _ _ _) rfl ?_
    exact ⟨by rw [he.out.1, he.out.2]; rfl, rfl⟩
/-- What Parse answers. -/
def PaPost (s : ByteArray) (w : World) (e : Ending) (w' : World) : Prop := ((∃ k : Nat, k < 42 ∧ enS.getD k ⟨#[]⟩ = s ∧ e = .returned (.tuple #[.int .i64 (k : Int), .int .i64 0])) ∨ ((∀ j, j < 42 → enS.getD j ⟨#[]⟩ ≠ s) ∧ e = .returned (.tuple #[.int .i64 0, .int .i64 6]))) ∧ Below w.heap.size w w'
set_option maxHeartbeats 4000000 in
set_option maxRecDepth 100000 in
theorem eparse_any (s : ByteArray) (w : World) (hN : EN w) : Calls Tryd.prog 28 #[.string s] w (PaPost s w) := by
  have hld := Lib.hid hN
  clear hN
  go_enter Tryd.func28, Tryd.ntmps28
  go_wp2_with (with_reducible refine wpList_load_en hld.out ?_)
  clear hld
  go_loopw [7] (fun iv wr => ∃ k : Nat, k ≤ 42 ∧ iv = .int .i64 (k : Int) ∧ Hid (∀ j, j < k → enS.getD j ⟨#[]⟩ ≠ s) ∧ Hid (Below w.heap.size w wr)) (fun iv _ => 42 - (intOf iv).toNat)
  case atStart => exact ⟨0, by omega, rfl, Lib.hid (fun j hj => absurd hj (Nat.not_lt_zero j)), Lib.hid (Below.refl _ _)⟩
  case round =>
    obtain ⟨k, hk, rfl, HE, hb⟩ := hrel
    by_cases hlt : k < 42
    · have hk0 : (0 : Int) ≤ k := by omega
      have hk1 : (k : Int) < 42 := by omega
      have hix := fun w => enIdx k hlt w
      obtain ⟨r, hr⟩ : ∃ r, enS.getD k ⟨#[]⟩ = r := ⟨_, rfl⟩
      rw [hr] at hix
      have HR := Lib.hid hr
      by_cases h1 : r = s
      · subst h1
        have h1b : (r.toList == r.toList) = true := by simp
        clear hr
        go_wp2_with fail
        refine bodyPost_ret (results_tmp2 rfl _ _ _) rfl ?_
        exact ⟨Or.inl ⟨k, hlt, HR.out, rfl⟩, hb.out⟩
      · have h1b := (kstr_ne h1).1
        have HE2 : Hid (∀ j, j < k + 1 → enS.getD j ⟨#[]⟩ ≠ s) := Lib.hid fun j hj => by
          by_cases e : j = k
          · rw [e, HR.out]; exact h1
          · exact HE.out j (by omega)
        clear hr
        go_wp2_with fail
        go_roundw
        case rel => exact ⟨k + 1, by omega, by go_num, HE2, hb⟩
        case measure => (simp [intOf]; try omega)
    · obtain rfl : k = 42 := by omega
      go_wp2_with fail
      refine bodyPost_ret (results_tmp2 rfl _ _ _) rfl ?_
      exact ⟨Or.inr ⟨HE.out, rfl⟩, hb.out⟩
end Go.Proofs.YtdifkjmpdmlobaaDoor
