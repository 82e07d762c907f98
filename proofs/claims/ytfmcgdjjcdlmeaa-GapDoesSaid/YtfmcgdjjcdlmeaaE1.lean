import Derived.Test.YtfmcgdjjcdlmeaaRows
import Derived.Test.YtfmcgdjjcdlmeaaKit
import Derived.Test.YtfmcgdjjcdlmeaaE0
import Derived.Test.YtfmcgdjjcdlmeaaShelf
import Derived.Lib.OthersKept
import Derived.Handy
import Derived.WalkSpells
import Derived.WalkLawsBesides
set_option linter.unusedVariables false
set_option linter.unusedSimpArgs false
namespace Go.Proofs.Ytfmcgdjjcdlmeaa
set_option maxRecDepth 100000
open Go.RowKit
theorem ret_boolU {a b : Bool} (h : a = b) : Ending.returned (.bool a) = .returned (.bool b) := by rw [h]
theorem infoByte : (Try.prog.info? 5).map (fun i => (i.zero, i.size, i.bytes)) = some (some (.int .u8 0), 1, 1) := by kernel_rfl
/-- A row of ints that can be read. -/
def Row (w : World) (a : Option Addr) (l : List Int) : Prop := ∀ j, j < l.length → ∃ b off, a = some ⟨b, off, none⟩ ∧ w.cell? ⟨b, off + j, none⟩ = some (.int .i64 (l.getD j 0)) ∧ b < w.heap.size
theorem Row.below {w w' : World} {a : Option Addr} {l : List Int} (h : Row w a l) (hb : Below w.heap.size w w') : Row w' a l := by
  intro j hj
  obtain ⟨b, off, ha, hc, hlt⟩ := h j hj
  exact ⟨b, off, ha, (hb.cell (p := ⟨b, off + j, none⟩) hlt).trans hc, Nat.lt_of_lt_of_le hlt hb.size⟩
theorem stray_any (v : Int) (w : World) : Calls Try.prog 35 #[.int .i64 v] w fun e w' => e = .returned (.bool (stB v)) ∧ w' = w := by
  have e1 := stB_iff v
  by_cases h1 : 1114240 ≤ v
  · by_cases h2 : v ≤ 1114367
    · have H := Lib.hid (e1.2 ⟨h1, h2⟩); clear e1
      go_enter Try.func35, Try.ntmps35
      go_wp2
      go_ret
      exact ⟨ret_boolU H.out.symm, rfl⟩
    · have H : Hid (stB v = false) := Lib.hid (by rw [← Bool.not_eq_true]; intro h; exact h2 (e1.1 h).2); clear e1
      go_enter Try.func35, Try.ntmps35
      go_wp2
      go_ret
      exact ⟨ret_boolU H.out.symm, rfl⟩
  · have H : Hid (stB v = false) := Lib.hid (by rw [← Bool.not_eq_true]; intro h; exact h1 (e1.1 h).1); clear e1
    go_enter Try.func35, Try.ntmps35
    go_wp2
    go_ret
    exact ⟨ret_boolU H.out.symm, rfl⟩
theorem point_any (v : Int) (w : World) : Calls Try.prog 34 #[.int .i64 v] w fun e w' => e = .returned (.bool (ptB v)) ∧ w' = w := by
  have e1 := ptB_iff v
  have hf : ¬ ((0 ≤ v ∧ v < 55296) ∨ (57343 < v ∧ v ≤ 1114111)) → ptB v = false := by intro h; rw [← Bool.not_eq_true]; intro h2; exact h (e1.1 h2)
  by_cases h1 : 0 ≤ v
  · by_cases h2 : v ≤ 1114111
    · by_cases h3 : v < 55296
      · have H := Lib.hid (e1.2 (Or.inl ⟨h1, h3⟩)); clear e1 hf
        go_enter Try.func34, Try.ntmps34
        go_wp2
        go_ret
        exact ⟨ret_boolU H.out.symm, rfl⟩
      · by_cases h4 : 57343 < v
        · have H := Lib.hid (e1.2 (Or.inr ⟨h4, h2⟩)); clear e1 hf
          go_enter Try.func34, Try.ntmps34
          go_wp2
          go_ret
          exact ⟨ret_boolU H.out.symm, rfl⟩
        · have h5 : decide (57343 < v) = false := decide_eq_false h4
          have H := Lib.hid (hf (by omega)); clear e1 hf
          go_enter Try.func34, Try.ntmps34
          go_wp2
          go_ret
          exact ⟨ret_boolU H.out.symm, rfl⟩
    · have H := Lib.hid (hf (by omega)); clear e1 hf
      go_enter Try.func34, Try.ntmps34
      go_wp2
      go_ret
      exact ⟨ret_boolU H.out.symm, rfl⟩
  · have H := Lib.hid (hf (by omega)); clear e1 hf
    go_enter Try.func34, Try.ntmps34
    go_wp2
    go_ret
    exact ⟨ret_boolU H.out.symm, rfl⟩
def rightB (v : Int) : Bool := ptB v || stB v
theorem right_any (v : Int) (w : World) : Calls Try.prog 33 #[.int .i64 v] w fun e w' => e = .returned (.bool (rightB v)) ∧ w' = w := by
  have P := Lib.hid (fun w => point_any v w)
  have S := Lib.hid (fun w => stray_any v w)
  have e0 : rightB v = (ptB v || stB v) := rfl
  generalize stB v = s at *
  cases h : ptB v
  · rw [h] at P e0
    have H := Lib.hid e0; clear e0 h
    go_enter Try.func33, Try.ntmps33
    go_wp2_with (first
      | (go_at_call 34; refine (P.out _).mono ?_; rintro e w1 ⟨rfl, rfl⟩)
      | (go_at_call 35; refine (S.out _).mono ?_; rintro e w1 ⟨rfl, rfl⟩))
    go_ret
    exact ⟨ret_boolU (H.out.trans (Bool.false_or _)).symm, rfl⟩
  · rw [h] at P e0
    have H := Lib.hid e0; clear e0 h
    go_enter Try.func33, Try.ntmps33
    go_wp2_with (first
      | (go_at_call 34; refine (P.out _).mono ?_; rintro e w1 ⟨rfl, rfl⟩)
      | (go_at_call 35; refine (S.out _).mono ?_; rintro e w1 ⟨rfl, rfl⟩))
    go_ret
    exact ⟨ret_boolU (H.out.trans (Bool.true_or _)).symm, rfl⟩
theorem right_ref (v : Int) (w : World) : Calls Try.prog 29 #[.int .i64 v] w fun e w' => e = .returned (.bool (rightB v)) ∧ w' = w := by
  have e1 : rightB v = true ↔ ((0 ≤ v ∧ v < 55296) ∨ (57343 < v ∧ v ≤ 1114111)) ∨ (1114240 ≤ v ∧ v ≤ 1114367) := by unfold rightB; rw [Bool.or_eq_true, ptB_iff, stB_iff]
  have hf : ¬ (((0 ≤ v ∧ v < 55296) ∨ (57343 < v ∧ v ≤ 1114111)) ∨ (1114240 ≤ v ∧ v ≤ 1114367)) → rightB v = false := by intro h; rw [← Bool.not_eq_true]; intro h2; exact h (e1.1 h2)
  have E : Hid (∀ b : Bool, rightB v = b → (Calls Try.prog 29 #[.int .i64 v] w fun e w' => e = .returned (.bool b) ∧ w' = w) → (Calls Try.prog 29 #[.int .i64 v] w fun e w' => e = .returned (.bool (rightB v)) ∧ w' = w)) := Lib.hid (fun b h k => by rw [h]; exact k)
  rcases (by omega : v < 0 ∨ (0 ≤ v ∧ v < 55296) ∨ (55296 ≤ v ∧ v ≤ 57343) ∨ (57343 < v ∧ v ≤ 1114111) ∨ (1114111 < v ∧ v < 1114240) ∨ (1114240 ≤ v ∧ v ≤ 1114367) ∨ 1114367 < v) with h | ⟨h, h'⟩ | ⟨h, h'⟩ | ⟨h, h'⟩ | ⟨h, h'⟩ | ⟨h, h'⟩ | h
  · refine E.out _ (hf (by omega)) ?_; clear e1 hf E
    go_enter Try.func29, Try.ntmps29
    go_wp2
    go_ret
    exact ⟨rfl, rfl⟩
  · refine E.out _ (e1.2 (by omega)) ?_; clear e1 hf E
    go_enter Try.func29, Try.ntmps29
    go_wp2
    go_ret
    exact ⟨rfl, rfl⟩
  · refine E.out _ (hf (by omega)) ?_; clear e1 hf E
    go_enter Try.func29, Try.ntmps29
    go_wp2
    go_ret
    exact ⟨rfl, rfl⟩
  · refine E.out _ (e1.2 (by omega)) ?_; clear e1 hf E
    go_enter Try.func29, Try.ntmps29
    go_wp2
    go_ret
    exact ⟨rfl, rfl⟩
  · refine E.out _ (hf (by omega)) ?_; clear e1 hf E
    go_enter Try.func29, Try.ntmps29
    go_wp2
    go_ret
    exact ⟨rfl, rfl⟩
  · refine E.out _ (e1.2 (by omega)) ?_; clear e1 hf E
    go_enter Try.func29, Try.ntmps29
    go_wp2
    go_ret
    exact ⟨rfl, rfl⟩
  · refine E.out _ (hf (by omega)) ?_; clear e1 hf E
    have hn : decide (v ≤ 1114367) = false := decide_eq_false (by omega)
    go_enter Try.func29, Try.ntmps29
    go_wp2
    go_ret
    exact ⟨rfl, rfl⟩
theorem ext_getD (a b : List Int) (h : a.length = b.length) (h2 : ∀ j, j < a.length → a.getD j 0 = b.getD j 0) : a = b := by
  apply List.ext_getElem h
  intro j h1 h3
  have := h2 j h1
  simpa [List.getD, List.getElem?_eq_getElem h1, List.getElem?_eq_getElem h3] using this
theorem cell_new (w : World) (v : Value) (e : TypeId) : (w.alloc (Obj.cells #[v] e)).cell? ({ block := w.heap.size, off := 0 } : Addr) = some v := by
  have h : (w.alloc (Obj.cells #[v] e)).heap[w.heap.size]? = some (Obj.cells #[v] e) := Array.getElem?_push_size
  simp only [World.cell?, h]; rfl
end Go.Proofs.Ytfmcgdjjcdlmeaa
