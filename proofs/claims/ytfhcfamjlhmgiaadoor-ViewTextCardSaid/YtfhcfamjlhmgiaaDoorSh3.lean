import Derived.Test.YtfhcfamjlhmgiaaDoorSh2
import Derived.Test.YtfhcfamjlhmgiaaDoorCl0
set_option linter.unusedVariables false
set_option linter.unusedSimpArgs false
namespace Go.Proofs.YtfhcfamjlhmgiaaDoor
set_option maxRecDepth 100000
open Go.RowKit
set_option maxHeartbeats 4000000 in
theorem looks_ref (v l : Int) (w : World) : Calls Tryd.prog 19 #[.agg #[.int .i64 v, .int .i64 l]] w fun e w' => e = .returned (.int .i64 (lkI v l)) ∧ Below w.heap.size w w' := by
  have O := fun w => of_ref v w
  rw [← cls_eq] at O
  have hk : lkI v l = (if 3 < cls v then 1 else 0) + (if l = 2 ∨ l = 3 ∨ l = 4 then 2 else 0) + (if cls v = 3 then 4 else 0) := rfl
  have hb0 := below_alloc w (.cells #[.int .i64 v, .int .i64 l] 23)
  generalize cls v = c at *
  replace O := Lib.hid O
  have hc : (3 < c) ∨ c = 3 ∨ (c < 3) := by omega
  have hl : l = 2 ∨ l = 3 ∨ l = 4 ∨ (l ≠ 2 ∧ l ≠ 3 ∧ l ≠ 4) := by omega
  rcases hc with hc | hc | hc
  all_goals
    first
      | (subst hc
         have e3 : True := trivial)
      | (have e3 : (c == 3) = false := by rw [beq_eq_false_iff_ne]; omega)
    rcases hl with hl | hl | hl | ⟨n2, n3, n4⟩
    all_goals
      first
        | (subst hl
           have l2 : True := trivial; have l3 : True := trivial; have l4 : True := trivial)
        | (have l2 : (l == 2) = false := by rw [beq_eq_false_iff_ne]; exact n2
           have l3 : (l == 3) = false := by rw [beq_eq_false_iff_ne]; exact n3
           have l4 : (l == 4) = false := by rw [beq_eq_false_iff_ne]; exact n4)
      have Hk := Lib.hid hk
      clear hk
      go_enter Tryd.func19, Tryd.ntmps19
      go_wp2_with (go_at_call 27; refine (O.out _).mono ?_; rintro e w1 ⟨rfl, hb1⟩; have cc1 := (hb1.cell (p := ⟨w.heap.size, 0, none⟩) (by simp)).trans (World.cell?_alloc_new w (#[.int .i64 v, .int .i64 _]) 23 0); have cc2 := (hb1.cell (p := ⟨w.heap.size, 1, none⟩) (by simp)).trans (World.cell?_alloc_new w (#[.int .i64 v, .int .i64 _]) 23 1))
      go_ret
      rw [Hk.out]
      refine ⟨retI ?_, seqB hb0 hb1⟩
      clear O hb0 hb1
      (repeat' split) <;> first | omega | simp_all
def twM (a b : Int) : Bool := cls a == cls b && shC a == shC b
set_option maxHeartbeats 1000000 in
theorem twin_any (a b : Int) (w : World) (hT : Tabs w) : Calls Tryd.prog 63 #[.int .i64 a, .int .i64 b] w fun e w' => e = .returned (.bool (twM a b)) ∧ Below w.heap.size w w' := by
  have O := Lib.hid fun v w hT => of_any v w hT
  have C := Lib.hid fun v w hT => shcols_any v w hT
  have HT := Lib.hid hT; clear hT
  have ht : twM a b = (cls a == cls b && shC a == shC b) := rfl
  cases h1 : (cls a == cls b)
  · have HF : Hid (twM a b = false) := Lib.hid (by rw [ht, h1]; rfl)
    clear ht
    go_enter Tryd.func63, Tryd.ntmps63
    go_wp2_with (first
      | (go_at_call 64; (with_reducible refine (O.out _ _ HT.out).mono ?_); rintro e w1 ⟨rfl, hb1⟩; have T1 := Lib.hid (HT.out.below hb1))
      | (go_at_call 64; (with_reducible refine (O.out _ _ T1.out).mono ?_); rintro e w2 ⟨rfl, hb2⟩))
    go_ret
    rw [HF.out]; exact ⟨rfl, seqB hb1 hb2⟩
  · cases h2 : (shC a == shC b)
    · have HF : Hid (twM a b = false) := Lib.hid (by rw [ht, h1, h2]; rfl)
      clear ht
      go_enter Tryd.func63, Tryd.ntmps63
      go_wp2_with (first
        | (go_at_call 64; (with_reducible refine (O.out _ _ HT.out).mono ?_); rintro e w1 ⟨rfl, hb1⟩; have T1 := Lib.hid (HT.out.below hb1))
        | (go_at_call 64; (with_reducible refine (O.out _ _ T1.out).mono ?_); rintro e w2 ⟨rfl, hb2⟩; have T2 := Lib.hid (T1.out.below hb2))
        | (go_at_call 26; (with_reducible refine (C.out _ _ T2.out).mono ?_); rintro e w3 ⟨rfl, hb3⟩; have T3 := Lib.hid (T2.out.below hb3))
        | (go_at_call 26; (with_reducible refine (C.out _ _ T3.out).mono ?_); rintro e w4 ⟨rfl, hb4⟩))
      go_ret
      rw [HF.out]; exact ⟨rfl, seqB (seqB (seqB hb1 hb2) hb3) hb4⟩
    · have HF : Hid (twM a b = true) := Lib.hid (by rw [ht, h1, h2]; rfl)
      clear ht
      go_enter Tryd.func63, Tryd.ntmps63
      go_wp2_with (first
        | (go_at_call 64; (with_reducible refine (O.out _ _ HT.out).mono ?_); rintro e w1 ⟨rfl, hb1⟩; have T1 := Lib.hid (HT.out.below hb1))
        | (go_at_call 64; (with_reducible refine (O.out _ _ T1.out).mono ?_); rintro e w2 ⟨rfl, hb2⟩; have T2 := Lib.hid (T1.out.below hb2))
        | (go_at_call 26; (with_reducible refine (C.out _ _ T2.out).mono ?_); rintro e w3 ⟨rfl, hb3⟩; have T3 := Lib.hid (T2.out.below hb3))
        | (go_at_call 26; (with_reducible refine (C.out _ _ T3.out).mono ?_); rintro e w4 ⟨rfl, hb4⟩))
      go_ret
      rw [HF.out]; exact ⟨rfl, seqB (seqB (seqB hb1 hb2) hb3) hb4⟩
/-- Do cells look the same? -/
def clE (p q : Cl) : Bool := p.1 == q.1 && p.2.1 == q.2.1
def shS (x y : List Cl) : Bool := x.length == y.length && (List.range x.length).all fun i => clE (x.getD i cl0) (y.getD i cl0)
theorem shS_len {x y : List Cl} (h : x.length ≠ y.length) : shS x y = false := by
  unfold shS; rw [show (x.length == y.length) = false by simpa using h]; rfl
theorem shS_no {x y : List Cl} {k : Nat} (hk : k < x.length) (h : clE (x.getD k cl0) (y.getD k cl0) = false) : shS x y = false := by
  unfold shS
  rw [show ((List.range x.length).all fun i => clE (x.getD i cl0) (y.getD i cl0)) = false by rw [List.all_eq_false]; exact ⟨k, by simpa using hk, by rw [h]; simp⟩, Bool.and_false]
theorem shS_yes {x y : List Cl} (hl : x.length = y.length) (h : ∀ j, j < x.length → clE (x.getD j cl0) (y.getD j cl0) = true) : shS x y = true := by
  unfold shS
  rw [Bool.and_eq_true]
  exact ⟨by simpa using hl, by rw [List.all_eq_true]; intro j hj; exact h j (by simpa using hj)⟩
/-- The very same cells? -/
def shA (x y : List Cl) : Bool := decide (x = y)
theorem shA_len {x y : List Cl} (h : x.length ≠ y.length) : shA x y = false := by unfold shA; rw [decide_eq_false]; intro e; exact h (by rw [e])
theorem shA_no {x y : List Cl} {k : Nat} (h : x.getD k cl0 ≠ y.getD k cl0) : shA x y = false := by unfold shA; rw [decide_eq_false]; intro e; exact h (by rw [e])
theorem shA_yes {x y : List Cl} (hl : x.length = y.length) (h : ∀ j, j < x.length → x.getD j cl0 = y.getD j cl0) : shA x y = true := by
  unfold shA; rw [decide_eq_true]
  apply List.ext_getElem hl
  intro j h1 h2
  have := h j h1
  rwa [List.getD, List.getD, List.getElem?_eq_getElem h1, List.getElem?_eq_getElem h2] at this
end Go.Proofs.YtfhcfamjlhmgiaaDoor
