/-
  emacs: what a key asks for, where a table has it.
-/
import Derived.Test.YtdifkjmpdmlobaaDoorEm4
set_option linter.unusedVariables false
set_option linter.unusedSimpArgs false
namespace Go.Proofs.YtdifkjmpdmlobaaDoor
set_option maxRecDepth 100000
open Go.RowKit Go.Shelf
attribute [local go_sem] Oper.semAt_some
theorem blk_own {β : Type} (B : Nat) (t : TypeId) (f : β → Array Value) : Own (fun (s : β) W => W.heap[B]? = some (Obj.cells (f s) t (0, 0))) := fun s X Y row hs hg hrow =>
  (hg.block B (Array.getElem?_eq_some_iff.1 hs).1 (fun e' => by obtain ⟨o, ho, hc⟩ := hrow B e'.symm; rw [show X.heap[B]? = _ from hs] at ho; cases ho; cases hc)).trans hs
set_option maxRecDepth 100000 in
set_option maxHeartbeats 4000000 in
theorem ecmd_t (k : Ky) (nm : ByteArray) (c : Int) (w : World) (hK : KT w) (h15 : ¬ k.1 = 15) (h1 : mkS (nmR k) = nm) (h2 : ckE k = 0) (hu : ∀ x ∈ erT 3, x.1.1 = nm → x.1.2 = c) (he : ∃ x ∈ erT 3, x.1.1 = nm) :
    Calls Tryd.prog 61 #[.agg #[.int .i64 k.1, .int .i64 k.2.1, .string k.2.2.1, .bool k.2.2.2]] w fun e w' => e = .returned (.int .i64 c) ∧ Below w.heap.size w w' := by
  have b1 := below_alloc w (.cells #[.int .i64 k.1, .int .i64 k.2.1, .string k.2.2.1, .bool k.2.2.2] 107)
  have r1 := heap_alloc_new w (.cells #[.int .i64 k.1, .int .i64 k.2.1, .string k.2.2.1, .bool k.2.2.2] 107)
  have b2 := below_alloc (w.alloc (.cells #[.int .i64 k.1, .int .i64 k.2.1, .string k.2.2.1, .bool k.2.2.2] 107)) (.cells #[.int .i64 0] 3)
  have r2 := heap_alloc_new (w.alloc (.cells #[.int .i64 k.1, .int .i64 k.2.1, .string k.2.2.1, .bool k.2.2.2] 107)) (.cells #[.int .i64 0] 3)
  have hz1 : (w.alloc (.cells #[.int .i64 k.1, .int .i64 k.2.1, .string k.2.2.1, .bool k.2.2.2] 107)).heap.size = w.heap.size + 1 := by simp
  rw [hz1] at r2
  have r12 := blk_below r1 b2
  have b12 := seqB b1 b2
  obtain ⟨W, hW⟩ : ∃ W, (w.alloc (.cells #[.int .i64 k.1, .int .i64 k.2.1, .string k.2.2.1, .bool k.2.2.2] 107)).alloc (.cells #[.int .i64 0] 3) = W := ⟨_, rfl⟩
  rw [hW] at r2 r12 b12
  have FD := Lib.hid (efinder_t k W (hK.below b12) nm h1 h2)
  have x0 := cell_of_row _ _ 0 _ _ _ r12
  have x1 := cell_of_row _ _ 1 _ _ _ r12
  have x2 := cell_of_row _ _ 2 _ _ _ r12
  have x3 := cell_of_row _ _ 3 _ _ _ r12
  dsimp at x0 x1 x2 x3
  have h15b : (k.1 == 15) = false := beq_eq_false_iff_ne.2 h15
  have NW := Lib.hid b12
  have RW := Lib.hid r2
  have HUQ := Lib.hid hu
  have HE := Lib.hid he
  clear b1 r1 b2 r2 r12 b12 hz1 hK h1 h2 hu he
  have hsf : ∀ (w : World) (ad : Addr) (fn : Fn) (first cap : Array Value), (store ad (.func fn first cap)).run Tryd.prog w = stored Tryd.prog w ad (.func fn first cap) .plain := fun w ad _ _ _ => run_store _ w ad _ _ rfl
  refine (callsIn_wide (n := 6)).1 ?_
  refine callsIn_of_wp_marks Tryd.func61 rfl trivial ?_ rfl
  simp only [Tryd.ntmps61, List.size_toArray, List.length_cons, List.length_nil, Nat.reduceAdd, Nat.reduceSub, Array.replicate_succ, Array.replicate_zero, List.push_toArray, List.append_toArray, List.nil_append, List.cons_append]
  gi_wp2_with (refine ⟨trivial, ?_⟩; gi_at_call 83; refine (callsIn_wide.2 FD.out).mono ?_; rintro e w2 ⟨q, rfl, hq, hb⟩; have Q2 := Lib.hid hq; have B2 := Lib.hid hb; have y2 := Boxed.new w2 137 .nilFunc; have yc2 := y2.cell; have yf2 := y2.frozen; clear hb hq)
  have bF := Boxed.new w2 137 (.func (.func 102) #[] #[.pointer (some ⟨q, 0, none⟩)])
  have N2 := seqB NW.out B2.out
  have ba3 := below_alloc w2 (.cells #[(.func (.func 102) #[] #[.pointer (some ⟨q, 0, none⟩)])] 137)
  have N3 := Lib.hid (seqB N2 ba3)
  have R3 := Lib.hid (blk_below (blk_below RW.out B2.out) ba3)
  have Q3 := Lib.hid (blk_below Q2.out ba3)
  have hR2 := Lib.hid (Nat.lt_of_lt_of_le (blk_lt RW.out) B2.out.size)
  have hql := Lib.hid (blk_lt Q2.out)
  obtain ⟨W3, hW3⟩ : ∃ W3, w2.alloc (.cells #[(.func (.func 102) #[] #[.pointer (some ⟨q, 0, none⟩)])] 137) = W3 := ⟨_, rfl⟩
  rw [hW3] at bF N3 R3 Q3
  have hs3 : W3.heap.size = w2.heap.size + 1 := by rw [← hW3]; simp
  try rw [hW3]
  clear hW3 hW y2 yc2 yf2 ba3 N2 x0 x1 x2 x3 RW NW Q2 FD
  have BF := Lib.hid bF
  have hws := Lib.hid N3.out.size
  refine wpIn_rangeFunc_ownH rfl (by decide) (gf := 84) (lb := #[]) rfl trivial (enters_of Tryd.func84 (by kernel_rfl) rfl)
    (rows_stops 5 (by decide) W3) kpE_t kpE_b (Below.refl _ _) (fun _ => rfl)
    (fun pre W => (((∀ x ∈ pre, x.1.1 ≠ nm) ∧ Boxed W (w.heap.size + 1) 3 (.int .i64 0)) ∧ (Boxed W w2.heap.size 137 (.func (.func 102) #[] #[.pointer (some ⟨q, 0, none⟩)]) ∧ Boxed W q 9 (.string nm))) ∧ Below w.heap.size w W)
    (fun c pre W => (∃ x, (c = .ret ∧ x ∈ pre ∧ x.1.1 = nm) ∧ Boxed W (w.heap.size + 1) 3 (.int .i64 x.1.2)) ∧ Below w.heap.size w W)
    (OwnFrom.and (OwnFrom.and (OwnFrom.and (ownFrom_pure _ _) (Own.from (boxed_own _ _ _) _)) (OwnFrom.and (Own.from (boxed_own _ _ _) _) (Own.from (boxed_own _ _ _) _))) (ownFrom_below (Nat.le_refl _) hws.out))
    (fun c => OwnFrom.and (fun s X Y row hs hg hr => by obtain ⟨x, e1, e2⟩ := hs; exact ⟨x, e1, boxed_own _ _ (fun (_ : Unit) => Value.int .i64 x.1.2) () X Y row e2 hg (fun r e => (hr r e).2)⟩) (ownFrom_below (Nat.le_refl _) hws.out))
    ⟨⟨⟨by simp, R3.out⟩, BF.out, Q3.out⟩, N3.out⟩
    (fun x a' W => ∃ Bx, w2.heap.size < Bx ∧ W.heap[Bx]? = some (Obj.cells #[.string x.1.1, .int .i64 x.1.2] 142 (0, 0)) ∧ a' = { tmps := #[.agg #[.int .i64 k.1, .int .i64 k.2.1, .string k.2.2.1, .bool k.2.2.2], .pointer (some ⟨w.heap.size, 0, none⟩), .pointer (some ⟨w.heap.size + 1, 0, none⟩), .pointer (some ⟨w2.heap.size, 0, none⟩), .bool true, .pointer (some ⟨Bx, 0, none⟩), .pointer (some ⟨w.heap.size, 0, none⟩), .int .i64 k.1, .bool false, undef, undef, undef, .tuple #[(.func (.func 102) #[] #[.pointer (some ⟨q, 0, none⟩)]), .bool true], .agg #[.int .i64 k.1, .int .i64 k.2.1, .string k.2.2.1, .bool k.2.2.2], .tuple #[(.func (.func 102) #[] #[.pointer (some ⟨q, 0, none⟩)]), .bool true], (.func (.func 102) #[] #[.pointer (some ⟨q, 0, none⟩)]), .bool true, .bool true, .bool false, .agg #[.string x.1.1, .int .i64 x.1.2], undef, undef, undef, undef, undef, undef, undef, undef], defers := [] })
    (fun x a' _ X Y row hs hg hr => by obtain ⟨Bx, e1, e2, e3⟩ := hs; exact ⟨Bx, e1, blk_own Bx _ (fun (_ : Unit) => #[Value.string x.1.1, .int .i64 x.1.2]) () X Y row e2 hg (fun r e => (hr r e).2), e3⟩)
    ?assign ?body ?done ?stop
  case assign =>
    rintro l pre x W K ⟨⟨⟨hp, bR1⟩, bF1, bQ1⟩, hB1⟩ hK
    gi_wp2
    exact hK _ _ ((KeepsOthers.alloc _ _).from _) (KpE.below (below_alloc _ _)) ⟨⟨⟨hp, bR1.alloc _⟩, bF1.alloc _, bQ1.alloc _⟩, hB1.alloc hB1.size _⟩ ⟨W.heap.size, bF1.lt, heap_alloc_new _ _, rfl⟩
  case body =>
    rintro l pre x a' W hl ⟨r, hr⟩ ⟨⟨⟨hp, bR1⟩, bF1, bQ1⟩, hB1⟩ ⟨Bx, hBx, bX, rfl⟩ hlt
    obtain ⟨⟨s, v⟩, hsz⟩ := x
    dsimp only at bX
    have c0 := cell_of_row _ _ 0 _ _ _ bX
    have c1 := cell_of_row _ _ 1 _ _ _ bX
    dsimp at c0 c1
    have cF := bF1.cell
    have bA := below_alloc W (.cells #[.string s, .int .i64 v] 142)
    have EF := Lib.hid (efind_any s nm v q W bQ1.cell)
    by_cases hn : s = nm
    · subst hn
      have hd : decide (s = s) = true := decide_eq_true rfl
      have cX1 := cell_of_row _ _ 1 _ _ _ (blk_below bX bA)
      dsimp at cX1
      have bR2 := bR1.alloc (.cells #[.string s, .int .i64 v] 142)
      have cR2 := bR2.cell
      have fR2 := bR2.frozen
      rw [hd] at EF
      clear hd
      gi_wp2_with (refine ⟨trivial, ?_⟩; gi_at_call 102; refine (CallsIn.inRound l (callsIn_wide.2 EF.out)).mono ?_; rintro e w' ⟨rfl, rfl⟩)
      exact ⟨((KeepsOthers.alloc _ _).trans (KeepsOthers.setCell _ _ _)).from _, ⟨⟨(s, v), hsz⟩, ⟨rfl, by simp, rfl⟩, bR2.set _⟩, (hB1.trans (bA.mono hB1.size)).setCell (p := ⟨w.heap.size + 1, 0, none⟩) (by simp) _⟩
    · have hd := decide_eq_false hn
      have hp2 : ∀ y ∈ pre ++ [(⟨(s, v), hsz⟩ : ES)], y.1.1 ≠ nm := by
        intro y hy
        rcases List.mem_append.1 hy with h | h
        · exact hp y h
        · rw [List.mem_singleton] at h
          rw [h]
          exact hn
      rw [hd] at EF
      clear hd
      gi_wp2_with (refine ⟨trivial, ?_⟩; gi_at_call 102; refine (CallsIn.inRound l (callsIn_wide.2 EF.out)).mono ?_; rintro e w' ⟨rfl, rfl⟩)
      exact ⟨(KeepsOthers.alloc _ _).from _, KpE.below bA, ⟨⟨⟨hp2, bR1.alloc _⟩, bF1.alloc _, bQ1.alloc _⟩, hB1.trans (bA.mono hB1.size)⟩⟩
  case done =>
    rintro D xs W hD rfl ⟨⟨⟨hp, _⟩, _⟩, _⟩ hK
    obtain ⟨x, hx, hn⟩ := HE.out
    exact absurd hn (hp x hx)
  case stop =>
    rintro D c' pre W hD hpre ⟨⟨x, ⟨rfl, hx, hn⟩, bR1⟩, hB1⟩ hK
    have hc := HUQ.out x (hpre.subset hx) hn
    rw [hc] at bR1
    have cR := cell_kept bR1.cell (grownBy_putObj' W D (.deferred none)) (fun r e => by cases e; exact ⟨_, hK, rfl⟩)
    gi_wp2
    refine ⟨by simp, .inl ⟨_, _, rfl, run_takeDeferred hK, ?_⟩⟩
    exact ⟨_, by simp [results, Tryd.results61, go_sem, cR], rfl, hB1.trans (belowK_b (w := w) (Nat.le_refl _) W D _ _ (Nat.le_trans hws.out hD) hK rfl rfl)⟩
end Go.Proofs.YtdifkjmpdmlobaaDoor
