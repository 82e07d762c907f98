/-
  emacs: which keys ask for a command.
-/
import Derived.Test.YtdifkjmpdmlobaaDoorEm5
set_option linter.unusedVariables false
set_option linter.unusedSimpArgs false
namespace Go.Proofs.YtdifkjmpdmlobaaDoor
set_option maxRecDepth 100000
open Go.RowKit Go.Shelf
attribute [local go_sem] Oper.semAt_some
theorem own_typE {w : World} {B n s : Nat} {T : TypeId} {v : Value} {vs : List Value} (h : w.ownsRow B T s v n vs) (q : Nat) (hq : v.ownBlock = some q) : ∃ cs, w.heap[q]? = some (.cells cs T (0, 0)) := by
  rcases h.2 with ⟨rfl, _⟩ | ⟨g, cap, cur, rfl, _, hg, _⟩
  · simp [Value.ownBlock] at hq
  · have e : g = q := by simpa [Value.ownBlock] using hq
    subst e
    exact ⟨cur, hg⟩
theorem infoEk : (Tryd.prog.info? 107).map (fun i => (i.zero, i.size, i.bytes)) = some (some (.agg #[.int .i64 0, .int .i64 0, .string ByteArray.empty, .bool false]), 4, 40) := by kernel_rfl
/-- How many rows of a command are keys. -/
def cntE (m : Int) (l : List ES) : Nat := (l.filter fun x => decide (x.1.2 = m) && decide (prE x.1.1.data.toList = 0)).length
theorem cntE_app (m : Int) (l : List ES) (x : ES) : cntE m (l ++ [x]) = cntE m l + (if x.1.2 = m ∧ prE x.1.1.data.toList = 0 then 1 else 0) := by
  unfold cntE
  rw [List.filter_append, List.length_append]
  by_cases h : x.1.2 = m ∧ prE x.1.1.data.toList = 0
  · rw [if_pos h, List.filter_cons_of_pos (by simp [h.1, h.2])]; rfl
  · rw [if_neg h, List.filter_cons_of_neg (by simpa using h)]; rfl
theorem cntE_le (m : Int) (l : List ES) : cntE m l ≤ l.length := List.length_filter_le _ _
/-- The keys, under way. -/
def EkR (m : Int) (B L : Nat) (pre : List ES) (W : World) : Prop := ∃ v xs, Boxed W L 108 v ∧ W.ownsRow B 107 4 v (cntE m pre) xs
theorem ekr_own (m : Int) (B L : Nat) : Own (EkR m B L) := fun s X Y row hs hg hr => by
  obtain ⟨v, xs, h1, h2⟩ := hs
  refine ⟨v, xs, boxed_own L _ (fun (_ : Unit) => v) () X Y row h1 hg hr, World.ownsRow.kept h2 hg ?_⟩
  cases hv : v.ownBlock with
  | none => exact Or.inl rfl
  | some q =>
    refine Or.inr fun e => ?_
    obtain ⟨c1, hc1⟩ := own_typE h2 q hv
    obtain ⟨o, ho, hc⟩ := hr q e.symm
    rw [hc1] at ho
    injection ho with ho
    rw [← ho] at hc
    cases hc
theorem keepsO_below {W W' : World} (b : Below W.heap.size W W') : KeepsOthers W W' := ⟨b.size, fun k o hk _ => (b.block k (Array.getElem?_eq_some_iff.1 hk).1).trans hk⟩
theorem EkR.below {m : Int} {B L : Nat} {pre : List ES} {W W' : World} (h : EkR m B L pre W) (b : Below W.heap.size W W') : EkR m B L pre W' := by
  obtain ⟨v, xs, h1, h2⟩ := h
  exact ⟨v, xs, blk_below h1 b, World.ownsRow.kept h2 (row := none) ⟨b.os, b.tape, b.output, b.size, fun k hk _ => b.block k hk⟩ (by cases v.ownBlock <;> simp)⟩
theorem EkR.len {m : Int} {B L : Nat} {pre pre' : List ES} {W : World} (h : EkR m B L pre W) (e : cntE m pre' = cntE m pre) : EkR m B L pre' W := by
  obtain ⟨v, xs, h1, h2⟩ := h
  exact ⟨v, xs, h1, by rw [e]; exact h2⟩
theorem kpE_grow {W W' : World} {u : Option Nat} {T : TypeId} (hg : W.grownBy W' u) (hu : ∀ q, u = some q → ∃ cs, W.heap[q]? = some (Obj.cells cs T (0, 0))) (hT : T ≠ 142 ∧ T ≠ 157) : KpE W W' := by
  refine ⟨hg.size, fun k cs T' f hk hT' => (hg.block k (Array.getElem?_eq_some_iff.1 hk).1 (fun e => ?_)).trans hk⟩
  obtain ⟨c2, h2⟩ := hu k e.symm
  rw [hk] at h2
  injection h2 with h2
  injection h2 with _ h3 _
  rcases hT' with h | h
  · exact hT.1 (h3.symm.trans h)
  · exact hT.2 (h3.symm.trans h)
set_option maxRecDepth 100000 in
set_option maxHeartbeats 8000000 in
theorem ekeys_t (m : Int) (k : Nat) (w : World) (hK : KT w) (hk : cntE m (erT 3) = k) :
    Calls Tryd.prog 62 #[.int .i64 m] w fun e w' => ∃ a c, e = .returned (.slice a k c) ∧ Below w.heap.size w w' := by
  have b1 := below_alloc w (.cells #[.int .i64 m] 3)
  have r1 := Boxed.new w 3 (.int .i64 m)
  have r2 := Boxed.new (w.alloc (.cells #[.int .i64 m] 3)) 108 (.slice none 0 0)
  have b2 := below_alloc (w.alloc (.cells #[.int .i64 m] 3)) (.cells #[.slice none 0 0] 108)
  have hz1 : (w.alloc (.cells #[.int .i64 m] 3)).heap.size = w.heap.size + 1 := by simp
  have r12 := r1.alloc (.cells #[.slice none 0 0] 108)
  have b12 := seqB b1 b2
  have hz2 : ((w.alloc (.cells #[.int .i64 m] 3)).alloc (.cells #[.slice none 0 0] 108)).heap.size = w.heap.size + 2 := by simp
  rw [hz1] at r2
  obtain ⟨W0, hW⟩ : ∃ W, (w.alloc (.cells #[.int .i64 m] 3)).alloc (.cells #[.slice none 0 0] 108) = W := ⟨_, rfl⟩
  rw [hW] at r2 r12 b12 hz2
  have HK := Lib.hid hK
  have HC := Lib.hid hk
  refine (callsIn_wide (n := 6)).1 ?_
  refine callsIn_of_wp_marks Tryd.func62 rfl trivial ?_ rfl
  simp only [Tryd.ntmps62, List.size_toArray, List.length_cons, List.length_nil, Nat.reduceAdd, Nat.reduceSub, Array.replicate_succ, Array.replicate_zero, List.push_toArray, List.append_toArray, List.nil_append, List.cons_append]
  gi_wp2
  try rw [hW]
  clear hW b1 b2 r1 hz1 hK hk
  have R2 := Lib.hid r2
  have R12 := Lib.hid r12
  have B12 := Lib.hid b12
  have Z2 := Lib.hid hz2
  clear r2 r12 b12 hz2
  refine wpIn_rangeFunc_ownH rfl (by decide) (gf := 84) (lb := #[]) rfl trivial (enters_of Tryd.func84 (by kernel_rfl) rfl)
    (rows_stops 5 (by decide) W0) kpE_t kpE_b (Below.refl _ _) (fun _ => rfl)
    (fun pre W => (Boxed W w.heap.size 3 (.int .i64 m) ∧ EkR m W0.heap.size (w.heap.size + 1) pre W) ∧ Below w.heap.size w W)
    (fun _ _ _ => False)
    (OwnFrom.and (OwnFrom.and (Own.from (boxed_own _ _ _) _) (Own.from (ekr_own _ _ _) _)) (ownFrom_below (Nat.le_refl _) B12.out.size))
    (fun _ _ _ _ _ hs _ _ => hs)
    ⟨⟨R12.out, _, [], R2.out, World.ownsRow_nil _ _ _ _⟩, B12.out⟩
    (fun x a' W => ∃ Bx, w.heap.size + 1 < Bx ∧ W.heap[Bx]? = some (Obj.cells #[.string x.1.1, .int .i64 x.1.2] 142 (0, 0)) ∧ a' = { tmps := #[.int .i64 m, .pointer (some ⟨w.heap.size, 0, none⟩), .slice none 0 0, .pointer (some ⟨w.heap.size + 1, 0, none⟩), .pointer (some ⟨Bx, 0, none⟩), undef, undef, .agg #[.string x.1.1, .int .i64 x.1.2], undef, undef, undef, undef, undef, undef, undef, undef, undef, undef, undef, undef, undef, undef, undef, undef, undef], defers := [] })
    (fun x a' _ X Y row hs hg hr => by obtain ⟨Bx, e1, e2, e3⟩ := hs; exact ⟨Bx, e1, blk_own Bx _ (fun (_ : Unit) => #[Value.string x.1.1, .int .i64 x.1.2]) () X Y row e2 hg (fun r e => (hr r e).2), e3⟩)
    ?assign ?body ?done ?stop
  case assign =>
    rintro l pre x W K ⟨⟨bC1, hR1⟩, hB1⟩ hK
    obtain ⟨v0, xs0, hb0, ho0⟩ := id hR1
    have bl := hb0.lt
    gi_wp2
    exact hK _ _ ((KeepsOthers.alloc _ _).from _) (KpE.below (below_alloc _ _)) ⟨⟨bC1.alloc _, hR1.below (below_alloc _ _)⟩, hB1.alloc hB1.size _⟩ ⟨W.heap.size, bl, heap_alloc_new _ _, rfl⟩
  case body =>
    rintro l pre x a' W hl ⟨r, hr⟩ ⟨⟨bC1, hR1⟩, hB1⟩ ⟨Bx, hBx, bX, rfl⟩ hlt
    obtain ⟨⟨s, v⟩, hsz⟩ := x
    dsimp only at bX hsz
    have c0 := cell_of_row _ _ 0 _ _ _ bX
    have c1 := cell_of_row _ _ 1 _ _ _ bX
    dsimp at c0 c1
    have cC := bC1.cell
    have hca := cntE_app m pre ⟨(s, v), hsz⟩
    by_cases hv : v = m
    · subst hv
      obtain ⟨⟨k1, k2, k3, k4⟩, hkk⟩ : ∃ kk, prK s.data.toList = kk := ⟨_, rfl⟩
      obtain ⟨er, her⟩ : ∃ er, prE s.data.toList = er := ⟨_, rfl⟩
      have EP : Hid (Calls Tryd.prog 85 #[.string s] W fun e w' => e = .returned (.tuple #[.agg #[.int .i64 k1, .int .i64 k2, .string k3, .bool k4], .int .i64 er]) ∧ Below W.heap.size W w') := Lib.hid (by
        have h := kparse_any s W (HK.out.below hB1) (by omega)
        unfold PrPost at h
        rw [hkk, her] at h
        exact h)
      rw [her] at hca
      by_cases her0 : er = 0
      · subst her0
        rw [if_pos ⟨rfl, rfl⟩] at hca
        obtain ⟨v0, xs0, hb0, ho0⟩ := hR1
        have hLlt := hb0.lt
        obtain ⟨i0, hi, hz0, hz1, hz2⟩ := info_parts infoEk
        have hcl := cntE_le v pre
        gi_wp2_with (first
          | (refine ⟨trivial, ?_⟩; gi_at_call 85; refine (CallsIn.inRound l (callsIn_wide.2 EP.out)).mono ?_; rintro e w5 ⟨rfl, hb⟩; have b5 := seqB hb (below_alloc w5 (.cells #[.int .i64 k1, .int .i64 k2, .string k3, .bool k4] 107)); have b6 := seqB b5 (below_alloc (w5.alloc (.cells #[.int .i64 k1, .int .i64 k2, .string k3, .bool k4] 107)) (.cells #[.int .i64 k1, .int .i64 k2, .string k3, .bool k4] 107)); have cL5 := (show Boxed (w5.alloc (.cells #[.int .i64 k1, .int .i64 k2, .string k3, .bool k4] 107)) (w.heap.size + 1) 108 v0 from blk_below hb0 b5).cell; have hb6 : Boxed ((w5.alloc (.cells #[.int .i64 k1, .int .i64 k2, .string k3, .bool k4] 107)).alloc (.cells #[.int .i64 k1, .int .i64 k2, .string k3, .bool k4] 107)) (w.heap.size + 1) 108 v0 := blk_below hb0 b6; have ho6 : ((w5.alloc (.cells #[.int .i64 k1, .int .i64 k2, .string k3, .bool k4] 107)).alloc (.cells #[.int .i64 k1, .int .i64 k2, .string k3, .bool k4] 107)).ownsRow W0.heap.size 107 4 v0 (cntE v pre) xs0 := World.ownsRow.kept ho0 (row := none) ⟨b6.os, b6.tape, b6.output, b6.size, fun k hk _ => b6.block k hk⟩ (by cases v0.ownBlock <;> simp); have hnew : ∀ j y, ([Value.int .i64 k1, .int .i64 k2, .string k3, .bool k4] : List Value)[j]? = some y → ((w5.alloc (.cells #[.int .i64 k1, .int .i64 k2, .string k3, .bool k4] 107)).alloc (.cells #[.int .i64 k1, .int .i64 k2, .string k3, .bool k4] 107)).cell? ((⟨w5.heap.size + 1, 0, none⟩ : Addr).add j) = some y := (fun j y hj => app_cells (by simp) hj))
          | (gi_at_builtin; refine wpListIn_append_own _ rfl _ _ 108 rfl W0.heap.size 107 i0 _ 4 40 Tryd.underlying108 hi hz0 hz1 hz2 rfl (by decide) _ _ _ rfl ho6 ⟨w5.heap.size + 1, 0, none⟩ 1 1 [.int .i64 k1, .int .i64 k2, .string k3, .bool k4] rfl rfl hnew (by simp [Value.oneCell']) (by unfold maxLen; omega) (by omega) ?g1 ?_))
        case g1 =>
          have h1 := (Array.getElem?_eq_some_iff.1 hr).1
          have h2 := b6.size
          simp at h2 ⊢
          omega
        intro v' w7 hown' hgrow _
        obtain ⟨g', cap', rfl⟩ := ownsRow_succ hown'
        have hWW : W0.heap.size ≤ W.heap.size := Nat.le_of_lt (Nat.lt_of_le_of_lt hl (Array.getElem?_eq_some_iff.1 hr).1)
        have hZ := Z2.out
        have hneL : some (w.heap.size + 1) ≠ v0.ownBlock := fun e => by
          have := (ho6.lt _ e.symm).1
          omega
        have hneC : some w.heap.size ≠ v0.ownBlock := fun e => by
          have := (ho6.lt _ e.symm).1
          omega
        have bL7 := hb6.kept hgrow hneL
        have bC7 := (show Boxed ((w5.alloc (.cells #[.int .i64 k1, .int .i64 k2, .string k3, .bool k4] 107)).alloc (.cells #[.int .i64 k1, .int .i64 k2, .string k3, .bool k4] 107)) w.heap.size 3 (.int .i64 v) from blk_below bC1 b6).kept hgrow hneC
        have cL7 := bL7.cell
        have fL7 := bL7.frozen
        have hcellsO : ∀ (j : Nat) (o : Obj), v0.ownBlock = some j → ((w5.alloc (.cells #[.int .i64 k1, .int .i64 k2, .string k3, .bool k4] 107)).alloc (.cells #[.int .i64 k1, .int .i64 k2, .string k3, .bool k4] 107)).heap[j]? = some o → o.isCells = true := fun j o hj ho => by
          obtain ⟨cs, hc⟩ := own_typE ho6 j hj
          rw [hc] at ho
          injection ho with ho
          rw [← ho]
          rfl
        have KF := ((keepsO_below b6).trans (KeepsOthers.of_grownBy hgrow hcellsO)).trans (KeepsOthers.setCell w7 ⟨w.heap.size + 1, 0, none⟩ (.slice (some ⟨g', 0, none⟩) (cntE v pre + 1) cap'))
        have KE := kpE_t (kpE_t (KpE.below b6) (kpE_grow hgrow (own_typE ho6) ⟨by decide, by decide⟩)) (kpE_grow (grownBy_setCell' w7 (w.heap.size + 1) (.slice (some ⟨g', 0, none⟩) (cntE v pre + 1) cap')) (fun q e => by cases e; exact ⟨_, bL7⟩) ⟨by decide, by decide⟩)
        have hneL' : (Value.slice (some ⟨g', 0, none⟩) (cntE v pre + 1) cap').ownBlock ≠ some (w.heap.size + 1) := fun e => by
          have := (hown'.lt _ e).1
          omega
        have ho8 := World.ownsRow.kept hown' (grownBy_setCell' w7 (w.heap.size + 1) (.slice (some ⟨g', 0, none⟩) (cntE v pre + 1) cap')) (Or.inr hneL')
        have N7 := (hB1.trans (b6.mono hB1.size)).grown hgrow (by have := (hB1.trans (b6.mono hB1.size)).size; exact this) (fun j hj => by have := (ho6.lt j hj).1; omega)
        gi_wp2
        exact ⟨KF.from _, KE, ⟨⟨bC7.other (by omega) _, ⟨_, _, bL7.set _, by rw [hca]; exact ho8⟩⟩, N7.setCell (p := ⟨w.heap.size + 1, 0, none⟩) (by simp) _⟩⟩
      · rw [if_neg (fun h => her0 h.2), Nat.add_zero] at hca
        have herb : (er == 0) = false := beq_eq_false_iff_ne.2 her0
        gi_wp2_with (refine ⟨trivial, ?_⟩; gi_at_call 85; refine (CallsIn.inRound l (callsIn_wide.2 EP.out)).mono ?_; rintro e w5 ⟨rfl, hb⟩; have b6 := seqB hb (below_alloc w5 (.cells #[.int .i64 k1, .int .i64 k2, .string k3, .bool k4] 107)); clear hb)
        exact ⟨(keepsO_below b6).from _, KpE.below b6, ⟨⟨blk_below bC1 b6, (hR1.below b6).len hca⟩, hB1.trans (b6.mono hB1.size)⟩⟩
    · have hvb : (v != m) = true := by simpa using hv
      rw [if_neg (fun h => hv h.1), Nat.add_zero] at hca
      gi_wp2
      exact ⟨(KeepsOthers.refl _).from _, KpE.below (Below.refl _ _), ⟨bC1, hR1.len hca⟩, hB1⟩
  case done =>
    rintro D xs W hD rfl ⟨⟨bC1, hR1⟩, hB1⟩ hK
    obtain ⟨v0, xs0, hb0, ho0⟩ := hR1
    rw [HC.out] at ho0
    have hf : ∃ a c, v0 = .slice a k c := by
      rcases ho0.2 with ⟨e1, e2⟩ | ⟨g, cap, cur, e1, _⟩
      · rw [e2]
        exact ⟨none, 0, e1⟩
      · exact ⟨_, _, e1⟩
    obtain ⟨a, c, rfl⟩ := hf
    have cL := hb0.cell
    gi_wp2
    refine ⟨by simp, .inl ⟨_, _, rfl, run_takeDeferred hK, ?_⟩⟩
    exact ⟨_, results_tmp rfl _ _ _, a, c, rfl, hB1.trans (belowK_b (w := w) (Nat.le_refl _) W D _ _ (Nat.le_trans B12.out.size hD) hK rfl rfl)⟩
  case stop =>
    rintro D c pre W _ _ h _
    exact h.elim
end Go.Proofs.YtdifkjmpdmlobaaDoor
