/-
  Joined: M22 M26 M27 OwR M28.
-/
import Derived.Test.YtcdecnmhogmhaaaDoorJE04
import Derived.Test.YtcdecnmhogmhaaaDoorJE10
import Derived.Laws.AppendOwnNone
import Derived.Deep.RegionLaw
import Derived.Deep.AppendLies
import Derived.Deep.Upon
set_option linter.unusedVariables false
set_option linter.unusedSimpArgs false
set_option maxRecDepth 100000
set_option linter.unusedVariables false
set_option linter.unusedSimpArgs false
namespace Go.Proofs.YtcdecnmhogmhaaaDoor
open Go.RowKit Go.Sort
/-- How long texts of joined pieces are. -/
def sumT (L : List Ot) : Nat := (L.map fun p => p.2.2.2.size).sum
theorem sumT_app (a b : List Ot) : sumT (a ++ b) = sumT a + sumT b := by unfold sumT; rw [List.map_append, List.sum_append]
theorem sumT_one (p : Ot) : sumT [p] = p.2.2.2.size := by unfold sumT; simp
theorem jn1_sum (acc : List Ot) (o : Ot) : sumT (jn1 acc o) = sumT acc + o.2.2.2.size ∧ (jn1 acc o).length ≤ acc.length + 1 := by
  rcases jn1_cases acc o with ⟨b, x, e, h1, h2, e2⟩ | ⟨e2, _⟩
  · rw [e2, e, sumT_app, sumT_app, sumT_one, sumT_one]
    dsimp only
    rw [ByteArray.size_append]
    refine ⟨by omega, by simp⟩
  · rw [e2, sumT_app, sumT_one]; refine ⟨rfl, by simp⟩
theorem jn_sum (L : List Ot) : ∀ k, k ≤ L.length → sumT (jn (L.take k)) = sumT (L.take k) ∧ (jn (L.take k)).length ≤ k
  | 0, _ => ⟨rfl, Nat.le_refl _⟩
  | k + 1, hk => by
    obtain ⟨h1, h2⟩ := jn_sum L k (by omega)
    rw [take_out L k (by omega), jn_snoc, sumT_app, sumT_one]
    have h3 := jn1_sum (jn (L.take k)) (L.getD k ot0)
    omega
theorem sumT_le {L : List Ot} {p : Ot} (h : p ∈ L) : p.2.2.2.size ≤ sumT L := by
  induction L with
  | nil => cases h
  | cons x L ih =>
    have e : sumT (x :: L) = x.2.2.2.size + sumT L := by unfold sumT; simp
    rcases List.mem_cons.1 h with rfl | h
    · omega
    · have := ih h; omega
theorem sumT_take (L : List Ot) (k : Nat) : sumT (L.take k) ≤ sumT L := by
  have h := sumT_app (L.take k) (L.drop k)
  rw [List.take_append_drop] at h; omega
theorem own_cells4 {w : World} {B cap g : Nat} {L : List Ot} (h : w.ownsRow B 61 4 (.slice (some ⟨g, 0, none⟩) L.length cap) L.length (oCells L)) {j : Nat} (hj : j < L.length) : w.cell? ⟨g, j * 4, none⟩ = some (.int .i64 (L.getD j ot0).1) ∧ w.cell? ⟨g, j * 4 + 1, none⟩ = some (.int .i64 (L.getD j ot0).2.1) ∧ w.cell? ⟨g, j * 4 + 2, none⟩ = some (.int .i64 (L.getD j ot0).2.2.1) ∧ w.cell? ⟨g, j * 4 + 3, none⟩ = some (.string (L.getD j ot0).2.2.2) := by
  obtain ⟨h0, h1, h2, h3⟩ := oCells_at L j hj
  refine ⟨?_, ?_, ?_, ?_⟩
  · rw [h.cellAt (j * 4) (by omega), h0]
  · rw [h.cellAt (j * 4 + 1) (by omega), h1]
  · rw [h.cellAt (j * 4 + 2) (by omega), h2]
  · rw [h.cellAt (j * 4 + 3) (by omega), h3]
end Go.Proofs.YtcdecnmhogmhaaaDoor
set_option linter.unusedVariables false
set_option linter.unusedSimpArgs false
namespace Go.Proofs.YtcdecnmhogmhaaaDoor
open Go.RowKit Go.Sort
theorem own_cap {w : World} {B size n cap g : Nat} {e : TypeId} {xs : List Value} (h : w.ownsRow B e size (.slice (some ⟨g, 0, none⟩) n cap) n xs) : n ≤ cap := by
  rcases h.2 with ⟨h0, _⟩ | ⟨g', cap', cur, h0, _, _, hn, _⟩
  · cases h0
  · rw [(Value.slice.inj h0).2.2]; exact hn
theorem app0 (i0 : TypeInfo) (hi : Tryd.prog.info? 61 = some i0) (h g cap : Nat) (w : World) : (Builtin.append_ #[54, 54] 54 #[.slice (some ⟨h, 0, none⟩) 0 0, .slice (some ⟨g, 0, none⟩) 0 cap]).run Tryd.prog w = .ok (.slice (some ⟨h, 0, none⟩) 0 0) w :=
  run_append_nothing w _ _ _ 61 i0 Tryd.underlying54 hi (some ⟨h, 0, none⟩) 0 0 (Nat.le_refl _) _ (Src.ofSlice w Tryd.underlying54 ⟨g, 0, none⟩ 0 cap [] (by simp) (by simp) (by simp))
theorem own_blank {w : World} {B g : Nat} (h : w.heap[g]? = some (.cells #[] 61 (0, 0))) (hB : B ≤ g) : w.ownsRow B 61 4 (.slice (some ⟨g, 0, none⟩) 0 0) 0 [] :=
  ⟨rfl, .inr ⟨g, 0, #[], rfl, hB, h, Nat.le_refl _, Nat.zero_le _, rfl, rfl⟩⟩
theorem lies_below {w w' : World} {g : Nat} {l : List Value} (h : ∀ j u, l[j]? = some u → w.cell? ((⟨g, 0, none⟩ : Addr).add j) = some u) (hg : g < w.heap.size) (hb : Below w.heap.size w w') : ∀ j u, l[j]? = some u → w'.cell? ((⟨g, 0, none⟩ : Addr).add j) = some u := fun j u hj => by
  have e : (⟨g, 0, none⟩ : Addr).add j = ⟨g, 0 + j, none⟩ := by unfold Addr.add; split <;> simp_all
  have h1 := h j u hj
  rw [e] at h1 ⊢
  exact (hb.cell (p := ⟨g, 0 + j, none⟩) hg).trans h1
theorem row_cells {w : World} {g : Nat} {L : List Value} {t : TypeId} {f : Nat × Nat} (h : w.heap[g]? = some (.cells L.toArray t f)) {j : Nat} {x : Value} (hj : L[j]? = some x) : w.cell? ((⟨g, 0, none⟩ : Addr).add j) = some x := by
  have e : (⟨g, 0, none⟩ : Addr).add j = ⟨g, 0 + j, none⟩ := by unfold Addr.add; split <;> simp_all
  rw [e, Nat.zero_add, cell_of_row _ _ _ _ _ _ h, List.getElem?_toArray]; exact hj
theorem oCells_one (b : List Ot) : ∀ u ∈ oCells b, u.oneCell' = true := by
  intro u hu
  unfold oCells at hu
  obtain ⟨p, _, hp⟩ := List.mem_flatMap.1 hu
  simp [otL] at hp
  rcases hp with rfl | rfl | rfl | rfl <;> rfl
def JnRes (L : List Ot) (w : World) (e : Ending) (w' : World) : Prop := ∃ v, e = .returned v ∧ ownT w' w.heap.size v (jn L) ∧ Below w.heap.size w w'
set_option maxHeartbeats 8000000 in
theorem joined_ref (L : List Ot) (a : Option Addr) (c : Nat) (w : World) (hl : L.length ≤ 1000) (hz : sumT L ≤ 1000000) (ho : OutsIn w a L) :
    Calls Tryd.prog 37 #[.slice a L.length c] w (JnRes L w) := by
  obtain ⟨i0, hi, hz0, hz1, hz2⟩ := info_parts infoOut
  have HO := Lib.hid ho
  have HJ := Lib.hid (jn_sum L)
  have HTk := Lib.hid (fun k => Nat.le_trans (sumT_take L k) hz)
  clear ho
  go_enter Tryd.func37, Tryd.ntmps37
  go_wp2
  go_loopw [3, 4] (fun lv iv wr => ∃ k : Nat, k ≤ L.length ∧ iv = .int .i64 (k : Int) ∧ Hid (ownT wr w.heap.size lv (jn (L.take k))) ∧ Below w.heap.size w wr) (fun _ iv _ => L.length - (intOf iv).toNat)
  case atStart => exact ⟨0, Nat.zero_le _, rfl, Lib.hid (World.ownsRow_nil _ _ _ _), Below.refl _ _⟩
  case round =>
    obtain ⟨k, hk, rfl, hO, hbl⟩ := hrel
    by_cases hlt : k < L.length
    · obtain ⟨bb, off, rfl, hblt, c0, c1, c2, c3⟩ := (HO.out.below hbl) k hlt
      have hk1 : (k : Int) < L.length := by omega
      have hk0 : (0 : Int) ≤ k := by omega
      have htk := take_out L k hlt
      have hjs := jn_snoc (L.take k) (L.getD k ot0)
      rw [← htk] at hjs
      obtain ⟨hj1, hj2⟩ := HJ.out k hk
      have htl := HTk.out k
      have hut : (L.getD k ot0).2.2.2.size ≤ 1000000 := by
        have h1 := HTk.out (k + 1)
        rw [htk, sumT_app, sumT_one] at h1; omega
      have hcs := jn1_cases (jn (L.take k)) (L.getD k ot0)
      obtain ⟨kk, n, m, u, hp⟩ : ∃ kk n m t, L.getD k ot0 = (kk, n, m, t) := ⟨_, _, _, _, rfl⟩
      rw [hp] at c0 c1 c2 c3 hjs hut hcs
      dsimp only at c0 c1 c2 c3 hut hcs
      have hown := hO.out
      unfold ownT at hown
      generalize jn (L.take k) = acc at *
      rcases hcs with ⟨b, x, e, h1, h2, e2⟩ | ⟨e2, h3⟩
      · have HN : Hid (jn (L.take (k + 1)) = b ++ [(x.1, x.2.1, x.2.2.1, x.2.2.2 ++ u)]) := Lib.hid (by rw [hjs, e2])
        obtain ⟨g, cap, rfl⟩ := ownsRow_pos hown (show 0 < acc.length by rw [e]; simp)
        have hal : acc.length = b.length + 1 := by rw [e]; simp
        have hgx : acc.getD b.length ot0 = x := by rw [e, List.getD, List.getElem?_append_right (Nat.le_refl _), Nat.sub_self]; rfl
        obtain ⟨z0, z1, z2, z3⟩ := own_cells4 hown (j := b.length) (by omega)
        rw [hgx] at z0 z1 z2 z3
        have hxs : x.2.2.2.size ≤ 1000000 := by
          have := sumT_le (L := acc) (p := x) (by rw [e]; simp)
          omega
        obtain ⟨xk, xn, xm, xt⟩ := x
        dsimp only at z0 z1 z2 z3 hxs h2 HN
        subst h1; subst h2
        have hpi : (0 : Int) < (acc.length : Int) := by omega
        have hi0 : (0 : Int) ≤ (acc.length : Int) - 1 := by omega
        have hi1 : (acc.length : Int) - 1 < acc.length := by omega
        have hi2 : ((acc.length : Int) - 1).toNat = b.length := by omega
        have hi3 : (acc.length : Int) ≤ 1000 := by omega
        have hbc : oCells acc = oCells b ++ [.int .i64 0, .int .i64 xn, .int .i64 xm, .string xt] := by rw [e, oCells_snoc]
        have HA := Lib.hid hal
        have HBC := Lib.hid hbc
        have Ba := below_alloc wr (.cells #[.int .i64 0, .int .i64 xn, .int .i64 xm, .string xt] 61)
        have x7 := heap_alloc_new wr (.cells #[.int .i64 0, .int .i64 xn, .int .i64 xm, .string xt] 61)
        have d3 := (Ba.cell (p := ⟨bb, off + k * 4 + 3, none⟩) hblt).trans c3
        have HOn := Lib.hid hown
        clear hal hgx e2 hjs htk hp hbc e hown hO
        go_upto_region 8 with fail
        have y := fun i => cell_of_row _ _ i _ _ _ x7; have w3 := y 3; clear y; dsimp at w3
        have wf := fun i => frozen_of_row _ wr.heap.size i _ _ x7
        have R1 := sum_run xt u (by omega)
        go_region_law (fail)
        clear w3 wf x7 d3 Ba R1
        all_goals
          have Ba := below_alloc wr (.cells #[.int .i64 0, .int .i64 xn, .int .i64 xm, .string (xt ++ u)] 61)
          have x8 := heap_alloc_new wr (.cells #[.int .i64 0, .int .i64 xn, .int .i64 xm, .string (xt ++ u)] 61)
          generalize hW8 : (wr.alloc (.cells #[.int .i64 0, .int .i64 xn, .int .i64 xm, .string (xt ++ u)] 61)).drew = W8
          have x9 : W8.heap[wr.heap.size]? = some (.cells #[.int .i64 0, .int .i64 xn, .int .i64 xm, .string (xt ++ u)] 61 (0, 0)) := by rw [← hW8]; exact x8
          have N8 : Below wr.heap.size wr W8 := by rw [← hW8]; exact Ba.drew
          clear hW8 Ba x8
          have O8 := own_below HOn.out N8
          have y := fun i => cell_of_row _ _ i _ _ _ x9; have w0 := y 0; have w1 := y 1; have w2 := y 2; have w3 := y 3; clear y
          dsimp at w0 w1 w2 w3
          go_upto_region 9 with fail
          have hsz8 := N8.size
          have bl := HA.out
          have hcp := own_cap O8
          have hw1 : IntKind.i64.wrap ((acc.length : Int) - 1) = (acc.length : Int) - 1 := by rw [IntKind.wrap_i64]; omega
          have hw2 : (acc.length : Int) - 1 ≤ cap := by omega
          have hw4 : (1 : Int) ≤ acc.length := by omega
          have hx9 := blk_lt x9
          have e1 := (below_alloc W8 (.cells #[] 61)).drew
          have e2 := ((seqB (below_alloc W8 (.cells #[] 61)) (below_alloc _ (.cells #[.int .i64 0, .int .i64 xn, .int .i64 xm, .string (xt ++ u)] 61)))).drew
          have e3 := ((seqB (below_alloc W8 (.cells #[.int .i64 0, .int .i64 xn, .int .i64 xm, .string (xt ++ u)] 61)) (below_alloc _ (.cells #[] 61)))).drew
          have hB1 : w.heap.size ≤ ((W8.alloc (.cells #[] 61)).drew).heap.size := Nat.le_trans (Nat.le_trans hbl.size N8.size) e1.size
          have hB2 : w.heap.size ≤ (((W8.alloc (.cells #[] 61)).alloc (.cells #[.int .i64 0, .int .i64 xn, .int .i64 xm, .string (xt ++ u)] 61)).drew).heap.size := Nat.le_trans (Nat.le_trans hbl.size N8.size) e2.size
          have hB3 : w.heap.size ≤ (((W8.alloc (.cells #[.int .i64 0, .int .i64 xn, .int .i64 xm, .string (xt ++ u)] 61)).alloc (.cells #[] 61)).drew).heap.size := Nat.le_trans (Nat.le_trans hbl.size N8.size) e3.size
          have hWB : w.heap.size ≤ W8.heap.size := Nat.le_trans hbl.size N8.size
          have x1 := Lib.hid (blk_below x9 e1)
          have x2 := Lib.hid (blk_below x9 e2)
          have x3 := Lib.hid (blk_below x9 e3)
          have own1 := Lib.hid (show ((W8.alloc (.cells #[] 61)).drew).ownsRow w.heap.size 61 4 (.slice (some ⟨W8.heap.size, 0, none⟩) 0 0) 0 [] from own_blank (heap_alloc_new W8 _) hWB)
          have own2 := Lib.hid (show (((W8.alloc (.cells #[] 61)).alloc (.cells #[.int .i64 0, .int .i64 xn, .int .i64 xm, .string (xt ++ u)] 61)).drew).ownsRow w.heap.size 61 4 (.slice (some ⟨W8.heap.size, 0, none⟩) 0 0) 0 [] from own_blank (blk_alloc (heap_alloc_new W8 _) _) hWB)
          have own3 := Lib.hid (show (((W8.alloc (.cells #[.int .i64 0, .int .i64 xn, .int .i64 xm, .string (xt ++ u)] 61)).alloc (.cells #[] 61)).drew).ownsRow w.heap.size 61 4 (.slice (some ⟨W8.heap.size + 1, 0, none⟩) 0 0) 0 [] from own_blank (by have h := heap_alloc_new (W8.alloc (.cells #[.int .i64 0, .int .i64 xn, .int .i64 xm, .string (xt ++ u)] 61)) (.cells #[] 61); rwa [show (W8.alloc (.cells #[.int .i64 0, .int .i64 xn, .int .i64 xm, .string (xt ++ u)] 61)).heap.size = W8.heap.size + 1 by simp] at h) (by omega))
          have r2 : (((W8.alloc (.cells #[] 61)).alloc (.cells #[.int .i64 0, .int .i64 xn, .int .i64 xm, .string (xt ++ u)] 61)).drew).heap[W8.heap.size + 1]? = some (.cells #[.int .i64 0, .int .i64 xn, .int .i64 xm, .string (xt ++ u)] 61 (0, 0)) := by
            have h := heap_alloc_new (W8.alloc (.cells #[] 61)) (.cells #[.int .i64 0, .int .i64 xn, .int .i64 xm, .string (xt ++ u)] 61)
            rwa [show (W8.alloc (.cells #[] 61)).heap.size = W8.heap.size + 1 by simp] at h
          have r3 : (((W8.alloc (.cells #[.int .i64 0, .int .i64 xn, .int .i64 xm, .string (xt ++ u)] 61)).alloc (.cells #[] 61)).drew).heap[W8.heap.size]? = some (.cells #[.int .i64 0, .int .i64 xn, .int .i64 xm, .string (xt ++ u)] 61 (0, 0)) := blk_alloc (heap_alloc_new W8 (.cells #[.int .i64 0, .int .i64 xn, .int .i64 xm, .string (xt ++ u)] 61)) (.cells #[] 61)
          replace r2 := Lib.hid r2; replace r3 := Lib.hid r3
          by_cases hb0 : b.length = 0
          · have hbn : b = [] := List.eq_nil_of_length_eq_zero hb0
            subst hbn
            have hi2' : ((acc.length : Int) - 1).toNat = 0 := hi2
            have AP := fun h w => app0 i0 hi h g cap w
            clear hi2 bl O8 hb0
            go_region_law (first
              | (refine step_append_lies _ (by rfl) _ _ _ (by rfl) w.heap.size 61 i0 _ 4 40 Tryd.underlying54 hi hz0 hz1 hz2 rfl (by decide) _ 0 [] (by rfl) own2.out ⟨W8.heap.size + 1, 0, none⟩ 1 1 [.int .i64 0, .int .i64 xn, .int .i64 xm, .string (xt ++ u)] ?_ (by rfl) (fun j x hj => row_cells r2.out hj) (by simp [Value.oneCell']) (by omega) (by unfold maxLen; omega) (by omega) hB2 _ rfl ?_; (exact rfl); intro g10 cap10 w10 hown10 hgrow10 hat10 hlt10; have M10 := (hbl.trans ((N8.trans (e2.mono N8.size)).mono hbl.size)).grown hgrow10 hB2 (fun j hj => by simp [Value.ownBlock] at hj; omega); have F10 := ownT_push (L := []) hown10)
              | (refine step_append_lies _ (by rfl) _ _ _ (by rfl) w.heap.size 61 i0 _ 4 40 Tryd.underlying54 hi hz0 hz1 hz2 rfl (by decide) _ 0 [] (by rfl) own3.out ⟨W8.heap.size, 0, none⟩ 1 1 [.int .i64 0, .int .i64 xn, .int .i64 xm, .string (xt ++ u)] ?_ (by rfl) (fun j x hj => row_cells r3.out hj) (by simp [Value.oneCell']) (by omega) (by unfold maxLen; omega) (by omega) hB3 _ rfl ?_; (exact rfl); intro g10 cap10 w10 hown10 hgrow10 hat10 hlt10; have M10 := (hbl.trans ((N8.trans (e3.mono N8.size)).mono hbl.size)).grown hgrow10 hB3 (fun j hj => by simp [Value.ownBlock] at hj; omega); have F10 := ownT_push (L := []) hown10))
            all_goals
              have FN : Hid (ownT w10 w.heap.size (.slice (some ⟨g10, 0, none⟩) 1 cap10) (jn (L.take (k + 1)))) := Lib.hid (by rw [HN.out]; exact F10)
              clear F10 hown10 hgrow10
              go_wp2
              go_roundw
              case rel => exact ⟨k + 1, by omega, by go_num, FN, M10⟩
              case measure => (simp [intOf]; try omega)
          · have hpb : 0 < b.length := by omega
            have hgl : g < W8.heap.size := by
              obtain ⟨_, _, h0, _, h1⟩ := O8.form (by omega)
              have h2 := (Value.slice.inj h0).1
              simp at h2
              rw [h2]; exact h1
            have nb : ∀ j u', (oCells b)[j]? = some u' → W8.cell? ((⟨g, 0, none⟩ : Addr).add j) = some u' := fun j u' hj => by
              refine O8.cells (g := g) rfl j u' ?_
              rw [HBC.out, List.getElem?_append_left (by
                rcases Nat.lt_or_ge j (oCells b).length with h | h
                · exact h
                · rw [List.getElem?_eq_none h] at hj; cases hj)]
              exact hj
            have nb1 := Lib.hid (lies_below nb hgl e1)
            have nb2 := Lib.hid (lies_below nb hgl e2)
            have nb3 := Lib.hid (lies_below nb hgl e3)
            clear bl nb O8
            go_region_law (first
              | (refine step_append_lies _ (by rfl) _ _ _ (by rfl) w.heap.size 61 i0 _ 4 40 Tryd.underlying54 hi hz0 hz1 hz2 rfl (by decide) _ 0 [] (by rfl) own1.out ⟨g, 0, none⟩ b.length cap (oCells b) (by rfl) (oCells_len b) nb1.out (oCells_one b) hpb (by unfold maxLen; omega) (by omega) hB1 _ rfl ?_; intro g9 cap9 w9 hown9 hgrow9 hat9 hlt9; have x10 := (hgrow9.block wr.heap.size (Nat.lt_of_lt_of_le hx9 e1.size) (by simp [Value.ownBlock]; omega)).trans x1.out; have y := fun i => cell_of_row _ _ i _ _ _ x10; have p0 := y 0; have p1 := y 1; have p2 := y 2; have p3 := y 3; clear y; dsimp at p0 p1 p2 p3; rw [Nat.zero_add, List.nil_append] at hown9; have M9 := (hbl.trans ((N8.trans (e1.mono N8.size)).mono hbl.size)).grown hgrow9 hB1 (fun j hj => by simp [Value.ownBlock] at hj; omega))
              | (refine step_append_lies _ (by rfl) _ _ _ (by rfl) w.heap.size 61 i0 _ 4 40 Tryd.underlying54 hi hz0 hz1 hz2 rfl (by decide) _ 0 [] (by rfl) own2.out ⟨g, 0, none⟩ b.length cap (oCells b) (by rfl) (oCells_len b) nb2.out (oCells_one b) hpb (by unfold maxLen; omega) (by omega) hB2 _ rfl ?_; intro g9 cap9 w9 hown9 hgrow9 hat9 hlt9; have x10 := (hgrow9.block wr.heap.size (Nat.lt_of_lt_of_le hx9 e2.size) (by simp [Value.ownBlock]; omega)).trans x2.out; have y := fun i => cell_of_row _ _ i _ _ _ x10; have p0 := y 0; have p1 := y 1; have p2 := y 2; have p3 := y 3; clear y; dsimp at p0 p1 p2 p3; rw [Nat.zero_add, List.nil_append] at hown9; have M9 := (hbl.trans ((N8.trans (e2.mono N8.size)).mono hbl.size)).grown hgrow9 hB2 (fun j hj => by simp [Value.ownBlock] at hj; omega); obtain ⟨rb, hrb⟩ : ∃ rb, rb = W8.heap.size + 1 := ⟨_, rfl⟩; have r10 := (hgrow9.block (W8.heap.size + 1) (by simp) (by simp [Value.ownBlock])).trans r2.out; rw [← hrb] at r10)
              | (refine step_append_lies _ (by rfl) _ _ _ (by rfl) w.heap.size 61 i0 _ 4 40 Tryd.underlying54 hi hz0 hz1 hz2 rfl (by decide) _ 0 [] (by rfl) own3.out ⟨g, 0, none⟩ b.length cap (oCells b) (by rfl) (oCells_len b) nb3.out (oCells_one b) hpb (by unfold maxLen; omega) (by omega) hB3 _ rfl ?_; intro g9 cap9 w9 hown9 hgrow9 hat9 hlt9; have x10 := (hgrow9.block wr.heap.size (Nat.lt_of_lt_of_le hx9 e3.size) (by simp [Value.ownBlock]; omega)).trans x3.out; have y := fun i => cell_of_row _ _ i _ _ _ x10; have p0 := y 0; have p1 := y 1; have p2 := y 2; have p3 := y 3; clear y; dsimp at p0 p1 p2 p3; rw [Nat.zero_add, List.nil_append] at hown9; have M9 := (hbl.trans ((N8.trans (e3.mono N8.size)).mono hbl.size)).grown hgrow9 hB3 (fun j hj => by simp [Value.ownBlock] at hj; omega); obtain ⟨rb, hrb⟩ : ∃ rb, rb = W8.heap.size := ⟨_, rfl⟩; have r10 := (hgrow9.block W8.heap.size (by simp; omega) (by simp [Value.ownBlock])).trans r3.out; rw [← hrb] at r10)
              | (refine step_append_lies _ (by rfl) _ _ _ (by rfl) w.heap.size 61 i0 _ 4 40 Tryd.underlying54 hi hz0 hz1 hz2 rfl (by decide) _ b.length (oCells b) (by first | rfl | simp) (hown9.alloc _) ⟨w9.heap.size, 0, none⟩ 1 1 [.int .i64 0, .int .i64 xn, .int .i64 xm, .string (xt ++ u)] (by rfl) (by rfl) (fun j x hj => app_cells rfl hj) (by simp [Value.oneCell']) (by omega) (by unfold maxLen; omega) (by omega) (by have := M9.size; simp; omega) _ rfl ?_; intro g10 cap10 w10 hown10 hgrow10 hat10 hlt10; have M10 := (M9.alloc M9.size (.cells #[.int .i64 0, .int .i64 xn, .int .i64 xm, .string (xt ++ u)] 61)).grown hgrow10 (by have := M9.size; simp; omega) (fun j hj => (hown9.lt j hj).1); have F10 := ownT_push hown10)
              | (refine step_append_lies _ (by rfl) _ _ _ (by rfl) w.heap.size 61 i0 _ 4 40 Tryd.underlying54 hi hz0 hz1 hz2 rfl (by decide) _ b.length (oCells b) (by first | rfl | simp) hown9 ⟨rb, 0, none⟩ 1 1 [.int .i64 0, .int .i64 xn, .int .i64 xm, .string (xt ++ u)] (by rw [hrb]; rfl) (by rfl) (fun j x hj => row_cells r10 hj) (by simp [Value.oneCell']) (by omega) (by unfold maxLen; omega) (by omega) (by have := M9.size; omega) _ rfl ?_; intro g10 cap10 w10 hown10 hgrow10 hat10 hlt10; have M10 := M9.grown hgrow10 M9.size (fun j hj => (hown9.lt j hj).1); have F10 := ownT_push hown10))
            all_goals
              have FN : Hid (ownT w10 w.heap.size (.slice (some ⟨g10, 0, none⟩) (b.length + 1) cap10) (jn (L.take (k + 1)))) := Lib.hid (by rw [HN.out]; exact F10)
              clear F10 hown10 hgrow10 hown9 hgrow9
              go_wp2
              go_roundw
              case rel => exact ⟨k + 1, by omega, by go_num, FN, M10⟩
              case measure => (simp [intOf]; try omega)
      · have HN : Hid (jn (L.take (k + 1)) = acc ++ [(kk, n, m, u)]) := Lib.hid (by rw [hjs, e2])
        have hgoal : acc.length = 0 ∨ (0 < acc.length ∧ kk ≠ 0) ∨ (kk = 0 ∧ ∃ b x, acc = b ++ [x] ∧ x.1 ≠ 0) := by
          rcases Nat.eq_zero_or_pos acc.length with h0 | h0
          · exact Or.inl h0
          · by_cases hkk : kk = 0
            · refine Or.inr (Or.inr ⟨hkk, ?_⟩)
              have hne : acc ≠ [] := fun e => by rw [e] at h0; simp at h0
              refine ⟨acc.dropLast, acc.getLast hne, (List.dropLast_concat_getLast hne).symm, fun hx => h3 _ _ (List.dropLast_concat_getLast hne).symm ⟨hx, hkk⟩⟩
            · exact Or.inr (Or.inl ⟨h0, hkk⟩)
        clear h3 e2 hjs htk hp
        have fin : ∀ (v' : Value) (w5 : World), w5.ownsRow w.heap.size 61 4 v' (acc.length + 1) (oCells acc ++ [.int .i64 kk, .int .i64 n, .int .i64 m, .string u]) → Hid (ownT w5 w.heap.size v' (jn (L.take (k + 1)))) := fun v' w5 h => Lib.hid (by rw [HN.out]; exact ownT_push h)
        rcases hgoal with h0 | ⟨hp0, h0⟩ | ⟨h0, b, x, e, hx⟩
        · have h0' : acc = [] := List.eq_nil_of_length_eq_zero h0
          subst h0'
          have hv := hown.2
          rcases hv with ⟨rfl, _⟩ | ⟨g, cap, cur, rfl, _⟩
          all_goals
            clear h0
            go_wp2_with (at_builtin; refine wpList_append_own _ rfl _ _ 54 rfl w.heap.size 61 i0 _ 4 40 Tryd.underlying54 hi hz0 hz1 hz2 rfl (by decide) _ _ _ rfl (hown.alloc _) ⟨wr.heap.size, 0, none⟩ 1 1 [.int .i64 kk, .int .i64 n, .int .i64 m, .string u] rfl rfl (fun j x hj => app_cells rfl hj) ?g2 ?g3 ?g4 ?g5 ?_)
            case g2 => simp [Value.oneCell']
            case g3 => unfold maxLen; simp
            case g4 => simp
            case g5 => have := hbl.size; simp; omega
            intro v' w5 hown5 hgrow5 _
            have N5 := (hbl.alloc hbl.size (.cells #[.int .i64 kk, .int .i64 n, .int .i64 m, .string u] 61)).grown hgrow5 (by have := hbl.size; simp; omega) (fun j hj => (hown.lt j hj).1)
            have F5 := fin v' w5 hown5
            clear hown5 hgrow5 hown fin hO
            go_wp2
            go_roundw
            case rel => exact ⟨k + 1, by omega, by go_num, F5, N5⟩
            case measure => (simp [intOf]; try omega)
        · obtain ⟨g, cap, rfl⟩ := ownsRow_pos hown hp0
          have hpi : (0 : Int) < (acc.length : Int) := by omega
          go_wp2_with (at_builtin; refine wpList_append_own _ rfl _ _ 54 rfl w.heap.size 61 i0 _ 4 40 Tryd.underlying54 hi hz0 hz1 hz2 rfl (by decide) _ _ _ rfl (hown.alloc _) ⟨wr.heap.size, 0, none⟩ 1 1 [.int .i64 kk, .int .i64 n, .int .i64 m, .string u] rfl rfl (fun j x hj => app_cells rfl hj) ?g2 ?g3 ?g4 ?g5 ?_)
          case g2 => simp [Value.oneCell']
          case g3 => unfold maxLen; omega
          case g4 => omega
          case g5 => have := hbl.size; simp; omega
          intro v' w5 hown5 hgrow5 _
          have N5 := (hbl.alloc hbl.size (.cells #[.int .i64 kk, .int .i64 n, .int .i64 m, .string u] 61)).grown hgrow5 (by have := hbl.size; simp; omega) (fun j hj => (hown.lt j hj).1)
          have F5 := fin v' w5 hown5
          clear hown5 hgrow5 hown fin hO
          go_wp2
          go_roundw
          case rel => exact ⟨k + 1, by omega, by go_num, F5, N5⟩
          case measure => (simp [intOf]; try omega)
        · obtain ⟨g, cap, rfl⟩ := ownsRow_pos hown (show 0 < acc.length by rw [e]; simp)
          have hal : acc.length = b.length + 1 := by rw [e]; simp
          have hgx : acc.getD b.length ot0 = x := by rw [e, List.getD, List.getElem?_append_right (Nat.le_refl _), Nat.sub_self]; rfl
          obtain ⟨z0, _, _, _⟩ := own_cells4 hown (j := b.length) (by omega)
          rw [hgx] at z0
          have hpi : (0 : Int) < (acc.length : Int) := by omega
          have hi0 : (0 : Int) ≤ (acc.length : Int) - 1 := by omega
          have hi1 : (acc.length : Int) - 1 < acc.length := by omega
          have hi2 : ((acc.length : Int) - 1).toNat = b.length := by omega
          have hi3 : (acc.length : Int) ≤ 1000 := by omega
          obtain ⟨xk, xn, xm, xt⟩ := x
          dsimp only at z0 hx
          have hx2 : ¬ xk = 0 := hx
          subst h0
          clear hal hgx e hx
          go_wp2_with (at_builtin; refine wpList_append_own _ rfl _ _ 54 rfl w.heap.size 61 i0 _ 4 40 Tryd.underlying54 hi hz0 hz1 hz2 rfl (by decide) _ _ _ rfl (hown.alloc _) ⟨wr.heap.size, 0, none⟩ 1 1 [.int .i64 0, .int .i64 n, .int .i64 m, .string u] rfl rfl (fun j x hj => app_cells rfl hj) ?g2 ?g3 ?g4 ?g5 ?_)
          case g2 => simp [Value.oneCell']
          case g3 => unfold maxLen; omega
          case g4 => omega
          case g5 => have := hbl.size; simp; omega
          intro v' w5 hown5 hgrow5 _
          have N5 := (hbl.alloc hbl.size (.cells #[.int .i64 0, .int .i64 n, .int .i64 m, .string u] 61)).grown hgrow5 (by have := hbl.size; simp; omega) (fun j hj => (hown.lt j hj).1)
          have F5 := fin v' w5 hown5
          clear hown5 hgrow5 hown fin hO
          go_wp2
          go_roundw
          case rel => exact ⟨k + 1, by omega, by go_num, F5, N5⟩
          case measure => (simp [intOf]; try omega)
    · obtain rfl : k = L.length := by omega
      have hk1 : ¬ (L.length : Int) < L.length := by omega
      rw [List.take_length] at hO
      go_wp2
      go_ret
      exact ⟨_, rfl, hO.out, hbl⟩
end Go.Proofs.YtcdecnmhogmhaaaDoor
set_option linter.unusedVariables false
set_option linter.unusedSimpArgs false
namespace Go.Proofs.YtcdecnmhogmhaaaDoor
open Go.RowKit Go.Sort
theorem joined_read (L : List Ot) (a : Option Addr) (c : Nat) (w : World) (hl : L.length ≤ 1000) (hz : sumT L ≤ 1000000) (ho : OutsIn w a L) :
    Calls Tryd.prog 37 #[.slice a L.length c] w fun e w' => ∃ b d, e = .returned (.slice b (jn L).length d) ∧ OutsIn w' b (jn L) ∧ Below w.heap.size w w' := by
  refine (joined_ref L a c w hl hz ho).mono ?_
  rintro e w' ⟨v, rfl, h1, h2⟩
  obtain ⟨b, d, rfl, h3⟩ := outs_of_own h1
  exact ⟨b, d, rfl, h3, h2⟩
theorem bt_ge {o : Ot} (h : mayP o = true) : o.2.2.2.size ≤ (bt o).size := by
  by_cases hk : o.1 = 0
  · obtain ⟨e, _, _⟩ := may_text h hk
    rw [e, by_text]; exact Nat.le_refl _
  · have hpc := pc_of h
    cases hpc with
    | text t h1 h2 => exact absurd rfl hk
    | _ => exact Nat.zero_le _
theorem sum_tx : ∀ L, mayAll L = true → sumT L ≤ (txOut L).size ∧ L.length ≤ (txOut L).size
  | [], _ => ⟨Nat.le_refl _, Nat.le_refl _⟩
  | o :: L, h => by
    unfold mayAll at h
    rw [List.all_cons, Bool.and_eq_true] at h
    obtain ⟨i1, i2⟩ := sum_tx L h.2
    have h1 := bt_ge h.1
    have h2 := bt_pos h.1
    have e : sumT (o :: L) = o.2.2.2.size + sumT L := by unfold sumT; simp
    have e2 : (txOut (o :: L)).size = (bt o).size + (txOut L).size := ByteArray.size_append
    rw [e, e2, List.length_cons]
    omega
theorem at_le {L : List Ot} {n : Nat} (h : sumT L ≤ n) : ∀ i, i < L.length → (L.getD i ot0).2.2.2.size ≤ n := fun i hi => by
  have := sumT_le (L := L) (p := L.getD i ot0) (by rw [List.getD, List.getElem?_eq_getElem hi]; exact List.getElem_mem hi)
  omega
theorem size_ne {s : ByteArray} : (s.toList == s.toList) = true := by simp
set_option maxHeartbeats 8000000 in
theorem emitparses_any (s : ByteArray) (w : World) (hT : ET w) (hs : s.size ≤ 9223372036854775807) : Calls Tryd.prog 7 #[.string s] w fun e w' => e = .returned (.bool true) ∧ Below w.heap.size w w' := by
  have AW := Lib.hid (fun w hT => eawake_any w hT)
  have HT := Lib.hid hT
  clear hT
  by_cases hb : 500 < s.size
  · have hb' : (500 : Int) < s.size := by omega
    go_enter Tryd.func7, Tryd.ntmps7
    go_wp2_with (go_at_call 28; refine (AW.out _ HT.out).mono ?_; rintro e w1 ⟨rfl, hb1⟩)
    go_ret
    exact ⟨rfl, hb1⟩
  have hb' : ¬ (500 : Int) < s.size := by omega
  have CL := fun w hT => clean_any s w hT (by omega)
  cases hp : prsS s with
  | none =>
    have PA := Lib.hid (fun w hT => parse_no s w hT (by omega) hp)
    have hc : clnB s = false := by unfold clnB; rw [hp]; rfl
    rw [hc] at CL
    replace CL := Lib.hid CL
    clear hc hp
    go_enter Tryd.func7, Tryd.ntmps7
    go_wp2_with (first
      | (go_at_call 35; refine (PA.out _ HT.out).mono ?_; rintro e w1 ⟨rfl, hb1⟩; have T1 := Lib.hid (HT.out.below hb1))
      | (go_at_call 40; refine (CL.out _ T1.out).mono ?_; rintro e w2 ⟨rfl, hb2⟩; have T2 := Lib.hid (T1.out.below hb2))
      | (go_at_call 28; refine (AW.out _ T2.out).mono ?_; rintro e w3 ⟨rfl, hb3⟩))
    go_ret
    exact ⟨rfl, seqB (seqB hb1 hb2) hb3⟩
  | some L =>
    have PA := fun w hT => parse_yes s L w hT (by omega) hp
    have hc : clnB s = true := by unfold clnB; rw [hp]; rfl
    rw [hc] at CL
    obtain ⟨hm, htx, _⟩ := prsS_sound hp
    have hj := prs_join hp
    obtain ⟨hsum, hlen⟩ := sum_tx L hm
    rw [htx] at hsum hlen
    have AL := fun a c w ho => eall_ref L a c w (by omega) (at_le (by omega)) ho
    have TX := fun a c w ho => etext_ref L a c w hm (by omega) (at_le (by omega)) ho
    have JN := fun a c w ho => joined_read L a c w (by omega) (by omega) ho
    have SM := fun a b c d w h1 h2 => esame_ref L L a b c d w (by omega) (by omega) h1 h2
    rw [hm] at AL
    rw [htx] at TX
    rw [hj] at JN
    rw [smO_self] at SM
    have es := (str_eq s).1
    replace CL := Lib.hid CL; replace PA := Lib.hid PA; replace AL := Lib.hid AL; replace TX := Lib.hid TX; replace JN := Lib.hid JN; replace SM := Lib.hid SM
    clear hc hp hm htx hj hsum hlen
    go_enter Tryd.func7, Tryd.ntmps7
    go_wp2_with (first
      | (go_at_call 35; refine (PA.out _ HT.out).mono ?_; rintro e w1 ⟨la, lc, rfl, hl, hb1⟩; have T1 := Lib.hid (HT.out.below hb1); have L1 := Lib.hid hl; clear hl)
      | (go_at_call 40; refine (CL.out _ T1.out).mono ?_; rintro e w2 ⟨rfl, hb2⟩; have T2 := Lib.hid (T1.out.below hb2); have L2 := Lib.hid (L1.out.below hb2))
      | (go_at_call 28; refine (AW.out _ T2.out).mono ?_; rintro e w3 ⟨rfl, hb3⟩; have L3 := Lib.hid (L2.out.below hb3))
      | (go_at_call 34; refine (AL.out _ _ _ L3.out).mono ?_; rintro e w4 ⟨rfl, hb4⟩; have L4 := Lib.hid (L3.out.below hb4))
      | (go_at_call 36; refine (TX.out _ _ _ L4.out).mono ?_; rintro e w5 ⟨rfl, hb5⟩; have L5 := Lib.hid (L4.out.below hb5))
      | (go_at_call 37; refine (JN.out _ _ _ L5.out).mono ?_; rintro e w6 ⟨ja, jc, rfl, hjo, hb6⟩; have L6 := Lib.hid (L5.out.below hb6); have J6 := Lib.hid hjo; clear hjo)
      | (go_at_call 31; refine (SM.out _ _ _ _ _ L6.out J6.out).mono ?_; rintro e w7 ⟨rfl, hb7⟩))
    go_ret
    exact ⟨rfl, seqB (seqB (seqB (seqB (seqB (seqB hb1 hb2) hb3) hb4) hb5) hb6) hb7⟩
end Go.Proofs.YtcdecnmhogmhaaaDoor
set_option linter.unusedVariables false
set_option linter.unusedSimpArgs false
namespace Go.Proofs.YtcdecnmhogmhaaaDoor
open Go.RowKit
/-- An append whose source is nil or not. -/
theorem wpList_append_row {P : Program} {w : World} {ops : Array Oper} {rest : List Oper} {o : Oper} {a : Act} {Q : Exit → Act → World → Prop} (hgd : Region.wanted o (yielded ops a.tmps) = true) (s x : Operand) (t : TypeId)
    (ho : o.op = .call { callee := .builtin .append, args := #[s, x], argTypes := #[t, t] })
    (base base2 : Nat) (e : TypeId) (i : TypeInfo) (z : Value) (size bytes : Nat) (ht : P.underlying t = some (.slice e)) (hi : P.info? e = some i) (hz : i.zero = some z)
    (hsize : i.size = size) (hby : i.bytes = bytes) (hzs : z.cells.size = size) (hsz : 0 < size)
    (v : Value) (n : Nat) (xs : List Value) (hs : a.eval s = v) (hown : w.ownsRow base e size v n xs)
    (v2 : Value) (m : Nat) (news : List Value) (hx : a.eval x = v2) (hown2 : w.ownsRow base2 e size v2 m news) (h1 : ∀ u ∈ news, u.oneCell' = true)
    (h63 : n + m ≤ maxLen) (hbytes : (n + m) * bytes ≤ 140737488355328) (hbase : base ≤ w.heap.size)
    (h : ∀ v' w', w'.ownsRow base e size v' (n + m) (xs ++ news) → w.grownBy w' v.ownBlock → wpList P ops Q rest (a.put o.dst v') w') : wpList P ops Q (o :: rest) a w := by
  refine wpList_step fun K hK => ?_
  rw [if_pos hgd]
  rcases hown2.2 with ⟨rfl, rfl⟩ | ⟨g, cap, cur, rfl, _⟩
  · have hn : news = [] := List.eq_nil_of_length_eq_zero (by simpa using hown2.1)
    subst hn
    have hrun := run_append_owned_none (P := P) (w := w) base t o.type e i size ht hi v n xs hown
    have h' := h v w (by simpa using hown) ⟨rfl, rfl, rfl, Nat.le_refl _, fun _ _ _ => rfl⟩
    unfold Oper.wp
    simp [execOp, ho, resolve, invoke, builtin, hs, hx, hrun, Result.andThen]
    exact hK _ _ h'
  · exact wp_append_own w s x t ho base e i z size bytes ht hi hz hsize hby hzs hsz v n xs hs hown ⟨g, 0, none⟩ m cap news hx hown2.1 (hown2.cells rfl) h1 h63 hbytes hbase (fun v' w' a1 a2 _ => hK _ _ (h v' w' a1 a2))
end Go.Proofs.YtcdecnmhogmhaaaDoor
set_option linter.unusedVariables false
set_option linter.unusedSimpArgs false
namespace Go.Proofs.YtcdecnmhogmhaaaDoor
open Go.RowKit Go.Sort
theorem parse_own (s : ByteArray) (L : List Ot) (w : World) (hT : ET w) (hs : s.size ≤ 800000) (h : prsS s = some L) : Calls Tryd.prog 35 #[.string s] w fun e w' => ∃ a c, e = .returned (.tuple #[.slice a L.length c, .int .i64 0]) ∧ ownT w' w.heap.size (.slice a L.length c) L ∧ OutsIn w' a L ∧ Below w.heap.size w w' := by
  refine (parse_any s w hT hs).mono ?_
  rintro e w' (⟨L', v, h1, rfl, h2, h3⟩ | ⟨h1, _⟩)
  · rw [h] at h1
    obtain rfl := Option.some.inj h1
    have h5 := h2
    obtain ⟨a, c, rfl, h4⟩ := outs_of_own h2
    exact ⟨a, c, rfl, h5, h4, h3⟩
  · rw [h] at h1; cases h1
set_option maxHeartbeats 16000000 in
theorem emitcloses_any (s t : ByteArray) (w : World) (hT : ET w) : Calls Tryd.prog 9 #[.string s, .string t] w fun e w' => e = .returned (.bool true) ∧ Below w.heap.size w w' := by
  have AW := Lib.hid (fun w hT => eawake_any w hT)
  have HT := Lib.hid hT
  clear hT
  by_cases hb : 300 < s.size
  · have hb' : (300 : Int) < s.size := by omega
    go_enter Tryd.func9, Tryd.ntmps9
    go_wp2_with (go_at_call 28; refine (AW.out _ HT.out).mono ?_; rintro e w1 ⟨rfl, hb1⟩)
    go_ret
    exact ⟨rfl, hb1⟩
  have hb' : ¬ (300 : Int) < s.size := by omega
  by_cases hb2 : 300 < t.size
  · have hb2' : (300 : Int) < t.size := by omega
    go_enter Tryd.func9, Tryd.ntmps9
    go_wp2_with (go_at_call 28; refine (AW.out _ HT.out).mono ?_; rintro e w1 ⟨rfl, hb1⟩)
    go_ret
    exact ⟨rfl, hb1⟩
  have hb2' : ¬ (300 : Int) < t.size := by omega
  have CL := fun w hT => clean_any s w hT (by omega)
  have CM := fun w hT => clean_any t w hT (by omega)
  cases hp : prsS s with
  | none =>
    have hc : clnB s = false := by unfold clnB; rw [hp]; rfl
    rw [hc] at CL
    replace CL := Lib.hid CL
    clear hc hp CM
    go_enter Tryd.func9, Tryd.ntmps9
    go_wp2_with (first
      | (go_at_call 40; refine (CL.out _ HT.out).mono ?_; rintro e w1 ⟨rfl, hb1⟩; have T1 := Lib.hid (HT.out.below hb1))
      | (go_at_call 28; refine (AW.out _ T1.out).mono ?_; rintro e w3 ⟨rfl, hb3⟩))
    go_ret
    exact ⟨rfl, seqB hb1 hb3⟩
  | some L =>
    have hc : clnB s = true := by unfold clnB; rw [hp]; rfl
    rw [hc] at CL
    cases hq : prsS t with
    | none =>
      have hd : clnB t = false := by unfold clnB; rw [hq]; rfl
      rw [hd] at CM
      replace CL := Lib.hid CL; replace CM := Lib.hid CM
      clear hc hp hd hq
      go_enter Tryd.func9, Tryd.ntmps9
      go_wp2_with (fail)
      go_at_call 40
      refine (CL.out _ HT.out).mono ?_
      rintro e w1 ⟨rfl, hb1⟩
      have T1 := Lib.hid (HT.out.below hb1)
      go_wp2_with (fail)
      go_at_call 40
      refine (CM.out _ T1.out).mono ?_
      rintro e w2 ⟨rfl, hb2⟩
      have T2 := Lib.hid (T1.out.below hb2)
      go_wp2_with (go_at_call 28; refine (AW.out _ T2.out).mono ?_; rintro e w3 ⟨rfl, hb3⟩)
      go_ret
      exact ⟨rfl, seqB (seqB hb1 hb2) hb3⟩
    | some M =>
      obtain ⟨i0, hi, hz0, hz1, hz2⟩ := info_parts infoOut
      have hd : clnB t = true := by unfold clnB; rw [hq]; rfl
      rw [hd] at CM
      have hst : (s ++ t).size = s.size + t.size := ByteArray.size_append
      have PA := fun w hT => parse_own s L w hT (by omega) hp
      have PB := fun w hT => parse_own t M w hT (by omega) hq
      have PC := fun w hT => parse_yes (s ++ t) (jn (L ++ M)) w hT (by omega) (prs_both hp hq)
      obtain ⟨hm1, ht1, _⟩ := prsS_sound hp
      obtain ⟨hm2, ht2, _⟩ := prsS_sound hq
      obtain ⟨s1, l1⟩ := sum_tx L hm1
      obtain ⟨s2, l2⟩ := sum_tx M hm2
      rw [ht1] at s1 l1
      rw [ht2] at s2 l2
      have hlm : (L ++ M).length ≤ 1000 := by rw [List.length_append]; omega
      have JN := fun a c w ho => joined_read (L ++ M) a c w hlm (by rw [sumT_app]; omega) ho
      have hjl : (jn (L ++ M)).length ≤ 1000 := by
        have := (jn_sum (L ++ M) (L ++ M).length (Nat.le_refl _)).2
        rw [List.take_length] at this; omega
      have SM := fun a b c d w h1 h2 => esame_ref (jn (L ++ M)) (jn (L ++ M)) a b c d w (by omega) (by omega) h1 h2
      rw [smO_self] at SM
      have hLM : Hid ((L ++ M).length = L.length + M.length) := Lib.hid (by rw [List.length_append])
      have hll : L.length ≤ 300 := by omega
      have hml : M.length ≤ 300 := by omega
      generalize jn (L ++ M) = J at *
      have R1 := sum_run s t (by omega)
      simp only [List.length_append] at JN
      replace CL := Lib.hid CL; replace CM := Lib.hid CM; replace PA := Lib.hid PA; replace PB := Lib.hid PB; replace PC := Lib.hid PC; replace JN := Lib.hid JN; replace SM := Lib.hid SM
      clear hc hp hd hq hst hm1 hm2 ht1 ht2 s1 s2 l1 l2 hlm hjl
      go_enter Tryd.func9, Tryd.ntmps9
      go_wp2_with (fail)
      go_at_call 40
      refine (CL.out _ HT.out).mono ?_
      rintro e w1 ⟨rfl, hb1⟩
      have T1 := Lib.hid (HT.out.below hb1)
      go_wp2_with (fail)
      go_at_call 40
      refine (CM.out _ T1.out).mono ?_
      rintro e w2 ⟨rfl, hb2⟩
      have T2 := Lib.hid (T1.out.below hb2)
      go_wp2_with (fail)
      go_at_call 35
      refine (PA.out _ T2.out).mono ?_
      rintro e w3 ⟨la, lc, rfl, hlo, hli, hb3⟩
      have T3 := Lib.hid (T2.out.below hb3)
      have LO3 := Lib.hid hlo
      clear hlo hli
      go_wp2_with (fail)
      go_at_call 35
      refine (PB.out _ T3.out).mono ?_
      rintro e w4 ⟨ma, mc, rfl, hmo, hmi, hb4⟩
      have T4 := Lib.hid (T3.out.below hb4)
      have LO4 := Lib.hid (own_below LO3.out hb4)
      have MO4 := Lib.hid hmo
      clear hmo hmi
      go_wp2_with (fail)
      go_at_call 35
      refine (PC.out _ T4.out).mono ?_
      rintro e w5 ⟨ja, jc, rfl, hji, hb5⟩
      have T5 := Lib.hid (T4.out.below hb5)
      have J5 := Lib.hid hji
      have LO5 := Lib.hid (own_below LO4.out hb5)
      have MO5 := Lib.hid (own_below MO4.out hb5)
      clear hji
      go_wp2_with (fail)
      go_at_call 28
      refine (AW.out _ T5.out).mono ?_
      rintro e w6 ⟨rfl, hb6⟩
      have J6 := Lib.hid (J5.out.below hb6)
      have LO6 := own_below LO5.out hb6
      have MO6 := own_below MO5.out hb6
      have Be := below_alloc w6 (.cells #[] 61)
      have own0 : (w6.alloc (.cells #[] 61)).ownsRow w6.heap.size 61 4 (.slice (some ⟨w6.heap.size, 0, none⟩) 0 0) 0 [] := own_blank (heap_alloc_new w6 _) (Nat.le_refl _)
      have LO7 := LO6.alloc (.cells #[] 61)
      go_wp2_with (at_builtin; refine wpList_append_row (by rfl) _ _ 54 (by rfl) w6.heap.size w2.heap.size 61 i0 _ 4 40 Tryd.underlying54 hi hz0 hz1 hz2 rfl (by decide) _ 0 [] (by rfl) own0 _ L.length (oCells L) (by rfl) LO7 (oCells_one L) ?d3 ?d4 ?d5 ?_)
      case d3 => unfold maxLen; omega
      case d4 => omega
      case d5 => simp
      intro v7 w7 hown7 hgrow7
      have N7 := ((Below.refl w6.heap.size w6).alloc (Nat.le_refl _) (.cells #[] 61)).grown hgrow7 (by simp) (fun j hj => by simp [Value.ownBlock] at hj; omega)
      have MO7 := own_below MO6 N7
      go_wp2_with (at_builtin; refine wpList_append_row (by rfl) _ _ 54 (by rfl) w6.heap.size w3.heap.size 61 i0 _ 4 40 Tryd.underlying54 hi hz0 hz1 hz2 rfl (by decide) _ L.length (oCells L) (by rfl) hown7 _ M.length (oCells M) (by rfl) MO7 (oCells_one M) ?e3 ?e4 ?e5 ?_)
      case e3 => unfold maxLen; omega
      case e4 => omega
      case e5 => exact N7.size
      intro v8 w8 hown8 hgrow8
      have N8 := N7.grown hgrow8 N7.size (fun j hj => (hown7.lt j hj).1)
      obtain ⟨ba, bc, rfl, hba⟩ := outs_of_own (show ownT w8 w6.heap.size v8 (L ++ M) by unfold ownT; rw [List.length_append, oCells_append]; exact hown8)
      have J8 := Lib.hid (J6.out.below N8)
      have BA := Lib.hid hba
      clear hown8 hgrow8 hown7 hgrow7 MO7 LO7 own0 LO6 MO6 hba
      go_wp2_with (fail)
      go_at_call 37
      refine (JN.out ba bc _ BA.out).mono ?_
      rintro e w9 ⟨jb, jd, rfl, hbo, hb9⟩
      have J9 := Lib.hid (J8.out.below hb9)
      have B9 := Lib.hid hbo
      clear hbo
      go_wp2_with (fail)
      go_at_call 31
      first
        | refine (SM.out _ _ _ _ _ J9.out B9.out).mono ?_
        | refine (SM.out _ _ _ _ _ B9.out J9.out).mono ?_
      rintro e w10 ⟨rfl, hb10⟩
      go_wp2_with (fail)
      go_ret
      exact ⟨rfl, seqB (seqB (seqB (seqB (seqB (seqB (seqB (seqB hb1 hb2) hb3) hb4) hb5) hb6) N8) hb9) hb10⟩
end Go.Proofs.YtcdecnmhogmhaaaDoor
