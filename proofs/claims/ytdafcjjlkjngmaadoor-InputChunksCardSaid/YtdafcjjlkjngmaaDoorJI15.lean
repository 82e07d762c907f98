/-
  Joined: In19 In20 In21 In22 In23 In24 In25 In26 In27.
-/
import Derived.Test.YtdafcjjlkjngmaaDoorJI13
import Derived.Deep.RegionHeld3
set_option linter.unusedVariables false
set_option linter.unusedSimpArgs false
set_option maxRecDepth 100000
set_option linter.unusedVariables false
set_option linter.unusedSimpArgs false
namespace Go.Proofs.YtdafcjjlkjngmaaDoor
open Go.RowKit
/-- What the document's functions answer: what waits, and keys of a row of their own. -/
def GP (w : World) (r : RG) (e : Ending) (w' : World) : Prop := ∃ v, e = .returned (.agg #[.string (mkL r.1.1), .bool r.1.2, v]) ∧ OwK w' w.heap.size v r.2 ∧ Below w.heap.size w w'
theorem tG_ne_k : 32 ≠ 44 := by decide
def gt0 : Obj := .cells #[.string ⟨#[]⟩, .bool false, .slice none 0 0] 32
/-- What was answered has been laid into its box. -/
theorem gt_fin {w w5 : World} {B : Nat} {L : List Ky} {a b v u0 u1 u2 : Value} (hR : w5.heap[w.heap.size]? = some (.cells #[u0, u1, u2] 32 (0, 0))) (hO : OwK w5 B v L) (hb : Below w.heap.size w w5) {WF : World} (hWF : ((w5.setCell ⟨w.heap.size, 0, none⟩ a).setCell ⟨w.heap.size, 1, none⟩ b).setCell ⟨w.heap.size, 2, none⟩ v = WF) :
    WF.cell? ⟨w.heap.size, 0, none⟩ = some a ∧ WF.cell? ⟨w.heap.size, 1, none⟩ = some b ∧ WF.cell? ⟨w.heap.size, 2, none⟩ = some v ∧ OwK WF B v L ∧ Below w.heap.size w WF := by
  have hq : WF.heap[w.heap.size]? = some (.cells #[a, b, v] 32 (0, 0)) := by rw [← hWF]; exact blk_set (blk_set (blk_set hR 0 _) 1 _) 2 _
  have hn := own_ne_kind hO hR tG_ne_k
  refine ⟨cell_of_row _ _ 0 _ _ _ hq, cell_of_row _ _ 1 _ _ _ hq, cell_of_row _ _ 2 _ _ _ hq, ?_, ?_⟩
  · rw [← hWF]; exact own_set (own_set (own_set hO hn _) hn _) hn _
  · rw [← hWF]; exact ((hb.setCell (p := ⟨_, 0, none⟩) (Nat.le_refl _) _).setCell (p := ⟨_, 1, none⟩) (Nat.le_refl _) _).setCell (p := ⟨_, 2, none⟩) (Nat.le_refl _) _
theorem gt_cells {w5 : World} {R : Nat} {u0 u1 u2 : Value} (hR : w5.heap[R]? = some (.cells #[u0, u1, u2] 32 (0, 0))) : (∀ i, w5.frozen? ⟨R, i, none⟩ = false) ∧ w5.cell? ⟨R, 0, none⟩ = some u0 ∧ w5.cell? ⟨R, 1, none⟩ = some u1 ∧ w5.cell? ⟨R, 2, none⟩ = some u2 :=
  ⟨fun i => frozen_of_row _ R i _ _ hR, cell_of_row _ _ 0 _ _ _ hR, cell_of_row _ _ 1 _ _ _ hR, cell_of_row _ _ 2 _ _ _ hR⟩
section
variable {w w2 w3 W : World}
/-- A box is there while the rest is made. -/
structure GB (w W : World) : Prop where
  b : Below w.heap.size w W
  r : W.heap[w.heap.size]? = some (.cells #[.string ⟨#[]⟩, .bool false, .slice none 0 0] 32 (0, 0))
theorem gb_new (w : World) : GB w (w.alloc (.cells #[.string ⟨#[]⟩, .bool false, .slice none 0 0] 32)) := ⟨below_alloc _ _, heap_alloc_new _ _⟩
theorem GB.below (h : GB w W) (hb : Below W.heap.size W w2) : GB w w2 := ⟨seqB h.b hb, blk_below h.r hb⟩
theorem GB.alloc (h : GB w W) (o : Obj) : GB w (W.alloc o) := h.below (below_alloc _ _)
theorem GB.drewN (h : GB w W) (n : Nat) : GB w (W.drewN n) := h.below ⟨rfl, rfl, rfl, Nat.le_refl _, fun _ _ => rfl⟩
theorem GB.lt (h : GB w W) : w.heap.size < W.heap.size := blk_lt h.r
theorem GB.cells (h : GB w W) : (∀ i, W.frozen? ⟨w.heap.size, i, none⟩ = false) ∧ W.cell? ⟨w.heap.size, 0, none⟩ = some (.string ⟨#[]⟩) ∧ W.cell? ⟨w.heap.size, 1, none⟩ = some (.bool false) ∧ W.cell? ⟨w.heap.size, 2, none⟩ = some (.slice none 0 0) := gt_cells h.r
/-- A row of the call's own grows: the box stays. -/
theorem GB.grown {v : Value} {K : List Ky} {B : Nat} (h : GB w W) (hO : OwK W B v K) (hB : w.heap.size ≤ B) (g : W.grownBy w2 v.ownBlock) : GB w w2 :=
  ⟨h.b.grown g (Nat.le_of_lt h.lt) (fun k e => Nat.le_trans hB (hO.lt k e).1), (g.block _ h.lt (fun e => own_ne_kind hO h.r tG_ne_k e.symm)).trans h.r⟩
end
set_option maxHeartbeats 4000000 in
theorem byte27_ref (P : List UInt8) (w : World) (hl : P.length ≤ 1000) : Calls Tryd.prog 36 #[.string (mkL P), .int .u8 27] w (GP w (([27], false), rsK P)) := by
  have ST := Lib.hid (fun w => rsettled_ref P w hl)
  have G0 := Lib.hid (gb_new w)
  obtain ⟨W, hW⟩ : ∃ W, w.alloc (.cells #[.string ⟨#[]⟩, .bool false, .slice none 0 0] 32) = W := ⟨_, rfl⟩
  rw [hW] at G0
  obtain ⟨n, hn⟩ : ∃ n, (rsK P).length = n := ⟨_, rfl⟩
  have HN := Lib.hid hn
  clear hl hn
  generalize mkL P = p at *
  generalize rsK P = K at *
  go_enter Tryd.func36, Tryd.ntmps36
  go_upto_region 4 with fail
  clear hW
  go_wp2_with (go_at_call 35; refine (ST.out _).mono ?_; rintro e w2 ⟨v, rfl, ho, hb⟩; have O2 := Lib.hid ho; have G2 := Lib.hid (G0.out.below hb); obtain ⟨yf, y0, y1, y2⟩ := G2.out.cells; obtain ⟨ad, cp, rfl⟩ := ho.form HN.out; clear ho hb)
  generalize hWF : World.setCell _ _ _ = WF
  obtain ⟨g0, g1, g2, gO, gB⟩ := gt_fin G2.out.r O2.out G2.out.b hWF
  refine bodyPost_ret (v := .agg #[.string ⟨#[27]⟩, .bool false, .slice ad n cp]) (by simp [results, Tryd.results36, go_sem, g0, g1, g2]) rfl ?_
  exact ⟨_, rfl, gO.mono G0.out.b.size, gB⟩
set_option maxHeartbeats 4000000 in
theorem byte13_ref (P : List UInt8) (x : Int) (hx : x = 13 ∨ x = 10) (w : World) (hl : P.length ≤ 1000) (hK : (rsK P).length ≤ 1000) : Calls Tryd.prog 36 #[.string (mkL P), .int .u8 x] w (GP w (([], false), rsK P ++ [kv0 4 x])) := by
  have ST := Lib.hid (fun w => rsettled_ref P w hl)
  have G0 := Lib.hid (gb_new w)
  obtain ⟨W, hW⟩ : ∃ W, w.alloc (.cells #[.string ⟨#[]⟩, .bool false, .slice none 0 0] 32) = W := ⟨_, rfl⟩
  rw [hW] at G0
  obtain ⟨n, hn⟩ : ∃ n, (rsK P).length = n := ⟨_, rfl⟩
  have HN := Lib.hid hn
  have HK := Lib.hid hK
  clear hl hn hK
  generalize mkL P = p at *
  generalize rsK P = K at *
  rcases hx with rfl | rfl
  all_goals
    go_enter Tryd.func36, Tryd.ntmps36
    go_upto_region 2 with fail
    clear hW
    go_wp2_with (first
      | (go_at_call 35; refine (ST.out _).mono ?_; rintro e w2 ⟨v, rfl, ho, hb⟩; have O2 := Lib.hid ho; have G2 := Lib.hid (G0.out.below hb); obtain ⟨ad, cp, rfl⟩ := ho.form HN.out; have B2 := Lib.hid hb; clear ho hb; have O3 := Lib.hid (fun x => O2.out.below (below_alloc w2 (.cells #[.int .i64 4, .int .i64 x, .string ⟨#[]⟩, .bool false] 44))); have S3 := Lib.hid (fun x => key_new1 w2 (kv0 4 x)); have G3 := Lib.hid (fun x => G2.out.alloc (.cells #[.int .i64 4, .int .i64 x, .string ⟨#[]⟩, .bool false] 44)))
      | (at_builtin; refine wpList_app_keys rfl _ _ rfl W.heap.size _ n K rfl HN.out (O3.out _) (some ⟨w2.heap.size, 0, none⟩) 1 1 [kv0 4 _] rfl rfl (S3.out _) (fun e => (by cases e)) ?g3 ?g4 ?_))
    case g3 => have := HN.out; have := HK.out; omega
    case g4 => exact Nat.le_trans B2.out.size (below_alloc _ _).size
    intro ad5 c5 w5 o5 g5 p5
    have G5 := Lib.hid ((G3.out _).grown (O3.out _) G0.out.b.size g5)
    obtain ⟨yf, y0, y1, y2⟩ := G5.out.cells
    have O5 := Lib.hid o5
    clear o5 g5 p5
    go_wp2
    generalize hWF : World.setCell _ _ _ = WF
    obtain ⟨g0, g1, g2, gO, gB⟩ := gt_fin G5.out.r O5.out G5.out.b hWF
    refine bodyPost_ret (v := .agg #[.string ⟨#[]⟩, .bool false, .slice ad5 (n + 1) c5]) (by simp [results, Tryd.results36, go_sem, g0, g1, g2]) rfl ?_
    exact ⟨_, rfl, gO.mono G0.out.b.size, gB⟩
end Go.Proofs.YtdafcjjlkjngmaaDoor
set_option linter.unusedVariables false
set_option linter.unusedSimpArgs false
namespace Go.Proofs.YtdafcjjlkjngmaaDoor
open Go.RowKit
set_option maxHeartbeats 1500000 in
theorem known_ref (g : List UInt8) (w : World) : Calls Tryd.prog 114 #[.string (mkL g)] w fun e w' => e = .returned (.agg #[.int .i64 (knK g).1, .int .i64 (knK g).2.1, .string (knK g).2.2.1, .bool (knK g).2.2.2]) ∧ Below w.heap.size w w' := by
  have NW := nmw w
  obtain ⟨W, hW⟩ : ∃ W, (((w.alloc (.cells #[.int .i64 0, .int .i64 0, .string ⟨#[]⟩, .bool false] 44)).alloc (.cells #[.string ⟨#[65]⟩, .string ⟨#[66]⟩, .string ⟨#[67]⟩, .string ⟨#[68]⟩, .string ⟨#[72]⟩, .string ⟨#[70]⟩, .string ⟨#[49, 126]⟩, .string ⟨#[55, 126]⟩, .string ⟨#[52, 126]⟩, .string ⟨#[56, 126]⟩, .string ⟨#[51, 126]⟩, .string ⟨#[53, 126]⟩, .string ⟨#[54, 126]⟩] 9)).alloc (.cells #[.int .i64 7, .int .i64 8, .int .i64 9, .int .i64 10, .int .i64 11, .int .i64 12, .int .i64 11, .int .i64 11, .int .i64 12, .int .i64 12, .int .i64 13, .int .i64 14, .int .i64 14] 3)) = W := ⟨_, rfl⟩
  rw [hW] at NW
  have NW := Lib.hid NW
  have fin : ∀ (k : Ky) {W1 : World} {x0 x1 : Int} {s0 : ByteArray} {c0 : Bool} {WF : World}, Below w.heap.size w W1 → W1.heap[w.heap.size]? = some (.cells #[.int .i64 0, .int .i64 0, .string ⟨#[]⟩, .bool false] 44 (0, 0)) →
      ((((W1.setCell ⟨w.heap.size, 0, none⟩ (.int .i64 x0)).setCell ⟨w.heap.size, 1, none⟩ (.int .i64 x1)).setCell ⟨w.heap.size, 2, none⟩ (.string s0)).setCell ⟨w.heap.size, 3, none⟩ (.bool c0)) = WF →
      WF.cell? ⟨w.heap.size, 0, none⟩ = some (.int .i64 x0) ∧ WF.cell? ⟨w.heap.size, 1, none⟩ = some (.int .i64 x1) ∧ WF.cell? ⟨w.heap.size, 2, none⟩ = some (.string s0) ∧ WF.cell? ⟨w.heap.size, 3, none⟩ = some (.bool c0) ∧ Below w.heap.size w WF := by
    intro k W1 x0 x1 s0 c0 WF hb ha hWF
    have hq := row_put ha x0 x1 s0 c0
    rw [hWF] at hq
    refine ⟨cell_of_row _ _ 0 _ _ _ hq, cell_of_row _ _ 1 _ _ _ hq, cell_of_row _ _ 2 _ _ _ hq, cell_of_row _ _ 3 _ _ _ hq, ?_⟩
    rw [← hWF]
    exact (((hb.setCell (p := ⟨_, 0, none⟩) (Nat.le_refl _) _).setCell (p := ⟨_, 1, none⟩) (Nat.le_refl _) _).setCell (p := ⟨_, 2, none⟩) (Nat.le_refl _) _).setCell (p := ⟨_, 3, none⟩) (Nat.le_refl _) _
  have FIN := Lib.hid (@fin)
  clear fin
  go_enter Tryd.func114, Tryd.ntmps114
  go_upto_region 4 with fail
  clear hW
  go_loopw [5] (fun iv wr => ∃ (k : Nat), k ≤ 13 ∧ iv = .int .i64 (k : Int) ∧ wr = W ∧ Hid (knK g = knF g (13 - k))) (fun iv _ => 13 - (intOf iv).toNat)
  case atStart => exact ⟨0, by omega, rfl, rfl, Lib.hid rfl⟩
  case round =>
    obtain ⟨k, hk, rfl, rfl, HK⟩ := hrel
    by_cases hlt : k < 13
    · have hn := NW.out.n k hlt
      have hk1 : (k : Int) < 13 := by omega
      by_cases he : nmL.getD k [] = g
      · have hd := NW.out.d k hlt
        have HE : Hid (knK g = kv0 (kdL.getD k 0) (if g = [54, 126] then 1 else 0)) := Lib.hid (by rw [HK.out, knF_yes g k hlt he])
        rw [he] at hn
        generalize kdL.getD k 0 = x at *
        have B1 := below_alloc wr (.cells #[.int .i64 x, .int .i64 0, .string ⟨#[]⟩, .bool false] 44)
        have q1 := heap_alloc_new wr (.cells #[.int .i64 x, .int .i64 0, .string ⟨#[]⟩, .bool false] 44)
        have hne : wr.heap.size ≠ w.heap.size := fun e => by have := blk_lt NW.out.a; omega
        have hge : w.heap.size ≤ wr.heap.size := NW.out.b.size
        obtain ⟨W1, hW1⟩ : ∃ W1, wr.alloc (.cells #[.int .i64 x, .int .i64 0, .string ⟨#[]⟩, .bool false] 44) = W1 := ⟨_, rfl⟩
        rw [hW1] at B1 q1
        have A1 := blk_below NW.out.a B1
        have N1 := seqB NW.out.b B1
        have q2 := blk_set (blk_set (blk_set q1 1 (.int .i64 0)) 2 (.string ⟨#[]⟩)) 3 (.bool false)
        have A2 := (Below.heap_setCell (((W1.setCell ⟨wr.heap.size, 1, none⟩ (.int .i64 0)).setCell ⟨wr.heap.size, 2, none⟩ (.string ⟨#[]⟩))) ⟨wr.heap.size, 3, none⟩ (.bool false) w.heap.size (Ne.symm hne)).trans ((Below.heap_setCell (W1.setCell ⟨wr.heap.size, 1, none⟩ (.int .i64 0)) ⟨wr.heap.size, 2, none⟩ (.string ⟨#[]⟩) w.heap.size (Ne.symm hne)).trans ((Below.heap_setCell W1 ⟨wr.heap.size, 1, none⟩ (.int .i64 0) w.heap.size (Ne.symm hne)).trans A1))
        have N2 := ((N1.setCell (p := ⟨wr.heap.size, 1, none⟩) hge (.int .i64 0)).setCell (p := ⟨wr.heap.size, 2, none⟩) hge (.string ⟨#[]⟩)).setCell (p := ⟨wr.heap.size, 3, none⟩) hge (.bool false)
        have yf1 := fun i => frozen_of_row _ wr.heap.size i _ _ q1
        have yy1 := fun i => cell_of_row _ _ i _ _ _ q1
        have d1 := yy1 1; have d2 := yy1 2; have d3 := yy1 3
        dsimp at d1 d2 d3
        obtain ⟨W2, hW2⟩ : ∃ W2, ((W1.setCell ⟨wr.heap.size, 1, none⟩ (.int .i64 0)).setCell ⟨wr.heap.size, 2, none⟩ (.string ⟨#[]⟩)).setCell ⟨wr.heap.size, 3, none⟩ (.bool false) = W2 := ⟨_, rfl⟩
        rw [hW2] at q2 A2 N2
        have q2 : W2.heap[wr.heap.size]? = some (.cells #[.int .i64 x, .int .i64 0, .string ⟨#[]⟩, .bool false] 44 (0, 0)) := q2
        have yy := fun i => cell_of_row _ _ i _ _ _ q2
        have e0 := yy 0; have e1 := yy 1; have e2 := yy 2; have e3 := yy 3
        have yf := fun i => frozen_of_row _ wr.heap.size i _ _ q2
        have zz := fun i => cell_of_row _ _ i _ _ _ A2
        have a0 := zz 0; have a1 := zz 1; have a2 := zz 2; have a3 := zz 3
        have zf := fun i => frozen_of_row _ w.heap.size i _ _ A2
        dsimp at e0 e1 e2 e3 a0 a1 a2 a3
        by_cases h6 : g = [54, 126]
        · subst h6
          rw [if_pos rfl] at HE
          rw [show mkL [54, 126] = ⟨#[54, 126]⟩ from rfl] at hn ⊢
          have q3 := blk_set q2 1 (.int .i64 1)
          have q3 : (W2.setCell ⟨wr.heap.size, 1, none⟩ (.int .i64 1)).heap[wr.heap.size]? = some (.cells #[.int .i64 x, .int .i64 1, .string ⟨#[]⟩, .bool false] 44 (0, 0)) := q3
          have A3 := (Below.heap_setCell W2 ⟨wr.heap.size, 1, none⟩ (.int .i64 1) w.heap.size (Ne.symm hne)).trans A2
          have N3 := Lib.hid (N2.setCell (p := ⟨wr.heap.size, 1, none⟩) hge (.int .i64 1))
          have yy2 := fun i => cell_of_row _ _ i _ _ _ q3
          have f0 := yy2 0; have f1 := yy2 1; have f2 := yy2 2; have f3 := yy2 3
          have zz2 := fun i => cell_of_row _ _ i _ _ _ A3
          have b0 := zz2 0; have b1 := zz2 1; have b2 := zz2 2; have b3 := zz2 3
          have zf2 := fun i => frozen_of_row _ w.heap.size i _ _ A3
          dsimp at f0 f1 f2 f3 b0 b1 b2 b3
          have A3 := Lib.hid A3
          clear yy zz yy2 zz2 yy1 q1 q2 q3 A1 A2 he N1 N2 B1 hne hge
          go_upto_region 8 with fail
          clear hW1 hW2 d1 d2 d3 yf1
          go_wp2
          generalize hWF : World.setCell _ _ _ = WF
          obtain ⟨g0, g1, g2, g3, gB⟩ := FIN.out k0 N3.out A3.out hWF
          refine bodyPost_ret (v := .agg #[.int .i64 x, .int .i64 1, .string ⟨#[]⟩, .bool false]) (by simp [results, Tryd.results114, go_sem, g0, g1, g2, g3]) rfl ?_
          have HE' := HE.out
          exact ⟨by rw [HE']; rfl, gB⟩
        · rw [if_neg h6] at HE
          have h6' := bq_ne h6
          have A3 := Lib.hid A2
          have N3 := Lib.hid N2
          clear yy zz yy1 q1 q2 A1 A2 he N1 N2 B1 hne hge
          go_upto_region 8 with fail
          clear hW1 hW2 d1 d2 d3 yf1
          go_wp2
          generalize hWF : World.setCell _ _ _ = WF
          obtain ⟨g0, g1, g2, g3, gB⟩ := FIN.out k0 N3.out A3.out hWF
          refine bodyPost_ret (v := .agg #[.int .i64 x, .int .i64 0, .string ⟨#[]⟩, .bool false]) (by simp [results, Tryd.results114, go_sem, g0, g1, g2, g3]) rfl ?_
          have HE' := HE.out
          exact ⟨by rw [HE']; rfl, gB⟩
      · have HE : Hid (knK g = knF g (13 - (k + 1))) := Lib.hid (by rw [HK.out, knF_no g k hlt he])
        generalize nmL.getD k [] = y at *
        have hne : ((mkL y).toList == (mkL g).toList) = false := by rw [mkL_toList, mkL_toList]; simpa using he
        clear he
        go_wp2
        go_roundw
        case rel => exact ⟨k + 1, by omega, by go_num, by first | rfl | trivial, HE⟩
        case measure => (simp [intOf]; try omega)
    · have hk1 : ¬ (k : Int) < 13 := by omega
      obtain rfl : k = 13 := by omega
      have A1 := NW.out.a
      have zz := fun i => cell_of_row _ _ i _ _ _ A1
      have a0 := zz 0; have a1 := zz 1; have a2 := zz 2; have a3 := zz 3
      have zf := fun i => frozen_of_row _ w.heap.size i _ _ A1
      dsimp at a0 a1 a2 a3
      have A2 := Lib.hid A1
      clear zz A1
      go_wp2
      generalize hWF : World.setCell _ _ _ = WF
      obtain ⟨g0, g1, g2, g3, gB⟩ := FIN.out k0 NW.out.b A2.out hWF
      refine bodyPost_ret (v := .agg #[.int .i64 0, .int .i64 0, .string ⟨#[]⟩, .bool false]) (by simp [results, Tryd.results114, go_sem, g0, g1, g2, g3]) rfl ?_
      have HK' := HK.out
      exact ⟨by rw [HK']; rfl, gB⟩
end Go.Proofs.YtdafcjjlkjngmaaDoor
set_option linter.unusedVariables false
set_option linter.unusedSimpArgs false
namespace Go.Proofs.YtdafcjjlkjngmaaDoor
open Go.RowKit
theorem v_one (b : UInt8) : (vAt (mkL [b]) 0).1 = if b.toNat < 128 then b.toNat else 1114112 + b.toNat := by
  rw [vAt_one _ (by rw [mkL_size]; simp)]
  show (oneB 1 b.toNat 0 0 0).1 = _
  have hb : begB 1 b.toNat 0 0 0 = 1 := beg1 (by omega)
  by_cases h : b.toNat < 128
  · rw [if_pos h, one_1 hb (by unfold sizeB; rw [if_pos h])]
  · rw [if_neg h, one_bad hb rfl]
    intro e
    unfold sizeB at e
    rw [if_neg h] at e
    repeat' split at e
    all_goals omega
theorem part_128 (b : UInt8) (h : partB (mkL [b]) = true) : 128 ≤ b.toNat := by
  have h2 := ((partB_iff _).1 h).2
  rw [show (mkL [b]).get! 0 = b from rfl, mkL_size] at h2
  unfold sizeB at h2
  split at h2
  · simp at h2
  · omega
/-- The key of a byte that begins no value. -/
theorem fr_no (b : UInt8) (h : partB (mkL [b]) = false) : frW b = [] ∧ frK b = (if b.toNat < 32 then [kv0 2 b.toNat] else if b.toNat = 127 then [kv0 6 0] else [kv0 1 ((vAt (mkL [b]) 0).1 : Int)]) := by
  have hp : pB (mkL [b]) = false := by rw [← h]; exact pB_part [] b
  rw [v_one]
  unfold frW frK
  rw [hp]
  refine ⟨if_neg (fun hh => by cases hh.2), ?_⟩
  by_cases h1 : b.toNat < 32
  · rw [if_pos h1, if_pos h1]
  rw [if_neg h1, if_neg h1]
  by_cases h2 : b.toNat = 127
  · rw [if_pos h2, if_pos h2]
  rw [if_neg h2, if_neg h2]
  by_cases h3 : b.toNat < 128
  · rw [if_pos (by omega), if_pos h3]
  · rw [if_neg (by omega), if_neg (by decide), if_neg h3]; rfl
set_option maxHeartbeats 4000000 in
theorem byte0_u (b : UInt8) (w : World) (h13 : ¬ (b.toNat = 13 ∨ b.toNat = 10)) (h27 : ¬ b.toNat = 27) : Calls Tryd.prog 36 #[.string ⟨#[]⟩, .int .u8 (b.toNat : Int)] w (GP w ((frW b, false), frK b)) := by
  have PT := Lib.hid (fun w => partial_ref (mkL [b]) w (by rw [mkL_size]; simp) (by rw [mkL_size]; simp))
  have ON := Lib.hid (fun w => one_ref (mkL [b]) w (by rw [mkL_size]; simp) (by rw [mkL_size]; simp))
  have G0 := Lib.hid (gb_new w)
  obtain ⟨W, hW⟩ : ∃ W, w.alloc (.cells #[.string ⟨#[]⟩, .bool false, .slice none 0 0] 32) = W := ⟨_, rfl⟩
  rw [hW] at G0
  have hcv := convB b W
  have G1 := Lib.hid (G0.out.alloc (.cells #[.int .u8 (b.toNat : Int)] 5))
  have z2 : (mkL [b]).size = 1 := by rw [mkL_size]; rfl
  have zc : (⟨#[]⟩ : ByteArray) ++ mkL [b] = mkL [b] := by rw [show (⟨#[]⟩ : ByteArray) = mkL [] from rfl, mkL_cat]; rfl
  have hlt : b.toNat < 256 := b.toNat_lt
  have FN := fr_no b
  have P128 := part_128 b
  have V1 := v_one b
  obtain ⟨x, hx⟩ : ∃ x : Int, (b.toNat : Int) = x := ⟨_, rfl⟩
  have x1 : (x == 13) = false := by simp; omega
  have x2 : (x == 10) = false := by simp; omega
  have x3 : (x == 27) = false := by simp; omega
  have hx0 : 0 ≤ x ∧ x < 256 := by omega
  by_cases hp : partB (mkL [b]) = true
  · have h1 := P128 hp
    have e1 : frW b = [b] ∧ frK b = [] := by
      have hp2 : pB (mkL [b]) = true := by rw [← hp]; exact pB_part [] b
      unfold frW frK
      rw [if_pos ⟨h1, hp2⟩, if_neg (by omega), if_neg (by omega), if_neg (by omega), if_pos hp2]
      exact ⟨rfl, rfl⟩
    rw [e1.1, e1.2]
    rw [hp] at PT
    have PT' := Lib.hid (PT.out (W.alloc (.cells #[.int .u8 (b.toNat : Int)] 5)))
    rw [hx] at hcv G1 PT' ⊢
    clear FN P128 V1 e1 hlt h13 h27 hx hp h1 ON PT
    go_enter Tryd.func36, Tryd.ntmps36
    go_upto_region 1 with fail
    clear hW
    go_wp2_with (go_at_call 69; refine PT'.out.mono ?_; rintro e w2 ⟨rfl, hb⟩; have G2 := Lib.hid (G1.out.below hb); obtain ⟨yf, y0, y1, y2⟩ := G2.out.cells; clear hb)
    generalize hWF : World.setCell _ _ _ = WF
    obtain ⟨g0, g1, g2, gO, gB⟩ := gt_fin G2.out.r (owk_nil _ 0) G2.out.b hWF
    refine bodyPost_ret (v := .agg #[.string (mkL [b]), .bool false, .slice none 0 0]) (by simp [results, Tryd.results36, go_sem, g0, g1, g2]) rfl ?_
    exact ⟨_, rfl, owk_nil _ _, gB⟩
  · have hp' : partB (mkL [b]) = false := by simpa using hp
    obtain ⟨e1, e2⟩ := FN hp'
    rw [e1, e2]
    rw [hp'] at PT
    have PT' := Lib.hid (PT.out (W.alloc (.cells #[.int .u8 (b.toNat : Int)] 5)))
    obtain ⟨v, hv⟩ : ∃ v : Int, (((vAt (mkL [b]) 0).1 : Nat) : Int) = v := ⟨_, rfl⟩
    obtain ⟨m, hm⟩ : ∃ m : Int, (((vAt (mkL [b]) 0).2 : Nat) : Int) = m := ⟨_, rfl⟩
    rw [hv, hm] at ON
    rw [hv]
    have hvx : v = if x < 128 then x else 1114112 + x := by
      rw [← hv, V1, ← hx]
      by_cases h : b.toNat < 128
      · rw [if_pos h, if_pos (by omega)]
      · rw [if_neg h, if_neg (by omega)]; omega
    rw [hx] at hcv G1 PT' ⊢
    clear hp hp' FN e1 e2 PT
    by_cases h1 : x < 32
    · rw [if_pos (by omega)]
      rw [if_pos (by omega)] at hvx
      subst hvx
      clear P128 V1 hlt h13 h27 hx hv hm
      go_enter Tryd.func36, Tryd.ntmps36
      go_upto_region 1 with fail
      clear hW
      go_wp2_with (first
        | (go_at_call 69; refine PT'.out.mono ?_; rintro e w2 ⟨rfl, hb⟩; have G2 := Lib.hid (G1.out.below hb); clear hb)
        | (go_at_call 70; refine (ON.out _).mono ?_; rintro e w3 ⟨rfl, k, rfl⟩; have G3 := Lib.hid ((G2.out.drewN k).alloc (.cells #[.int .i64 2, .int .i64 v, .string ⟨#[]⟩, .bool false] 44)); have O3 := Lib.hid (owk_one (w2.drewN k) (kv0 2 v)); obtain ⟨yf, y0, y1, y2⟩ := G3.out.cells))
      generalize hWF : World.setCell _ _ _ = WF
      obtain ⟨g0, g1, g2, gO, gB⟩ := gt_fin G3.out.r O3.out G3.out.b hWF
      refine bodyPost_ret (v := .agg #[.string ⟨#[]⟩, .bool false, .slice (some ⟨(w2.drewN k).heap.size, 0, none⟩) 1 1]) (by simp [results, Tryd.results36, go_sem, g0, g1, g2]) rfl ?_
      exact ⟨_, rfl, gO.mono (Nat.le_of_lt G2.out.lt), gB⟩
    rw [if_neg (by omega)]
    by_cases h2 : x = 127
    · rw [if_pos (by omega)]
      rw [if_pos (by omega)] at hvx
      subst hvx
      subst h2
      clear P128 V1 hlt h13 h27 hx hm hv
      go_enter Tryd.func36, Tryd.ntmps36
      go_upto_region 1 with fail
      clear hW
      go_wp2_with (first
        | (go_at_call 69; refine PT'.out.mono ?_; rintro e w2 ⟨rfl, hb⟩; have G2 := Lib.hid (G1.out.below hb); clear hb)
        | (go_at_call 70; refine (ON.out _).mono ?_; rintro e w3 ⟨rfl, k, rfl⟩; have G3 := Lib.hid ((G2.out.drewN k).alloc (.cells #[.int .i64 6, .int .i64 0, .string ⟨#[]⟩, .bool false] 44)); have O3 := Lib.hid (owk_one (w2.drewN k) (kv0 6 0)); obtain ⟨yf, y0, y1, y2⟩ := G3.out.cells))
      generalize hWF : World.setCell _ _ _ = WF
      obtain ⟨g0, g1, g2, gO, gB⟩ := gt_fin G3.out.r O3.out G3.out.b hWF
      refine bodyPost_ret (v := .agg #[.string ⟨#[]⟩, .bool false, .slice (some ⟨(w2.drewN k).heap.size, 0, none⟩) 1 1]) (by simp [results, Tryd.results36, go_sem, g0, g1, g2]) rfl ?_
      exact ⟨_, rfl, gO.mono (Nat.le_of_lt G2.out.lt), gB⟩
    rw [if_neg (by omega)]
    have hv32 : ¬ v < 32 := by rw [hvx]; split <;> omega
    have hv127 : (v == 127) = false := by simp; rw [hvx]; split <;> omega
    clear P128 V1 hlt h13 h27 hx hm hv hvx h1 h2
    go_enter Tryd.func36, Tryd.ntmps36
    go_upto_region 1 with fail
    clear hW
    go_wp2_with (first
      | (go_at_call 69; refine PT'.out.mono ?_; rintro e w2 ⟨rfl, hb⟩; have G2 := Lib.hid (G1.out.below hb); clear hb)
      | (go_at_call 70; refine (ON.out _).mono ?_; rintro e w3 ⟨rfl, k, rfl⟩; have G3 := Lib.hid ((G2.out.drewN k).alloc (.cells #[.int .i64 1, .int .i64 v, .string ⟨#[]⟩, .bool false] 44)); have O3 := Lib.hid (owk_one (w2.drewN k) (kv0 1 v)); obtain ⟨yf, y0, y1, y2⟩ := G3.out.cells))
    generalize hWF : World.setCell _ _ _ = WF
    obtain ⟨g0, g1, g2, gO, gB⟩ := gt_fin G3.out.r O3.out G3.out.b hWF
    refine bodyPost_ret (v := .agg #[.string ⟨#[]⟩, .bool false, .slice (some ⟨(w2.drewN k).heap.size, 0, none⟩) 1 1]) (by simp [results, Tryd.results36, go_sem, g0, g1, g2]) rfl ?_
    exact ⟨_, rfl, gO.mono (Nat.le_of_lt G2.out.lt), gB⟩
/-- A byte where nothing waits. -/
theorem byte0_ref (b : UInt8) (w : World) : Calls Tryd.prog 36 #[.string ⟨#[]⟩, .int .u8 (b.toNat : Int)] w (GP w (rbA b)) := by
  unfold rbA
  by_cases h1 : b.toNat = 13 ∨ b.toNat = 10
  · rw [if_pos h1]
    exact byte13_ref [] b.toNat (by omega) w (by simp) (by simp [rsK])
  rw [if_neg h1]
  by_cases h2 : b.toNat = 27
  · rw [if_pos h2, show (b.toNat : Int) = 27 by omega]
    exact byte27_ref [] w (by simp)
  rw [if_neg h2]
  exact byte0_u b w h1 h2
end Go.Proofs.YtdafcjjlkjngmaaDoor
set_option linter.unusedVariables false
set_option linter.unusedSimpArgs false
namespace Go.Proofs.YtdafcjjlkjngmaaDoor
open Go.RowKit Go.Sort
theorem rbA_len (b : UInt8) : (rbA b).2.length ≤ 1 := by
  unfold rbA
  have := frK_len b
  repeat' split
  all_goals simp
  exact this
theorem far3G {w : World} {p q i j l k : Nat} {u v x : Value} (h : p ≠ q) : (((w.setCell ⟨p, i, none⟩ u).setCell ⟨p, j, none⟩ v).setCell ⟨p, l, none⟩ x).cell? ⟨q, k, none⟩ = w.cell? ⟨q, k, none⟩ := by
  unfold World.cell?
  rw [Below.heap_setCell _ _ _ _ (Ne.symm h), Below.heap_setCell _ _ _ _ (Ne.symm h), Below.heap_setCell _ _ _ _ (Ne.symm h)]
set_option maxHeartbeats 4000000 in
theorem anew_ref (P : List UInt8) (b : UInt8) (w : World) (hl : P.length ≤ 1000) (hK : (rsK P).length ≤ 1000) : Calls Tryd.prog 71 #[.string (mkL P), .int .u8 (b.toNat : Int)] w (GP w (rbN P b)) := by
  have ST := Lib.hid (fun w => rsettled_ref P w hl)
  have BY := Lib.hid (fun w => byte0_ref b w)
  have hk1 := rbA_len b
  have G0 := Lib.hid (gb_new w)
  obtain ⟨W, hW⟩ : ∃ W, w.alloc (.cells #[.string ⟨#[]⟩, .bool false, .slice none 0 0] 32) = W := ⟨_, rfl⟩
  rw [hW] at G0
  unfold rbN
  generalize rbA b = r at *
  obtain ⟨⟨Q, pas⟩, K1⟩ := r
  dsimp only at hk1 ⊢
  obtain ⟨n, hn⟩ : ∃ n, (rsK P).length = n := ⟨_, rfl⟩
  obtain ⟨m, hm⟩ : ∃ m, K1.length = m := ⟨_, rfl⟩
  have HN := Lib.hid hn
  have HM := Lib.hid hm
  have HL : Hid (n + m ≤ 1000000) := Lib.hid (by omega)
  clear hl hn hK hm hk1
  generalize hp : mkL P = p at *
  generalize rsK P = K at *
  generalize b.toNat = x at *
  go_enter Tryd.func71, Tryd.ntmps71
  go_upto_region 1 with fail
  clear hW hp
  go_upto_region 2 with (go_at_call 36; refine (BY.out _).mono ?_; rintro e w2 ⟨v, rfl, ho, hb⟩; obtain ⟨a1, c1, rfl, hs1⟩ := (OwK.sl ho); rw [HM.out]; have B2 := Lib.hid hb; have G2 := Lib.hid (G0.out.below hb); have S2 := Lib.hid hs1; clear ho hb hs1)
  have B3 := below_alloc w2 (.cells #[.string (mkL Q), .bool pas, .slice a1 m c1] 32)
  have q3 := heap_alloc_new w2 (.cells #[.string (mkL Q), .bool pas, .slice a1 m c1] 32)
  have G3 := Lib.hid (G2.out.below B3)
  have S3 := Lib.hid (S2.out.below B3)
  have N3 := Lib.hid (seqB B2.out B3)
  obtain ⟨W3, hW3⟩ : ∃ W3, w2.alloc (.cells #[.string (mkL Q), .bool pas, .slice a1 m c1] 32) = W3 := ⟨_, rfl⟩
  rw [hW3] at q3 G3 S3 N3 ⊢
  have hXne : Hid (w.heap.size ≠ w2.heap.size) := Lib.hid (Nat.ne_of_lt G2.out.lt)
  obtain ⟨X, hX⟩ : ∃ X, w2.heap.size = X := ⟨_, rfl⟩
  rw [hX] at q3 hXne ⊢
  have q3 : W3.heap[X]? = some (.cells #[.string (mkL Q), .bool pas, .slice a1 m c1] 32 (0, 0)) := q3
  have Q3 := Lib.hid q3
  have z0 := cell_of_row _ _ 0 _ _ _ q3
  have z1 := cell_of_row _ _ 1 _ _ _ q3
  have z2 := cell_of_row _ _ 2 _ _ _ q3
  dsimp at z0 z1 z2
  clear hW3 hX B3 G2 S2 B2 q3
  go_region_held3 (fun w' => w'.cell? ⟨X, 0, none⟩ = some (.string (mkL Q)) ∧ w'.cell? ⟨X, 1, none⟩ = some (.bool pas) ∧ w'.cell? ⟨X, 2, none⟩ = some (.slice a1 m c1)) (first | exact ⟨z0, z1, z2⟩ | exact ⟨z05, z15, z25⟩ | exact ⟨z06, z16, z26⟩ | exact ⟨(far3G hXne.out).trans z06, (far3G hXne.out).trans z16, (far3G hXne.out).trans z26⟩ | go_keep)
    (first
      | (go_at_call 35
         refine (ST.out _).mono ?_
         rintro e w5 ⟨v5, rfl, ho, hb⟩
         obtain ⟨ad5, c5, rfl⟩ := ho.form HN.out
         have O5 := Lib.hid ho
         have hb' : Below W3.heap.size W3 w5 := (Below.refl _ _).drew.trans hb
         have N5 := Lib.hid (seqB N3.out hb')
         have G5 := Lib.hid (G3.out.below hb')
         have S5 := Lib.hid (S3.out.below hb')
         have Q5 := Lib.hid (blk_below Q3.out hb')
         have z05 := cell_of_row _ _ 0 _ _ _ Q5.out
         have z15 := cell_of_row _ _ 1 _ _ _ Q5.out
         have z25 := cell_of_row _ _ 2 _ _ _ Q5.out
         have hbs : Hid (W3.drew.heap.size ≤ w5.heap.size) := Lib.hid hb.size
         dsimp at z05 z15 z25
         clear ho hb hb')
      | (refine step_app_keys (by rfl) _ _ (by rfl) W3.drew.heap.size (.slice ad5 n c5) n K (by rfl) HN.out O5.out a1 m c1 K1 (by rfl) HM.out S5.out.s S5.out.nl HL.out hbs.out ?_
         intro ad6 c6 w6 o6 g6 p6
         have O6 := Lib.hid (show OwK w6 W3.drew.heap.size (.slice ad6 (n + m) c6) (K ++ K1) from o6)
         have G6 := Lib.hid (G5.out.grown O5.out (Nat.le_trans G0.out.b.size N3.out.size) g6)
         have Q6 := Lib.hid ((g6.block X (blk_lt Q5.out) (fun e => own_ne_kind O5.out Q5.out tG_ne_k e.symm)).trans Q5.out)
         have z06 := cell_of_row _ _ 0 _ _ _ Q6.out
         have z16 := cell_of_row _ _ 1 _ _ _ Q6.out
         have z26 := cell_of_row _ _ 2 _ _ _ Q6.out
         dsimp at z06 z16 z26
         obtain ⟨yf, y0, y1, y2⟩ := G6.out.cells
         clear o6 g6 p6))
  all_goals
    go_wp2
    clear z0 z1 z2 z05 z15 z25 z06 z16 z26
    generalize hWF : World.setCell _ _ _ = WF
    obtain ⟨g0, g1, g2, gO, gB⟩ := gt_fin G6.out.r O6.out G6.out.b hWF
    refine bodyPost_ret (v := .agg #[.string (mkL Q), .bool pas, .slice ad6 (n + m) c6]) (by simp [results, Tryd.results71, go_sem, g0, g1, g2]) rfl ?_
    exact ⟨_, rfl, gO.mono (Nat.le_trans G0.out.b.size N3.out.size), gB⟩
end Go.Proofs.YtdafcjjlkjngmaaDoor
set_option linter.unusedVariables false
set_option linter.unusedSimpArgs false
namespace Go.Proofs.YtdafcjjlkjngmaaDoor
open Go.RowKit
section
variable {P : List UInt8} {b : UInt8} {w : World}
set_option maxHeartbeats 4000000 in
theorem esc27_ref (x : Int) (hbx : (b.toNat : Int) = x) (w : World) : Calls Tryd.prog 68 #[.string ⟨#[27]⟩, .int .u8 x] w (GP w (rbE [27] b)) := by
  rw [rbE_27 rfl]
  have hlt : b.toNat < 256 := b.toNat_lt
  have G0 := Lib.hid (gb_new w)
  obtain ⟨W, hW⟩ : ∃ W, w.alloc (.cells #[.string ⟨#[]⟩, .bool false, .slice none 0 0] 32) = W := ⟨_, rfl⟩
  rw [hW] at G0
  have hcv := convB b W
  rw [hbx] at hcv
  have G1 := Lib.hid (G0.out.alloc (.cells #[.int .u8 x] 5))
  have z2 : (mkL [b]).size = 1 := by rw [mkL_size]; rfl
  have zc : (⟨#[27]⟩ : ByteArray) ++ mkL [b] = mkL [27, b] := by rw [show (⟨#[27]⟩ : ByteArray) = mkL [27] from rfl, mkL_cat]; rfl
  have x0 : 0 ≤ x := by omega
  have x9 : x < 256 := by omega
  have AN := Lib.hid (fun w => anew_ref [27] b w (by decide) (by decide))
  rw [hbx, show mkL [27] = ⟨#[27]⟩ from rfl] at AN
  by_cases h1 : b.toNat = 91 ∨ b.toNat = 79
  · rw [if_pos h1]
    have h1' : x = 91 ∨ x = 79 := by omega
    obtain ⟨yf, y0, y1, y2⟩ := G1.out.cells
    clear hlt hbx h1 AN x0 x9
    rcases h1' with rfl | rfl
    all_goals
      go_enter Tryd.func68, Tryd.ntmps68
      go_upto_region 1 with fail
      clear hW
      go_wp2
      generalize hWF : World.setCell _ _ _ = WF
      obtain ⟨g0, g1, g2, gO, gB⟩ := gt_fin G1.out.r (owk_nil _ 0) G1.out.b hWF
      refine bodyPost_ret (v := .agg #[.string (mkL [27, b]), .bool false, .slice none 0 0]) (by simp [results, Tryd.results68, go_sem, g0, g1, g2]) rfl ?_
      exact ⟨_, rfl, owk_nil _ _, gB⟩
  rw [if_neg h1]
  have x1 : (x == 91) = false := by simp; omega
  have x2 : (x == 79) = false := by simp; omega
  by_cases h2 : b.toNat ≤ 127
  · rw [if_pos h2, hbx]
    have h3 : x ≤ 127 := by omega
    have G3 := Lib.hid (G1.out.alloc (.cells #[.int .i64 3, .int .i64 x, .string ⟨#[]⟩, .bool false] 44))
    have O3 := owk_one (W.alloc (.cells #[.int .u8 x] 5)) (kv0 3 x)
    rw [show (W.alloc (.cells #[.int .u8 x] 5)).heap.size = W.heap.size + 1 by simp] at O3
    have O3 := Lib.hid O3
    obtain ⟨yf, y0, y1, y2⟩ := G3.out.cells
    clear hlt h1 h2 AN
    by_cases c1 : 32 ≤ x <;> by_cases c2 : x ≤ 63 <;> by_cases c3 : 64 ≤ x <;> by_cases c4 : x ≤ 126
    all_goals (try (exfalso; omega))
    all_goals
      clear hbx
      go_enter Tryd.func68, Tryd.ntmps68
      go_upto_region 1 with fail
      clear hW
      go_wp2
      generalize hWF : World.setCell _ _ _ = WF
      obtain ⟨g0, g1, g2, gO, gB⟩ := gt_fin G3.out.r O3.out G3.out.b hWF
      refine bodyPost_ret (v := .agg #[.string ⟨#[]⟩, .bool false, .slice (some ⟨W.heap.size + 1, 0, none⟩) 1 1]) (by simp [results, Tryd.results68, go_sem, g0, g1, g2]) rfl ?_
      exact ⟨_, rfl, gO.mono (Nat.le_trans G0.out.b.size (Nat.le_succ _)), gB⟩
  · rw [if_neg h2]
    have c3 : ¬ x ≤ 127 := by omega
    have c1 : 32 ≤ x := by omega
    have c2 : ¬ x ≤ 63 := by omega
    have c4 : ¬ x ≤ 126 := by omega
    have c5 : 64 ≤ x := by omega
    clear hlt h1 h2 hbx
    go_enter Tryd.func68, Tryd.ntmps68
    go_upto_region 1 with fail
    clear hW
    generalize rbN [27] b = r at *
    obtain ⟨⟨Q, pas⟩, K⟩ := r
    go_wp2_with (go_at_call 71; refine (AN.out _).mono ?_; rintro e w2 ⟨v, rfl, ho, hb⟩; have O2 := Lib.hid ho; have G2 := Lib.hid (G1.out.below hb); obtain ⟨yf, y0, y1, y2⟩ := G2.out.cells; obtain ⟨ad, cp, rfl⟩ := ho.form (n := K.length) rfl; clear ho hb)
    generalize hWF : World.setCell _ _ _ = WF
    obtain ⟨g0, g1, g2, gO, gB⟩ := gt_fin G2.out.r O2.out G2.out.b hWF
    refine bodyPost_ret (v := .agg #[.string (mkL Q), .bool pas, .slice ad K.length cp]) (by simp [results, Tryd.results68, go_sem, g0, g1, g2]) rfl ?_
    exact ⟨_, rfl, gO.mono (Nat.le_of_lt G1.out.lt), gB⟩
end
end Go.Proofs.YtdafcjjlkjngmaaDoor
set_option linter.unusedVariables false
set_option linter.unusedSimpArgs false
namespace Go.Proofs.YtdafcjjlkjngmaaDoor
open Go.RowKit
section
variable {P : List UInt8} {b : UInt8} {w : World}
set_option maxHeartbeats 8000000 in
theorem esc79_ref (x : Int) (hbx : (b.toNat : Int) = x) (w : World) : Calls Tryd.prog 68 #[.string ⟨#[27, 79]⟩, .int .u8 x] w (GP w (rbE [27, 79] b)) := by
  rw [rbE_79 rfl]
  have hlt : b.toNat < 256 := b.toNat_lt
  have G0 := Lib.hid (gb_new w)
  obtain ⟨W, hW⟩ : ∃ W, w.alloc (.cells #[.string ⟨#[]⟩, .bool false, .slice none 0 0] 32) = W := ⟨_, rfl⟩
  rw [hW] at G0
  have hcv := convB b W
  rw [hbx] at hcv
  have G1 := Lib.hid (G0.out.alloc (.cells #[.int .u8 x] 5))
  have z2 : (mkL [b]).size = 1 := by rw [mkL_size]; rfl
  have zc : (⟨#[27, 79]⟩ : ByteArray) ++ mkL [b] = mkL [27, 79, b] := by rw [show (⟨#[27, 79]⟩ : ByteArray) = mkL [27, 79] from rfl, mkL_cat]; rfl
  have z3 : (mkL [27, 79, b]).size = 3 := by rw [mkL_size]; rfl
  have z4 : (mkL [27, 79, b]).extract 2 3 = mkL [b] := by rw [mkL_ext]; rfl
  have x0 : 0 ≤ x := by omega
  have x9 : x < 256 := by omega
  have AN := Lib.hid (fun w => anew_ref [27, 79] b w (by decide) (by decide))
  rw [hbx, show mkL [27, 79] = ⟨#[27, 79]⟩ from rfl] at AN
  have KN := Lib.hid (fun w => known_ref [b] w)
  have KE := Lib.hid (fun w => rkeys_ref (knK [b]) w)
  generalize knK [b] = y at *
  obtain ⟨y1, y2, y3, y4⟩ := y
  dsimp only at KN KE ⊢
  have hfd : ∀ w, (Instr.field 44 (.agg #[.int .i64 y1, .int .i64 y2, .string y3, .bool y4]) 0).run Tryd.prog w = .ok (.int .i64 y1) w := fun _ => by kernel_rfl
  by_cases h1 : 64 ≤ b.toNat ∧ b.toNat ≤ 72
  · have c1 : 32 ≤ x := by omega
    have c2 : ¬ x ≤ 63 := by omega
    have c3 : 64 ≤ x := by omega
    have c4 : x ≤ 126 := by omega
    have c5 : x ≤ 72 := by omega
    by_cases h2 : y1 = 0
    · rw [if_neg (fun hh => hh.2 h2), if_pos (by omega)]
      subst h2
      clear hlt hbx h1 AN KE x0 x9
      go_enter Tryd.func68, Tryd.ntmps68
      go_upto_region 1 with fail
      clear hW
      go_wp2_with (go_at_call 114; refine (KN.out _).mono ?_; rintro e w2 ⟨rfl, hb⟩; have G2 := Lib.hid (G1.out.below hb); obtain ⟨yf, y0, y1, y2⟩ := G2.out.cells; clear hb)
      generalize hWF : World.setCell _ _ _ = WF
      obtain ⟨g0, g1, g2, gO, gB⟩ := gt_fin G2.out.r (owk_nil _ 0) G2.out.b hWF
      refine bodyPost_ret (v := .agg #[.string ⟨#[]⟩, .bool false, .slice none 0 0]) (by simp [results, Tryd.results68, go_sem, g0, g1, g2]) rfl ?_
      exact ⟨_, rfl, owk_nil _ _, gB⟩
    · rw [if_pos ⟨h1, h2⟩]
      have hy1 : (y1 != 0) = true := by simpa using h2
      have hke : Hid ((keK (y1, y2, y3, y4)).length = 1) := Lib.hid (by unfold keK; rw [if_neg h2]; rfl)
      clear hlt hbx h1 AN x0 x9 h2
      generalize keK (y1, y2, y3, y4) = K at *
      go_enter Tryd.func68, Tryd.ntmps68
      go_upto_region 1 with fail
      clear hW
      go_upto_region 12 with (go_at_call 114; refine (KN.out _).mono ?_; rintro e w2 ⟨rfl, hb⟩; have G2 := Lib.hid (G1.out.below hb); clear hb)
      go_wp2_with (first
        | (go_at_call 114; refine (KN.out _).mono ?_; rintro e w3 ⟨rfl, hb⟩; have G3 := Lib.hid (G2.out.below hb); have B3 := Lib.hid hb.size; clear hb)
        | (go_at_call 115; refine (KE.out _).mono ?_; rintro e w4 ⟨v, rfl, ho, hb⟩; have O4 := Lib.hid ho; have G4 := Lib.hid (G3.out.below hb); obtain ⟨yf, y0, y1, y2⟩ := G4.out.cells; obtain ⟨ad, cp, rfl⟩ := ho.form hke.out; clear ho hb))
      generalize hWF : World.setCell _ _ _ = WF
      obtain ⟨g0, g1, g2, gO, gB⟩ := gt_fin G4.out.r O4.out G4.out.b hWF
      refine bodyPost_ret (v := .agg #[.string ⟨#[]⟩, .bool false, .slice ad 1 cp]) (by simp [results, Tryd.results68, go_sem, g0, g1, g2]) rfl ?_
      exact ⟨_, rfl, gO.mono (Nat.le_of_lt G3.out.lt), gB⟩
  rw [if_neg (fun hh => h1 hh.1)]
  by_cases h2 : 32 ≤ b.toNat ∧ b.toNat ≤ 126
  · rw [if_pos h2]
    obtain ⟨yf, y0, y1, y2⟩ := G1.out.cells
    by_cases h3 : b.toNat ≤ 63
    · have c1 : 32 ≤ x := by omega
      have c2 : x ≤ 63 := by omega
      have c3 : ¬ 64 ≤ x := by omega
      clear hlt hbx h1 h2 h3 AN KE KN x0 x9
      go_enter Tryd.func68, Tryd.ntmps68
      go_upto_region 1 with fail
      clear hW
      go_wp2
      generalize hWF : World.setCell _ _ _ = WF
      obtain ⟨g0, g1, g2, gO, gB⟩ := gt_fin G1.out.r (owk_nil _ 0) G1.out.b hWF
      refine bodyPost_ret (v := .agg #[.string ⟨#[]⟩, .bool false, .slice none 0 0]) (by simp [results, Tryd.results68, go_sem, g0, g1, g2]) rfl ?_
      exact ⟨_, rfl, owk_nil _ _, gB⟩
    · have c1 : 32 ≤ x := by omega
      have c2 : ¬ x ≤ 63 := by omega
      have c3 : 64 ≤ x := by omega
      have c4 : x ≤ 126 := by omega
      have c5 : ¬ x ≤ 72 := by omega
      clear hlt hbx h1 h2 h3 AN KE KN x0 x9
      go_enter Tryd.func68, Tryd.ntmps68
      go_upto_region 1 with fail
      clear hW
      go_wp2
      generalize hWF : World.setCell _ _ _ = WF
      obtain ⟨g0, g1, g2, gO, gB⟩ := gt_fin G1.out.r (owk_nil _ 0) G1.out.b hWF
      refine bodyPost_ret (v := .agg #[.string ⟨#[]⟩, .bool false, .slice none 0 0]) (by simp [results, Tryd.results68, go_sem, g0, g1, g2]) rfl ?_
      exact ⟨_, rfl, owk_nil _ _, gB⟩
  rw [if_neg h2]
  have h3 : ¬ 32 ≤ x ∨ (32 ≤ x ∧ ¬ x ≤ 63 ∧ 64 ≤ x ∧ ¬ x ≤ 126) := by omega
  clear hlt hbx h1 h2 KE KN x0 x9
  generalize rbN [27, 79] b = r at *
  obtain ⟨⟨Q, pas⟩, K⟩ := r
  rcases h3 with c1 | ⟨c1, c2, c3, c4⟩
  · have c3 : ¬ 64 ≤ x := by omega
    go_enter Tryd.func68, Tryd.ntmps68
    go_upto_region 1 with fail
    clear hW
    go_wp2_with (go_at_call 71; refine (AN.out _).mono ?_; rintro e w2 ⟨v, rfl, ho, hb⟩; have O2 := Lib.hid ho; have G2 := Lib.hid (G1.out.below hb); obtain ⟨yf, y0, y1, y2⟩ := G2.out.cells; obtain ⟨ad, cp, rfl⟩ := ho.form (n := K.length) rfl; clear ho hb)
    generalize hWF : World.setCell _ _ _ = WF
    obtain ⟨g0, g1, g2, gO, gB⟩ := gt_fin G2.out.r O2.out G2.out.b hWF
    refine bodyPost_ret (v := .agg #[.string (mkL Q), .bool pas, .slice ad K.length cp]) (by simp [results, Tryd.results68, go_sem, g0, g1, g2]) rfl ?_
    exact ⟨_, rfl, gO.mono (Nat.le_of_lt G1.out.lt), gB⟩
  · go_enter Tryd.func68, Tryd.ntmps68
    go_upto_region 1 with fail
    clear hW
    go_wp2_with (go_at_call 71; refine (AN.out _).mono ?_; rintro e w2 ⟨v, rfl, ho, hb⟩; have O2 := Lib.hid ho; have G2 := Lib.hid (G1.out.below hb); obtain ⟨yf, y0, y1, y2⟩ := G2.out.cells; obtain ⟨ad, cp, rfl⟩ := ho.form (n := K.length) rfl; clear ho hb)
    generalize hWF : World.setCell _ _ _ = WF
    obtain ⟨g0, g1, g2, gO, gB⟩ := gt_fin G2.out.r O2.out G2.out.b hWF
    refine bodyPost_ret (v := .agg #[.string (mkL Q), .bool pas, .slice ad K.length cp]) (by simp [results, Tryd.results68, go_sem, g0, g1, g2]) rfl ?_
    exact ⟨_, rfl, gO.mono (Nat.le_of_lt G1.out.lt), gB⟩
end
end Go.Proofs.YtdafcjjlkjngmaaDoor
set_option linter.unusedVariables false
set_option linter.unusedSimpArgs false
namespace Go.Proofs.YtdafcjjlkjngmaaDoor
open Go.RowKit
section
variable {P : List UInt8} {b : UInt8} {w : World}
set_option maxHeartbeats 8000000 in
theorem escno_ref (hP1 : P ≠ [27]) (hP2 : P ≠ [27, 79]) (hP0 : P.getD 0 0 = 27) (hl : P.length ≤ 900) (x : Int) (hbx : (b.toNat : Int) = x) (w : World) : Calls Tryd.prog 68 #[.string (mkL P), .int .u8 x] w (GP w (rbE P b)) := by
  rw [rbE_no hP1 hP2]
  have hlt : b.toNat < 256 := b.toNat_lt
  have hrs : rsK P = [] := by unfold rsK; rw [if_neg hP1, if_pos hP0]
  have G0 := Lib.hid (gb_new w)
  obtain ⟨W, hW⟩ : ∃ W, w.alloc (.cells #[.string ⟨#[]⟩, .bool false, .slice none 0 0] 32) = W := ⟨_, rfl⟩
  rw [hW] at G0
  have hcv := convB b W
  rw [hbx] at hcv
  have G1 := Lib.hid (G0.out.alloc (.cells #[.int .u8 x] 5))
  obtain ⟨n, hn⟩ : ∃ n, P.length = n + 2 := by
    rcases P with _ | ⟨c, _ | ⟨d, g⟩⟩
    · cases hP0
    · exact absurd (by have e : c = 27 := hP0; rw [e]) hP1
    · exact ⟨g.length, rfl⟩
  have z1 : (mkL P).size = n + 2 := by rw [mkL_size, hn]
  have z2 : (mkL [b]).size = 1 := by rw [mkL_size]; rfl
  have zc := mkL_cat P [b]
  have z3 : (mkL (P ++ [b])).size = n + 3 := by rw [mkL_size, List.length_append, hn]; rfl
  have z4 : (mkL (P ++ [b])).extract 2 (n + 3) = mkL ((P ++ [b]).drop 2) := by
    rw [mkL_ext, List.take_of_length_le (by rw [List.length_drop, List.length_append, hn, List.length_singleton]; omega)]
  have m1 := bq_ne hP1
  have m2 := bq_ne hP2
  have hs9 : ¬ 9223372036854775807 < n + 2 + 1 := by omega
  have x0 : 0 ≤ x := by omega
  have x9 : x < 256 := by omega
  have AN := Lib.hid (fun w => anew_ref P b w (by omega) (by rw [hrs]; simp))
  rw [hbx] at AN
  have KN := Lib.hid (fun w => known_ref ((P ++ [b]).drop 2) w)
  have KE := Lib.hid (fun w => rkeys_ref (knK ((P ++ [b]).drop 2)) w)
  have hkn : Hid ((keK (knK ((P ++ [b]).drop 2))).length ≤ 1) := Lib.hid (by unfold keK; split <;> simp)
  have h2b : (P ++ [b]).drop 2 ≠ [50, 48, 48, 126] → ((mkL ((P ++ [b]).drop 2)).toList == [50, 48, 48, 126]) = false := bq_ne
  clear hn hl hP1 hP2 hP0 hrs
  generalize (P ++ [b]).drop 2 = D at *
  generalize P ++ [b] = T at *
  by_cases h1 : 32 ≤ b.toNat ∧ b.toNat ≤ 63
  · rw [if_pos h1]
    have c1 : 32 ≤ x := by omega
    have c2 : x ≤ 63 := by omega
    have c3 : ¬ 64 ≤ x := by omega
    obtain ⟨yf, y0, y1, y2⟩ := G1.out.cells
    clear hlt hbx h1 AN KE KN x0 x9 hkn h2b z4
    go_enter Tryd.func68, Tryd.ntmps68
    go_upto_region 1 with fail
    clear hW
    go_wp2
    generalize hWF : World.setCell _ _ _ = WF
    obtain ⟨g0, g1, g2, gO, gB⟩ := gt_fin G1.out.r (owk_nil _ 0) G1.out.b hWF
    refine bodyPost_ret (v := .agg #[.string (mkL T), .bool false, .slice none 0 0]) (by simp [results, Tryd.results68, go_sem, g0, g1, g2]) rfl ?_
    exact ⟨_, rfl, owk_nil _ _, gB⟩
  rw [if_neg h1]
  by_cases h2 : 64 ≤ b.toNat ∧ b.toNat ≤ 126
  · rw [if_pos h2]
    have c1 : 32 ≤ x := by omega
    have c2 : ¬ x ≤ 63 := by omega
    have c3 : 64 ≤ x := by omega
    have c4 : x ≤ 126 := by omega
    by_cases h3 : D = [50, 48, 48, 126]
    · rw [if_pos h3]
      rw [h3, show mkL [50, 48, 48, 126] = ⟨#[50, 48, 48, 126]⟩ from rfl] at z4
      obtain ⟨yf, y0, y1, y2⟩ := G1.out.cells
      clear hlt hbx h1 h2 AN KE KN x0 x9 hkn h2b h3
      go_enter Tryd.func68, Tryd.ntmps68
      go_upto_region 1 with fail
      clear hW
      go_wp2
      generalize hWF : World.setCell _ _ _ = WF
      obtain ⟨g0, g1, g2, gO, gB⟩ := gt_fin G1.out.r (owk_nil _ 0) G1.out.b hWF
      refine bodyPost_ret (v := .agg #[.string ⟨#[]⟩, .bool true, .slice none 0 0]) (by simp [results, Tryd.results68, go_sem, g0, g1, g2]) rfl ?_
      exact ⟨_, rfl, owk_nil _ _, gB⟩
    · rw [if_neg h3]
      have h4 := h2b h3
      clear hlt hbx h1 h2 AN x0 x9 h2b h3
      generalize knK D = y at *
      obtain ⟨y1, y2, y3, y4⟩ := y
      dsimp only at KN KE
      generalize keK (y1, y2, y3, y4) = K at *
      go_enter Tryd.func68, Tryd.ntmps68
      go_upto_region 1 with fail
      clear hW
      go_wp2_with (first
        | (go_at_call 114; refine (KN.out _).mono ?_; rintro e w3 ⟨rfl, hb⟩; have G3 := Lib.hid (G1.out.below hb); clear hb)
        | (go_at_call 115; refine (KE.out _).mono ?_; rintro e w4 ⟨v, rfl, ho, hb⟩; have O4 := Lib.hid ho; have G4 := Lib.hid (G3.out.below hb); obtain ⟨yf, y0, y1, y2⟩ := G4.out.cells; obtain ⟨ad, cp, rfl⟩ := ho.form (n := K.length) rfl; clear ho hb))
      generalize hWF : World.setCell _ _ _ = WF
      obtain ⟨g0, g1, g2, gO, gB⟩ := gt_fin G4.out.r O4.out G4.out.b hWF
      refine bodyPost_ret (v := .agg #[.string ⟨#[]⟩, .bool false, .slice ad K.length cp]) (by simp [results, Tryd.results68, go_sem, g0, g1, g2]) rfl ?_
      exact ⟨_, rfl, gO.mono (Nat.le_of_lt G3.out.lt), gB⟩
  rw [if_neg h2]
  have h3 : ¬ 32 ≤ x ∨ (32 ≤ x ∧ ¬ x ≤ 63 ∧ 64 ≤ x ∧ ¬ x ≤ 126) := by omega
  clear hlt hbx h1 h2 KE KN x0 x9 hkn h2b z4
  generalize rbN P b = r at *
  obtain ⟨⟨Q, pas⟩, K⟩ := r
  rcases h3 with c1 | ⟨c1, c2, c3, c4⟩
  · have c3 : ¬ 64 ≤ x := by omega
    go_enter Tryd.func68, Tryd.ntmps68
    go_upto_region 1 with fail
    clear hW
    go_wp2_with (go_at_call 71; refine (AN.out _).mono ?_; rintro e w2 ⟨v, rfl, ho, hb⟩; have O2 := Lib.hid ho; have G2 := Lib.hid (G1.out.below hb); obtain ⟨yf, y0, y1, y2⟩ := G2.out.cells; obtain ⟨ad, cp, rfl⟩ := ho.form (n := K.length) rfl; clear ho hb)
    generalize hWF : World.setCell _ _ _ = WF
    obtain ⟨g0, g1, g2, gO, gB⟩ := gt_fin G2.out.r O2.out G2.out.b hWF
    refine bodyPost_ret (v := .agg #[.string (mkL Q), .bool pas, .slice ad K.length cp]) (by simp [results, Tryd.results68, go_sem, g0, g1, g2]) rfl ?_
    exact ⟨_, rfl, gO.mono (Nat.le_of_lt G1.out.lt), gB⟩
  · go_enter Tryd.func68, Tryd.ntmps68
    go_upto_region 1 with fail
    clear hW
    go_wp2_with (go_at_call 71; refine (AN.out _).mono ?_; rintro e w2 ⟨v, rfl, ho, hb⟩; have O2 := Lib.hid ho; have G2 := Lib.hid (G1.out.below hb); obtain ⟨yf, y0, y1, y2⟩ := G2.out.cells; obtain ⟨ad, cp, rfl⟩ := ho.form (n := K.length) rfl; clear ho hb)
    generalize hWF : World.setCell _ _ _ = WF
    obtain ⟨g0, g1, g2, gO, gB⟩ := gt_fin G2.out.r O2.out G2.out.b hWF
    refine bodyPost_ret (v := .agg #[.string (mkL Q), .bool pas, .slice ad K.length cp]) (by simp [results, Tryd.results68, go_sem, g0, g1, g2]) rfl ?_
    exact ⟨_, rfl, gO.mono (Nat.le_of_lt G1.out.lt), gB⟩
theorem escaped_ref (hP0 : P.getD 0 0 = 27) (hl : P.length ≤ 900) (w : World) : Calls Tryd.prog 68 #[.string (mkL P), .int .u8 (b.toNat : Int)] w (GP w (rbE P b)) := by
  by_cases h1 : P = [27]
  · subst h1; exact esc27_ref _ rfl w
  by_cases h2 : P = [27, 79]
  · subst h2; exact esc79_ref _ rfl w
  exact escno_ref h1 h2 hP0 hl _ rfl w
end
end Go.Proofs.YtdafcjjlkjngmaaDoor
set_option linter.unusedVariables false
set_option linter.unusedSimpArgs false
namespace Go.Proofs.YtdafcjjlkjngmaaDoor
open Go.RowKit
section
variable {P : List UInt8} {b : UInt8} {w : World}
theorem rsK_len (P : List UInt8) (h : P.length ≤ 900) : (rsK P).length ≤ 1000 := by
  unfold rsK
  repeat' split
  · simp
  · simp
  · rw [List.length_map]; omega
/-- A value of more than one byte is no control. -/
theorem vAt_big (s : ByteArray) (h : 2 ≤ (vAt s 0).2) : 128 ≤ (vAt s 0).1 := by
  unfold vAt at h ⊢
  split at h
  · exact absurd h (by simp)
  · rename_i hn
    rw [if_neg hn]
    rcases dec_cases s 0 with e | e
    · rw [e] at h; exact absurd h (by simp)
    · unfold Fine at e; omega
set_option maxHeartbeats 8000000 in
theorem byteN_ref (hP : P ≠ []) (h27 : P.getD 0 0 ≠ 27) (hl : P.length ≤ 900) (h13 : ¬ (b.toNat = 13 ∨ b.toNat = 10)) (hb27 : ¬ b.toNat = 27) (w : World) :
    Calls Tryd.prog 36 #[.string (mkL P), .int .u8 (b.toNat : Int)] w (GP w (rbU P b)) := by
  have hpos := List.length_pos_iff.2 hP
  have hz : (mkL (P ++ [b])).size = P.length + 1 := by rw [mkL_size, List.length_append]; rfl
  have PT := Lib.hid (fun w => partial_ref (mkL (P ++ [b])) w (by rw [hz]; omega) (by rw [hz]; omega))
  have ON := Lib.hid (fun w => one_ref (mkL (P ++ [b])) w (by rw [hz]; omega) (by rw [hz]; omega))
  have AN := Lib.hid (fun w => anew_ref P b w (by omega) (rsK_len P hl))
  have VB := vAt_big (mkL (P ++ [b]))
  have G0 := Lib.hid (gb_new w)
  obtain ⟨W, hW⟩ : ∃ W, w.alloc (.cells #[.string ⟨#[]⟩, .bool false, .slice none 0 0] 32) = W := ⟨_, rfl⟩
  rw [hW] at G0
  have hcv := convB b W
  have G1 := Lib.hid (G0.out.alloc (.cells #[.int .u8 (b.toNat : Int)] 5))
  obtain ⟨n, hn⟩ : ∃ n, P.length = n := ⟨_, rfl⟩
  have z1 : (mkL P).size = n := by rw [mkL_size, hn]
  have z2 : (mkL [b]).size = 1 := by rw [mkL_size]; rfl
  have zc := mkL_cat P [b]
  have hn1 : 1 ≤ n := by omega
  have hs9 : ¬ 9223372036854775807 < n + 1 := by omega
  have ix := fun w => idx_run P 0 hpos w
  rw [show ((0 : Nat) : Int) = 0 from rfl] at ix
  have hne := bq_ne hP
  have hne2 : ((mkL P).toList != []) = true := by unfold bne; rw [hne]; rfl
  have hne3 : ¬ (mkL P).toList = [] := by rw [mkL_toList]; exact hP
  have hne4 : (mkL P).toList.isEmpty = false := by simpa using hne3
  have hlt : b.toNat < 256 := b.toNat_lt
  unfold rbU
  rw [hn] at hz ⊢
  obtain ⟨y, hy⟩ : ∃ y : Int, ((P.getD 0 0).toNat : Int) = y := ⟨_, rfl⟩
  rw [hy] at ix
  have hy27 : (y == 27) = false := by
    have : (P.getD 0 0).toNat ≠ 27 := fun e => h27 (UInt8.toNat_inj.1 e)
    simp; omega
  obtain ⟨x, hx⟩ : ∃ x : Int, (b.toNat : Int) = x := ⟨_, rfl⟩
  have x1 : (x == 13) = false := by simp; omega
  have x2 : (x == 10) = false := by simp; omega
  have x3 : (x == 27) = false := by simp; omega
  have hp0 : (0 : Int) < (n : Int) := by omega
  rw [hx] at hcv G1 AN ⊢
  clear hP h27 hl h13 hb27 hpos hn hy hx hlt
  generalize rbN P b = r at *
  generalize P ++ [b] = T at *
  obtain ⟨⟨Q, pas⟩, K⟩ := r
  by_cases hp : partB (mkL T) = true
  · rw [if_pos hp]
    rw [hp] at PT
    clear hp ON AN VB hz
    go_enter Tryd.func36, Tryd.ntmps36
    go_upto_region 1 with fail
    clear hW
    go_wp2_with (go_at_call 69; refine (PT.out _).mono ?_; rintro e w2 ⟨rfl, hb⟩; have G2 := Lib.hid (G1.out.below hb); obtain ⟨yf, y0, y1, y2⟩ := G2.out.cells; clear hb)
    generalize hWF : World.setCell _ _ _ = WF
    obtain ⟨g0, g1, g2, gO, gB⟩ := gt_fin G2.out.r (owk_nil _ 0) G2.out.b hWF
    refine bodyPost_ret (v := .agg #[.string (mkL T), .bool false, .slice none 0 0]) (by simp [results, Tryd.results36, go_sem, g0, g1, g2]) rfl ?_
    exact ⟨_, rfl, owk_nil _ _, gB⟩
  rw [if_neg hp]
  have hp' : partB (mkL T) = false := by simpa using hp
  rw [hp'] at PT
  clear hp hp'
  obtain ⟨v, hv⟩ : ∃ v, (vAt (mkL T) 0).1 = v := ⟨_, rfl⟩
  obtain ⟨m, hm⟩ : ∃ m, (vAt (mkL T) 0).2 = m := ⟨_, rfl⟩
  rw [hv, hm] at ON VB ⊢
  clear hv hm
  by_cases hmn : m = n + 1
  · rw [if_neg (fun hh => hh hmn)]
    have hv128 : 128 ≤ v := VB (by omega)
    have hv32 : ¬ (v : Int) < 32 := by omega
    have hv127 : ((v : Int) == 127) = false := by simp; omega
    subst hmn
    clear VB AN hv128
    go_enter Tryd.func36, Tryd.ntmps36
    go_upto_region 1 with fail
    clear hW
    go_wp2_with (first
      | (go_at_call 69; refine (PT.out _).mono ?_; rintro e w2 ⟨rfl, hb⟩; have G2 := Lib.hid (G1.out.below hb); clear hb)
      | (go_at_call 70; refine (ON.out _).mono ?_; rintro e w3 ⟨rfl, k, rfl⟩; have G3 := Lib.hid ((G2.out.drewN k).alloc (.cells #[.int .i64 1, .int .i64 (v : Int), .string ⟨#[]⟩, .bool false] 44)); have O3 := Lib.hid (owk_one (w2.drewN k) (kv0 1 v)); obtain ⟨yf, y0, y1, y2⟩ := G3.out.cells))
    generalize hWF : World.setCell _ _ _ = WF
    obtain ⟨g0, g1, g2, gO, gB⟩ := gt_fin G3.out.r O3.out G3.out.b hWF
    refine bodyPost_ret (v := .agg #[.string ⟨#[]⟩, .bool false, .slice (some ⟨(w2.drewN k).heap.size, 0, none⟩) 1 1]) (by simp [results, Tryd.results36, go_sem, g0, g1, g2]) rfl ?_
    exact ⟨_, rfl, gO.mono (Nat.le_of_lt G2.out.lt), gB⟩
  · rw [if_pos hmn]
    have hmi : ((m : Int) != (n : Int) + 1) = true := by simp; omega
    clear VB hmn
    go_enter Tryd.func36, Tryd.ntmps36
    go_upto_region 1 with fail
    clear hW
    go_wp2_with (first
      | (go_at_call 69; refine (PT.out _).mono ?_; rintro e w2 ⟨rfl, hb⟩; have G2 := Lib.hid (G1.out.below hb); clear hb)
      | (go_at_call 70; refine (ON.out _).mono ?_; rintro e w3 ⟨rfl, k, rfl⟩; have G3 := Lib.hid (G2.out.drewN k))
      | (go_at_call 71; refine (AN.out _).mono ?_; rintro e w4 ⟨u, rfl, ho, hb⟩; have O4 := Lib.hid ho; have G4 := Lib.hid (G3.out.below hb); obtain ⟨yf, y0, y1, y2⟩ := G4.out.cells; obtain ⟨ad, cp, rfl⟩ := ho.form (n := K.length) rfl; clear ho hb))
    generalize hWF : World.setCell _ _ _ = WF
    obtain ⟨g0, g1, g2, gO, gB⟩ := gt_fin G4.out.r O4.out G4.out.b hWF
    refine bodyPost_ret (v := .agg #[.string (mkL Q), .bool pas, .slice ad K.length cp]) (by simp [results, Tryd.results36, go_sem, g0, g1, g2]) rfl ?_
    exact ⟨_, rfl, gO.mono (Nat.le_of_lt G3.out.lt), gB⟩
set_option maxHeartbeats 8000000 in
theorem byteE_ref (hP : P ≠ []) (h27 : P.getD 0 0 = 27) (hl : P.length ≤ 900) (h13 : ¬ (b.toNat = 13 ∨ b.toNat = 10)) (hb27 : ¬ b.toNat = 27) (w : World) :
    Calls Tryd.prog 36 #[.string (mkL P), .int .u8 (b.toNat : Int)] w (GP w (rbE P b)) := by
  have hpos := List.length_pos_iff.2 hP
  have ES := Lib.hid (fun w => escaped_ref (b := b) h27 hl w)
  have G0 := Lib.hid (gb_new w)
  obtain ⟨W, hW⟩ : ∃ W, w.alloc (.cells #[.string ⟨#[]⟩, .bool false, .slice none 0 0] 32) = W := ⟨_, rfl⟩
  rw [hW] at G0
  have ix := fun w => idx_run P 0 hpos w
  rw [show ((0 : Nat) : Int) = 0 from rfl, h27, show (((27 : UInt8).toNat : Nat) : Int) = 27 from rfl] at ix
  have hne := bq_ne hP
  have hne2 : ((mkL P).toList != []) = true := by unfold bne; rw [hne]; rfl
  have hne3 : ¬ (mkL P).toList = [] := by rw [mkL_toList]; exact hP
  have hne4 : (mkL P).toList.isEmpty = false := by simpa using hne3
  obtain ⟨n, hn⟩ : ∃ n, P.length = n := ⟨_, rfl⟩
  have z1 : (mkL P).size = n := by rw [mkL_size, hn]
  have hp0 : (0 : Int) < (n : Int) := by omega
  have hlt : b.toNat < 256 := b.toNat_lt
  generalize rbE P b = r at *
  obtain ⟨⟨Q, pas⟩, K⟩ := r
  obtain ⟨x, hx⟩ : ∃ x : Int, (b.toNat : Int) = x := ⟨_, rfl⟩
  have x1 : (x == 13) = false := by simp; omega
  have x2 : (x == 10) = false := by simp; omega
  have x3 : (x == 27) = false := by simp; omega
  rw [hx] at ES ⊢
  clear hP h27 hl h13 hb27 hpos hn hx hlt
  go_enter Tryd.func36, Tryd.ntmps36
  go_upto_region 1 with fail
  clear hW
  go_wp2_with (go_at_call 68; refine (ES.out _).mono ?_; rintro e w4 ⟨u, rfl, ho, hb⟩; have O4 := Lib.hid ho; have G4 := Lib.hid (G0.out.below hb); obtain ⟨yf, y0, y1, y2⟩ := G4.out.cells; obtain ⟨ad, cp, rfl⟩ := ho.form (n := K.length) rfl; clear ho hb)
  generalize hWF : World.setCell _ _ _ = WF
  obtain ⟨g0, g1, g2, gO, gB⟩ := gt_fin G4.out.r O4.out G4.out.b hWF
  refine bodyPost_ret (v := .agg #[.string (mkL Q), .bool pas, .slice ad K.length cp]) (by simp [results, Tryd.results36, go_sem, g0, g1, g2]) rfl ?_
  exact ⟨_, rfl, gO.mono G0.out.b.size, gB⟩
/-- A byte outside a paste. -/
theorem byte_ref (hl : P.length ≤ 900) (w : World) : Calls Tryd.prog 36 #[.string (mkL P), .int .u8 (b.toNat : Int)] w (GP w (rbR P b)) := by
  unfold rbR
  by_cases hP : P = []
  · rw [if_pos hP, hP]; exact byte0_ref b w
  rw [if_neg hP]
  by_cases h1 : b.toNat = 13 ∨ b.toNat = 10
  · rw [if_pos h1]
    exact byte13_ref P b.toNat (by omega) w (by omega) (rsK_len P hl)
  rw [if_neg h1]
  by_cases h2 : b.toNat = 27
  · rw [if_pos h2, show (b.toNat : Int) = 27 by omega]
    exact byte27_ref P w (by omega)
  rw [if_neg h2]
  by_cases h3 : P.getD 0 0 = 27
  · rw [if_pos h3]; exact byteE_ref hP h3 hl h1 h2 w
  · rw [if_neg h3]; exact byteN_ref hP h3 hl h1 h2 w
end
end Go.Proofs.YtdafcjjlkjngmaaDoor
set_option linter.unusedVariables false
set_option linter.unusedSimpArgs false
namespace Go.Proofs.YtdafcjjlkjngmaaDoor
open Go.RowKit
theorem rlow_ref (a b c : Int) (h : (if a < b then a else b) = c) (w : World) : Calls Tryd.prog 17 #[.int .i64 a, .int .i64 b] w fun x w' => x = .returned (.int .i64 c) ∧ w = w' := by
  subst h
  by_cases h : a < b
  · rw [if_pos h]
    go_enter Tryd.func17, Tryd.ntmps17
    go_wp2
    go_ret
    exact ⟨rfl, rfl⟩
  · rw [if_neg h]
    go_enter Tryd.func17, Tryd.ntmps17
    go_wp2
    go_ret
    exact ⟨rfl, rfl⟩
/-- The world of an item's call: what waits, the item, and the box of the answer lie in it. -/
structure ItW (w : World) (P : List UInt8) (pas t : Bool) (x : Int) (W : World) : Prop where
  b : Below w.heap.size w W
  s : W.heap[w.heap.size]? = some (.cells #[.string (mkL P), .bool pas] 29 (0, 0))
  i : W.heap[w.heap.size + 1]? = some (.cells #[.bool t, .int .u8 x] 35 (0, 0))
  r : W.heap[w.heap.size + 1 + 1]? = some (.cells #[.string ⟨#[]⟩, .bool false, .slice none 0 0] 32 (0, 0))
section
variable {w W w2 : World} {P : List UInt8} {pas t : Bool} {x : Int}
theorem itw_new (w : World) (P : List UInt8) (pas t : Bool) (x : Int) : ItW w P pas t x (((w.alloc (.cells #[.string (mkL P), .bool pas] 29)).alloc (.cells #[.bool t, .int .u8 x] 35)).alloc (.cells #[.string ⟨#[]⟩, .bool false, .slice none 0 0] 32)) := by
  have h1 := heap_alloc_new w (.cells #[.string (mkL P), .bool pas] 29)
  have b1 := below_alloc w (.cells #[.string (mkL P), .bool pas] 29)
  have s1 : (w.alloc (.cells #[.string (mkL P), .bool pas] 29)).heap.size = w.heap.size + 1 := by simp
  generalize w.alloc (.cells #[.string (mkL P), .bool pas] 29) = w1 at *
  have h2 := heap_alloc_new w1 (.cells #[.bool t, .int .u8 x] 35)
  have b2 := below_alloc w1 (.cells #[.bool t, .int .u8 x] 35)
  have s2 : (w1.alloc (.cells #[.bool t, .int .u8 x] 35)).heap.size = w.heap.size + 1 + 1 := by simp [s1]
  rw [s1] at h2
  generalize w1.alloc (.cells #[.bool t, .int .u8 x] 35) = w3 at *
  have h3 := heap_alloc_new w3 (.cells #[.string ⟨#[]⟩, .bool false, .slice none 0 0] 32)
  have b3 := below_alloc w3 (.cells #[.string ⟨#[]⟩, .bool false, .slice none 0 0] 32)
  rw [s2] at h3
  exact ⟨seqB (seqB b1 b2) b3, blk_below (blk_below h1 b2) b3, blk_below h2 b3, h3⟩
theorem ItW.below (h : ItW w P pas t x W) (hb : Below W.heap.size W w2) : ItW w P pas t x w2 := ⟨seqB h.b hb, blk_below h.s hb, blk_below h.i hb, blk_below h.r hb⟩
theorem ItW.cells (h : ItW w P pas t x W) : W.cell? ⟨w.heap.size, 0, none⟩ = some (.string (mkL P)) ∧ W.cell? ⟨w.heap.size, 1, none⟩ = some (.bool pas) ∧ W.cell? ⟨w.heap.size + 1, 0, none⟩ = some (.bool t) ∧ W.cell? ⟨w.heap.size + 1, 1, none⟩ = some (.int .u8 x) ∧
    (∀ i, W.frozen? ⟨w.heap.size + 1 + 1, i, none⟩ = false) ∧ W.cell? ⟨w.heap.size + 1 + 1, 0, none⟩ = some (.string ⟨#[]⟩) ∧ W.cell? ⟨w.heap.size + 1 + 1, 1, none⟩ = some (.bool false) ∧ W.cell? ⟨w.heap.size + 1 + 1, 2, none⟩ = some (.slice none 0 0) :=
  ⟨cell_of_row _ _ 0 _ _ _ h.s, cell_of_row _ _ 1 _ _ _ h.s, cell_of_row _ _ 0 _ _ _ h.i, cell_of_row _ _ 1 _ _ _ h.i, gt_cells h.r⟩
theorem it_fin {w5 : World} {B : Nat} {L : List Ky} {a b v : Value} (h : ItW w P pas t x w5) (hO : OwK w5 B v L) {WF : World} (hWF : ((w5.setCell ⟨w.heap.size + 1 + 1, 0, none⟩ a).setCell ⟨w.heap.size + 1 + 1, 1, none⟩ b).setCell ⟨w.heap.size + 1 + 1, 2, none⟩ v = WF) :
    WF.cell? ⟨w.heap.size + 1 + 1, 0, none⟩ = some a ∧ WF.cell? ⟨w.heap.size + 1 + 1, 1, none⟩ = some b ∧ WF.cell? ⟨w.heap.size + 1 + 1, 2, none⟩ = some v ∧ OwK WF B v L ∧ Below w.heap.size w WF := by
  have hq : WF.heap[w.heap.size + 1 + 1]? = some (.cells #[a, b, v] 32 (0, 0)) := by rw [← hWF]; exact blk_set (blk_set (blk_set h.r 0 _) 1 _) 2 _
  have hn := own_ne_kind hO h.r tG_ne_k
  have hle : w.heap.size ≤ w.heap.size + 1 + 1 := by omega
  refine ⟨cell_of_row _ _ 0 _ _ _ hq, cell_of_row _ _ 1 _ _ _ hq, cell_of_row _ _ 2 _ _ _ hq, ?_, ?_⟩
  · rw [← hWF]; exact own_set (own_set (own_set hO hn _) hn _) hn _
  · rw [← hWF]; exact ((h.b.setCell (p := ⟨_, 0, none⟩) hle _).setCell (p := ⟨_, 1, none⟩) hle _).setCell (p := ⟨_, 2, none⟩) hle _
end
set_option maxHeartbeats 8000000 in
theorem item_ref (m : Int) (P : List UInt8) (pas t : Bool) (b : UInt8) (w : World) (hl : P.length ≤ 900) (hm : 1 ≤ m ∧ m ≤ 65536) :
    Calls Tryd.prog 12 #[.agg #[.string (mkL P), .bool pas], .int .i64 m, .agg #[.bool t, .int .u8 (b.toNat : Int)]] w (GP w (riR m (P, pas) (t, b))) := by
  have I0 := Lib.hid (itw_new w P pas t (b.toNat : Int))
  obtain ⟨W, hW⟩ : ∃ W, (((w.alloc (.cells #[.string (mkL P), .bool pas] 29)).alloc (.cells #[.bool t, .int .u8 (b.toNat : Int)] 35)).alloc (.cells #[.string ⟨#[]⟩, .bool false, .slice none 0 0] 32)) = W := ⟨_, rfl⟩
  rw [hW] at I0
  obtain ⟨c0, c1, c2, c3, yf, y0, y1, y2⟩ := I0.out.cells
  obtain ⟨m1, m2⟩ := hm
  cases t
  · cases pas
    · have BY := Lib.hid (fun w => byte_ref (b := b) hl w)
      rw [show riR m (P, false) (false, b) = rbR P b from rfl]
      generalize rbR P b = r at *
      obtain ⟨⟨Q, qs⟩, K⟩ := r
      generalize b.toNat = x at *
      go_enter Tryd.func12, Tryd.ntmps12
      go_upto_region 1 with fail
      clear hW
      go_wp2_with (go_at_call 36; refine (BY.out _).mono ?_; rintro e w2 ⟨v, rfl, ho, hb⟩; have O2 := Lib.hid ho; have I2 := Lib.hid (I0.out.below hb); obtain ⟨d0, d1, d2, d3, zf, z0, z1, z2⟩ := I2.out.cells; obtain ⟨ad, cp, rfl⟩ := ho.form (n := K.length) rfl; clear ho hb)
      generalize hWF : World.setCell _ _ _ = WF
      obtain ⟨g0, g1, g2, gO, gB⟩ := it_fin I2.out O2.out hWF
      refine bodyPost_ret (v := .agg #[.string (mkL Q), .bool qs, .slice ad K.length cp]) (by simp [results, Tryd.results12, go_sem, g0, g1, g2]) rfl ?_
      exact ⟨_, rfl, gO.mono I0.out.b.size, gB⟩
    · rw [show riR m (P, true) (false, b) = rbP m P b from rfl]
      unfold rbP
      have hcv := convB b W
      have I1 := Lib.hid (I0.out.below (below_alloc W (.cells #[.int .u8 (b.toNat : Int)] 5)))
      have z2 : (mkL [b]).size = 1 := by rw [mkL_size]; rfl
      have zc := mkL_cat P [b]
      obtain ⟨n, hn⟩ : ∃ n, P.length = n := ⟨_, rfl⟩
      have z1 : (mkL P).size = n := by rw [mkL_size, hn]
      have hTl : (P ++ [b]).length = n + 1 := by rw [List.length_append, hn]; rfl
      have z3 : (mkL (P ++ [b])).size = n + 1 := by rw [mkL_size, hTl]
      have hn9 : n ≤ 900 := by omega
      have hs9 : ¬ 9223372036854775807 < n + 1 := by omega
      rw [hn]
      clear hn hl
      generalize P ++ [b] = T at *
      generalize b.toNat = x at *
      by_cases h6 : n + 1 < 6
      · have hno : ¬ peL <:+ T := fun hh => by have := hh.length_le; rw [hTl] at this; exact absurd this (by show ¬ 6 ≤ n + 1; omega)
        rw [if_neg hno]
        have hlt : (n : Int) + 1 - 6 < 0 := by omega
        obtain ⟨d0, d1, d2, d3, zf, e0, e1, e2⟩ := I1.out.cells
        clear hno hTl
        go_enter Tryd.func12, Tryd.ntmps12
        go_upto_region 1 with fail
        clear hW
        go_wp2
        generalize hWF : World.setCell _ _ _ = WF
        obtain ⟨g0, g1, g2, gO, gB⟩ := it_fin I1.out (owk_nil _ 0) hWF
        refine bodyPost_ret (v := .agg #[.string (mkL T), .bool true, .slice none 0 0]) (by simp [results, Tryd.results12, go_sem, g0, g1, g2]) rfl ?_
        exact ⟨_, rfl, owk_nil _ _, gB⟩
      obtain ⟨k, rfl⟩ : ∃ k, n = k + 5 := ⟨n - 5, by omega⟩
      have hk6 : ((k : Int) + 5 + 1 - 6) = (k : Int) := by omega
      have hk60 : ((k + 5 : Nat) : Int) + 1 - 6 = (k : Int) := by omega
      have z4 : (mkL T).extract k (k + 5 + 1) = mkL (T.drop k) := by
        rw [mkL_ext, List.take_of_length_le (by rw [List.length_drop, hTl]; omega)]
      have hsuf : peL <:+ T ↔ T.drop k = peL := by
        constructor
        · rintro ⟨u, hu⟩
          have hl := congrArg List.length hu
          rw [List.length_append, hTl] at hl
          have hu2 : u.length = k := by have : peL.length = 6 := rfl; omega
          rw [← hu, ← hu2, List.drop_left]
        · intro h; exact ⟨T.take k, by rw [← h, List.take_append_drop]⟩
      by_cases hd : T.drop k = peL
      · rw [if_pos (hsuf.2 hd), hk60]
        rw [hd, show mkL peL = ⟨#[27, 91, 50, 48, 49, 126]⟩ from rfl] at z4
        obtain ⟨c, hc⟩ : ∃ c : Nat, (if (k : Int) < m then (k : Int) else m) = (c : Int) := by
          by_cases h : (k : Int) < m
          · exact ⟨k, if_pos h⟩
          · exact ⟨m.toNat, by rw [if_neg h]; omega⟩
        have hck : c ≤ k := by
          by_cases h : (k : Int) < m
          · rw [if_pos h] at hc; omega
          · rw [if_neg h] at hc; omega
        have hmin : (min (k : Int) m).toNat = c := by
          by_cases h : (k : Int) < m
          · rw [if_pos h] at hc; omega
          · rw [if_neg h] at hc; omega
        have hcut : decide (min (k : Int) m < (k : Int)) = decide (m < (k : Int)) := by
          by_cases h : m < (k : Int)
          · rw [decide_eq_true h, decide_eq_true (by omega)]
          · rw [decide_eq_false h, decide_eq_false (by omega)]
        rw [hmin, hcut]
        have z5 : (mkL T).extract 0 c = mkL (T.take c) := by rw [mkL_ext]; rfl
        have LW := Lib.hid (fun w => rlow_ref (k : Int) m c hc w)
        have I2 := Lib.hid (fun cu : Bool => I1.out.below (below_alloc (W.alloc (.cells #[.int .u8 (x : Int)] 5)) (.cells #[.int .i64 15, .int .i64 0, .string (mkL (T.take c)), .bool cu] 44)))
        have O2 := fun cu : Bool => owk_one (W.alloc (.cells #[.int .u8 (x : Int)] 5)) (15, 0, mkL (T.take c), cu)
        rw [show (W.alloc (.cells #[.int .u8 (x : Int)] 5)).heap.size = W.heap.size + 1 by simp] at O2
        have O2 := Lib.hid O2
        have hsl : c ≤ k + 5 + 1 := by omega
        clear hsuf hd hc hTl h6 hmin hcut
        by_cases hcm : m < (k : Int)
        · rw [decide_eq_true hcm]
          obtain ⟨d0, d1, d2, d3, zf, e0, e1, e2⟩ := (I2.out true).cells
          go_enter Tryd.func12, Tryd.ntmps12
          go_upto_region 1 with fail
          clear hW
          go_wp2_with (go_at_call 17; refine (LW.out _).mono ?_; rintro e w2 ⟨rfl, rfl⟩)
          generalize hWF : World.setCell _ _ _ = WF
          obtain ⟨g0, g1, g2, gO, gB⟩ := it_fin (I2.out true) (O2.out true) hWF
          refine bodyPost_ret (v := .agg #[.string ⟨#[]⟩, .bool false, .slice (some ⟨W.heap.size + 1, 0, none⟩) 1 1]) (by simp [results, Tryd.results12, go_sem, g0, g1, g2]) rfl ?_
          exact ⟨_, rfl, gO.mono (Nat.le_trans I0.out.b.size (Nat.le_succ _)), gB⟩
        · rw [decide_eq_false hcm]
          have hdc : decide (m < (k : Int)) = false := decide_eq_false hcm
          have hdc2 : (k : Int) ≤ m := by omega
          obtain ⟨d0, d1, d2, d3, zf, e0, e1, e2⟩ := (I2.out false).cells
          go_enter Tryd.func12, Tryd.ntmps12
          go_upto_region 1 with fail
          clear hW
          go_wp2_with (go_at_call 17; refine (LW.out _).mono ?_; rintro e w2 ⟨rfl, rfl⟩)
          generalize hWF : World.setCell _ _ _ = WF
          obtain ⟨g0, g1, g2, gO, gB⟩ := it_fin (I2.out false) (O2.out false) hWF
          refine bodyPost_ret (v := .agg #[.string ⟨#[]⟩, .bool false, .slice (some ⟨W.heap.size + 1, 0, none⟩) 1 1]) (by simp [results, Tryd.results12, go_sem, g0, g1, g2]) rfl ?_
          exact ⟨_, rfl, gO.mono (Nat.le_trans I0.out.b.size (Nat.le_succ _)), gB⟩
      · rw [if_neg (fun hh => hd (hsuf.1 hh))]
        have hd2 : ((mkL (T.drop k)).toList == [27, 91, 50, 48, 49, 126]) = false := bq_ne hd
        have hd3 : ((mkL (T.drop k)).toList != [27, 91, 50, 48, 49, 126]) = true := by unfold bne; rw [hd2]; rfl
        obtain ⟨d0, d1, d2, d3, zf, e0, e1, e2⟩ := I1.out.cells
        clear hsuf hd hTl h6
        generalize mkL (T.drop k) = td at *
        go_enter Tryd.func12, Tryd.ntmps12
        go_upto_region 1 with fail
        clear hW
        go_wp2
        generalize hWF : World.setCell _ _ _ = WF
        obtain ⟨g0, g1, g2, gO, gB⟩ := it_fin I1.out (owk_nil _ 0) hWF
        refine bodyPost_ret (v := .agg #[.string (mkL T), .bool true, .slice none 0 0]) (by simp [results, Tryd.results12, go_sem, g0, g1, g2]) rfl ?_
        exact ⟨_, rfl, owk_nil _ _, gB⟩
  · cases pas
    · have ST := Lib.hid (fun w => rsettled_ref P w (by omega))
      rw [show riR m (P, false) (true, b) = (([], false), rsK P) from rfl]
      generalize rsK P = K at *
      generalize b.toNat = x at *
      go_enter Tryd.func12, Tryd.ntmps12
      go_upto_region 1 with fail
      clear hW
      go_wp2_with (go_at_call 35; refine (ST.out _).mono ?_; rintro e w2 ⟨v, rfl, ho, hb⟩; have O2 := Lib.hid ho; have I2 := Lib.hid (I0.out.below hb); obtain ⟨d0, d1, d2, d3, zf, z0, z1, z2⟩ := I2.out.cells; obtain ⟨ad, cp, rfl⟩ := ho.form (n := K.length) rfl; clear ho hb)
      generalize hWF : World.setCell _ _ _ = WF
      obtain ⟨g0, g1, g2, gO, gB⟩ := it_fin I2.out O2.out hWF
      refine bodyPost_ret (v := .agg #[.string ⟨#[]⟩, .bool false, .slice ad K.length cp]) (by simp [results, Tryd.results12, go_sem, g0, g1, g2]) rfl ?_
      exact ⟨_, rfl, gO.mono I0.out.b.size, gB⟩
    · rw [show riR m (P, true) (true, b) = ((P, true), []) from rfl]
      generalize b.toNat = x at *
      go_enter Tryd.func12, Tryd.ntmps12
      go_upto_region 1 with fail
      clear hW
      go_wp2
      generalize hWF : World.setCell _ _ _ = WF
      obtain ⟨g0, g1, g2, gO, gB⟩ := it_fin I0.out (owk_nil _ 0) hWF
      refine bodyPost_ret (v := .agg #[.string (mkL P), .bool true, .slice none 0 0]) (by simp [results, Tryd.results12, go_sem, g0, g1, g2]) rfl ?_
      exact ⟨_, rfl, owk_nil _ _, gB⟩
end Go.Proofs.YtdafcjjlkjngmaaDoor
