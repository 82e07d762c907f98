/-
  Joined: Em3 KCom EmCom Em4 Em5 Em6 Em7.
-/
import Derived.Test.YtdifkjmpdmlobaaDoorJM01
import Derived.Test.YtdifkjmpdmlobaaDoorJM03
import Derived.Test.YtdifkjmpdmlobaaDoorJM05
import Derived.RangeFuncNested
import Derived.RangeFuncBound
import Derived.RangeFuncCalls
import Derived.RangeFuncLeaves
import Derived.Shelf.Abstract
import Derived.Shelf.RegionOpen
import Derived.WalkKit
import Derived.OwnWalkIn
import Derived.TacticsInMore
import Derived.LoopNIn
import Derived.LoopIn
import Derived.Test.YtdifkjmpdmlobaaDoorCards
import Derived.Test.YtdifkjmpdmlobaaDoorTie
import Derived.Deep.DeepHandedRow
import Derived.Lib.LaidTab
import Derived.Lib.LaidU8
import Derived.Stop.LaidErr
set_option linter.unusedVariables false
set_option linter.unusedSimpArgs false
set_option maxRecDepth 100000
set_option linter.unusedVariables false
set_option linter.unusedSimpArgs false
namespace Go.Proofs.YtdifkjmpdmlobaaDoor
open Go.RowKit Go.Shelf
attribute [local go_sem] Oper.semAt_some
/-- What the rounds keep: the tables. -/
def KpE (W W' : World) : Prop := W.heap.size ≤ W'.heap.size ∧ ∀ (k : Nat) (cs : Array Value) (T : TypeId) (f : Nat × Nat), W.heap[k]? = some (Obj.cells cs T f) → (T = 142 ∨ T = 157) → W'.heap[k]? = some (Obj.cells cs T f)
theorem kpE_t {A B C : World} (h : KpE A B) (k : KpE B C) : KpE A C := ⟨Nat.le_trans h.1 k.1, fun i cs T f hi hT => k.2 i cs T f (h.2 i cs T f hi hT) hT⟩
theorem kpE_b {w : World} (W : World) (l : Nat) (o o' : Obj) (_ : w.heap.size ≤ l) (h : W.heap[l]? = some o) (hc : o.isCells = false) (_ : o.isWalk = false) : KpE W (W.putObj l o') := by
  refine ⟨(grownBy_putObj' W l o').size, fun k cs T f hk _ => ?_⟩
  by_cases e : k = l
  · subst e
    rw [h] at hk
    injection hk with hk
    rw [hk] at hc
    cases hc
  · exact (World.putObj_heap_other e).trans hk
theorem KpE.below {W W' : World} (h : Below W.heap.size W W') : KpE W W' := ⟨h.size, fun k cs T f hk _ => blk_below hk h⟩
/-- A row with a short name. -/
abbrev ES := { x : ER // x.1.size ≤ 100 }
def esOf (x : ER) : ES := if h : x.1.size ≤ 100 then ⟨x, h⟩ else ⟨(⟨#[]⟩, 0), by decide⟩
theorem esOf_ok {x : ER} (h : x.1.size ≤ 100) : (esOf x).1 = x := by unfold esOf; rw [dif_pos h]
abbrev encE : ES → Array Value := fun x => #[.agg #[.string x.1.1, .int .i64 x.1.2]]
def erP (p : Nat) : List ER := if p = 0 then erA else if p = 1 then erB else erC
def erT (p : Nat) : List ES := (if p = 0 then [] else if p = 1 then erA else if p = 2 then erA ++ erB else erA ++ erB ++ erC).map esOf
theorem erT_next (p : Nat) (h : p < 3) : erT (p + 1) = erT p ++ (erP p).map esOf := by
  rcases (show p = 0 ∨ p = 1 ∨ p = 2 by omega) with rfl | rfl | rfl
  · rfl
  · show (erA ++ erB).map esOf = erA.map esOf ++ erB.map esOf; rw [List.map_append]
  · show (erA ++ erB ++ erC).map esOf = (erA ++ erB).map esOf ++ erC.map esOf; rw [List.map_append]
theorem erT_len (p : Nat) (h : p < 3) : (erT p).length + (erP p).length ≤ 53 := by
  unfold erT
  rw [List.length_map]
  rcases (show p = 0 ∨ p = 1 ∨ p = 2 by omega) with rfl | rfl | rfl <;> decide
theorem erP_z (p : Nat) : ∀ x ∈ erP p, x.1.size ≤ 100 := by
  have hA : ∀ x ∈ erA, x.1.size ≤ 100 := by decide +kernel
  have hB : ∀ x ∈ erB, x.1.size ≤ 100 := by decide +kernel
  have hC : ∀ x ∈ erC, x.1.size ≤ 100 := by decide +kernel
  unfold erP
  split
  · exact hA
  · split
    · exact hB
    · exact hC
theorem erT_pre (p : Nat) (h : p < 3) (k : Nat) : erT p ++ ((erP p).take k).map esOf <+: erT 3 := by
  have h1 : erT p ++ ((erP p).take k).map esOf <+: erT (p + 1) := by
    rw [erT_next p h]
    exact ⟨((erP p).drop k).map esOf, by rw [List.append_assoc, ← List.map_append, List.take_append_drop]⟩
  have h2 : ∀ q, q < 3 → erT q <+: erT (q + 1) := fun q hq => ⟨(erP q).map esOf, (erT_next q hq).symm⟩
  rcases (show p = 0 ∨ p = 1 ∨ p = 2 by omega) with rfl | rfl | rfl
  · exact h1.trans ((h2 1 (by omega)).trans (h2 2 (by omega)))
  · exact h1.trans (h2 2 (by omega))
  · exact h1
/-- The tables lie. -/
structure ErT3 (w : World) (Q qa qb qc : Nat) : Prop where
  a : ErB w qa erA
  b : ErB w qb erB
  c : ErB w qc erC
  q : w.heap[Q]? = some (.cells #[.slice (some ⟨qa, 0, none⟩) 22 22, .slice (some ⟨qb, 0, none⟩) 18 18, .slice (some ⟨qc, 0, none⟩) 13 13] 157 (0, 0))
theorem ErT3.keep {w w' : World} {Q qa qb qc : Nat} (h : ErT3 w Q qa qb qc) (k : KpE w w') : ErT3 w' Q qa qb qc :=
  ⟨k.2 _ _ _ _ h.a (Or.inl rfl), k.2 _ _ _ _ h.b (Or.inl rfl), k.2 _ _ _ _ h.c (Or.inl rfl), k.2 _ _ _ _ h.q (Or.inr rfl)⟩
theorem ErT3.part {w : World} {Q qa qb qc : Nat} (h : ErT3 w Q qa qb qc) (p : Nat) (hp : p < 3) : ∃ q m, (erP p).length = m ∧ w.cell? ⟨Q, p, none⟩ = some (.slice (some ⟨q, 0, none⟩) m m) ∧ ∀ w', ErT3 w' Q qa qb qc → ErB w' q (erP p) := by
  rcases (show p = 0 ∨ p = 1 ∨ p = 2 by omega) with rfl | rfl | rfl
  · exact ⟨qa, 22, rfl, cell_of_row _ _ 0 _ _ _ h.q, fun w' h' => h'.a⟩
  · exact ⟨qb, 18, rfl, cell_of_row _ _ 1 _ _ _ h.q, fun w' h' => h'.b⟩
  · exact ⟨qc, 13, rfl, cell_of_row _ _ 2 _ _ _ h.q, fun w' h' => h'.c⟩
set_option maxRecDepth 100000 in
set_option maxHeartbeats 4000000 in
theorem rows_stops (n : Nat) (hn : 1 ≤ n) (w : World) : SeqStopsK Fence.wide n Tryd.prog 84 #[] encE KpE (fun ys => ys = erT 3) (fun pre => pre <+: erT 3) 53 w := fun l J Jx W hW hJ hJx hY h0 => by
  have grow := Lib.hid fun (pre : List ES) (W1 W2 : World) (h : J pre W1) (b : Below W1.heap.size W1 W2) => hJ pre W1 W2 none h ⟨b.os, b.tape, b.output, b.size, fun k hk _ => b.block k hk⟩ (fun r e => by cases e)
  have HY := Lib.hid hY
  clear hY hJ hJx
  have HA := Lib.hid fun (w : World) => econtrols_any w
  have HB := Lib.hid fun (w : World) => emetas_any w
  have HC := Lib.hid fun (w : World) => eothers_any w
  refine callsIn_of_wp Tryd.func84 rfl trivial ?_ rfl
  simp only [Tryd.ntmps84, List.size_toArray, List.length_cons, List.length_nil, Nat.reduceAdd, Nat.reduceSub, Array.replicate_succ, Array.replicate_zero, List.push_toArray, List.append_toArray, List.nil_append, List.cons_append]
  gi_wp2_with (first
    | (refine ⟨trivial, ?_⟩; gi_at_call 103; refine (callsIn_wide.2 (HA.out _)).mono ?_; rintro e w1 ⟨rfl, hc, hb⟩; have C1 := Lib.hid hc; have J1 := Lib.hid (grow.out _ _ _ h0 hb); clear hc hb)
    | (refine ⟨trivial, ?_⟩; gi_at_call 104; refine (callsIn_wide.2 (HB.out _)).mono ?_; rintro e w2 ⟨rfl, hc, hb⟩; have C2 := Lib.hid (And.intro (show ErB w2 W.heap.size erA from blk_below C1.out hb) hc); have J2 := Lib.hid (grow.out _ _ _ J1.out hb); clear hc hb)
    | (refine ⟨trivial, ?_⟩; gi_at_call 105; refine (callsIn_wide.2 (HC.out _)).mono ?_; rintro e w3 ⟨rfl, hc, hb⟩; have C3 := Lib.hid (And.intro (show ErB w3 W.heap.size erA from blk_below C2.out.1 hb) (And.intro (show ErB w3 w1.heap.size erB from blk_below C2.out.2 hb) hc)); have J3 := Lib.hid (grow.out _ _ _ J2.out hb); clear hc hb))
  have TB : Hid (ErT3 (w3.alloc (.cells #[.slice (some ⟨W.heap.size, 0, none⟩) 22 22, .slice (some ⟨w1.heap.size, 0, none⟩) 18 18, .slice (some ⟨w2.heap.size, 0, none⟩) 13 13] 157)) w3.heap.size W.heap.size w1.heap.size w2.heap.size) := Lib.hid (by
    have b := below_alloc w3 (.cells #[.slice (some ⟨W.heap.size, 0, none⟩) 22 22, .slice (some ⟨w1.heap.size, 0, none⟩) 18 18, .slice (some ⟨w2.heap.size, 0, none⟩) 13 13] 157)
    exact ⟨blk_below C3.out.1 b, blk_below C3.out.2.1 b, blk_below C3.out.2.2 b, heap_alloc_new _ _⟩)
  have J4 := Lib.hid (grow.out _ _ _ J3.out (below_alloc w3 (.cells #[.slice (some ⟨W.heap.size, 0, none⟩) 22 22, .slice (some ⟨w1.heap.size, 0, none⟩) 18 18, .slice (some ⟨w2.heap.size, 0, none⟩) 13 13] 157)))
  clear C1 C2 C3 J1 J2 J3 HA HB HC h0 hW
  gi_loopw [11] (fun iv wr => ∃ p : Nat, p ≤ 3 ∧ iv = .int .i64 (p : Int) ∧ Hid (ErT3 wr w3.heap.size W.heap.size w1.heap.size w2.heap.size) ∧ Hid (J (erT p) wr)) (fun iv _ => 3 - (intOf iv).toNat)
  case atStart => exact ⟨0, by omega, rfl, TB, J4⟩
  case round =>
    clear TB J4
    obtain ⟨p, hp, rfl, HT, HJ⟩ := hrel
    by_cases hlt : p < 3
    · have hp1 : (p : Int) < 3 := by omega
      have hp0 : (0 : Int) ≤ p := by omega
      obtain ⟨q, m, hm, c0, hq⟩ := HT.out.part p hlt
      have HM := Lib.hid hm
      have HQ := Lib.hid hq
      have HLN := Lib.hid (erT_len p hlt)
      have HNX := Lib.hid (erT_next p hlt)
      have HPR := Lib.hid (erT_pre p hlt)
      have HZ := Lib.hid (erP_z p)
      have hm53 : m ≤ 53 := by have := erT_len p hlt; omega
      clear hm hq
      generalize erP p = L at *
      gi_wp2
      gi_loopw [17] (fun iv wq => ∃ k : Nat, k ≤ m ∧ iv = .int .i64 (k : Int) ∧ Hid (ErT3 wq w3.heap.size W.heap.size w1.heap.size w2.heap.size) ∧ Hid (J (erT p ++ (L.take k).map esOf) wq)) (fun iv _ => m - (intOf iv).toNat)
      case atStart => exact ⟨0, by omega, rfl, HT, Lib.hid (by rw [List.take_zero, List.map_nil, List.append_nil]; exact HJ.out)⟩
      case round =>
        clear c0 HT HJ
        obtain ⟨k, hk, rfl, HT, HJ⟩ := hrel
        by_cases hkm : k < m
        · have hk1 : (k : Int) < m := by omega
          have hk0 : (0 : Int) ≤ k := by omega
          obtain ⟨c0, c1⟩ := (HQ.out _ HT.out).cells k (by rw [HM.out]; exact hkm)
          have hmem : L.getD k (⟨#[]⟩, 0) ∈ L := by rw [List.getD, List.getElem?_eq_getElem (by rw [HM.out]; exact hkm)]; exact List.getElem_mem _
          have hes := esOf_ok (HZ.out _ hmem)
          have htk : (L.take (k + 1)).map esOf = (L.take k).map esOf ++ [esOf (L.getD k (⟨#[]⟩, 0))] := by
            rw [List.take_add_one, List.getElem?_eq_getElem (by rw [HM.out]; exact hkm), List.getD, List.getElem?_eq_getElem (by rw [HM.out]; exact hkm), List.map_append]
            rfl
          generalize L.getD k (⟨#[]⟩, 0) = x at *
          obtain ⟨s, v⟩ := x
          dsimp only at c0 c1
          have bA := below_alloc wr (.cells #[.string s, .int .i64 v] 142)
          have hj := grow.out _ _ _ HJ.out bA
          have hTA := HT.out.keep (KpE.below bA)
          obtain ⟨fn, tmps, assign, body, hy, hR⟩ := HY.out _ (esOf (s, v)) _ hj (by rw [List.length_append, List.length_map, List.length_take]; have := HLN.out; have := HM.out; omega)
          unfold encE at hy
          rw [hes] at hy
          have HR := Lib.hid hR
          have HTA := Lib.hid hTA
          have HTK := Lib.hid htk
          clear hR hTA htk hj bA hmem hes
          gi_wp2
          refine HR.out.mono ?_
          rintro e W3 (⟨rfl, hJ3, hk3⟩ | ⟨rfl, hJx3⟩)
          · have J3 := Lib.hid hJ3
            have T3 := Lib.hid (HTA.out.keep hk3)
            clear hJ3 hk3
            gi_wp2
            go_roundw
            case rel => exact ⟨k + 1, by omega, by go_num, T3, Lib.hid (by rw [HTK.out, ← List.append_assoc]; exact J3.out)⟩
            case measure => (simp [intOf]; try omega)
          · have JX := Lib.hid hJx3
            clear hJx3
            gi_wp2
            refine bodyPost_ret (results_none rfl _ _ _) rfl ?_
            exact ⟨⟨_, rfl⟩, .inr ⟨_, by have h := HPR.out (k + 1); rw [HTK.out, ← List.append_assoc] at h; exact h, JX.out⟩⟩
        · obtain rfl : k = m := by omega
          have hk1 : ¬ (k : Int) < k := by omega
          gi_wp2
          go_roundw
          case rel => exact ⟨p + 1, by omega, by go_num, HT, Lib.hid (by rw [HNX.out]; have h := HJ.out; rw [← HM.out, List.take_length] at h; exact h)⟩
          case measure => (simp [intOf]; try omega)
    · obtain rfl : p = 3 := by omega
      gi_wp2
      go_end0
      exact ⟨⟨_, rfl⟩, .inl ⟨_, rfl, HJ.out⟩⟩
end Go.Proofs.YtdifkjmpdmlobaaDoor
set_option linter.unusedVariables false
set_option linter.unusedSimpArgs false
namespace Go.Proofs.YtdifkjmpdmlobaaDoor
open Go.ChangeShapes Go.WideShapes Go.ChangeAt Go.RowKit
namespace keyK
theorem own : ownKnob Tryd.prog.godebug = none := by kernel_rfl
theorem laidOut : laidOutB Tryd.prog = true := by kernel_rfl
theorem gK : Tryd.prog.globalNamed "dactyl/key.named" = some 1 := by kernel_rfl
theorem gKType : (Tryd.prog.globals[1]?).map (·.type) = some 176 := by kernel_rfl
theorem cellsK : Tryd.prog.cellsOf 176 = 52 := by kernel_rfl
theorem cellsR : Tryd.prog.cellsOf 170 = 4 := by kernel_rfl
theorem cellsI : Tryd.prog.cellsOf 3 = 1 := by kernel_rfl
theorem cellsS : Tryd.prog.cellsOf 9 = 1 := by kernel_rfl
def rowD {H : Type} (r : KRow) : DataW H := .agg [.lit (.int .i64 r.1), .lit (.int .i64 r.2.1), .lit (.string r.2.2.1), .lit (.string r.2.2.2)]
theorem eK : (Rows.laid_dactyl_key_named : DataW Unit) = .agg (kTab.map rowD) := by kernel_rfl
def laid : List (String × DataW Unit) := [("dactyl/key.named", Rows.laid_dactyl_key_named)]
section
variable {H : Type} {enc : TypeId × Value → H} {w : World} {base : Nat} {sp : Nat → Bool} {held : Bool}
theorem cells_of_row {fuel : Nat} {cs : List Value} {r : KRow} {p : List MemPlace} (h : DataW.trod enc Tryd.prog w base sp held fuel 170 cs = some (rowD r, p)) : cs = rowL r := by
  obtain ⟨xs, n, rfl, hx, hl, hxl, hall⟩ := DataW.trod_struct Tryd.underlying170 h
  rw [cellsR] at hl
  have hxs : xs.map (·.1) = [.lit (.int .i64 r.1), .lit (.int .i64 r.2.1), .lit (.string r.2.2.1), .lit (.string r.2.2.2)] := by
    have := congrArg Prod.fst hx
    simpa [rowD] using this.symm
  match cs, hl, xs, hxl, hxs with
  | [c0, c1, c2, c3], _, [y0, y1, y2, y3], _, hxs =>
    have a0 : DataW.trod enc Tryd.prog w base sp held n 3 ([c0, c1, c2, c3].take (Tryd.prog.cellsOf 3)) = some y0 := hall 0 _ rfl
    have a1 : DataW.trod enc Tryd.prog w base sp held n 3 ([c1, c2, c3].take (Tryd.prog.cellsOf 3)) = some y1 := hall 1 _ rfl
    have a2 : DataW.trod enc Tryd.prog w base sp held n 9 ([c2, c3].take (Tryd.prog.cellsOf 9)) = some y2 := hall 2 _ rfl
    have a3 : DataW.trod enc Tryd.prog w base sp held n 9 ([c3].take (Tryd.prog.cellsOf 9)) = some y3 := hall 3 _ rfl
    rw [cellsI] at a0 a1
    rw [cellsS] at a2 a3
    simp only [List.map_cons, List.map_nil, List.cons.injEq, and_true] at hxs
    obtain ⟨x0, x1, x2, x3⟩ := hxs
    obtain ⟨z0, h0, e0, _⟩ := DataW.trod_int Tryd.underlying3 a0
    obtain ⟨z1, h1, e1, _⟩ := DataW.trod_int Tryd.underlying3 a1
    obtain ⟨z2, h2, e2, _⟩ := DataW.trod_string Tryd.underlying9 a2
    obtain ⟨z3, h3, e3, _⟩ := DataW.trod_string Tryd.underlying9 a3
    rw [e0] at x0; rw [e1] at x1; rw [e2] at x2; rw [e3] at x3
    replace h0 : [c0] = _ := h0; replace h1 : [c1] = _ := h1; replace h2 : [c2] = _ := h2; replace h3 : [c3] = _ := h3
    simp at x0 x1 x2 x3 h0 h1 h2 h3
    subst h0; subst h1; subst h2; subst h3
    unfold rowL
    rw [← x0, ← x1, ← x2, ← x3]
theorem cells_of_tab {fuel : Nat} {cs : List Value} {p : List MemPlace} (h : DataW.trod enc Tryd.prog w base sp held fuel 176 cs = some (.agg (kTab.map rowD), p)) (i : Nat) (hi : i < 13) : (cs.drop (i * 4)).take 4 = rowL (kTab.getD i kr0) := by
  obtain ⟨f2, d, q, hd, ht⟩ := Lib.array_elem Tryd.underlying176 h i hi
  rw [cellsR] at ht
  have hk : i < kTab.length := hi
  rw [List.getElem?_map, List.getElem?_eq_getElem hk] at hd
  simp only [Option.map_some, Option.some.injEq] at hd
  subst hd
  rw [cells_of_row ht, List.getD, List.getElem?_eq_getElem hk]; rfl
theorem kCells_at : ∀ i : Fin 52, ((rowL (kTab.getD (i.val / 4) kr0))[i.val % 4]?).isSome = true := by decide
theorem kCells_row : ∀ i : Fin 13, (kCells.drop (i.val * 4)).take 4 = rowL (kTab.getD i.val kr0) := by
  intro i
  match i with
  | ⟨0, _⟩ => rfl
  | ⟨1, _⟩ => rfl
  | ⟨2, _⟩ => rfl
  | ⟨3, _⟩ => rfl
  | ⟨4, _⟩ => rfl
  | ⟨5, _⟩ => rfl
  | ⟨6, _⟩ => rfl
  | ⟨7, _⟩ => rfl
  | ⟨8, _⟩ => rfl
  | ⟨9, _⟩ => rfl
  | ⟨10, _⟩ => rfl
  | ⟨11, _⟩ => rfl
  | ⟨12, _⟩ => rfl
theorem at_part {α : Type} (l : List α) (i : Nat) : l[i]? = ((l.drop (i / 4 * 4)).take 4)[i % 4]? := by
  rw [List.getElem?_take, if_pos (by omega), List.getElem?_drop]; congr 1; omega
end
set_option maxRecDepth 100000 in
theorem tables {W : World} (h : laidMetH Tryd.prog laid W) : KT W := by
  have h3 : Lib.VarReads Tryd.prog W "dactyl/key.named" (.agg (kTab.map rowD)) := by rw [← eK]; exact Lib.laidMet.reads h (.head _)
  obtain ⟨g, t, cs, fuel, p, h1, h2, hv, hd⟩ := h3
  obtain rfl : 1 = g := Option.some.inj (gK.symm.trans h1)
  obtain rfl : 176 = t := Option.some.inj (gKType.symm.trans h2)
  have key : ∀ i, i < 52 → W.cell? ⟨1, i, none⟩ = kCells[i]? := fun i hi => by
    rw [World.var?_cell gK hv i, at_part kCells i, kCells_row ⟨i / 4, by omega⟩, ← cells_of_tab hd (i / 4) (by omega), ← at_part]
    simp
  exact ⟨key, block_lt_of_cell (key 0 (by decide))⟩
/-- A world for the witness: the settled one, the table as its initialiser lays it. -/
def lay (cs : Array Value) : Obj → Obj
  | .cells _ t frozen => .cells cs t frozen
  | o => o
noncomputable def laidWorld (os : Os) : World :=
  { World.holding Tryd.prog os ⟨#[], #[], []⟩ with heap := (World.holding Tryd.prog os ⟨#[], #[], []⟩).heap.modify 1 (lay kCells.toArray) }
theorem laid_met (os : Os) (args : Array Value) : laidMet Tryd.prog laid ((laidWorld os).forCall (fun _ _ => 0) ⟨#[], args, []⟩).memory :=
  laidMet_of_run' 8 (by kernel_rfl) (by kernel_rfl)
end keyK
end Go.Proofs.YtdifkjmpdmlobaaDoor
set_option linter.unusedVariables false
set_option linter.unusedSimpArgs false
namespace Go.Proofs.YtdifkjmpdmlobaaDoor
open Go.ChangeShapes Go.WideShapes Go.ChangeAt Go.RowKit
namespace emsE
theorem own : ownKnob Tryd.prog.godebug = none := by kernel_rfl
theorem laidOut : laidOutB Tryd.prog = true := by kernel_rfl
theorem gN : Tryd.prog.globalNamed "dactyl/emacs.names" = some 0 := by kernel_rfl
theorem gNType : (Tryd.prog.globals[0]?).map (·.type) = some 110 := by kernel_rfl
theorem cellsS : Tryd.prog.cellsOf 9 = 1 := by kernel_rfl
def strD {H : Type} (s : ByteArray) : DataW H := .lit (.string s.data.toList)
theorem eN : (Rows.laid_dactyl_emacs_names : DataW Unit) = .agg (enS.map strD) := by kernel_rfl
def laid : List (String × DataW Unit) := [("dactyl/key.named", Rows.laid_dactyl_key_named), ("dactyl/emacs.names", Rows.laid_dactyl_emacs_names)]
section
variable {H : Type} {enc : TypeId × Value → H} {w : World} {base : Nat} {sp : Nat → Bool} {held : Bool}
theorem cells_of_str {fuel : Nat} {cs : List Value} {s : ByteArray} {p : List MemPlace} (h : DataW.trod enc Tryd.prog w base sp held fuel 9 cs = some (strD s, p)) : cs = [.string s] := by
  obtain ⟨z, hz, e, _⟩ := DataW.trod_string Tryd.underlying9 h
  have e1 : z.data.toList = s.data.toList := by
    have := congrArg Prod.fst e
    unfold strD at this
    injection this with h1
    injection h1 with h2
    exact h2.symm
  have e2 : z = s := by
    cases z; cases s
    simpa using e1
  rw [hz, e2]
theorem cells_of_tab {fuel : Nat} {cs : List Value} {p : List MemPlace} (h : DataW.trod enc Tryd.prog w base sp held fuel 110 cs = some (.agg (enS.map strD), p)) (i : Nat) (hi : i < 42) : cs[i]? = some (.string (enS.getD i ⟨#[]⟩)) := by
  obtain ⟨f2, d, q, hd, ht⟩ := Lib.array_elem Tryd.underlying110 h i hi
  rw [cellsS] at ht
  have hk : i < enS.length := hi
  rw [List.getElem?_map, List.getElem?_eq_getElem hk] at hd
  simp only [Option.map_some, Option.some.injEq] at hd
  subst hd
  have := cells_of_str ht
  have h0 : ((cs.drop (i * 1)).take 1)[0]? = some (.string enS[i]) := by rw [this]; rfl
  rw [List.getElem?_take, if_pos (by decide), List.getElem?_drop, Nat.mul_one, Nat.add_zero] at h0
  rw [h0, List.getD, List.getElem?_eq_getElem hk]; rfl
end
set_option maxRecDepth 100000 in
theorem tables {W : World} (h : laidMetH Tryd.prog laid W) : KT W ∧ EN W := by
  have hk : KT W := by
    have h3 : Lib.VarReads Tryd.prog W "dactyl/key.named" (.agg (kTab.map keyK.rowD)) := by rw [← keyK.eK]; exact Lib.laidMet.reads h (.head _)
    obtain ⟨g, t, cs, fuel, p, h1, h2, hv, hd⟩ := h3
    obtain rfl : 1 = g := Option.some.inj (keyK.gK.symm.trans h1)
    obtain rfl : 176 = t := Option.some.inj (keyK.gKType.symm.trans h2)
    have key : ∀ i, i < 52 → W.cell? ⟨1, i, none⟩ = kCells[i]? := fun i hi => by
      rw [World.var?_cell keyK.gK hv i, keyK.at_part kCells i, keyK.kCells_row ⟨i / 4, by omega⟩, ← keyK.cells_of_tab hd (i / 4) (by omega), ← keyK.at_part]
      simp
    exact ⟨key, block_lt_of_cell (key 0 (by decide))⟩
  have h3 : Lib.VarReads Tryd.prog W "dactyl/emacs.names" (.agg (enS.map strD)) := by rw [← eN]; exact Lib.laidMet.reads h (.tail _ (.head _))
  obtain ⟨g, t, cs, fuel, p, k1, k2, hv, hd⟩ := h3
  obtain rfl : 0 = g := Option.some.inj (gN.symm.trans k1)
  obtain rfl : 110 = t := Option.some.inj (gNType.symm.trans k2)
  have key : ∀ i, i < 42 → W.cell? ⟨0, i, none⟩ = some (.string (enS.getD i ⟨#[]⟩)) := fun i hi => by
    rw [World.var?_cell gN hv i]
    have := cells_of_tab hd i hi
    simpa using this
  exact ⟨hk, ⟨key, block_lt_of_cell (key 0 (by decide))⟩⟩
/-- A world for the witness: the settled one, the tables as their initialisers lay them. -/
def lay (cs : Array Value) : Obj → Obj
  | .cells _ t frozen => .cells cs t frozen
  | o => o
noncomputable def laidWorld (os : Os) : World :=
  { World.holding Tryd.prog os ⟨#[], #[], []⟩ with heap := ((World.holding Tryd.prog os ⟨#[], #[], []⟩).heap.modify 1 (lay kCells.toArray)).modify 0 (lay (enS.map Value.string).toArray) }
theorem laid_met (os : Os) (args : Array Value) : laidMet Tryd.prog laid ((laidWorld os).forCall (fun _ _ => 0) ⟨#[], args, []⟩).memory :=
  laidMet_of_run' 8 (by kernel_rfl) (by kernel_rfl)
end emsE
end Go.Proofs.YtdifkjmpdmlobaaDoor
set_option linter.unusedVariables false
set_option linter.unusedSimpArgs false
namespace Go.Proofs.YtdifkjmpdmlobaaDoor
open Go.RowKit
set_option maxRecDepth 100000 in
theorem efind_any (s nm : ByteArray) (v : Int) (p : Nat) (w : World) (hp : w.cell? ⟨p, 0, none⟩ = some (.string nm)) :
    Calls Tryd.prog 102 #[.agg #[.string s, .int .i64 v], .pointer (some ⟨p, 0, none⟩)] w fun e w' => e = .returned (.bool (decide (s = nm))) ∧ w' = w.alloc (.cells #[.string s, .int .i64 v] 142) := by
  have hp1 := (World.cell?_alloc_lt w (.cells #[.string s, .int .i64 v] 142) ⟨p, 0, none⟩ (block_lt_of_cell hp)).trans hp
  have hd : (s.toList == nm.toList) = decide (s = nm) := by
    by_cases h : s = nm
    · subst h; simp
    · rw [(kstr_ne h).1, decide_eq_false h]
  have HD := Lib.hid hd
  clear hp hd
  go_enter Tryd.func102, Tryd.ntmps102
  go_wp2
  go_ret
  exact ⟨by rw [← HD.out]; rfl, rfl⟩
set_option maxRecDepth 100000 in
theorem efinder_t (k : Ky) (w : World) (hK : KT w) (nm : ByteArray) (h1 : mkS (nmR k) = nm) (h2 : ckE k = 0) :
    Calls Tryd.prog 83 #[.agg #[.int .i64 k.1, .int .i64 k.2.1, .string k.2.2.1, .bool k.2.2.2]] w fun e w' => ∃ q, e = .returned (.tuple #[.func (.func 102) #[] #[.pointer (some ⟨q, 0, none⟩)], .bool true]) ∧ w'.heap[q]? = some (.cells #[.string nm] 9 (0, 0)) ∧ Below w.heap.size w w' := by
  have hmf : ∀ (fn : Fn) (first cap : Array Value) (w : World), (Instr.makeFunc fn first cap).run Tryd.prog w = .ok (.func fn first cap) w := fun _ _ _ _ => rfl
  have B0 := below_alloc w (.cells #[.int .i64 k.1, .int .i64 k.2.1, .string k.2.2.1, .bool k.2.2.2] 107)
  have NM := Lib.hid (kname_t k (w.alloc (.cells #[.int .i64 k.1, .int .i64 k.2.1, .string k.2.2.1, .bool k.2.2.2] 107)) (hK.below B0) nm 0 h1 h2)
  have HB0 := Lib.hid B0
  clear B0 hK h1 h2
  go_enter Tryd.func83, Tryd.ntmps83
  go_wp2_with (go_at_call 101; refine NM.out.mono ?_; rintro e w2 ⟨rfl, hb⟩; have N2 := Lib.hid (seqB HB0.out hb); have N3 := Lib.hid (seqB N2.out (below_alloc w2 (.cells #[.string nm] 9))); have R3 := Lib.hid (heap_alloc_new w2 (.cells #[.string nm] 9)); clear hb NM)
  refine bodyPost_ret (results_tmp2 rfl _ _ _) rfl ?_
  exact ⟨w2.heap.size, rfl, R3.out, N3.out⟩
end Go.Proofs.YtdifkjmpdmlobaaDoor
set_option linter.unusedVariables false
set_option linter.unusedSimpArgs false
namespace Go.Proofs.YtdifkjmpdmlobaaDoor
open Go.RowKit Go.Shelf
attribute [local go_sem] Oper.semAt_some
theorem blk_own {β : Type} (B : Nat) (t : TypeId) (f : β → Array Value) : Own (fun (s : β) W => W.heap[B]? = some (Obj.cells (f s) t (0, 0))) := fun s X Y row hs hg hrow =>
  (hg.block B (Array.getElem?_eq_some_iff.1 hs).1 (fun e' => by obtain ⟨o, ho, hc⟩ := hrow B e'.symm; rw [show X.heap[B]? = _ from hs] at ho; cases ho; cases hc)).trans hs
set_option maxRecDepth 100000 in
set_option maxHeartbeats 4000000 in
theorem ecmd_t (k : Ky) (nm : ByteArray) (c : Int) (w : World) (hK : KT w) (h15 : ¬ k.1 = 15) (h1 : mkS (nmR k) = nm) (h2 : ckE k = 0) (hu : ∀ x ∈ erT 3, x.1.1 = nm → x.1.2 = c) (he : ∃ x ∈ erT 3, x.1.1 = nm) :
    Calls Tryd.prog 61 #[.agg #[.int .i64 k.1, .int .i64 k.2.1, .string k.2.2.1, .bool k.2.2.2]] w fun e w' => e = .returned (.int .i64 c) ∧ Below w.heap.size w w' := by
  have b1 := below_alloc w (.cells #[.int .i64 k.1, .int .i64 k.2.1, .string k.2.2.1, .bool k.2.2.2] 107)
  have r1 := heap_alloc_new w (.cells #[.int .i64 k.1, .int .i64 k.2.1, .string k.2.2.1, .bool k.2.2.2] 107)
  have b2 := below_alloc (w.alloc (.cells #[.int .i64 k.1, .int .i64 k.2.1, .string k.2.2.1, .bool k.2.2.2] 107)) (.cells #[.int .i64 0] 3)
  have r2 := heap_alloc_new (w.alloc (.cells #[.int .i64 k.1, .int .i64 k.2.1, .string k.2.2.1, .bool k.2.2.2] 107)) (.cells #[.int .i64 0] 3)
  have hz1 : (w.alloc (.cells #[.int .i64 k.1, .int .i64 k.2.1, .string k.2.2.1, .bool k.2.2.2] 107)).heap.size = w.heap.size + 1 := by simp
  rw [hz1] at r2
  have r12 := blk_below r1 b2
  have b12 := seqB b1 b2
  obtain ⟨W, hW⟩ : ∃ W, (w.alloc (.cells #[.int .i64 k.1, .int .i64 k.2.1, .string k.2.2.1, .bool k.2.2.2] 107)).alloc (.cells #[.int .i64 0] 3) = W := ⟨_, rfl⟩
  rw [hW] at r2 r12 b12
  have FD := Lib.hid (efinder_t k W (hK.below b12) nm h1 h2)
  have x0 := cell_of_row _ _ 0 _ _ _ r12
  have x1 := cell_of_row _ _ 1 _ _ _ r12
  have x2 := cell_of_row _ _ 2 _ _ _ r12
  have x3 := cell_of_row _ _ 3 _ _ _ r12
  dsimp at x0 x1 x2 x3
  have h15b : (k.1 == 15) = false := beq_eq_false_iff_ne.2 h15
  have NW := Lib.hid b12
  have RW := Lib.hid r2
  have HUQ := Lib.hid hu
  have HE := Lib.hid he
  clear b1 r1 b2 r2 r12 b12 hz1 hK h1 h2 hu he
  have hsf : ∀ (w : World) (ad : Addr) (fn : Fn) (first cap : Array Value), (store ad (.func fn first cap)).run Tryd.prog w = stored Tryd.prog w ad (.func fn first cap) .plain := fun w ad _ _ _ => run_store _ w ad _ _ rfl
  refine (callsIn_wide (n := 6)).1 ?_
  refine callsIn_of_wp_marks Tryd.func61 rfl trivial ?_ rfl
  simp only [Tryd.ntmps61, List.size_toArray, List.length_cons, List.length_nil, Nat.reduceAdd, Nat.reduceSub, Array.replicate_succ, Array.replicate_zero, List.push_toArray, List.append_toArray, List.nil_append, List.cons_append]
  gi_wp2_with (refine ⟨trivial, ?_⟩; gi_at_call 83; refine (callsIn_wide.2 FD.out).mono ?_; rintro e w2 ⟨q, rfl, hq, hb⟩; have Q2 := Lib.hid hq; have B2 := Lib.hid hb; have y2 := Boxed.new w2 137 .nilFunc; have yc2 := y2.cell; have yf2 := y2.frozen; clear hb hq)
  have bF := Boxed.new w2 137 (.func (.func 102) #[] #[.pointer (some ⟨q, 0, none⟩)])
  have N2 := seqB NW.out B2.out
  have ba3 := below_alloc w2 (.cells #[(.func (.func 102) #[] #[.pointer (some ⟨q, 0, none⟩)])] 137)
  have N3 := Lib.hid (seqB N2 ba3)
  have R3 := Lib.hid (blk_below (blk_below RW.out B2.out) ba3)
  have Q3 := Lib.hid (blk_below Q2.out ba3)
  have hR2 := Lib.hid (Nat.lt_of_lt_of_le (blk_lt RW.out) B2.out.size)
  have hql := Lib.hid (blk_lt Q2.out)
  obtain ⟨W3, hW3⟩ : ∃ W3, w2.alloc (.cells #[(.func (.func 102) #[] #[.pointer (some ⟨q, 0, none⟩)])] 137) = W3 := ⟨_, rfl⟩
  rw [hW3] at bF N3 R3 Q3
  have hs3 : W3.heap.size = w2.heap.size + 1 := by rw [← hW3]; simp
  try rw [hW3]
  clear hW3 hW y2 yc2 yf2 ba3 N2 x0 x1 x2 x3 RW NW Q2 FD
  have BF := Lib.hid bF
  have hws := Lib.hid N3.out.size
  refine wpIn_rangeFunc_ownH rfl (by decide) (gf := 84) (lb := #[]) rfl trivial (enters_of Tryd.func84 (by kernel_rfl) rfl)
    (rows_stops 5 (by decide) W3) kpE_t kpE_b (Below.refl _ _) (fun _ => rfl)
    (fun pre W => (((∀ x ∈ pre, x.1.1 ≠ nm) ∧ Boxed W (w.heap.size + 1) 3 (.int .i64 0)) ∧ (Boxed W w2.heap.size 137 (.func (.func 102) #[] #[.pointer (some ⟨q, 0, none⟩)]) ∧ Boxed W q 9 (.string nm))) ∧ Below w.heap.size w W)
    (fun c pre W => (∃ x, (c = .ret ∧ x ∈ pre ∧ x.1.1 = nm) ∧ Boxed W (w.heap.size + 1) 3 (.int .i64 x.1.2)) ∧ Below w.heap.size w W)
    (OwnFrom.and (OwnFrom.and (OwnFrom.and (ownFrom_pure _ _) (Own.from (boxed_own _ _ _) _)) (OwnFrom.and (Own.from (boxed_own _ _ _) _) (Own.from (boxed_own _ _ _) _))) (ownFrom_below (Nat.le_refl _) hws.out))
    (fun c => OwnFrom.and (fun s X Y row hs hg hr => by obtain ⟨x, e1, e2⟩ := hs; exact ⟨x, e1, boxed_own _ _ (fun (_ : Unit) => Value.int .i64 x.1.2) () X Y row e2 hg (fun r e => (hr r e).2)⟩) (ownFrom_below (Nat.le_refl _) hws.out))
    ⟨⟨⟨by simp, R3.out⟩, BF.out, Q3.out⟩, N3.out⟩
    (fun x a' W => ∃ Bx, w2.heap.size < Bx ∧ W.heap[Bx]? = some (Obj.cells #[.string x.1.1, .int .i64 x.1.2] 142 (0, 0)) ∧ a' = { tmps := #[.agg #[.int .i64 k.1, .int .i64 k.2.1, .string k.2.2.1, .bool k.2.2.2], .pointer (some ⟨w.heap.size, 0, none⟩), .pointer (some ⟨w.heap.size + 1, 0, none⟩), .pointer (some ⟨w2.heap.size, 0, none⟩), .bool true, .pointer (some ⟨Bx, 0, none⟩), .pointer (some ⟨w.heap.size, 0, none⟩), .int .i64 k.1, .bool false, undef, undef, undef, .tuple #[(.func (.func 102) #[] #[.pointer (some ⟨q, 0, none⟩)]), .bool true], .agg #[.int .i64 k.1, .int .i64 k.2.1, .string k.2.2.1, .bool k.2.2.2], .tuple #[(.func (.func 102) #[] #[.pointer (some ⟨q, 0, none⟩)]), .bool true], (.func (.func 102) #[] #[.pointer (some ⟨q, 0, none⟩)]), .bool true, .bool true, .bool false, .agg #[.string x.1.1, .int .i64 x.1.2], undef, undef, undef, undef, undef, undef, undef, undef], defers := [] })
    (fun x a' _ X Y row hs hg hr => by obtain ⟨Bx, e1, e2, e3⟩ := hs; exact ⟨Bx, e1, blk_own Bx _ (fun (_ : Unit) => #[Value.string x.1.1, .int .i64 x.1.2]) () X Y row e2 hg (fun r e => (hr r e).2), e3⟩)
    ?assign ?body ?done ?stop
  case assign =>
    rintro l pre x W K ⟨⟨⟨hp, bR1⟩, bF1, bQ1⟩, hB1⟩ hK
    gi_wp2
    exact hK _ _ ((KeepsOthers.alloc _ _).from _) (KpE.below (below_alloc _ _)) ⟨⟨⟨hp, bR1.alloc _⟩, bF1.alloc _, bQ1.alloc _⟩, hB1.alloc hB1.size _⟩ ⟨W.heap.size, bF1.lt, heap_alloc_new _ _, rfl⟩
  case body =>
    rintro l pre x a' W hl ⟨r, hr⟩ ⟨⟨⟨hp, bR1⟩, bF1, bQ1⟩, hB1⟩ ⟨Bx, hBx, bX, rfl⟩ hlt
    obtain ⟨⟨s, v⟩, hsz⟩ := x
    dsimp only at bX
    have c0 := cell_of_row _ _ 0 _ _ _ bX
    have c1 := cell_of_row _ _ 1 _ _ _ bX
    dsimp at c0 c1
    have cF := bF1.cell
    have bA := below_alloc W (.cells #[.string s, .int .i64 v] 142)
    have EF := Lib.hid (efind_any s nm v q W bQ1.cell)
    by_cases hn : s = nm
    · subst hn
      have hd : decide (s = s) = true := decide_eq_true rfl
      have cX1 := cell_of_row _ _ 1 _ _ _ (blk_below bX bA)
      dsimp at cX1
      have bR2 := bR1.alloc (.cells #[.string s, .int .i64 v] 142)
      have cR2 := bR2.cell
      have fR2 := bR2.frozen
      rw [hd] at EF
      clear hd
      gi_wp2_with (refine ⟨trivial, ?_⟩; gi_at_call 102; refine (CallsIn.inRound l (callsIn_wide.2 EF.out)).mono ?_; rintro e w' ⟨rfl, rfl⟩)
      exact ⟨((KeepsOthers.alloc _ _).trans (KeepsOthers.setCell _ _ _)).from _, ⟨⟨(s, v), hsz⟩, ⟨rfl, by simp, rfl⟩, bR2.set _⟩, (hB1.trans (bA.mono hB1.size)).setCell (p := ⟨w.heap.size + 1, 0, none⟩) (by simp) _⟩
    · have hd := decide_eq_false hn
      have hp2 : ∀ y ∈ pre ++ [(⟨(s, v), hsz⟩ : ES)], y.1.1 ≠ nm := by
        intro y hy
        rcases List.mem_append.1 hy with h | h
        · exact hp y h
        · rw [List.mem_singleton] at h
          rw [h]
          exact hn
      rw [hd] at EF
      clear hd
      gi_wp2_with (refine ⟨trivial, ?_⟩; gi_at_call 102; refine (CallsIn.inRound l (callsIn_wide.2 EF.out)).mono ?_; rintro e w' ⟨rfl, rfl⟩)
      exact ⟨(KeepsOthers.alloc _ _).from _, KpE.below bA, ⟨⟨⟨hp2, bR1.alloc _⟩, bF1.alloc _, bQ1.alloc _⟩, hB1.trans (bA.mono hB1.size)⟩⟩
  case done =>
    rintro D xs W hD rfl ⟨⟨⟨hp, _⟩, _⟩, _⟩ hK
    obtain ⟨x, hx, hn⟩ := HE.out
    exact absurd hn (hp x hx)
  case stop =>
    rintro D c' pre W hD hpre ⟨⟨x, ⟨rfl, hx, hn⟩, bR1⟩, hB1⟩ hK
    have hc := HUQ.out x (hpre.subset hx) hn
    rw [hc] at bR1
    have cR := cell_kept bR1.cell (grownBy_putObj' W D (.deferred none)) (fun r e => by cases e; exact ⟨_, hK, rfl⟩)
    gi_wp2
    refine ⟨by simp, .inl ⟨_, _, rfl, run_takeDeferred hK, ?_⟩⟩
    exact ⟨_, by simp [results, Tryd.results61, go_sem, cR], rfl, hB1.trans (belowK_b (w := w) (Nat.le_refl _) W D _ _ (Nat.le_trans hws.out hD) hK rfl rfl)⟩
end Go.Proofs.YtdifkjmpdmlobaaDoor
set_option linter.unusedVariables false
set_option linter.unusedSimpArgs false
namespace Go.Proofs.YtdifkjmpdmlobaaDoor
open Go.RowKit Go.Shelf
attribute [local go_sem] Oper.semAt_some
theorem own_typE {w : World} {B n s : Nat} {T : TypeId} {v : Value} {vs : List Value} (h : w.ownsRow B T s v n vs) (q : Nat) (hq : v.ownBlock = some q) : ∃ cs, w.heap[q]? = some (.cells cs T (0, 0)) := by
  rcases h.2 with ⟨rfl, _⟩ | ⟨g, cap, cur, rfl, _, hg, _⟩
  · simp [Value.ownBlock] at hq
  · have e : g = q := by simpa [Value.ownBlock] using hq
    subst e
    exact ⟨cur, hg⟩
theorem infoEk : (Tryd.prog.info? 107).map (fun i => (i.zero, i.size, i.bytes)) = some (some (.agg #[.int .i64 0, .int .i64 0, .string ByteArray.empty, .bool false]), 4, 40) := by kernel_rfl
/-- How many rows of a command are keys. -/
def cntE (m : Int) (l : List ES) : Nat := (l.filter fun x => decide (x.1.2 = m) && decide (prE x.1.1.data.toList = 0)).length
theorem cntE_app (m : Int) (l : List ES) (x : ES) : cntE m (l ++ [x]) = cntE m l + (if x.1.2 = m ∧ prE x.1.1.data.toList = 0 then 1 else 0) := by
  unfold cntE
  rw [List.filter_append, List.length_append]
  by_cases h : x.1.2 = m ∧ prE x.1.1.data.toList = 0
  · rw [if_pos h, List.filter_cons_of_pos (by simp [h.1, h.2])]; rfl
  · rw [if_neg h, List.filter_cons_of_neg (by simpa using h)]; rfl
theorem cntE_le (m : Int) (l : List ES) : cntE m l ≤ l.length := List.length_filter_le _ _
/-- The keys, under way. -/
def EkR (m : Int) (B L : Nat) (pre : List ES) (W : World) : Prop := ∃ v xs, Boxed W L 108 v ∧ W.ownsRow B 107 4 v (cntE m pre) xs
theorem ekr_own (m : Int) (B L : Nat) : Own (EkR m B L) := fun s X Y row hs hg hr => by
  obtain ⟨v, xs, h1, h2⟩ := hs
  refine ⟨v, xs, boxed_own L _ (fun (_ : Unit) => v) () X Y row h1 hg hr, World.ownsRow.kept h2 hg ?_⟩
  cases hv : v.ownBlock with
  | none => exact Or.inl rfl
  | some q =>
    refine Or.inr fun e => ?_
    obtain ⟨c1, hc1⟩ := own_typE h2 q hv
    obtain ⟨o, ho, hc⟩ := hr q e.symm
    rw [hc1] at ho
    injection ho with ho
    rw [← ho] at hc
    cases hc
theorem keepsO_below {W W' : World} (b : Below W.heap.size W W') : KeepsOthers W W' := ⟨b.size, fun k o hk _ => (b.block k (Array.getElem?_eq_some_iff.1 hk).1).trans hk⟩
theorem EkR.below {m : Int} {B L : Nat} {pre : List ES} {W W' : World} (h : EkR m B L pre W) (b : Below W.heap.size W W') : EkR m B L pre W' := by
  obtain ⟨v, xs, h1, h2⟩ := h
  exact ⟨v, xs, blk_below h1 b, World.ownsRow.kept h2 (row := none) ⟨b.os, b.tape, b.output, b.size, fun k hk _ => b.block k hk⟩ (by cases v.ownBlock <;> simp)⟩
theorem EkR.len {m : Int} {B L : Nat} {pre pre' : List ES} {W : World} (h : EkR m B L pre W) (e : cntE m pre' = cntE m pre) : EkR m B L pre' W := by
  obtain ⟨v, xs, h1, h2⟩ := h
  exact ⟨v, xs, h1, by rw [e]; exact h2⟩
theorem kpE_grow {W W' : World} {u : Option Nat} {T : TypeId} (hg : W.grownBy W' u) (hu : ∀ q, u = some q → ∃ cs, W.heap[q]? = some (Obj.cells cs T (0, 0))) (hT : T ≠ 142 ∧ T ≠ 157) : KpE W W' := by
  refine ⟨hg.size, fun k cs T' f hk hT' => (hg.block k (Array.getElem?_eq_some_iff.1 hk).1 (fun e => ?_)).trans hk⟩
  obtain ⟨c2, h2⟩ := hu k e.symm
  rw [hk] at h2
  injection h2 with h2
  injection h2 with _ h3 _
  rcases hT' with h | h
  · exact hT.1 (h3.symm.trans h)
  · exact hT.2 (h3.symm.trans h)
set_option maxRecDepth 100000 in
set_option maxHeartbeats 8000000 in
theorem ekeys_t (m : Int) (k : Nat) (w : World) (hK : KT w) (hk : cntE m (erT 3) = k) :
    Calls Tryd.prog 62 #[.int .i64 m] w fun e w' => ∃ a c, e = .returned (.slice a k c) ∧ Below w.heap.size w w' := by
  have b1 := below_alloc w (.cells #[.int .i64 m] 3)
  have r1 := Boxed.new w 3 (.int .i64 m)
  have r2 := Boxed.new (w.alloc (.cells #[.int .i64 m] 3)) 108 (.slice none 0 0)
  have b2 := below_alloc (w.alloc (.cells #[.int .i64 m] 3)) (.cells #[.slice none 0 0] 108)
  have hz1 : (w.alloc (.cells #[.int .i64 m] 3)).heap.size = w.heap.size + 1 := by simp
  have r12 := r1.alloc (.cells #[.slice none 0 0] 108)
  have b12 := seqB b1 b2
  have hz2 : ((w.alloc (.cells #[.int .i64 m] 3)).alloc (.cells #[.slice none 0 0] 108)).heap.size = w.heap.size + 2 := by simp
  rw [hz1] at r2
  obtain ⟨W0, hW⟩ : ∃ W, (w.alloc (.cells #[.int .i64 m] 3)).alloc (.cells #[.slice none 0 0] 108) = W := ⟨_, rfl⟩
  rw [hW] at r2 r12 b12 hz2
  have HK := Lib.hid hK
  have HC := Lib.hid hk
  refine (callsIn_wide (n := 6)).1 ?_
  refine callsIn_of_wp_marks Tryd.func62 rfl trivial ?_ rfl
  simp only [Tryd.ntmps62, List.size_toArray, List.length_cons, List.length_nil, Nat.reduceAdd, Nat.reduceSub, Array.replicate_succ, Array.replicate_zero, List.push_toArray, List.append_toArray, List.nil_append, List.cons_append]
  gi_wp2
  try rw [hW]
  clear hW b1 b2 r1 hz1 hK hk
  have R2 := Lib.hid r2
  have R12 := Lib.hid r12
  have B12 := Lib.hid b12
  have Z2 := Lib.hid hz2
  clear r2 r12 b12 hz2
  refine wpIn_rangeFunc_ownH rfl (by decide) (gf := 84) (lb := #[]) rfl trivial (enters_of Tryd.func84 (by kernel_rfl) rfl)
    (rows_stops 5 (by decide) W0) kpE_t kpE_b (Below.refl _ _) (fun _ => rfl)
    (fun pre W => (Boxed W w.heap.size 3 (.int .i64 m) ∧ EkR m W0.heap.size (w.heap.size + 1) pre W) ∧ Below w.heap.size w W)
    (fun _ _ _ => False)
    (OwnFrom.and (OwnFrom.and (Own.from (boxed_own _ _ _) _) (Own.from (ekr_own _ _ _) _)) (ownFrom_below (Nat.le_refl _) B12.out.size))
    (fun _ _ _ _ _ hs _ _ => hs)
    ⟨⟨R12.out, _, [], R2.out, World.ownsRow_nil _ _ _ _⟩, B12.out⟩
    (fun x a' W => ∃ Bx, w.heap.size + 1 < Bx ∧ W.heap[Bx]? = some (Obj.cells #[.string x.1.1, .int .i64 x.1.2] 142 (0, 0)) ∧ a' = { tmps := #[.int .i64 m, .pointer (some ⟨w.heap.size, 0, none⟩), .slice none 0 0, .pointer (some ⟨w.heap.size + 1, 0, none⟩), .pointer (some ⟨Bx, 0, none⟩), undef, undef, .agg #[.string x.1.1, .int .i64 x.1.2], undef, undef, undef, undef, undef, undef, undef, undef, undef, undef, undef, undef, undef, undef, undef, undef, undef], defers := [] })
    (fun x a' _ X Y row hs hg hr => by obtain ⟨Bx, e1, e2, e3⟩ := hs; exact ⟨Bx, e1, blk_own Bx _ (fun (_ : Unit) => #[Value.string x.1.1, .int .i64 x.1.2]) () X Y row e2 hg (fun r e => (hr r e).2), e3⟩)
    ?assign ?body ?done ?stop
  case assign =>
    rintro l pre x W K ⟨⟨bC1, hR1⟩, hB1⟩ hK
    obtain ⟨v0, xs0, hb0, ho0⟩ := id hR1
    have bl := hb0.lt
    gi_wp2
    exact hK _ _ ((KeepsOthers.alloc _ _).from _) (KpE.below (below_alloc _ _)) ⟨⟨bC1.alloc _, hR1.below (below_alloc _ _)⟩, hB1.alloc hB1.size _⟩ ⟨W.heap.size, bl, heap_alloc_new _ _, rfl⟩
  case body =>
    rintro l pre x a' W hl ⟨r, hr⟩ ⟨⟨bC1, hR1⟩, hB1⟩ ⟨Bx, hBx, bX, rfl⟩ hlt
    obtain ⟨⟨s, v⟩, hsz⟩ := x
    dsimp only at bX hsz
    have c0 := cell_of_row _ _ 0 _ _ _ bX
    have c1 := cell_of_row _ _ 1 _ _ _ bX
    dsimp at c0 c1
    have cC := bC1.cell
    have hca := cntE_app m pre ⟨(s, v), hsz⟩
    by_cases hv : v = m
    · subst hv
      obtain ⟨⟨k1, k2, k3, k4⟩, hkk⟩ : ∃ kk, prK s.data.toList = kk := ⟨_, rfl⟩
      obtain ⟨er, her⟩ : ∃ er, prE s.data.toList = er := ⟨_, rfl⟩
      have EP : Hid (Calls Tryd.prog 85 #[.string s] W fun e w' => e = .returned (.tuple #[.agg #[.int .i64 k1, .int .i64 k2, .string k3, .bool k4], .int .i64 er]) ∧ Below W.heap.size W w') := Lib.hid (by
        have h := kparse_any s W (HK.out.below hB1) (by omega)
        unfold PrPost at h
        rw [hkk, her] at h
        exact h)
      rw [her] at hca
      by_cases her0 : er = 0
      · subst her0
        rw [if_pos ⟨rfl, rfl⟩] at hca
        obtain ⟨v0, xs0, hb0, ho0⟩ := hR1
        have hLlt := hb0.lt
        obtain ⟨i0, hi, hz0, hz1, hz2⟩ := info_parts infoEk
        have hcl := cntE_le v pre
        gi_wp2_with (first
          | (refine ⟨trivial, ?_⟩; gi_at_call 85; refine (CallsIn.inRound l (callsIn_wide.2 EP.out)).mono ?_; rintro e w5 ⟨rfl, hb⟩; have b5 := seqB hb (below_alloc w5 (.cells #[.int .i64 k1, .int .i64 k2, .string k3, .bool k4] 107)); have b6 := seqB b5 (below_alloc (w5.alloc (.cells #[.int .i64 k1, .int .i64 k2, .string k3, .bool k4] 107)) (.cells #[.int .i64 k1, .int .i64 k2, .string k3, .bool k4] 107)); have cL5 := (show Boxed (w5.alloc (.cells #[.int .i64 k1, .int .i64 k2, .string k3, .bool k4] 107)) (w.heap.size + 1) 108 v0 from blk_below hb0 b5).cell; have hb6 : Boxed ((w5.alloc (.cells #[.int .i64 k1, .int .i64 k2, .string k3, .bool k4] 107)).alloc (.cells #[.int .i64 k1, .int .i64 k2, .string k3, .bool k4] 107)) (w.heap.size + 1) 108 v0 := blk_below hb0 b6; have ho6 : ((w5.alloc (.cells #[.int .i64 k1, .int .i64 k2, .string k3, .bool k4] 107)).alloc (.cells #[.int .i64 k1, .int .i64 k2, .string k3, .bool k4] 107)).ownsRow W0.heap.size 107 4 v0 (cntE v pre) xs0 := World.ownsRow.kept ho0 (row := none) ⟨b6.os, b6.tape, b6.output, b6.size, fun k hk _ => b6.block k hk⟩ (by cases v0.ownBlock <;> simp); have hnew : ∀ j y, ([Value.int .i64 k1, .int .i64 k2, .string k3, .bool k4] : List Value)[j]? = some y → ((w5.alloc (.cells #[.int .i64 k1, .int .i64 k2, .string k3, .bool k4] 107)).alloc (.cells #[.int .i64 k1, .int .i64 k2, .string k3, .bool k4] 107)).cell? ((⟨w5.heap.size + 1, 0, none⟩ : Addr).add j) = some y := (fun j y hj => app_cells (by simp) hj))
          | (gi_at_builtin; refine wpListIn_append_own _ rfl _ _ 108 rfl W0.heap.size 107 i0 _ 4 40 Tryd.underlying108 hi hz0 hz1 hz2 rfl (by decide) _ _ _ rfl ho6 ⟨w5.heap.size + 1, 0, none⟩ 1 1 [.int .i64 k1, .int .i64 k2, .string k3, .bool k4] rfl rfl hnew (by simp [Value.oneCell']) (by unfold maxLen; omega) (by omega) ?g1 ?_))
        case g1 =>
          have h1 := (Array.getElem?_eq_some_iff.1 hr).1
          have h2 := b6.size
          simp at h2 ⊢
          omega
        intro v' w7 hown' hgrow _
        obtain ⟨g', cap', rfl⟩ := ownsRow_succ hown'
        have hWW : W0.heap.size ≤ W.heap.size := Nat.le_of_lt (Nat.lt_of_le_of_lt hl (Array.getElem?_eq_some_iff.1 hr).1)
        have hZ := Z2.out
        have hneL : some (w.heap.size + 1) ≠ v0.ownBlock := fun e => by
          have := (ho6.lt _ e.symm).1
          omega
        have hneC : some w.heap.size ≠ v0.ownBlock := fun e => by
          have := (ho6.lt _ e.symm).1
          omega
        have bL7 := hb6.kept hgrow hneL
        have bC7 := (show Boxed ((w5.alloc (.cells #[.int .i64 k1, .int .i64 k2, .string k3, .bool k4] 107)).alloc (.cells #[.int .i64 k1, .int .i64 k2, .string k3, .bool k4] 107)) w.heap.size 3 (.int .i64 v) from blk_below bC1 b6).kept hgrow hneC
        have cL7 := bL7.cell
        have fL7 := bL7.frozen
        have hcellsO : ∀ (j : Nat) (o : Obj), v0.ownBlock = some j → ((w5.alloc (.cells #[.int .i64 k1, .int .i64 k2, .string k3, .bool k4] 107)).alloc (.cells #[.int .i64 k1, .int .i64 k2, .string k3, .bool k4] 107)).heap[j]? = some o → o.isCells = true := fun j o hj ho => by
          obtain ⟨cs, hc⟩ := own_typE ho6 j hj
          rw [hc] at ho
          injection ho with ho
          rw [← ho]
          rfl
        have KF := ((keepsO_below b6).trans (KeepsOthers.of_grownBy hgrow hcellsO)).trans (KeepsOthers.setCell w7 ⟨w.heap.size + 1, 0, none⟩ (.slice (some ⟨g', 0, none⟩) (cntE v pre + 1) cap'))
        have KE := kpE_t (kpE_t (KpE.below b6) (kpE_grow hgrow (own_typE ho6) ⟨by decide, by decide⟩)) (kpE_grow (grownBy_setCell' w7 (w.heap.size + 1) (.slice (some ⟨g', 0, none⟩) (cntE v pre + 1) cap')) (fun q e => by cases e; exact ⟨_, bL7⟩) ⟨by decide, by decide⟩)
        have hneL' : (Value.slice (some ⟨g', 0, none⟩) (cntE v pre + 1) cap').ownBlock ≠ some (w.heap.size + 1) := fun e => by
          have := (hown'.lt _ e).1
          omega
        have ho8 := World.ownsRow.kept hown' (grownBy_setCell' w7 (w.heap.size + 1) (.slice (some ⟨g', 0, none⟩) (cntE v pre + 1) cap')) (Or.inr hneL')
        have N7 := (hB1.trans (b6.mono hB1.size)).grown hgrow (by have := (hB1.trans (b6.mono hB1.size)).size; exact this) (fun j hj => by have := (ho6.lt j hj).1; omega)
        gi_wp2
        exact ⟨KF.from _, KE, ⟨⟨bC7.other (by omega) _, ⟨_, _, bL7.set _, by rw [hca]; exact ho8⟩⟩, N7.setCell (p := ⟨w.heap.size + 1, 0, none⟩) (by simp) _⟩⟩
      · rw [if_neg (fun h => her0 h.2), Nat.add_zero] at hca
        have herb : (er == 0) = false := beq_eq_false_iff_ne.2 her0
        gi_wp2_with (refine ⟨trivial, ?_⟩; gi_at_call 85; refine (CallsIn.inRound l (callsIn_wide.2 EP.out)).mono ?_; rintro e w5 ⟨rfl, hb⟩; have b6 := seqB hb (below_alloc w5 (.cells #[.int .i64 k1, .int .i64 k2, .string k3, .bool k4] 107)); clear hb)
        exact ⟨(keepsO_below b6).from _, KpE.below b6, ⟨⟨blk_below bC1 b6, (hR1.below b6).len hca⟩, hB1.trans (b6.mono hB1.size)⟩⟩
    · have hvb : (v != m) = true := by simpa using hv
      rw [if_neg (fun h => hv h.1), Nat.add_zero] at hca
      gi_wp2
      exact ⟨(KeepsOthers.refl _).from _, KpE.below (Below.refl _ _), ⟨bC1, hR1.len hca⟩, hB1⟩
  case done =>
    rintro D xs W hD rfl ⟨⟨bC1, hR1⟩, hB1⟩ hK
    obtain ⟨v0, xs0, hb0, ho0⟩ := hR1
    rw [HC.out] at ho0
    have hf : ∃ a c, v0 = .slice a k c := by
      rcases ho0.2 with ⟨e1, e2⟩ | ⟨g, cap, cur, e1, _⟩
      · rw [e2]
        exact ⟨none, 0, e1⟩
      · exact ⟨_, _, e1⟩
    obtain ⟨a, c, rfl⟩ := hf
    have cL := hb0.cell
    gi_wp2
    refine ⟨by simp, .inl ⟨_, _, rfl, run_takeDeferred hK, ?_⟩⟩
    exact ⟨_, results_tmp rfl _ _ _, a, c, rfl, hB1.trans (belowK_b (w := w) (Nat.le_refl _) W D _ _ (Nat.le_trans B12.out.size hD) hK rfl rfl)⟩
  case stop =>
    rintro D c pre W _ _ h _
    exact h.elim
end Go.Proofs.YtdifkjmpdmlobaaDoor
set_option linter.unusedVariables false
set_option linter.unusedSimpArgs false
namespace Go.Proofs.YtdifkjmpdmlobaaDoor
open Go.RowKit
def s_ke : ByteArray := ⟨#[107, 105, 108, 108, 45, 101, 110, 100]⟩
set_option maxRecDepth 100000 in
theorem en_inj : ∀ j k, j < 42 → k < 42 → enS.getD j ⟨#[]⟩ = enS.getD k ⟨#[]⟩ → j = k := by
  have h : ∀ j k : Fin 42, enS.getD j.val ⟨#[]⟩ = enS.getD k.val ⟨#[]⟩ → j = k := by decide +kernel
  intro j k hj hk e
  have := h ⟨j, hj⟩ ⟨k, hk⟩ e
  simpa using this
theorem eparse_yes (k : Nat) (hk : k < 42) (s : ByteArray) (hs : enS.getD k ⟨#[]⟩ = s) (w : World) (hN : EN w) : Calls Tryd.prog 28 #[.string s] w fun e w' => e = .returned (.tuple #[.int .i64 (k : Int), .int .i64 0]) ∧ Below w.heap.size w w' := by
  refine (eparse_any s w hN).mono ?_
  rintro e w' ⟨⟨j, hj, hjs, rfl⟩ | ⟨hno, _⟩, hb⟩
  · have e := en_inj j k hj hk (hjs.trans hs.symm)
    subst e
    exact ⟨rfl, hb⟩
  · exact absurd hs (hno k hk)
set_option maxRecDepth 100000 in
theorem er_ck : (∀ x ∈ erT 3, x.1.1 = (⟨#[67, 45, 107]⟩ : ByteArray) → x.1.2 = 10) ∧ (∃ x ∈ erT 3, x.1.1 = (⟨#[67, 45, 107]⟩ : ByteArray)) := by
  constructor
  · decide +kernel
  · decide +kernel
set_option maxRecDepth 100000 in
theorem er_ret : (∀ x ∈ erT 3, x.1.1 = (⟨#[82, 69, 84]⟩ : ByteArray) → x.1.2 = 33) ∧ (∃ x ∈ erT 3, x.1.1 = (⟨#[82, 69, 84]⟩ : ByteArray)) := by
  constructor
  · decide +kernel
  · decide +kernel
set_option maxRecDepth 100000 in
theorem er_cnt : cntE 10 (erT 3) = 1 := by decide +kernel
theorem k_ck : mkS (nmR (2, 11, ⟨#[]⟩, false)) = ⟨#[67, 45, 107]⟩ ∧ ckE (2, 11, ⟨#[]⟩, false) = 0 := by decide +kernel
theorem k_ret : mkS (nmR (4, 13, ⟨#[]⟩, false)) = ⟨#[82, 69, 84]⟩ ∧ ckE (4, 13, ⟨#[]⟩, false) = 0 := by decide +kernel
theorem eparse_no (s : ByteArray) (hno : ∀ j, j < 42 → enS.getD j ⟨#[]⟩ ≠ s) (w : World) (hN : EN w) : Calls Tryd.prog 28 #[.string s] w fun e w' => e = .returned (.tuple #[.int .i64 0, .int .i64 6]) ∧ Below w.heap.size w w' := by
  refine (eparse_any s w hN).mono ?_
  rintro e w' ⟨⟨j, hj, hjs, _⟩ | ⟨_, rfl⟩, hb⟩
  · exact absurd hjs (hno j hj)
  · exact ⟨rfl, hb⟩
theorem ename_in (k : Nat) (hk : k < 42) (s : ByteArray) (hs : enS.getD k ⟨#[]⟩ = s) (w : World) (hN : EN w) : Calls Tryd.prog 27 #[.int .i64 (k : Int)] w fun e w' => e = .returned (.tuple #[.string s, .int .i64 0]) ∧ w' = w := by
  have h := ename_any k w hN
  have e1 : enN k = s := by unfold enN; rw [if_pos (by omega)]; exact hs
  have e2 : enE k = 0 := if_pos (by omega)
  rw [e1, e2] at h
  exact h
theorem ename_out (n : Int) (hn : n < 0 ∨ 41 < n) (w : World) (hN : EN w) : Calls Tryd.prog 27 #[.int .i64 n] w fun e w' => e = .returned (.tuple #[.string ⟨#[]⟩, .int .i64 3]) ∧ w' = w := by
  have h := ename_any n w hN
  have e1 : enN n = ⟨#[]⟩ := if_neg (by omega)
  have e2 : enE n = 3 := if_neg (by omega)
  rw [e1, e2] at h
  exact h
set_option maxHeartbeats 4000000 in
theorem eawake_any (w : World) (hN : EN w) (hK : KT w) : Calls Tryd.prog 26 #[] w fun e w' => e = .returned (.bool true) ∧ Below w.heap.size w w' := by
  have NA := Lib.hid (ename_in 10 (by decide) s_ke rfl w hN)
  have PA := Lib.hid (eparse_yes 10 (by decide) s_ke rfl w hN)
  have C1 := Lib.hid fun w' (b : Below w.heap.size w w') => ecmd_t (2, 11, ⟨#[]⟩, false) _ 10 w' (hK.below b) (by decide) k_ck.1 k_ck.2 er_ck.1 er_ck.2
  have C2 := Lib.hid fun w' (b : Below w.heap.size w w') => ecmd_t (4, 13, ⟨#[]⟩, false) _ 33 w' (hK.below b) (by decide) k_ret.1 k_ret.2 er_ret.1 er_ret.2
  have KS := Lib.hid fun w' (b : Below w.heap.size w w') => ekeys_t 10 1 w' (hK.below b) er_cnt
  unfold s_ke at NA PA
  clear hN hK
  go_enter Tryd.func26, Tryd.ntmps26
  go_wp2_with (first
    | (go_at_call 27; refine NA.out.mono ?_; rintro e w1 ⟨rfl, rfl⟩; clear NA)
    | (go_at_call 28; refine PA.out.mono ?_; rintro e w2 ⟨rfl, hb⟩; have N2 := Lib.hid hb; clear hb PA)
    | (go_at_call 61; refine (C1.out _ N2.out).mono ?_; rintro e w3 ⟨rfl, hb⟩; have N3 := Lib.hid (seqB N2.out hb); clear hb C1)
    | (go_at_call 62; refine (KS.out _ N3.out).mono ?_; rintro e w4 ⟨a4, c4, rfl, hb⟩; have N4 := Lib.hid (seqB N3.out hb); clear hb KS)
    | (go_at_call 61; refine (C2.out _ N4.out).mono ?_; rintro e w5 ⟨rfl, hb⟩; have N5 := Lib.hid (seqB N4.out hb); clear hb C2))
  go_ret
  exact ⟨rfl, N5.out⟩
section
variable {n : Int} {s : ByteArray} {w : World}
theorem emacsnames_far (hN : EN w) (hK : KT w) (hs : 100 < s.size) :
    Calls Tryd.prog 6 #[.int .i64 n, .string s] w fun e w' => e = .returned (.bool true) ∧ Below w.heap.size w w' := by
  have AW := Lib.hid (eawake_any w hN hK)
  have hsi : (100 : Int) < s.size := by omega
  clear hN hK
  go_enter Tryd.func6, Tryd.ntmps6
  go_wp2_with (go_at_call 26; refine AW.out.mono ?_; rintro e w2 ⟨rfl, hb⟩; have N2 := Lib.hid hb; clear hb AW)
  go_ret
  exact ⟨rfl, N2.out⟩
set_option maxHeartbeats 4000000 in
theorem emacsnames_lo_yes (hN : EN w) (hK : KT w) (hs : ¬ 100 < s.size) (hn : n < 0) {j : Nat} (hj : j < 42) (hjs : enS.getD j ⟨#[]⟩ = s) :
    Calls Tryd.prog 6 #[.int .i64 n, .string s] w fun e w' => e = .returned (.bool true) ∧ Below w.heap.size w w' := by
  have AW := Lib.hid fun w' (b : Below w.heap.size w w') => eawake_any w' (hN.below b) (hK.below b)
  have HN := Lib.hid fun w' (b : Below w.heap.size w w') => hN.below b
  have hsi : ¬ (100 : Int) < s.size := by omega
  have NA := Lib.hid (ename_out n (Or.inl hn) w hN)
  have PA := Lib.hid (eparse_yes j hj s hjs w hN)
  have NB := Lib.hid fun w' (b : Below w.heap.size w w') => ename_in j hj s hjs w' (hN.below b)
  clear hN hK
  go_enter Tryd.func6, Tryd.ntmps6
  go_wp2_with (first
    | (go_at_call 27; refine NA.out.mono ?_; rintro e w1 ⟨rfl, rfl⟩; clear NA)
    | (go_at_call 28; refine PA.out.mono ?_; rintro e w2 ⟨rfl, hb⟩; have N2 := Lib.hid hb; clear hb PA)
    | (go_at_call 27; refine (NB.out _ N2.out).mono ?_; rintro e w3 ⟨rfl, rfl⟩; clear NB)
    | (go_at_call 26; refine (AW.out _ N2.out).mono ?_; rintro e w6 ⟨rfl, hb⟩; have N6 := Lib.hid (seqB N2.out hb); clear hb AW))
  go_ret
  exact ⟨rfl, N6.out⟩
set_option maxHeartbeats 4000000 in
theorem emacsnames_hi_yes (hN : EN w) (hK : KT w) (hs : ¬ 100 < s.size) (hn : 41 < n) (hn0 : ¬ n < 0) {j : Nat} (hj : j < 42) (hjs : enS.getD j ⟨#[]⟩ = s) :
    Calls Tryd.prog 6 #[.int .i64 n, .string s] w fun e w' => e = .returned (.bool true) ∧ Below w.heap.size w w' := by
  have AW := Lib.hid fun w' (b : Below w.heap.size w w') => eawake_any w' (hN.below b) (hK.below b)
  have HN := Lib.hid fun w' (b : Below w.heap.size w w') => hN.below b
  have hsi : ¬ (100 : Int) < s.size := by omega
  have NA := Lib.hid (ename_out n (Or.inr hn) w hN)
  have PA := Lib.hid (eparse_yes j hj s hjs w hN)
  have NB := Lib.hid fun w' (b : Below w.heap.size w w') => ename_in j hj s hjs w' (hN.below b)
  clear hN hK
  go_enter Tryd.func6, Tryd.ntmps6
  go_wp2_with (first
    | (go_at_call 27; refine NA.out.mono ?_; rintro e w1 ⟨rfl, rfl⟩; clear NA)
    | (go_at_call 28; refine PA.out.mono ?_; rintro e w2 ⟨rfl, hb⟩; have N2 := Lib.hid hb; clear hb PA)
    | (go_at_call 27; refine (NB.out _ N2.out).mono ?_; rintro e w3 ⟨rfl, rfl⟩; clear NB)
    | (go_at_call 26; refine (AW.out _ N2.out).mono ?_; rintro e w6 ⟨rfl, hb⟩; have N6 := Lib.hid (seqB N2.out hb); clear hb AW))
  go_ret
  exact ⟨rfl, N6.out⟩
set_option maxHeartbeats 4000000 in
theorem emacsnames_lo_no (hN : EN w) (hK : KT w) (hs : ¬ 100 < s.size) (hn : n < 0) (hno : ∀ j, j < 42 → enS.getD j ⟨#[]⟩ ≠ s) :
    Calls Tryd.prog 6 #[.int .i64 n, .string s] w fun e w' => e = .returned (.bool true) ∧ Below w.heap.size w w' := by
  have AW := Lib.hid fun w' (b : Below w.heap.size w w') => eawake_any w' (hN.below b) (hK.below b)
  have HN := Lib.hid fun w' (b : Below w.heap.size w w') => hN.below b
  have hsi : ¬ (100 : Int) < s.size := by omega
  have NA := Lib.hid (ename_out n (Or.inl hn) w hN)
  have PA := Lib.hid (eparse_no s hno w hN)
  clear hN hK
  go_enter Tryd.func6, Tryd.ntmps6
  go_wp2_with (first
    | (go_at_call 27; refine NA.out.mono ?_; rintro e w1 ⟨rfl, rfl⟩; clear NA)
    | (go_at_call 28; refine PA.out.mono ?_; rintro e w2 ⟨rfl, hb⟩; have N2 := Lib.hid hb; clear hb PA)
    | (go_at_call 26; refine (AW.out _ N2.out).mono ?_; rintro e w6 ⟨rfl, hb⟩; have N6 := Lib.hid (seqB N2.out hb); clear hb AW))
  go_ret
  exact ⟨rfl, N6.out⟩
set_option maxHeartbeats 4000000 in
theorem emacsnames_hi_no (hN : EN w) (hK : KT w) (hs : ¬ 100 < s.size) (hn : 41 < n) (hn0 : ¬ n < 0) (hno : ∀ j, j < 42 → enS.getD j ⟨#[]⟩ ≠ s) :
    Calls Tryd.prog 6 #[.int .i64 n, .string s] w fun e w' => e = .returned (.bool true) ∧ Below w.heap.size w w' := by
  have AW := Lib.hid fun w' (b : Below w.heap.size w w') => eawake_any w' (hN.below b) (hK.below b)
  have HN := Lib.hid fun w' (b : Below w.heap.size w w') => hN.below b
  have hsi : ¬ (100 : Int) < s.size := by omega
  have NA := Lib.hid (ename_out n (Or.inr hn) w hN)
  have PA := Lib.hid (eparse_no s hno w hN)
  clear hN hK
  go_enter Tryd.func6, Tryd.ntmps6
  go_wp2_with (first
    | (go_at_call 27; refine NA.out.mono ?_; rintro e w1 ⟨rfl, rfl⟩; clear NA)
    | (go_at_call 28; refine PA.out.mono ?_; rintro e w2 ⟨rfl, hb⟩; have N2 := Lib.hid hb; clear hb PA)
    | (go_at_call 26; refine (AW.out _ N2.out).mono ?_; rintro e w6 ⟨rfl, hb⟩; have N6 := Lib.hid (seqB N2.out hb); clear hb AW))
  go_ret
  exact ⟨rfl, N6.out⟩
set_option maxHeartbeats 4000000 in
theorem emacsnames_in_yes (hN : EN w) (hK : KT w) (hs : ¬ 100 < s.size) {k : Nat} (hk : k < 42) {j : Nat} (hj : j < 42) (hjs : enS.getD j ⟨#[]⟩ = s) :
    Calls Tryd.prog 6 #[.int .i64 (k : Int), .string s] w fun e w' => e = .returned (.bool true) ∧ Below w.heap.size w w' := by
  have AW := Lib.hid fun w' (b : Below w.heap.size w w') => eawake_any w' (hN.below b) (hK.below b)
  have HN := Lib.hid fun w' (b : Below w.heap.size w w') => hN.below b
  have hsi : ¬ (100 : Int) < s.size := by omega
  obtain ⟨t, ht⟩ : ∃ t, enS.getD k ⟨#[]⟩ = t := ⟨_, rfl⟩
  have NA := Lib.hid (ename_in k hk t ht w hN)
  have PB := Lib.hid fun w' (b : Below w.heap.size w w') => eparse_yes k hk t ht w' (hN.below b)
  have hk0 : ¬ (k : Int) < 0 := by omega
  have hk41 : ¬ (41 : Int) < k := by omega
  have PA := Lib.hid (eparse_yes j hj s hjs w hN)
  have NB := Lib.hid fun w' (b : Below w.heap.size w w') => ename_in j hj s hjs w' (hN.below b)
  clear hN hK
  go_enter Tryd.func6, Tryd.ntmps6
  go_wp2_with (first
    | (go_at_call 27; refine NA.out.mono ?_; rintro e w1 ⟨rfl, rfl⟩; clear NA)
    | (go_at_call 28; refine PA.out.mono ?_; rintro e w2 ⟨rfl, hb⟩; have N2 := Lib.hid hb; clear hb PA)
    | (go_at_call 27; refine (NB.out _ N2.out).mono ?_; rintro e w3 ⟨rfl, rfl⟩; clear NB)
    | (go_at_call 28; refine (PB.out _ N2.out).mono ?_; rintro e w4 ⟨rfl, hb⟩; have N4 := Lib.hid (seqB N2.out hb); clear hb PB)
    | (go_at_call 26; refine (AW.out _ N4.out).mono ?_; rintro e w6 ⟨rfl, hb⟩; have N6 := Lib.hid (seqB N4.out hb); clear hb AW))
  go_ret
  exact ⟨rfl, N6.out⟩
set_option maxHeartbeats 4000000 in
theorem emacsnames_in_no (hN : EN w) (hK : KT w) (hs : ¬ 100 < s.size) {k : Nat} (hk : k < 42) (hno : ∀ j, j < 42 → enS.getD j ⟨#[]⟩ ≠ s) :
    Calls Tryd.prog 6 #[.int .i64 (k : Int), .string s] w fun e w' => e = .returned (.bool true) ∧ Below w.heap.size w w' := by
  have AW := Lib.hid fun w' (b : Below w.heap.size w w') => eawake_any w' (hN.below b) (hK.below b)
  have HN := Lib.hid fun w' (b : Below w.heap.size w w') => hN.below b
  have hsi : ¬ (100 : Int) < s.size := by omega
  obtain ⟨t, ht⟩ : ∃ t, enS.getD k ⟨#[]⟩ = t := ⟨_, rfl⟩
  have NA := Lib.hid (ename_in k hk t ht w hN)
  have PB := Lib.hid fun w' (b : Below w.heap.size w w') => eparse_yes k hk t ht w' (hN.below b)
  have hk0 : ¬ (k : Int) < 0 := by omega
  have hk41 : ¬ (41 : Int) < k := by omega
  have PA := Lib.hid (eparse_no s hno w hN)
  clear hN hK
  go_enter Tryd.func6, Tryd.ntmps6
  go_wp2_with (first
    | (go_at_call 27; refine NA.out.mono ?_; rintro e w1 ⟨rfl, rfl⟩; clear NA)
    | (go_at_call 28; refine PA.out.mono ?_; rintro e w2 ⟨rfl, hb⟩; have N2 := Lib.hid hb; clear hb PA)
    | (go_at_call 28; refine (PB.out _ N2.out).mono ?_; rintro e w4 ⟨rfl, hb⟩; have N4 := Lib.hid (seqB N2.out hb); clear hb PB)
    | (go_at_call 26; refine (AW.out _ N4.out).mono ?_; rintro e w6 ⟨rfl, hb⟩; have N6 := Lib.hid (seqB N4.out hb); clear hb AW))
  go_ret
  exact ⟨rfl, N6.out⟩
/-- Of any number and text. -/
theorem emacsnames_any (n : Int) (s : ByteArray) (w : World) (hN : EN w) (hK : KT w) :
    Calls Tryd.prog 6 #[.int .i64 n, .string s] w fun e w' => e = .returned (.bool true) ∧ Below w.heap.size w w' := by
  by_cases hs : 100 < s.size
  · exact emacsnames_far hN hK hs
  by_cases hy : ∃ j, j < 42 ∧ enS.getD j ⟨#[]⟩ = s
  · obtain ⟨j, hj, hjs⟩ := hy
    by_cases hl : n < 0
    · exact emacsnames_lo_yes hN hK hs hl hj hjs
    by_cases hh : 41 < n
    · exact emacsnames_hi_yes hN hK hs hh hl hj hjs
    · obtain ⟨k, rfl⟩ : ∃ k : Nat, n = (k : Int) := ⟨n.toNat, by omega⟩
      exact emacsnames_in_yes hN hK hs (by omega) hj hjs
  · have hno : ∀ j, j < 42 → enS.getD j ⟨#[]⟩ ≠ s := fun j hj e => hy ⟨j, hj, e⟩
    by_cases hl : n < 0
    · exact emacsnames_lo_no hN hK hs hl hno
    by_cases hh : 41 < n
    · exact emacsnames_hi_no hN hK hs hh hl hno
    · obtain ⟨k, rfl⟩ : ∃ k : Nat, n = (k : Int) := ⟨n.toNat, by omega⟩
      exact emacsnames_in_no hN hK hs (by omega) hno
end
end Go.Proofs.YtdifkjmpdmlobaaDoor
