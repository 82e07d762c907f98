/-
  Joined: Em3 KCom EmCom BdCom Em4 Em5 Em6 Em7 Em8 Em9.
-/
import Derived.Test.YtgnhnalaakgamaaDoorJB01
import Derived.Test.YtgnhnalaakgamaaDoorJB08
import Derived.Test.YtgnhnalaakgamaaDoorJB09
import Derived.Test.YtgnhnalaakgamaaDoorJB11
import Derived.RangeFuncNested
import Derived.RangeFuncBound
import Derived.RangeFuncCalls
import Derived.RangeFuncLeaves
import Derived.Shelf.Abstract
import Derived.Shelf.RegionOpen
import Derived.WalkKit
import Derived.OwnWalkIn
import Derived.TacticsInMore
import Derived.LoopNIn
import Derived.LoopIn
import Derived.Test.YtgnhnalaakgamaaDoorCards
import Derived.Test.YtgnhnalaakgamaaDoorTie
import Derived.Deep.DeepHandedRow
import Derived.Lib.LaidTab
import Derived.Lib.LaidU8
import Derived.Stop.LaidErr
set_option linter.unusedVariables false
set_option linter.unusedSimpArgs false
set_option maxRecDepth 100000
set_option linter.unusedVariables false
set_option linter.unusedSimpArgs false
namespace Go.Proofs.YtgnhnalaakgamaaDoor
open Go.RowKit Go.Shelf
attribute [local go_sem] Oper.semAt_some
/-- What the rounds keep: the tables. -/
def KpE (W W' : World) : Prop := W.heap.size ≤ W'.heap.size ∧ ∀ (k : Nat) (cs : Array Value) (T : TypeId) (f : Nat × Nat), W.heap[k]? = some (Obj.cells cs T f) → (T = 82 ∨ T = 96) → W'.heap[k]? = some (Obj.cells cs T f)
theorem kpE_t {A B C : World} (h : KpE A B) (k : KpE B C) : KpE A C := ⟨Nat.le_trans h.1 k.1, fun i cs T f hi hT => k.2 i cs T f (h.2 i cs T f hi hT) hT⟩
theorem kpE_b {w : World} (W : World) (l : Nat) (o o' : Obj) (_ : w.heap.size ≤ l) (h : W.heap[l]? = some o) (hc : o.isCells = false) (_ : o.isWalk = false) : KpE W (W.putObj l o') := by
  refine ⟨(grownBy_putObj' W l o').size, fun k cs T f hk _ => ?_⟩
  by_cases e : k = l
  · subst e
    rw [h] at hk
    injection hk with hk
    rw [hk] at hc
    cases hc
  · exact (World.putObj_heap_other e).trans hk
theorem KpE.below {W W' : World} (h : Below W.heap.size W W') : KpE W W' := ⟨h.size, fun k cs T f hk _ => blk_below hk h⟩
/-- A row with a short name. -/
abbrev ES := { x : ER // x.1.size ≤ 100 }
def esOf (x : ER) : ES := if h : x.1.size ≤ 100 then ⟨x, h⟩ else ⟨(⟨#[]⟩, 0), by decide⟩
theorem esOf_ok {x : ER} (h : x.1.size ≤ 100) : (esOf x).1 = x := by unfold esOf; rw [dif_pos h]
abbrev encE : ES → Array Value := fun x => #[.agg #[.string x.1.1, .int .i64 x.1.2]]
def erP (p : Nat) : List ER := if p = 0 then erA else if p = 1 then erB else erC
def erT (p : Nat) : List ES := (if p = 0 then [] else if p = 1 then erA else if p = 2 then erA ++ erB else erA ++ erB ++ erC).map esOf
theorem erT_next (p : Nat) (h : p < 3) : erT (p + 1) = erT p ++ (erP p).map esOf := by
  rcases (show p = 0 ∨ p = 1 ∨ p = 2 by omega) with rfl | rfl | rfl
  · rfl
  · show (erA ++ erB).map esOf = erA.map esOf ++ erB.map esOf; rw [List.map_append]
  · show (erA ++ erB ++ erC).map esOf = (erA ++ erB).map esOf ++ erC.map esOf; rw [List.map_append]
theorem erT_len (p : Nat) (h : p < 3) : (erT p).length + (erP p).length ≤ 53 := by
  unfold erT
  rw [List.length_map]
  rcases (show p = 0 ∨ p = 1 ∨ p = 2 by omega) with rfl | rfl | rfl <;> decide
theorem erP_z (p : Nat) : ∀ x ∈ erP p, x.1.size ≤ 100 := by
  have hA : ∀ x ∈ erA, x.1.size ≤ 100 := by decide +kernel
  have hB : ∀ x ∈ erB, x.1.size ≤ 100 := by decide +kernel
  have hC : ∀ x ∈ erC, x.1.size ≤ 100 := by decide +kernel
  unfold erP
  split
  · exact hA
  · split
    · exact hB
    · exact hC
theorem erT_pre (p : Nat) (h : p < 3) (k : Nat) : erT p ++ ((erP p).take k).map esOf <+: erT 3 := by
  have h1 : erT p ++ ((erP p).take k).map esOf <+: erT (p + 1) := by
    rw [erT_next p h]
    exact ⟨((erP p).drop k).map esOf, by rw [List.append_assoc, ← List.map_append, List.take_append_drop]⟩
  have h2 : ∀ q, q < 3 → erT q <+: erT (q + 1) := fun q hq => ⟨(erP q).map esOf, (erT_next q hq).symm⟩
  rcases (show p = 0 ∨ p = 1 ∨ p = 2 by omega) with rfl | rfl | rfl
  · exact h1.trans ((h2 1 (by omega)).trans (h2 2 (by omega)))
  · exact h1.trans (h2 2 (by omega))
  · exact h1
/-- The tables lie. -/
structure ErT3 (w : World) (Q qa qb qc : Nat) : Prop where
  a : ErB w qa erA
  b : ErB w qb erB
  c : ErB w qc erC
  q : w.heap[Q]? = some (.cells #[.slice (some ⟨qa, 0, none⟩) 22 22, .slice (some ⟨qb, 0, none⟩) 18 18, .slice (some ⟨qc, 0, none⟩) 13 13] 96 (0, 0))
theorem ErT3.keep {w w' : World} {Q qa qb qc : Nat} (h : ErT3 w Q qa qb qc) (k : KpE w w') : ErT3 w' Q qa qb qc :=
  ⟨k.2 _ _ _ _ h.a (Or.inl rfl), k.2 _ _ _ _ h.b (Or.inl rfl), k.2 _ _ _ _ h.c (Or.inl rfl), k.2 _ _ _ _ h.q (Or.inr rfl)⟩
theorem ErT3.part {w : World} {Q qa qb qc : Nat} (h : ErT3 w Q qa qb qc) (p : Nat) (hp : p < 3) : ∃ q m, (erP p).length = m ∧ w.cell? ⟨Q, p, none⟩ = some (.slice (some ⟨q, 0, none⟩) m m) ∧ ∀ w', ErT3 w' Q qa qb qc → ErB w' q (erP p) := by
  rcases (show p = 0 ∨ p = 1 ∨ p = 2 by omega) with rfl | rfl | rfl
  · exact ⟨qa, 22, rfl, cell_of_row _ _ 0 _ _ _ h.q, fun w' h' => h'.a⟩
  · exact ⟨qb, 18, rfl, cell_of_row _ _ 1 _ _ _ h.q, fun w' h' => h'.b⟩
  · exact ⟨qc, 13, rfl, cell_of_row _ _ 2 _ _ _ h.q, fun w' h' => h'.c⟩
set_option maxRecDepth 100000 in
set_option maxHeartbeats 4000000 in
theorem rows_stops (n : Nat) (hn : 1 ≤ n) (w : World) : SeqStopsK Fence.wide n Tryd.prog 38 #[] encE KpE (fun ys => ys = erT 3) (fun pre => pre <+: erT 3) 53 w := fun l J Jx W hW hJ hJx hY h0 => by
  have grow := Lib.hid fun (pre : List ES) (W1 W2 : World) (h : J pre W1) (b : Below W1.heap.size W1 W2) => hJ pre W1 W2 none h ⟨b.os, b.tape, b.output, b.size, fun k hk _ => b.block k hk⟩ (fun r e => by cases e)
  have HY := Lib.hid hY
  clear hY hJ hJx
  have HA := Lib.hid fun (w : World) => econtrols_any w
  have HB := Lib.hid fun (w : World) => emetas_any w
  have HC := Lib.hid fun (w : World) => eothers_any w
  refine callsIn_of_wp Tryd.func38 rfl trivial ?_ rfl
  simp only [Tryd.ntmps38, List.size_toArray, List.length_cons, List.length_nil, Nat.reduceAdd, Nat.reduceSub, Array.replicate_succ, Array.replicate_zero, List.push_toArray, List.append_toArray, List.nil_append, List.cons_append]
  gi_wp2_with (first
    | (refine ⟨trivial, ?_⟩; gi_at_call 53; refine (callsIn_wide.2 (HA.out _)).mono ?_; rintro e w1 ⟨rfl, hc, hb⟩; have C1 := Lib.hid hc; have J1 := Lib.hid (grow.out _ _ _ h0 hb); clear hc hb)
    | (refine ⟨trivial, ?_⟩; gi_at_call 54; refine (callsIn_wide.2 (HB.out _)).mono ?_; rintro e w2 ⟨rfl, hc, hb⟩; have C2 := Lib.hid (And.intro (show ErB w2 W.heap.size erA from blk_below C1.out hb) hc); have J2 := Lib.hid (grow.out _ _ _ J1.out hb); clear hc hb)
    | (refine ⟨trivial, ?_⟩; gi_at_call 55; refine (callsIn_wide.2 (HC.out _)).mono ?_; rintro e w3 ⟨rfl, hc, hb⟩; have C3 := Lib.hid (And.intro (show ErB w3 W.heap.size erA from blk_below C2.out.1 hb) (And.intro (show ErB w3 w1.heap.size erB from blk_below C2.out.2 hb) hc)); have J3 := Lib.hid (grow.out _ _ _ J2.out hb); clear hc hb))
  have TB : Hid (ErT3 (w3.alloc (.cells #[.slice (some ⟨W.heap.size, 0, none⟩) 22 22, .slice (some ⟨w1.heap.size, 0, none⟩) 18 18, .slice (some ⟨w2.heap.size, 0, none⟩) 13 13] 96)) w3.heap.size W.heap.size w1.heap.size w2.heap.size) := Lib.hid (by
    have b := below_alloc w3 (.cells #[.slice (some ⟨W.heap.size, 0, none⟩) 22 22, .slice (some ⟨w1.heap.size, 0, none⟩) 18 18, .slice (some ⟨w2.heap.size, 0, none⟩) 13 13] 96)
    exact ⟨blk_below C3.out.1 b, blk_below C3.out.2.1 b, blk_below C3.out.2.2 b, heap_alloc_new _ _⟩)
  have J4 := Lib.hid (grow.out _ _ _ J3.out (below_alloc w3 (.cells #[.slice (some ⟨W.heap.size, 0, none⟩) 22 22, .slice (some ⟨w1.heap.size, 0, none⟩) 18 18, .slice (some ⟨w2.heap.size, 0, none⟩) 13 13] 96)))
  clear C1 C2 C3 J1 J2 J3 HA HB HC h0 hW
  gi_loopw [11] (fun iv wr => ∃ p : Nat, p ≤ 3 ∧ iv = .int .i64 (p : Int) ∧ Hid (ErT3 wr w3.heap.size W.heap.size w1.heap.size w2.heap.size) ∧ Hid (J (erT p) wr)) (fun iv _ => 3 - (intOf iv).toNat)
  case atStart => exact ⟨0, by omega, rfl, TB, J4⟩
  case round =>
    clear TB J4
    obtain ⟨p, hp, rfl, HT, HJ⟩ := hrel
    by_cases hlt : p < 3
    · have hp1 : (p : Int) < 3 := by omega
      have hp0 : (0 : Int) ≤ p := by omega
      obtain ⟨q, m, hm, c0, hq⟩ := HT.out.part p hlt
      have HM := Lib.hid hm
      have HQ := Lib.hid hq
      have HLN := Lib.hid (erT_len p hlt)
      have HNX := Lib.hid (erT_next p hlt)
      have HPR := Lib.hid (erT_pre p hlt)
      have HZ := Lib.hid (erP_z p)
      have hm53 : m ≤ 53 := by have := erT_len p hlt; omega
      clear hm hq
      generalize erP p = L at *
      gi_wp2
      gi_loopw [17] (fun iv wq => ∃ k : Nat, k ≤ m ∧ iv = .int .i64 (k : Int) ∧ Hid (ErT3 wq w3.heap.size W.heap.size w1.heap.size w2.heap.size) ∧ Hid (J (erT p ++ (L.take k).map esOf) wq)) (fun iv _ => m - (intOf iv).toNat)
      case atStart => exact ⟨0, by omega, rfl, HT, Lib.hid (by rw [List.take_zero, List.map_nil, List.append_nil]; exact HJ.out)⟩
      case round =>
        clear c0 HT HJ
        obtain ⟨k, hk, rfl, HT, HJ⟩ := hrel
        by_cases hkm : k < m
        · have hk1 : (k : Int) < m := by omega
          have hk0 : (0 : Int) ≤ k := by omega
          obtain ⟨c0, c1⟩ := (HQ.out _ HT.out).cells k (by rw [HM.out]; exact hkm)
          have hmem : L.getD k (⟨#[]⟩, 0) ∈ L := by rw [List.getD, List.getElem?_eq_getElem (by rw [HM.out]; exact hkm)]; exact List.getElem_mem _
          have hes := esOf_ok (HZ.out _ hmem)
          have htk : (L.take (k + 1)).map esOf = (L.take k).map esOf ++ [esOf (L.getD k (⟨#[]⟩, 0))] := by
            rw [List.take_add_one, List.getElem?_eq_getElem (by rw [HM.out]; exact hkm), List.getD, List.getElem?_eq_getElem (by rw [HM.out]; exact hkm), List.map_append]
            rfl
          generalize L.getD k (⟨#[]⟩, 0) = x at *
          obtain ⟨s, v⟩ := x
          dsimp only at c0 c1
          have bA := below_alloc wr (.cells #[.string s, .int .i64 v] 82)
          have hj := grow.out _ _ _ HJ.out bA
          have hTA := HT.out.keep (KpE.below bA)
          obtain ⟨fn, tmps, assign, body, hy, hR⟩ := HY.out _ (esOf (s, v)) _ hj (by rw [List.length_append, List.length_map, List.length_take]; have := HLN.out; have := HM.out; omega)
          unfold encE at hy
          rw [hes] at hy
          have HR := Lib.hid hR
          have HTA := Lib.hid hTA
          have HTK := Lib.hid htk
          clear hR hTA htk hj bA hmem hes
          gi_wp2
          refine HR.out.mono ?_
          rintro e W3 (⟨rfl, hJ3, hk3⟩ | ⟨rfl, hJx3⟩)
          · have J3 := Lib.hid hJ3
            have T3 := Lib.hid (HTA.out.keep hk3)
            clear hJ3 hk3
            gi_wp2
            go_roundw
            case rel => exact ⟨k + 1, by omega, by go_num, T3, Lib.hid (by rw [HTK.out, ← List.append_assoc]; exact J3.out)⟩
            case measure => (simp [intOf]; try omega)
          · have JX := Lib.hid hJx3
            clear hJx3
            gi_wp2
            refine bodyPost_ret (results_none rfl _ _ _) rfl ?_
            exact ⟨⟨_, rfl⟩, .inr ⟨_, by have h := HPR.out (k + 1); rw [HTK.out, ← List.append_assoc] at h; exact h, JX.out⟩⟩
        · obtain rfl : k = m := by omega
          have hk1 : ¬ (k : Int) < k := by omega
          gi_wp2
          go_roundw
          case rel => exact ⟨p + 1, by omega, by go_num, HT, Lib.hid (by rw [HNX.out]; have h := HJ.out; rw [← HM.out, List.take_length] at h; exact h)⟩
          case measure => (simp [intOf]; try omega)
    · obtain rfl : p = 3 := by omega
      gi_wp2
      go_end0
      exact ⟨⟨_, rfl⟩, .inl ⟨_, rfl, HJ.out⟩⟩
end Go.Proofs.YtgnhnalaakgamaaDoor
set_option linter.unusedVariables false
set_option linter.unusedSimpArgs false
namespace Go.Proofs.YtgnhnalaakgamaaDoor
open Go.ChangeShapes Go.WideShapes Go.ChangeAt Go.RowKit
namespace keyK
theorem own : ownKnob Tryd.prog.godebug = none := by kernel_rfl
theorem laidOut : laidOutB Tryd.prog = true := by kernel_rfl
theorem gK : Tryd.prog.globalNamed "dactyl/key.named" = some 1 := by kernel_rfl
theorem gKType : (Tryd.prog.globals[1]?).map (·.type) = some 103 := by kernel_rfl
theorem cellsK : Tryd.prog.cellsOf 103 = 52 := by kernel_rfl
theorem cellsR : Tryd.prog.cellsOf 90 = 4 := by kernel_rfl
theorem cellsI : Tryd.prog.cellsOf 3 = 1 := by kernel_rfl
theorem cellsS : Tryd.prog.cellsOf 9 = 1 := by kernel_rfl
def rowD {H : Type} (r : KRow) : DataW H := .agg [.lit (.int .i64 r.1), .lit (.int .i64 r.2.1), .lit (.string r.2.2.1), .lit (.string r.2.2.2)]
theorem eK : (Rows.laid_dactyl_key_named : DataW Unit) = .agg (kTab.map rowD) := by kernel_rfl
def laid : List (String × DataW Unit) := [("dactyl/key.named", Rows.laid_dactyl_key_named)]
section
variable {H : Type} {enc : TypeId × Value → H} {w : World} {base : Nat} {sp : Nat → Bool} {held : Bool}
theorem cells_of_row {fuel : Nat} {cs : List Value} {r : KRow} {p : List MemPlace} (h : DataW.trod enc Tryd.prog w base sp held fuel 90 cs = some (rowD r, p)) : cs = rowL r := by
  obtain ⟨xs, n, rfl, hx, hl, hxl, hall⟩ := DataW.trod_struct Tryd.underlying90 h
  rw [cellsR] at hl
  have hxs : xs.map (·.1) = [.lit (.int .i64 r.1), .lit (.int .i64 r.2.1), .lit (.string r.2.2.1), .lit (.string r.2.2.2)] := by
    have := congrArg Prod.fst hx
    simpa [rowD] using this.symm
  match cs, hl, xs, hxl, hxs with
  | [c0, c1, c2, c3], _, [y0, y1, y2, y3], _, hxs =>
    have a0 : DataW.trod enc Tryd.prog w base sp held n 3 ([c0, c1, c2, c3].take (Tryd.prog.cellsOf 3)) = some y0 := hall 0 _ rfl
    have a1 : DataW.trod enc Tryd.prog w base sp held n 3 ([c1, c2, c3].take (Tryd.prog.cellsOf 3)) = some y1 := hall 1 _ rfl
    have a2 : DataW.trod enc Tryd.prog w base sp held n 9 ([c2, c3].take (Tryd.prog.cellsOf 9)) = some y2 := hall 2 _ rfl
    have a3 : DataW.trod enc Tryd.prog w base sp held n 9 ([c3].take (Tryd.prog.cellsOf 9)) = some y3 := hall 3 _ rfl
    rw [cellsI] at a0 a1
    rw [cellsS] at a2 a3
    simp only [List.map_cons, List.map_nil, List.cons.injEq, and_true] at hxs
    obtain ⟨x0, x1, x2, x3⟩ := hxs
    obtain ⟨z0, h0, e0, _⟩ := DataW.trod_int Tryd.underlying3 a0
    obtain ⟨z1, h1, e1, _⟩ := DataW.trod_int Tryd.underlying3 a1
    obtain ⟨z2, h2, e2, _⟩ := DataW.trod_string Tryd.underlying9 a2
    obtain ⟨z3, h3, e3, _⟩ := DataW.trod_string Tryd.underlying9 a3
    rw [e0] at x0; rw [e1] at x1; rw [e2] at x2; rw [e3] at x3
    replace h0 : [c0] = _ := h0; replace h1 : [c1] = _ := h1; replace h2 : [c2] = _ := h2; replace h3 : [c3] = _ := h3
    simp at x0 x1 x2 x3 h0 h1 h2 h3
    subst h0; subst h1; subst h2; subst h3
    unfold rowL
    rw [← x0, ← x1, ← x2, ← x3]
theorem cells_of_tab {fuel : Nat} {cs : List Value} {p : List MemPlace} (h : DataW.trod enc Tryd.prog w base sp held fuel 103 cs = some (.agg (kTab.map rowD), p)) (i : Nat) (hi : i < 13) : (cs.drop (i * 4)).take 4 = rowL (kTab.getD i kr0) := by
  obtain ⟨f2, d, q, hd, ht⟩ := Lib.array_elem Tryd.underlying103 h i hi
  rw [cellsR] at ht
  have hk : i < kTab.length := hi
  rw [List.getElem?_map, List.getElem?_eq_getElem hk] at hd
  simp only [Option.map_some, Option.some.injEq] at hd
  subst hd
  rw [cells_of_row ht, List.getD, List.getElem?_eq_getElem hk]; rfl
theorem kCells_at : ∀ i : Fin 52, ((rowL (kTab.getD (i.val / 4) kr0))[i.val % 4]?).isSome = true := by decide
theorem kCells_row : ∀ i : Fin 13, (kCells.drop (i.val * 4)).take 4 = rowL (kTab.getD i.val kr0) := by
  intro i
  match i with
  | ⟨0, _⟩ => rfl
  | ⟨1, _⟩ => rfl
  | ⟨2, _⟩ => rfl
  | ⟨3, _⟩ => rfl
  | ⟨4, _⟩ => rfl
  | ⟨5, _⟩ => rfl
  | ⟨6, _⟩ => rfl
  | ⟨7, _⟩ => rfl
  | ⟨8, _⟩ => rfl
  | ⟨9, _⟩ => rfl
  | ⟨10, _⟩ => rfl
  | ⟨11, _⟩ => rfl
  | ⟨12, _⟩ => rfl
theorem at_part {α : Type} (l : List α) (i : Nat) : l[i]? = ((l.drop (i / 4 * 4)).take 4)[i % 4]? := by
  rw [List.getElem?_take, if_pos (by omega), List.getElem?_drop]; congr 1; omega
end
set_option maxRecDepth 100000 in
theorem tables {W : World} (h : laidMetH Tryd.prog laid W) : KT W := by
  have h3 : Lib.VarReads Tryd.prog W "dactyl/key.named" (.agg (kTab.map rowD)) := by rw [← eK]; exact Lib.laidMet.reads h (.head _)
  obtain ⟨g, t, cs, fuel, p, h1, h2, hv, hd⟩ := h3
  obtain rfl : 1 = g := Option.some.inj (gK.symm.trans h1)
  obtain rfl : 103 = t := Option.some.inj (gKType.symm.trans h2)
  have key : ∀ i, i < 52 → W.cell? ⟨1, i, none⟩ = kCells[i]? := fun i hi => by
    rw [World.var?_cell gK hv i, at_part kCells i, kCells_row ⟨i / 4, by omega⟩, ← cells_of_tab hd (i / 4) (by omega), ← at_part]
    simp
  exact ⟨key, block_lt_of_cell (key 0 (by decide))⟩
/-- A world for the witness: the settled one, the table as its initialiser lays it. -/
def lay (cs : Array Value) : Obj → Obj
  | .cells _ t frozen => .cells cs t frozen
  | o => o
noncomputable def laidWorld (os : Os) : World :=
  { World.holding Tryd.prog os ⟨#[], #[], []⟩ with heap := (World.holding Tryd.prog os ⟨#[], #[], []⟩).heap.modify 1 (lay kCells.toArray) }
theorem laid_met (os : Os) (args : Array Value) : laidMet Tryd.prog laid ((laidWorld os).forCall (fun _ _ => 0) ⟨#[], args, []⟩).memory :=
  laidMet_of_run' 8 (by kernel_rfl) (by kernel_rfl)
end keyK
end Go.Proofs.YtgnhnalaakgamaaDoor
set_option linter.unusedVariables false
set_option linter.unusedSimpArgs false
namespace Go.Proofs.YtgnhnalaakgamaaDoor
open Go.ChangeShapes Go.WideShapes Go.ChangeAt Go.RowKit
namespace emsE
theorem own : ownKnob Tryd.prog.godebug = none := by kernel_rfl
theorem laidOut : laidOutB Tryd.prog = true := by kernel_rfl
theorem gN : Tryd.prog.globalNamed "dactyl/emacs.names" = some 0 := by kernel_rfl
theorem gNType : (Tryd.prog.globals[0]?).map (·.type) = some 69 := by kernel_rfl
theorem cellsS : Tryd.prog.cellsOf 9 = 1 := by kernel_rfl
def strD {H : Type} (s : ByteArray) : DataW H := .lit (.string s.data.toList)
theorem eN : (Rows.laid_dactyl_emacs_names : DataW Unit) = .agg (enS.map strD) := by kernel_rfl
def laid : List (String × DataW Unit) := [("dactyl/key.named", Rows.laid_dactyl_key_named), ("dactyl/emacs.names", Rows.laid_dactyl_emacs_names)]
section
variable {H : Type} {enc : TypeId × Value → H} {w : World} {base : Nat} {sp : Nat → Bool} {held : Bool}
theorem cells_of_str {fuel : Nat} {cs : List Value} {s : ByteArray} {p : List MemPlace} (h : DataW.trod enc Tryd.prog w base sp held fuel 9 cs = some (strD s, p)) : cs = [.string s] := by
  obtain ⟨z, hz, e, _⟩ := DataW.trod_string Tryd.underlying9 h
  have e1 : z.data.toList = s.data.toList := by
    have := congrArg Prod.fst e
    unfold strD at this
    injection this with h1
    injection h1 with h2
    exact h2.symm
  have e2 : z = s := by
    cases z; cases s
    simpa using e1
  rw [hz, e2]
theorem cells_of_tab {fuel : Nat} {cs : List Value} {p : List MemPlace} (h : DataW.trod enc Tryd.prog w base sp held fuel 69 cs = some (.agg (enS.map strD), p)) (i : Nat) (hi : i < 42) : cs[i]? = some (.string (enS.getD i ⟨#[]⟩)) := by
  obtain ⟨f2, d, q, hd, ht⟩ := Lib.array_elem Tryd.underlying69 h i hi
  rw [cellsS] at ht
  have hk : i < enS.length := hi
  rw [List.getElem?_map, List.getElem?_eq_getElem hk] at hd
  simp only [Option.map_some, Option.some.injEq] at hd
  subst hd
  have := cells_of_str ht
  have h0 : ((cs.drop (i * 1)).take 1)[0]? = some (.string enS[i]) := by rw [this]; rfl
  rw [List.getElem?_take, if_pos (by decide), List.getElem?_drop, Nat.mul_one, Nat.add_zero] at h0
  rw [h0, List.getD, List.getElem?_eq_getElem hk]; rfl
end
set_option maxRecDepth 100000 in
theorem tables {W : World} (h : laidMetH Tryd.prog laid W) : KT W ∧ EN W := by
  have hk : KT W := by
    have h3 : Lib.VarReads Tryd.prog W "dactyl/key.named" (.agg (kTab.map keyK.rowD)) := by rw [← keyK.eK]; exact Lib.laidMet.reads h (.head _)
    obtain ⟨g, t, cs, fuel, p, h1, h2, hv, hd⟩ := h3
    obtain rfl : 1 = g := Option.some.inj (keyK.gK.symm.trans h1)
    obtain rfl : 103 = t := Option.some.inj (keyK.gKType.symm.trans h2)
    have key : ∀ i, i < 52 → W.cell? ⟨1, i, none⟩ = kCells[i]? := fun i hi => by
      rw [World.var?_cell keyK.gK hv i, keyK.at_part kCells i, keyK.kCells_row ⟨i / 4, by omega⟩, ← keyK.cells_of_tab hd (i / 4) (by omega), ← keyK.at_part]
      simp
    exact ⟨key, block_lt_of_cell (key 0 (by decide))⟩
  have h3 : Lib.VarReads Tryd.prog W "dactyl/emacs.names" (.agg (enS.map strD)) := by rw [← eN]; exact Lib.laidMet.reads h (.tail _ (.head _))
  obtain ⟨g, t, cs, fuel, p, k1, k2, hv, hd⟩ := h3
  obtain rfl : 0 = g := Option.some.inj (gN.symm.trans k1)
  obtain rfl : 69 = t := Option.some.inj (gNType.symm.trans k2)
  have key : ∀ i, i < 42 → W.cell? ⟨0, i, none⟩ = some (.string (enS.getD i ⟨#[]⟩)) := fun i hi => by
    rw [World.var?_cell gN hv i]
    have := cells_of_tab hd i hi
    simpa using this
  exact ⟨hk, ⟨key, block_lt_of_cell (key 0 (by decide))⟩⟩
/-- A world for the witness: the settled one, the tables as their initialisers lay them. -/
def lay (cs : Array Value) : Obj → Obj
  | .cells _ t frozen => .cells cs t frozen
  | o => o
noncomputable def laidWorld (os : Os) : World :=
  { World.holding Tryd.prog os ⟨#[], #[], []⟩ with heap := ((World.holding Tryd.prog os ⟨#[], #[], []⟩).heap.modify 1 (lay kCells.toArray)).modify 0 (lay (enS.map Value.string).toArray) }
theorem laid_met (os : Os) (args : Array Value) : laidMet Tryd.prog laid ((laidWorld os).forCall (fun _ _ => 0) ⟨#[], args, []⟩).memory :=
  laidMet_of_run' 8 (by kernel_rfl) (by kernel_rfl)
end emsE
end Go.Proofs.YtgnhnalaakgamaaDoor
set_option linter.unusedVariables false
set_option linter.unusedSimpArgs false
namespace Go.Proofs.YtgnhnalaakgamaaDoor
open Go.ChangeShapes Go.WideShapes Go.ChangeAt Go.RowKit
namespace bndB
theorem own : ownKnob Tryd.prog.godebug = none := by kernel_rfl
theorem laidOut : laidOutB Tryd.prog = true := by kernel_rfl
def laid : List (String × DataW Unit) := [("unicode/utf8.acceptRanges", Rows.laid_unicode_utf8_acceptRanges), ("dactyl/key.named", Rows.laid_dactyl_key_named), ("dactyl/emacs.names", Rows.laid_dactyl_emacs_names), ("unicode/utf8.first", Rows.laid_unicode_utf8_first)]
set_option maxRecDepth 100000 in
theorem tables {W : World} (h : laidMetH Tryd.prog laid W) : KT W ∧ EN W := by
  have hk : KT W := by
    have h3 : Lib.VarReads Tryd.prog W "dactyl/key.named" (.agg (kTab.map keyK.rowD)) := by rw [← keyK.eK]; exact Lib.laidMet.reads h (.tail _ (.head _))
    obtain ⟨g, t, cs, fuel, p, h1, h2, hv, hd⟩ := h3
    obtain rfl : 1 = g := Option.some.inj (keyK.gK.symm.trans h1)
    obtain rfl : 103 = t := Option.some.inj (keyK.gKType.symm.trans h2)
    have key : ∀ i, i < 52 → W.cell? ⟨1, i, none⟩ = kCells[i]? := fun i hi => by
      rw [World.var?_cell keyK.gK hv i, keyK.at_part kCells i, keyK.kCells_row ⟨i / 4, by omega⟩, ← keyK.cells_of_tab hd (i / 4) (by omega), ← keyK.at_part]
      simp
    exact ⟨key, block_lt_of_cell (key 0 (by decide))⟩
  have h3 : Lib.VarReads Tryd.prog W "dactyl/emacs.names" (.agg (enS.map emsE.strD)) := by rw [← emsE.eN]; exact Lib.laidMet.reads h (.tail _ (.tail _ (.head _)))
  obtain ⟨g, t, cs, fuel, p, k1, k2, hv, hd⟩ := h3
  obtain rfl : 0 = g := Option.some.inj (emsE.gN.symm.trans k1)
  obtain rfl : 69 = t := Option.some.inj (emsE.gNType.symm.trans k2)
  have key : ∀ i, i < 42 → W.cell? ⟨0, i, none⟩ = some (.string (enS.getD i ⟨#[]⟩)) := fun i hi => by
    rw [World.var?_cell emsE.gN hv i]
    have := emsE.cells_of_tab hd i hi
    simpa using this
  exact ⟨hk, ⟨key, block_lt_of_cell (key 0 (by decide))⟩⟩
/-- A world for the witness: the settled one, the tables as their initialisers lay them. -/
def lay (cs : Array Value) : Obj → Obj
  | .cells _ t frozen => .cells cs t frozen
  | o => o
noncomputable def laidWorld (os : Os) : World :=
  { World.holding Tryd.prog os ⟨#[], #[], []⟩ with heap := ((((World.holding Tryd.prog os ⟨#[], #[], []⟩).heap.modify 3 (lay (Lib.firstTab.map fun z => Value.int .u8 z).toArray)).modify 4 (lay ((List.range 16).flatMap fun i => [Value.int .u8 (Lib.accLo i), Value.int .u8 (Lib.accHi i)]).toArray)).modify 1 (lay kCells.toArray)).modify 0 (lay (enS.map Value.string).toArray) }
theorem laid_met (os : Os) (args : Array Value) : laidMet Tryd.prog laid ((laidWorld os).forCall (fun _ _ => 0) ⟨#[], args, []⟩).memory :=
  laidMet_of_run' 8 (by kernel_rfl) (by kernel_rfl)
end bndB
end Go.Proofs.YtgnhnalaakgamaaDoor
set_option linter.unusedVariables false
set_option linter.unusedSimpArgs false
namespace Go.Proofs.YtgnhnalaakgamaaDoor
open Go.RowKit
set_option maxRecDepth 100000 in
theorem efind_any (s nm : ByteArray) (v : Int) (p : Nat) (w : World) (hp : w.cell? ⟨p, 0, none⟩ = some (.string nm)) :
    Calls Tryd.prog 52 #[.agg #[.string s, .int .i64 v], .pointer (some ⟨p, 0, none⟩)] w fun e w' => e = .returned (.bool (decide (s = nm))) ∧ w' = w.alloc (.cells #[.string s, .int .i64 v] 82) := by
  have hp1 := (World.cell?_alloc_lt w (.cells #[.string s, .int .i64 v] 82) ⟨p, 0, none⟩ (block_lt_of_cell hp)).trans hp
  have hd : (s.toList == nm.toList) = decide (s = nm) := by
    by_cases h : s = nm
    · subst h; simp
    · rw [(kstr_ne h).1, decide_eq_false h]
  have HD := Lib.hid hd
  clear hp hd
  go_enter Tryd.func52, Tryd.ntmps52
  go_wp2
  go_ret
  exact ⟨by rw [← HD.out]; rfl, rfl⟩
set_option maxRecDepth 100000 in
theorem efinder_t (k : Ky) (w : World) (hK : KT w) (nm : ByteArray) (h1 : mkS (nmR k) = nm) (h2 : ckE k = 0) :
    Calls Tryd.prog 37 #[.agg #[.int .i64 k.1, .int .i64 k.2.1, .string k.2.2.1, .bool k.2.2.2]] w fun e w' => ∃ q, e = .returned (.tuple #[.func (.func 52) #[] #[.pointer (some ⟨q, 0, none⟩)], .bool true]) ∧ w'.heap[q]? = some (.cells #[.string nm] 9 (0, 0)) ∧ Below w.heap.size w w' := by
  have hmf : ∀ (fn : Fn) (first cap : Array Value) (w : World), (Instr.makeFunc fn first cap).run Tryd.prog w = .ok (.func fn first cap) w := fun _ _ _ _ => rfl
  have B0 := below_alloc w (.cells #[.int .i64 k.1, .int .i64 k.2.1, .string k.2.2.1, .bool k.2.2.2] 34)
  have NM := Lib.hid (kname_t k (w.alloc (.cells #[.int .i64 k.1, .int .i64 k.2.1, .string k.2.2.1, .bool k.2.2.2] 34)) (hK.below B0) nm 0 h1 h2)
  have HB0 := Lib.hid B0
  clear B0 hK h1 h2
  go_enter Tryd.func37, Tryd.ntmps37
  go_wp2_with (go_at_call 29; refine NM.out.mono ?_; rintro e w2 ⟨rfl, hb⟩; have N2 := Lib.hid (seqB HB0.out hb); have N3 := Lib.hid (seqB N2.out (below_alloc w2 (.cells #[.string nm] 9))); have R3 := Lib.hid (heap_alloc_new w2 (.cells #[.string nm] 9)); clear hb NM)
  refine bodyPost_ret (results_tmp2 rfl _ _ _) rfl ?_
  exact ⟨w2.heap.size, rfl, R3.out, N3.out⟩
end Go.Proofs.YtgnhnalaakgamaaDoor
set_option linter.unusedVariables false
set_option linter.unusedSimpArgs false
namespace Go.Proofs.YtgnhnalaakgamaaDoor
open Go.RowKit Go.Shelf
attribute [local go_sem] Oper.semAt_some
theorem blk_own {β : Type} (B : Nat) (t : TypeId) (f : β → Array Value) : Own (fun (s : β) W => W.heap[B]? = some (Obj.cells (f s) t (0, 0))) := fun s X Y row hs hg hrow =>
  (hg.block B (Array.getElem?_eq_some_iff.1 hs).1 (fun e' => by obtain ⟨o, ho, hc⟩ := hrow B e'.symm; rw [show X.heap[B]? = _ from hs] at ho; cases ho; cases hc)).trans hs
set_option maxRecDepth 100000 in
set_option maxHeartbeats 4000000 in
theorem ecmd_t (k : Ky) (nm : ByteArray) (c : Int) (w : World) (hK : KT w) (h15 : ¬ k.1 = 15) (h1 : mkS (nmR k) = nm) (h2 : ckE k = 0) (hu : ∀ x ∈ erT 3, x.1.1 = nm → x.1.2 = c) (he : ∃ x ∈ erT 3, x.1.1 = nm) :
    Calls Tryd.prog 22 #[.agg #[.int .i64 k.1, .int .i64 k.2.1, .string k.2.2.1, .bool k.2.2.2]] w fun e w' => e = .returned (.int .i64 c) ∧ Below w.heap.size w w' := by
  have b1 := below_alloc w (.cells #[.int .i64 k.1, .int .i64 k.2.1, .string k.2.2.1, .bool k.2.2.2] 34)
  have r1 := heap_alloc_new w (.cells #[.int .i64 k.1, .int .i64 k.2.1, .string k.2.2.1, .bool k.2.2.2] 34)
  have b2 := below_alloc (w.alloc (.cells #[.int .i64 k.1, .int .i64 k.2.1, .string k.2.2.1, .bool k.2.2.2] 34)) (.cells #[.int .i64 0] 3)
  have r2 := heap_alloc_new (w.alloc (.cells #[.int .i64 k.1, .int .i64 k.2.1, .string k.2.2.1, .bool k.2.2.2] 34)) (.cells #[.int .i64 0] 3)
  have hz1 : (w.alloc (.cells #[.int .i64 k.1, .int .i64 k.2.1, .string k.2.2.1, .bool k.2.2.2] 34)).heap.size = w.heap.size + 1 := by simp
  rw [hz1] at r2
  have r12 := blk_below r1 b2
  have b12 := seqB b1 b2
  obtain ⟨W, hW⟩ : ∃ W, (w.alloc (.cells #[.int .i64 k.1, .int .i64 k.2.1, .string k.2.2.1, .bool k.2.2.2] 34)).alloc (.cells #[.int .i64 0] 3) = W := ⟨_, rfl⟩
  rw [hW] at r2 r12 b12
  have FD := Lib.hid (efinder_t k W (hK.below b12) nm h1 h2)
  have x0 := cell_of_row _ _ 0 _ _ _ r12
  have x1 := cell_of_row _ _ 1 _ _ _ r12
  have x2 := cell_of_row _ _ 2 _ _ _ r12
  have x3 := cell_of_row _ _ 3 _ _ _ r12
  dsimp at x0 x1 x2 x3
  have h15b : (k.1 == 15) = false := beq_eq_false_iff_ne.2 h15
  have NW := Lib.hid b12
  have RW := Lib.hid r2
  have HUQ := Lib.hid hu
  have HE := Lib.hid he
  clear b1 r1 b2 r2 r12 b12 hz1 hK h1 h2 hu he
  have hsf : ∀ (w : World) (ad : Addr) (fn : Fn) (first cap : Array Value), (store ad (.func fn first cap)).run Tryd.prog w = stored Tryd.prog w ad (.func fn first cap) .plain := fun w ad _ _ _ => run_store _ w ad _ _ rfl
  refine (callsIn_wide (n := 6)).1 ?_
  refine callsIn_of_wp_marks Tryd.func22 rfl trivial ?_ rfl
  simp only [Tryd.ntmps22, List.size_toArray, List.length_cons, List.length_nil, Nat.reduceAdd, Nat.reduceSub, Array.replicate_succ, Array.replicate_zero, List.push_toArray, List.append_toArray, List.nil_append, List.cons_append]
  gi_wp2_with (refine ⟨trivial, ?_⟩; gi_at_call 37; refine (callsIn_wide.2 FD.out).mono ?_; rintro e w2 ⟨q, rfl, hq, hb⟩; have Q2 := Lib.hid hq; have B2 := Lib.hid hb; have y2 := Boxed.new w2 77 .nilFunc; have yc2 := y2.cell; have yf2 := y2.frozen; clear hb hq)
  have bF := Boxed.new w2 77 (.func (.func 52) #[] #[.pointer (some ⟨q, 0, none⟩)])
  have N2 := seqB NW.out B2.out
  have ba3 := below_alloc w2 (.cells #[(.func (.func 52) #[] #[.pointer (some ⟨q, 0, none⟩)])] 77)
  have N3 := Lib.hid (seqB N2 ba3)
  have R3 := Lib.hid (blk_below (blk_below RW.out B2.out) ba3)
  have Q3 := Lib.hid (blk_below Q2.out ba3)
  have hR2 := Lib.hid (Nat.lt_of_lt_of_le (blk_lt RW.out) B2.out.size)
  have hql := Lib.hid (blk_lt Q2.out)
  obtain ⟨W3, hW3⟩ : ∃ W3, w2.alloc (.cells #[(.func (.func 52) #[] #[.pointer (some ⟨q, 0, none⟩)])] 77) = W3 := ⟨_, rfl⟩
  rw [hW3] at bF N3 R3 Q3
  have hs3 : W3.heap.size = w2.heap.size + 1 := by rw [← hW3]; simp
  try rw [hW3]
  clear hW3 hW y2 yc2 yf2 ba3 N2 x0 x1 x2 x3 RW NW Q2 FD
  have BF := Lib.hid bF
  have hws := Lib.hid N3.out.size
  refine wpIn_rangeFunc_ownH rfl (by decide) (gf := 38) (lb := #[]) rfl trivial (enters_of Tryd.func38 (by kernel_rfl) rfl)
    (rows_stops 5 (by decide) W3) kpE_t kpE_b (Below.refl _ _) (fun _ => rfl)
    (fun pre W => (((∀ x ∈ pre, x.1.1 ≠ nm) ∧ Boxed W (w.heap.size + 1) 3 (.int .i64 0)) ∧ (Boxed W w2.heap.size 77 (.func (.func 52) #[] #[.pointer (some ⟨q, 0, none⟩)]) ∧ Boxed W q 9 (.string nm))) ∧ Below w.heap.size w W)
    (fun c pre W => (∃ x, (c = .ret ∧ x ∈ pre ∧ x.1.1 = nm) ∧ Boxed W (w.heap.size + 1) 3 (.int .i64 x.1.2)) ∧ Below w.heap.size w W)
    (OwnFrom.and (OwnFrom.and (OwnFrom.and (ownFrom_pure _ _) (Own.from (boxed_own _ _ _) _)) (OwnFrom.and (Own.from (boxed_own _ _ _) _) (Own.from (boxed_own _ _ _) _))) (ownFrom_below (Nat.le_refl _) hws.out))
    (fun c => OwnFrom.and (fun s X Y row hs hg hr => by obtain ⟨x, e1, e2⟩ := hs; exact ⟨x, e1, boxed_own _ _ (fun (_ : Unit) => Value.int .i64 x.1.2) () X Y row e2 hg (fun r e => (hr r e).2)⟩) (ownFrom_below (Nat.le_refl _) hws.out))
    ⟨⟨⟨by simp, R3.out⟩, BF.out, Q3.out⟩, N3.out⟩
    (fun x a' W => ∃ Bx, w2.heap.size < Bx ∧ W.heap[Bx]? = some (Obj.cells #[.string x.1.1, .int .i64 x.1.2] 82 (0, 0)) ∧ a' = { tmps := #[.agg #[.int .i64 k.1, .int .i64 k.2.1, .string k.2.2.1, .bool k.2.2.2], .pointer (some ⟨w.heap.size, 0, none⟩), .pointer (some ⟨w.heap.size + 1, 0, none⟩), .pointer (some ⟨w2.heap.size, 0, none⟩), .bool true, .pointer (some ⟨Bx, 0, none⟩), .pointer (some ⟨w.heap.size, 0, none⟩), .int .i64 k.1, .bool false, undef, undef, undef, .tuple #[(.func (.func 52) #[] #[.pointer (some ⟨q, 0, none⟩)]), .bool true], .agg #[.int .i64 k.1, .int .i64 k.2.1, .string k.2.2.1, .bool k.2.2.2], .tuple #[(.func (.func 52) #[] #[.pointer (some ⟨q, 0, none⟩)]), .bool true], (.func (.func 52) #[] #[.pointer (some ⟨q, 0, none⟩)]), .bool true, .bool true, .bool false, .agg #[.string x.1.1, .int .i64 x.1.2], undef, undef, undef, undef, undef, undef, undef, undef], defers := [] })
    (fun x a' _ X Y row hs hg hr => by obtain ⟨Bx, e1, e2, e3⟩ := hs; exact ⟨Bx, e1, blk_own Bx _ (fun (_ : Unit) => #[Value.string x.1.1, .int .i64 x.1.2]) () X Y row e2 hg (fun r e => (hr r e).2), e3⟩)
    ?assign ?body ?done ?stop
  case assign =>
    rintro l pre x W K ⟨⟨⟨hp, bR1⟩, bF1, bQ1⟩, hB1⟩ hK
    gi_wp2
    exact hK _ _ ((KeepsOthers.alloc _ _).from _) (KpE.below (below_alloc _ _)) ⟨⟨⟨hp, bR1.alloc _⟩, bF1.alloc _, bQ1.alloc _⟩, hB1.alloc hB1.size _⟩ ⟨W.heap.size, bF1.lt, heap_alloc_new _ _, rfl⟩
  case body =>
    rintro l pre x a' W hl ⟨r, hr⟩ ⟨⟨⟨hp, bR1⟩, bF1, bQ1⟩, hB1⟩ ⟨Bx, hBx, bX, rfl⟩ hlt
    obtain ⟨⟨s, v⟩, hsz⟩ := x
    dsimp only at bX
    have c0 := cell_of_row _ _ 0 _ _ _ bX
    have c1 := cell_of_row _ _ 1 _ _ _ bX
    dsimp at c0 c1
    have cF := bF1.cell
    have bA := below_alloc W (.cells #[.string s, .int .i64 v] 82)
    have EF := Lib.hid (efind_any s nm v q W bQ1.cell)
    by_cases hn : s = nm
    · subst hn
      have hd : decide (s = s) = true := decide_eq_true rfl
      have cX1 := cell_of_row _ _ 1 _ _ _ (blk_below bX bA)
      dsimp at cX1
      have bR2 := bR1.alloc (.cells #[.string s, .int .i64 v] 82)
      have cR2 := bR2.cell
      have fR2 := bR2.frozen
      rw [hd] at EF
      clear hd
      gi_wp2_with (refine ⟨trivial, ?_⟩; gi_at_call 52; refine (CallsIn.inRound l (callsIn_wide.2 EF.out)).mono ?_; rintro e w' ⟨rfl, rfl⟩)
      exact ⟨((KeepsOthers.alloc _ _).trans (KeepsOthers.setCell _ _ _)).from _, ⟨⟨(s, v), hsz⟩, ⟨rfl, by simp, rfl⟩, bR2.set _⟩, (hB1.trans (bA.mono hB1.size)).setCell (p := ⟨w.heap.size + 1, 0, none⟩) (by simp) _⟩
    · have hd := decide_eq_false hn
      have hp2 : ∀ y ∈ pre ++ [(⟨(s, v), hsz⟩ : ES)], y.1.1 ≠ nm := by
        intro y hy
        rcases List.mem_append.1 hy with h | h
        · exact hp y h
        · rw [List.mem_singleton] at h
          rw [h]
          exact hn
      rw [hd] at EF
      clear hd
      gi_wp2_with (refine ⟨trivial, ?_⟩; gi_at_call 52; refine (CallsIn.inRound l (callsIn_wide.2 EF.out)).mono ?_; rintro e w' ⟨rfl, rfl⟩)
      exact ⟨(KeepsOthers.alloc _ _).from _, KpE.below bA, ⟨⟨⟨hp2, bR1.alloc _⟩, bF1.alloc _, bQ1.alloc _⟩, hB1.trans (bA.mono hB1.size)⟩⟩
  case done =>
    rintro D xs W hD rfl ⟨⟨⟨hp, _⟩, _⟩, _⟩ hK
    obtain ⟨x, hx, hn⟩ := HE.out
    exact absurd hn (hp x hx)
  case stop =>
    rintro D c' pre W hD hpre ⟨⟨x, ⟨rfl, hx, hn⟩, bR1⟩, hB1⟩ hK
    have hc := HUQ.out x (hpre.subset hx) hn
    rw [hc] at bR1
    have cR := cell_kept bR1.cell (grownBy_putObj' W D (.deferred none)) (fun r e => by cases e; exact ⟨_, hK, rfl⟩)
    gi_wp2
    refine ⟨by simp, .inl ⟨_, _, rfl, run_takeDeferred hK, ?_⟩⟩
    exact ⟨_, by simp [results, Tryd.results22, go_sem, cR], rfl, hB1.trans (belowK_b (w := w) (Nat.le_refl _) W D _ _ (Nat.le_trans hws.out hD) hK rfl rfl)⟩
end Go.Proofs.YtgnhnalaakgamaaDoor
set_option linter.unusedVariables false
set_option linter.unusedSimpArgs false
namespace Go.Proofs.YtgnhnalaakgamaaDoor
open Go.RowKit Go.Shelf
attribute [local go_sem] Oper.semAt_some
theorem own_typE {w : World} {B n s : Nat} {T : TypeId} {v : Value} {vs : List Value} (h : w.ownsRow B T s v n vs) (q : Nat) (hq : v.ownBlock = some q) : ∃ cs, w.heap[q]? = some (.cells cs T (0, 0)) := by
  rcases h.2 with ⟨rfl, _⟩ | ⟨g, cap, cur, rfl, _, hg, _⟩
  · simp [Value.ownBlock] at hq
  · have e : g = q := by simpa [Value.ownBlock] using hq
    subst e
    exact ⟨cur, hg⟩
theorem infoEk : (Tryd.prog.info? 34).map (fun i => (i.zero, i.size, i.bytes)) = some (some (.agg #[.int .i64 0, .int .i64 0, .string ByteArray.empty, .bool false]), 4, 40) := by kernel_rfl
/-- How many rows of a command are keys. -/
def cntE (m : Int) (l : List ES) : Nat := (l.filter fun x => decide (x.1.2 = m) && decide (prE x.1.1.data.toList = 0)).length
theorem cntE_app (m : Int) (l : List ES) (x : ES) : cntE m (l ++ [x]) = cntE m l + (if x.1.2 = m ∧ prE x.1.1.data.toList = 0 then 1 else 0) := by
  unfold cntE
  rw [List.filter_append, List.length_append]
  by_cases h : x.1.2 = m ∧ prE x.1.1.data.toList = 0
  · rw [if_pos h, List.filter_cons_of_pos (by simp [h.1, h.2])]; rfl
  · rw [if_neg h, List.filter_cons_of_neg (by simpa using h)]; rfl
theorem cntE_le (m : Int) (l : List ES) : cntE m l ≤ l.length := List.length_filter_le _ _
theorem keepsO_below {W W' : World} (b : Below W.heap.size W W') : KeepsOthers W W' := ⟨b.size, fun k o hk _ => (b.block k (Array.getElem?_eq_some_iff.1 hk).1).trans hk⟩
theorem kpE_grow {W W' : World} {u : Option Nat} {T : TypeId} (hg : W.grownBy W' u) (hu : ∀ q, u = some q → ∃ cs, W.heap[q]? = some (Obj.cells cs T (0, 0))) (hT : T ≠ 82 ∧ T ≠ 96) : KpE W W' := by
  refine ⟨hg.size, fun k cs T' f hk hT' => (hg.block k (Array.getElem?_eq_some_iff.1 hk).1 (fun e => ?_)).trans hk⟩
  obtain ⟨c2, h2⟩ := hu k e.symm
  rw [hk] at h2
  injection h2 with h2
  injection h2 with _ h3 _
  rcases hT' with h | h
  · exact hT.1 (h3.symm.trans h)
  · exact hT.2 (h3.symm.trans h)
end Go.Proofs.YtgnhnalaakgamaaDoor
set_option linter.unusedVariables false
set_option linter.unusedSimpArgs false
namespace Go.Proofs.YtgnhnalaakgamaaDoor
open Go.RowKit
def s_ke : ByteArray := ⟨#[107, 105, 108, 108, 45, 101, 110, 100]⟩
set_option maxRecDepth 100000 in
theorem en_inj : ∀ j k, j < 42 → k < 42 → enS.getD j ⟨#[]⟩ = enS.getD k ⟨#[]⟩ → j = k := by
  have h : ∀ j k : Fin 42, enS.getD j.val ⟨#[]⟩ = enS.getD k.val ⟨#[]⟩ → j = k := by decide +kernel
  intro j k hj hk e
  have := h ⟨j, hj⟩ ⟨k, hk⟩ e
  simpa using this
theorem eparse_yes (k : Nat) (hk : k < 42) (s : ByteArray) (hs : enS.getD k ⟨#[]⟩ = s) (w : World) (hN : EN w) : Calls Tryd.prog 27 #[.string s] w fun e w' => e = .returned (.tuple #[.int .i64 (k : Int), .int .i64 0]) ∧ Below w.heap.size w w' := by
  refine (eparse_any s w hN).mono ?_
  rintro e w' ⟨⟨j, hj, hjs, rfl⟩ | ⟨hno, _⟩, hb⟩
  · have e := en_inj j k hj hk (hjs.trans hs.symm)
    subst e
    exact ⟨rfl, hb⟩
  · exact absurd hs (hno k hk)
set_option maxRecDepth 100000 in
theorem er_ck : (∀ x ∈ erT 3, x.1.1 = (⟨#[67, 45, 107]⟩ : ByteArray) → x.1.2 = 10) ∧ (∃ x ∈ erT 3, x.1.1 = (⟨#[67, 45, 107]⟩ : ByteArray)) := by
  constructor
  · decide +kernel
  · decide +kernel
set_option maxRecDepth 100000 in
theorem er_ret : (∀ x ∈ erT 3, x.1.1 = (⟨#[82, 69, 84]⟩ : ByteArray) → x.1.2 = 33) ∧ (∃ x ∈ erT 3, x.1.1 = (⟨#[82, 69, 84]⟩ : ByteArray)) := by
  constructor
  · decide +kernel
  · decide +kernel
set_option maxRecDepth 100000 in
theorem er_cnt : cntE 10 (erT 3) = 1 := by decide +kernel
theorem k_ck : mkS (nmR (2, 11, ⟨#[]⟩, false)) = ⟨#[67, 45, 107]⟩ ∧ ckE (2, 11, ⟨#[]⟩, false) = 0 := by decide +kernel
theorem k_ret : mkS (nmR (4, 13, ⟨#[]⟩, false)) = ⟨#[82, 69, 84]⟩ ∧ ckE (4, 13, ⟨#[]⟩, false) = 0 := by decide +kernel
theorem eparse_no (s : ByteArray) (hno : ∀ j, j < 42 → enS.getD j ⟨#[]⟩ ≠ s) (w : World) (hN : EN w) : Calls Tryd.prog 27 #[.string s] w fun e w' => e = .returned (.tuple #[.int .i64 0, .int .i64 6]) ∧ Below w.heap.size w w' := by
  refine (eparse_any s w hN).mono ?_
  rintro e w' ⟨⟨j, hj, hjs, _⟩ | ⟨_, rfl⟩, hb⟩
  · exact absurd hjs (hno j hj)
  · exact ⟨rfl, hb⟩
theorem ename_in (k : Nat) (hk : k < 42) (s : ByteArray) (hs : enS.getD k ⟨#[]⟩ = s) (w : World) (hN : EN w) : Calls Tryd.prog 14 #[.int .i64 (k : Int)] w fun e w' => e = .returned (.tuple #[.string s, .int .i64 0]) ∧ w' = w := by
  have h := ename_any k w hN
  have e1 : enN k = s := by unfold enN; rw [if_pos (by omega)]; exact hs
  have e2 : enE k = 0 := if_pos (by omega)
  rw [e1, e2] at h
  exact h
theorem ename_out (n : Int) (hn : n < 0 ∨ 41 < n) (w : World) (hN : EN w) : Calls Tryd.prog 14 #[.int .i64 n] w fun e w' => e = .returned (.tuple #[.string ⟨#[]⟩, .int .i64 3]) ∧ w' = w := by
  have h := ename_any n w hN
  have e1 : enN n = ⟨#[]⟩ := if_neg (by omega)
  have e2 : enE n = 3 := if_neg (by omega)
  rw [e1, e2] at h
  exact h
section
variable {n : Int} {s : ByteArray} {w : World}
end
end Go.Proofs.YtgnhnalaakgamaaDoor
set_option linter.unusedVariables false
set_option linter.unusedSimpArgs false
namespace Go.Proofs.YtgnhnalaakgamaaDoor
open Go.RowKit Go.Shelf
attribute [local go_sem] Oper.semAt_some
set_option maxRecDepth 100000 in
set_option maxHeartbeats 4000000 in
theorem ecmd_none (k : Ky) (nm : ByteArray) (c : Int) (w : World) (hK : KT w) (h15 : ¬ k.1 = 15) (h1 : mkS (nmR k) = nm) (h2 : ckE k = 0) (hno : ∀ x ∈ erT 3, x.1.1 ≠ nm) (hc : (if k.1 = 1 then 1 else 0) = c) :
    Calls Tryd.prog 22 #[.agg #[.int .i64 k.1, .int .i64 k.2.1, .string k.2.2.1, .bool k.2.2.2]] w fun e w' => e = .returned (.int .i64 c) ∧ Below w.heap.size w w' := by
  have b1 := below_alloc w (.cells #[.int .i64 k.1, .int .i64 k.2.1, .string k.2.2.1, .bool k.2.2.2] 34)
  have r1 := heap_alloc_new w (.cells #[.int .i64 k.1, .int .i64 k.2.1, .string k.2.2.1, .bool k.2.2.2] 34)
  have b2 := below_alloc (w.alloc (.cells #[.int .i64 k.1, .int .i64 k.2.1, .string k.2.2.1, .bool k.2.2.2] 34)) (.cells #[.int .i64 0] 3)
  have r2 := heap_alloc_new (w.alloc (.cells #[.int .i64 k.1, .int .i64 k.2.1, .string k.2.2.1, .bool k.2.2.2] 34)) (.cells #[.int .i64 0] 3)
  have hz1 : (w.alloc (.cells #[.int .i64 k.1, .int .i64 k.2.1, .string k.2.2.1, .bool k.2.2.2] 34)).heap.size = w.heap.size + 1 := by simp
  rw [hz1] at r2
  have r12 := blk_below r1 b2
  have b12 := seqB b1 b2
  obtain ⟨W, hW⟩ : ∃ W, (w.alloc (.cells #[.int .i64 k.1, .int .i64 k.2.1, .string k.2.2.1, .bool k.2.2.2] 34)).alloc (.cells #[.int .i64 0] 3) = W := ⟨_, rfl⟩
  rw [hW] at r2 r12 b12
  have FD := Lib.hid (efinder_t k W (hK.below b12) nm h1 h2)
  have x0 := cell_of_row _ _ 0 _ _ _ r12
  have x1 := cell_of_row _ _ 1 _ _ _ r12
  have x2 := cell_of_row _ _ 2 _ _ _ r12
  have x3 := cell_of_row _ _ 3 _ _ _ r12
  dsimp at x0 x1 x2 x3
  have h15b : (k.1 == 15) = false := beq_eq_false_iff_ne.2 h15
  have NW := Lib.hid b12
  have RW := Lib.hid r2
  have HNO := Lib.hid hno
  have HCC := Lib.hid hc
  have RX := Lib.hid r12
  clear b1 r1 b2 r2 r12 b12 hz1 hK h1 h2 hno hc
  have hsf : ∀ (w : World) (ad : Addr) (fn : Fn) (first cap : Array Value), (store ad (.func fn first cap)).run Tryd.prog w = stored Tryd.prog w ad (.func fn first cap) .plain := fun w ad _ _ _ => run_store _ w ad _ _ rfl
  refine (callsIn_wide (n := 6)).1 ?_
  refine callsIn_of_wp_marks Tryd.func22 rfl trivial ?_ rfl
  simp only [Tryd.ntmps22, List.size_toArray, List.length_cons, List.length_nil, Nat.reduceAdd, Nat.reduceSub, Array.replicate_succ, Array.replicate_zero, List.push_toArray, List.append_toArray, List.nil_append, List.cons_append]
  gi_wp2_with (refine ⟨trivial, ?_⟩; gi_at_call 37; refine (callsIn_wide.2 FD.out).mono ?_; rintro e w2 ⟨q, rfl, hq, hb⟩; have Q2 := Lib.hid hq; have B2 := Lib.hid hb; have y2 := Boxed.new w2 77 .nilFunc; have yc2 := y2.cell; have yf2 := y2.frozen; clear hb hq)
  have bF := Boxed.new w2 77 (.func (.func 52) #[] #[.pointer (some ⟨q, 0, none⟩)])
  have N2 := seqB NW.out B2.out
  have ba3 := below_alloc w2 (.cells #[(.func (.func 52) #[] #[.pointer (some ⟨q, 0, none⟩)])] 77)
  have N3 := Lib.hid (seqB N2 ba3)
  have R3 := Lib.hid (blk_below (blk_below RW.out B2.out) ba3)
  have Q3 := Lib.hid (blk_below Q2.out ba3)
  have X3 := Lib.hid (blk_below (blk_below RX.out B2.out) ba3)
  have hR2 := Lib.hid (Nat.lt_of_lt_of_le (blk_lt RW.out) B2.out.size)
  have hql := Lib.hid (blk_lt Q2.out)
  obtain ⟨W3, hW3⟩ : ∃ W3, w2.alloc (.cells #[(.func (.func 52) #[] #[.pointer (some ⟨q, 0, none⟩)])] 77) = W3 := ⟨_, rfl⟩
  rw [hW3] at bF N3 R3 Q3 X3
  have hs3 : W3.heap.size = w2.heap.size + 1 := by rw [← hW3]; simp
  try rw [hW3]
  clear hW3 hW y2 yc2 yf2 ba3 N2 x0 x1 x2 x3 RW NW Q2 FD
  have BF := Lib.hid bF
  have hws := Lib.hid N3.out.size
  refine wpIn_rangeFunc_ownH rfl (by decide) (gf := 38) (lb := #[]) rfl trivial (enters_of Tryd.func38 (by kernel_rfl) rfl)
    (rows_stops 5 (by decide) W3) kpE_t kpE_b (Below.refl _ _) (fun _ => rfl)
    (fun pre W => (((∀ x ∈ pre, x.1.1 ≠ nm) ∧ Boxed W (w.heap.size + 1) 3 (.int .i64 0)) ∧ (Boxed W w2.heap.size 77 (.func (.func 52) #[] #[.pointer (some ⟨q, 0, none⟩)]) ∧ (Boxed W q 9 (.string nm) ∧ W.heap[w.heap.size]? = some (Obj.cells #[.int .i64 k.1, .int .i64 k.2.1, .string k.2.2.1, .bool k.2.2.2] 34 (0, 0))))) ∧ Below w.heap.size w W)
    (fun c pre W => (∃ x, (c = .ret ∧ x ∈ pre ∧ x.1.1 = nm) ∧ Boxed W (w.heap.size + 1) 3 (.int .i64 x.1.2)) ∧ Below w.heap.size w W)
    (OwnFrom.and (OwnFrom.and (OwnFrom.and (ownFrom_pure _ _) (Own.from (boxed_own _ _ _) _)) (OwnFrom.and (Own.from (boxed_own _ _ _) _) (OwnFrom.and (Own.from (boxed_own _ _ _) _) (Own.from (blk_own _ _ _) _)))) (ownFrom_below (Nat.le_refl _) hws.out))
    (fun c => OwnFrom.and (fun s X Y row hs hg hr => by obtain ⟨x, e1, e2⟩ := hs; exact ⟨x, e1, boxed_own _ _ (fun (_ : Unit) => Value.int .i64 x.1.2) () X Y row e2 hg (fun r e => (hr r e).2)⟩) (ownFrom_below (Nat.le_refl _) hws.out))
    ⟨⟨⟨by simp, R3.out⟩, BF.out, Q3.out, X3.out⟩, N3.out⟩
    (fun x a' W => ∃ Bx, w2.heap.size < Bx ∧ W.heap[Bx]? = some (Obj.cells #[.string x.1.1, .int .i64 x.1.2] 82 (0, 0)) ∧ a' = { tmps := #[.agg #[.int .i64 k.1, .int .i64 k.2.1, .string k.2.2.1, .bool k.2.2.2], .pointer (some ⟨w.heap.size, 0, none⟩), .pointer (some ⟨w.heap.size + 1, 0, none⟩), .pointer (some ⟨w2.heap.size, 0, none⟩), .bool true, .pointer (some ⟨Bx, 0, none⟩), .pointer (some ⟨w.heap.size, 0, none⟩), .int .i64 k.1, .bool false, undef, undef, undef, .tuple #[(.func (.func 52) #[] #[.pointer (some ⟨q, 0, none⟩)]), .bool true], .agg #[.int .i64 k.1, .int .i64 k.2.1, .string k.2.2.1, .bool k.2.2.2], .tuple #[(.func (.func 52) #[] #[.pointer (some ⟨q, 0, none⟩)]), .bool true], (.func (.func 52) #[] #[.pointer (some ⟨q, 0, none⟩)]), .bool true, .bool true, .bool false, .agg #[.string x.1.1, .int .i64 x.1.2], undef, undef, undef, undef, undef, undef, undef, undef], defers := [] })
    (fun x a' _ X Y row hs hg hr => by obtain ⟨Bx, e1, e2, e3⟩ := hs; exact ⟨Bx, e1, blk_own Bx _ (fun (_ : Unit) => #[Value.string x.1.1, .int .i64 x.1.2]) () X Y row e2 hg (fun r e => (hr r e).2), e3⟩)
    ?assign ?body ?done ?stop
  case assign =>
    rintro l pre x W K ⟨⟨⟨hp, bR1⟩, bF1, bQ1, bK1⟩, hB1⟩ hK
    gi_wp2
    exact hK _ _ ((KeepsOthers.alloc _ _).from _) (KpE.below (below_alloc _ _)) ⟨⟨⟨hp, bR1.alloc _⟩, bF1.alloc _, bQ1.alloc _, blk_below bK1 (below_alloc _ _)⟩, hB1.alloc hB1.size _⟩ ⟨W.heap.size, bF1.lt, heap_alloc_new _ _, rfl⟩
  case body =>
    rintro l pre x a' W hl ⟨r, hr⟩ ⟨⟨⟨hp, bR1⟩, bF1, bQ1, bK1⟩, hB1⟩ ⟨Bx, hBx, bX, rfl⟩ hlt
    obtain ⟨⟨s, v⟩, hsz⟩ := x
    dsimp only at bX
    have c0 := cell_of_row _ _ 0 _ _ _ bX
    have c1 := cell_of_row _ _ 1 _ _ _ bX
    dsimp at c0 c1
    have cF := bF1.cell
    have bA := below_alloc W (.cells #[.string s, .int .i64 v] 82)
    have EF := Lib.hid (efind_any s nm v q W bQ1.cell)
    by_cases hn : s = nm
    · subst hn
      have hd : decide (s = s) = true := decide_eq_true rfl
      have cX1 := cell_of_row _ _ 1 _ _ _ (blk_below bX bA)
      dsimp at cX1
      have bR2 := bR1.alloc (.cells #[.string s, .int .i64 v] 82)
      have cR2 := bR2.cell
      have fR2 := bR2.frozen
      rw [hd] at EF
      clear hd
      gi_wp2_with (refine ⟨trivial, ?_⟩; gi_at_call 52; refine (CallsIn.inRound l (callsIn_wide.2 EF.out)).mono ?_; rintro e w' ⟨rfl, rfl⟩)
      exact ⟨((KeepsOthers.alloc _ _).trans (KeepsOthers.setCell _ _ _)).from _, ⟨⟨(s, v), hsz⟩, ⟨rfl, by simp, rfl⟩, bR2.set _⟩, (hB1.trans (bA.mono hB1.size)).setCell (p := ⟨w.heap.size + 1, 0, none⟩) (by simp) _⟩
    · have hd := decide_eq_false hn
      have hp2 : ∀ y ∈ pre ++ [(⟨(s, v), hsz⟩ : ES)], y.1.1 ≠ nm := by
        intro y hy
        rcases List.mem_append.1 hy with h | h
        · exact hp y h
        · rw [List.mem_singleton] at h
          rw [h]
          exact hn
      rw [hd] at EF
      clear hd
      gi_wp2_with (refine ⟨trivial, ?_⟩; gi_at_call 52; refine (CallsIn.inRound l (callsIn_wide.2 EF.out)).mono ?_; rintro e w' ⟨rfl, rfl⟩)
      exact ⟨(KeepsOthers.alloc _ _).from _, KpE.below bA, ⟨⟨⟨hp2, bR1.alloc _⟩, bF1.alloc _, bQ1.alloc _, blk_below bK1 bA⟩, hB1.trans (bA.mono hB1.size)⟩⟩
  case done =>
    rintro D xs W hD rfl ⟨⟨⟨hp, bR1⟩, _, _, bK1⟩, hB1⟩ hK
    have y0 := cell_of_row _ _ 0 _ _ _ bK1
    dsimp at y0
    have cR := bR1.cell
    have fR := bR1.frozen
    have hRD : D ≠ w.heap.size + 1 := by
      have h1 := hws.out
      have h2 := hR2.out
      omega
    by_cases hk1 : k.1 = 1
    · have hk1b : (k.1 == 1) = true := by rw [hk1]; rfl
      have hc := HCC.out
      rw [if_pos hk1] at hc
      subst hc
      rw [hk1] at y0
      gi_wp2
      have hK2 := (KeepsOthers.setCell W ⟨w.heap.size + 1, 0, none⟩ (.int .i64 1)).same D _ hK rfl
      have cR2 := cell_kept (bR1.set (.int .i64 1)).cell (grownBy_putObj' _ D (.deferred none)) (fun r e => by cases e; exact ⟨_, hK2, rfl⟩)
      refine ⟨by simp, .inl ⟨_, _, rfl, run_takeDeferred hK2, ?_⟩⟩
      exact ⟨_, by simp [results, Tryd.results22, go_sem, cR2], rfl, (hB1.setCell (p := ⟨w.heap.size + 1, 0, none⟩) (by simp) _).trans (belowK_b (w := w) (Nat.le_refl _) _ D _ _ (Nat.le_trans hws.out hD) hK2 rfl rfl)⟩
    · have hk1b : (k.1 == 1) = false := beq_eq_false_iff_ne.2 hk1
      have hc := HCC.out
      rw [if_neg hk1] at hc
      subst hc
      gi_wp2
      have hK2 := (KeepsOthers.setCell W ⟨w.heap.size + 1, 0, none⟩ (.int .i64 0)).same D _ hK rfl
      have cR2 := cell_kept (bR1.set (.int .i64 0)).cell (grownBy_putObj' _ D (.deferred none)) (fun r e => by cases e; exact ⟨_, hK2, rfl⟩)
      refine ⟨by simp, .inl ⟨_, _, rfl, run_takeDeferred hK2, ?_⟩⟩
      exact ⟨_, by simp [results, Tryd.results22, go_sem, cR2], rfl, (hB1.setCell (p := ⟨w.heap.size + 1, 0, none⟩) (by simp) _).trans (belowK_b (w := w) (Nat.le_refl _) _ D _ _ (Nat.le_trans hws.out hD) hK2 rfl rfl)⟩
  case stop =>
    rintro D c' pre W hD hpre ⟨⟨x, ⟨rfl, hx, hn⟩, _⟩, _⟩ hK
    exact absurd hn (HNO.out x (hpre.subset hx))
end Go.Proofs.YtgnhnalaakgamaaDoor
set_option linter.unusedVariables false
set_option linter.unusedSimpArgs false
namespace Go.Proofs.YtgnhnalaakgamaaDoor
open Go.RowKit
set_option maxRecDepth 100000 in
theorem efinder_no (k : Ky) (w : World) (hK : KT w) (nm : ByteArray) (er : Int) (h1 : mkS (nmR k) = nm) (h2 : ckE k = er) (h0 : (er == 0) = false) :
    Calls Tryd.prog 37 #[.agg #[.int .i64 k.1, .int .i64 k.2.1, .string k.2.2.1, .bool k.2.2.2]] w fun e w' => ∃ q, e = .returned (.tuple #[.func (.func 52) #[] #[.pointer (some ⟨q, 0, none⟩)], .bool false]) ∧ Below w.heap.size w w' := by
  have hmf : ∀ (fn : Fn) (first cap : Array Value) (w : World), (Instr.makeFunc fn first cap).run Tryd.prog w = .ok (.func fn first cap) w := fun _ _ _ _ => rfl
  have B0 := below_alloc w (.cells #[.int .i64 k.1, .int .i64 k.2.1, .string k.2.2.1, .bool k.2.2.2] 34)
  have NM := Lib.hid (kname_t k (w.alloc (.cells #[.int .i64 k.1, .int .i64 k.2.1, .string k.2.2.1, .bool k.2.2.2] 34)) (hK.below B0) nm er h1 h2)
  have HB0 := Lib.hid B0
  have hne : ¬ er = 0 := by simpa using h0
  clear B0 hK h1 h2
  go_enter Tryd.func37, Tryd.ntmps37
  go_wp2_with (go_at_call 29; refine NM.out.mono ?_; rintro e w2 ⟨rfl, hb⟩; have N2 := Lib.hid (seqB HB0.out hb); have N3 := Lib.hid (seqB N2.out (below_alloc w2 (.cells #[.string nm] 9))); clear hb NM)
  refine bodyPost_ret (results_tmp2 rfl _ _ _) rfl ?_
  exact ⟨w2.heap.size, rfl, N3.out⟩
section
variable {k : Ky} {w : World}
set_option maxRecDepth 100000 in
theorem ecmd_bad (hK : KT w) (h15 : ¬ k.1 = 15) (hb : keyB k = false) :
    Calls Tryd.prog 22 #[.agg #[.int .i64 k.1, .int .i64 k.2.1, .string k.2.2.1, .bool k.2.2.2]] w fun e w' => e = .returned (.int .i64 0) ∧ Below w.heap.size w w' := by
  have b1 := below_alloc w (.cells #[.int .i64 k.1, .int .i64 k.2.1, .string k.2.2.1, .bool k.2.2.2] 34)
  have r1 := heap_alloc_new w (.cells #[.int .i64 k.1, .int .i64 k.2.1, .string k.2.2.1, .bool k.2.2.2] 34)
  have b2 := below_alloc (w.alloc (.cells #[.int .i64 k.1, .int .i64 k.2.1, .string k.2.2.1, .bool k.2.2.2] 34)) (.cells #[.int .i64 0] 3)
  have r2 := heap_alloc_new (w.alloc (.cells #[.int .i64 k.1, .int .i64 k.2.1, .string k.2.2.1, .bool k.2.2.2] 34)) (.cells #[.int .i64 0] 3)
  have hz1 : (w.alloc (.cells #[.int .i64 k.1, .int .i64 k.2.1, .string k.2.2.1, .bool k.2.2.2] 34)).heap.size = w.heap.size + 1 := by simp
  rw [hz1] at r2
  have r12 := blk_below r1 b2
  have b12 := seqB b1 b2
  obtain ⟨W, hW⟩ : ∃ W, (w.alloc (.cells #[.int .i64 k.1, .int .i64 k.2.1, .string k.2.2.1, .bool k.2.2.2] 34)).alloc (.cells #[.int .i64 0] 3) = W := ⟨_, rfl⟩
  rw [hW] at r2 r12 b12
  have FD := Lib.hid (efinder_no k W (hK.below b12) _ 2 rfl (ckE_no hb) rfl)
  have x0 := cell_of_row _ _ 0 _ _ _ r12
  have x1 := cell_of_row _ _ 1 _ _ _ r12
  have x2 := cell_of_row _ _ 2 _ _ _ r12
  have x3 := cell_of_row _ _ 3 _ _ _ r12
  dsimp at x0 x1 x2 x3
  have h15b : (k.1 == 15) = false := beq_eq_false_iff_ne.2 h15
  have NW := Lib.hid b12
  have RW := Lib.hid r2
  have hsf : ∀ (w : World) (ad : Addr) (fn : Fn) (first cap : Array Value), (store ad (.func fn first cap)).run Tryd.prog w = stored Tryd.prog w ad (.func fn first cap) .plain := fun w ad _ _ _ => run_store _ w ad _ _ rfl
  clear b1 r1 b2 r2 r12 b12 hz1 hK hb
  go_enter Tryd.func22, Tryd.ntmps22
  go_wp2_with (go_at_call 37; refine FD.out.mono ?_; rintro e w2 ⟨q, rfl, hb⟩; have y2 := Boxed.new w2 77 .nilFunc; have yc2 := y2.cell; have yf2 := y2.frozen; have b3 := seqB hb (below_alloc w2 (.cells #[.func (.func 52) #[] #[.pointer (some ⟨q, 0, none⟩)]] 77)); have R3 := Lib.hid (blk_below RW.out b3); have N3 := Lib.hid (seqB NW.out b3); have cR3 := (show Boxed _ (w.heap.size + 1) 3 (.int .i64 0) from R3.out).cell; have fR3 := (show Boxed _ (w.heap.size + 1) 3 (.int .i64 0) from R3.out).frozen; clear hb b3)
  have cR4 := ((show Boxed _ (w.heap.size + 1) 3 (.int .i64 0) from R3.out).set (.int .i64 0)).cell
  refine bodyPost_ret (v := .int .i64 0) (by simp [results, Tryd.results22, go_sem, cR4]) rfl ?_
  exact ⟨rfl, N3.out.setCell (p := ⟨w.heap.size + 1, 0, none⟩) (by simp) _⟩
set_option maxHeartbeats 600000 in
set_option maxRecDepth 100000 in
theorem ecmd_paste (hK : KT w) (h15 : k.1 = 15) :
    Calls Tryd.prog 22 #[.agg #[.int .i64 k.1, .int .i64 k.2.1, .string k.2.2.1, .bool k.2.2.2]] w fun e w' => e = .returned (.int .i64 (if keyB k then 38 else 0)) ∧ Below w.heap.size w w' := by
  obtain ⟨kd, kv, kt, kc⟩ := k
  obtain rfl : kd = 15 := h15
  dsimp only
  have b1 := below_alloc w (.cells #[.int .i64 15, .int .i64 kv, .string kt, .bool kc] 34)
  have r1 := heap_alloc_new w (.cells #[.int .i64 15, .int .i64 kv, .string kt, .bool kc] 34)
  have b2 := below_alloc (w.alloc (.cells #[.int .i64 15, .int .i64 kv, .string kt, .bool kc] 34)) (.cells #[.int .i64 0] 3)
  have r2 := heap_alloc_new (w.alloc (.cells #[.int .i64 15, .int .i64 kv, .string kt, .bool kc] 34)) (.cells #[.int .i64 0] 3)
  have hz1 : (w.alloc (.cells #[.int .i64 15, .int .i64 kv, .string kt, .bool kc] 34)).heap.size = w.heap.size + 1 := by simp
  rw [hz1] at r2
  have r12 := blk_below r1 b2
  have b12 := seqB b1 b2
  obtain ⟨W, hW⟩ : ∃ W, (w.alloc (.cells #[.int .i64 15, .int .i64 kv, .string kt, .bool kc] 34)).alloc (.cells #[.int .i64 0] 3) = W := ⟨_, rfl⟩
  rw [hW] at r2 r12 b12
  have CK : Hid (Calls Tryd.prog 36 #[.agg #[.int .i64 15, .int .i64 kv, .string kt, .bool kc]] W fun e w' => e = .returned (.int .i64 (ckE (15, kv, kt, kc))) ∧ Below W.heap.size W w') := Lib.hid (kcheck_any (15, kv, kt, kc) W (hK.below b12))
  have x0 := cell_of_row _ _ 0 _ _ _ r12
  have x1 := cell_of_row _ _ 1 _ _ _ r12
  have x2 := cell_of_row _ _ 2 _ _ _ r12
  have x3 := cell_of_row _ _ 3 _ _ _ r12
  dsimp at x0 x1 x2 x3
  have NW := Lib.hid b12
  have RW := Lib.hid r2
  cases hb : keyB (15, kv, kt, kc) with
  | true =>
    rw [ckE_yes hb] at CK
    clear b1 r1 b2 r2 r12 b12 hz1 hK hb
    go_enter Tryd.func22, Tryd.ntmps22
    go_wp2_with (go_at_call 36; refine CK.out.mono ?_; rintro e w2 ⟨rfl, hb⟩; have R3 := Lib.hid (blk_below RW.out hb); have N3 := Lib.hid (seqB NW.out hb); have cR3 := (show Boxed _ (w.heap.size + 1) 3 (.int .i64 0) from R3.out).cell; have fR3 := (show Boxed _ (w.heap.size + 1) 3 (.int .i64 0) from R3.out).frozen; clear hb)
    have cR4 := ((show Boxed _ (w.heap.size + 1) 3 (.int .i64 0) from R3.out).set (.int .i64 38)).cell
    refine bodyPost_ret (v := .int .i64 38) (by simp [results, Tryd.results22, go_sem, cR4]) rfl ?_
    exact ⟨rfl, N3.out.setCell (p := ⟨w.heap.size + 1, 0, none⟩) (by simp) _⟩
  | false =>
    rw [ckE_no hb] at CK
    clear b1 r1 b2 r2 r12 b12 hz1 hK hb
    go_enter Tryd.func22, Tryd.ntmps22
    go_wp2_with (go_at_call 36; refine CK.out.mono ?_; rintro e w2 ⟨rfl, hb⟩; have R3 := Lib.hid (blk_below RW.out hb); have N3 := Lib.hid (seqB NW.out hb); have cR3 := (show Boxed _ (w.heap.size + 1) 3 (.int .i64 0) from R3.out).cell; have fR3 := (show Boxed _ (w.heap.size + 1) 3 (.int .i64 0) from R3.out).frozen; clear hb)
    have cR4 := ((show Boxed _ (w.heap.size + 1) 3 (.int .i64 0) from R3.out).set (.int .i64 0)).cell
    refine bodyPost_ret (v := .int .i64 0) (by simp [results, Tryd.results22, go_sem, cR4]) rfl ?_
    exact ⟨rfl, N3.out.setCell (p := ⟨w.heap.size + 1, 0, none⟩) (by simp) _⟩
end
set_option maxRecDepth 100000 in
theorem er_uniq : ∀ x ∈ erT 3, ∀ y ∈ erT 3, x.1.1 = y.1.1 → x.1.2 = y.1.2 := by decide +kernel
def erFind (nm : ByteArray) : Option ES := (erT 3).find? fun x => decide (x.1.1 = nm)
/-- What a key asks for. -/
def cmE (k : Ky) : Int := if k.1 = 15 then (if keyB k then 38 else 0) else if keyB k then ((erFind (mkS (nmR k))).map (·.1.2)).getD (if k.1 = 1 then 1 else 0) else 0
theorem ecmd_any (k : Ky) (w : World) (hK : KT w) :
    Calls Tryd.prog 22 #[.agg #[.int .i64 k.1, .int .i64 k.2.1, .string k.2.2.1, .bool k.2.2.2]] w fun e w' => e = .returned (.int .i64 (cmE k)) ∧ Below w.heap.size w w' := by
  unfold cmE
  by_cases h15 : k.1 = 15
  · rw [if_pos h15]; exact ecmd_paste hK h15
  rw [if_neg h15]
  cases hb : keyB k with
  | false => rw [if_neg (by decide)]; exact ecmd_bad hK h15 hb
  | true =>
    rw [if_pos rfl]
    cases hf : erFind (mkS (nmR k)) with
    | some x =>
      have hx := List.mem_of_find?_eq_some hf
      have hn : x.1.1 = mkS (nmR k) := by simpa using List.find?_some hf
      exact ecmd_t k _ _ w hK h15 rfl (ckE_yes hb) (fun y hy e => er_uniq y hy x hx (e.trans hn.symm)) ⟨x, hx, hn⟩
    | none =>
      have hno : ∀ x ∈ erT 3, x.1.1 ≠ mkS (nmR k) := fun x hx e => by
        have := List.find?_eq_none.1 hf x hx
        simp [e] at this
      exact ecmd_none k _ _ w hK h15 rfl (ckE_yes hb) hno rfl
end Go.Proofs.YtgnhnalaakgamaaDoor
