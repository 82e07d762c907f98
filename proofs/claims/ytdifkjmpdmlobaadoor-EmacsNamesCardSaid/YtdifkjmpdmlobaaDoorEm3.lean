/-
  emacs: the function that goes through the tables.
-/
import Derived.RangeFuncNested
import Derived.RangeFuncBound
import Derived.RangeFuncCalls
import Derived.RangeFuncLeaves
import Derived.Shelf.Abstract
import Derived.Shelf.RegionOpen
import Derived.WalkKit
import Derived.OwnWalkIn
import Derived.TacticsInMore
import Derived.LoopNIn
import Derived.LoopIn
import Derived.Test.YtdifkjmpdmlobaaDoorEm2
set_option linter.unusedVariables false
set_option linter.unusedSimpArgs false
namespace Go.Proofs.YtdifkjmpdmlobaaDoor
set_option maxRecDepth 100000
open Go.RowKit Go.Shelf
attribute [local go_sem] Oper.semAt_some
/-- What the rounds keep: the tables. -/
def KpE (W W' : World) : Prop := W.heap.size ≤ W'.heap.size ∧ ∀ (k : Nat) (cs : Array Value) (T : TypeId) (f : Nat × Nat), W.heap[k]? = some (Obj.cells cs T f) → (T = 142 ∨ T = 157) → W'.heap[k]? = some (Obj.cells cs T f)
theorem kpE_t {A B C : World} (h : KpE A B) (k : KpE B C) : KpE A C := ⟨Nat.le_trans h.1 k.1, fun i cs T f hi hT => k.2 i cs T f (h.2 i cs T f hi hT) hT⟩
theorem kpE_b {w : World} (W : World) (l : Nat) (o o' : Obj) (_ : w.heap.size ≤ l) (h : W.heap[l]? = some o) (hc : o.isCells = false) (_ : o.isWalk = false) : KpE W (W.putObj l o') := by
  refine ⟨(grownBy_putObj' W l o').size, fun k cs T f hk _ => ?_⟩
  by_cases e : k = l
  · subst e
    rw [h] at hk
    injection hk with hk
    rw [hk] at hc
    cases hc
  · exact (World.putObj_heap_other e).trans hk
theorem KpE.below {W W' : World} (h : Below W.heap.size W W') : KpE W W' := ⟨h.size, fun k cs T f hk _ => blk_below hk h⟩
/-- A row with a short name. -/
abbrev ES := { x : ER // x.1.size ≤ 100 }
def esOf (x : ER) : ES := if h : x.1.size ≤ 100 then ⟨x, h⟩ else ⟨(⟨#[]⟩, 0), by decide⟩
theorem esOf_ok {x : ER} (h : x.1.size ≤ 100) : (esOf x).1 = x := by unfold esOf; rw [dif_pos h]
abbrev encE : ES → Array Value := fun x => #[.agg #[.string x.1.1, .int .i64 x.1.2]]
def erP (p : Nat) : List ER := if p = 0 then erA else if p = 1 then erB else erC
def erT (p : Nat) : List ES := (if p = 0 then [] else if p = 1 then erA else if p = 2 then erA ++ erB else erA ++ erB ++ erC).map esOf
theorem erT_next (p : Nat) (h : p < 3) : erT (p + 1) = erT p ++ (erP p).map esOf := by
  rcases (show p = 0 ∨ p = 1 ∨ p = 2 by omega) with rfl | rfl | rfl
  · rfl
  · show (erA ++ erB).map esOf = erA.map esOf ++ erB.map esOf; rw [List.map_append]
  · show (erA ++ erB ++ erC).map esOf = (erA ++ erB).map esOf ++ erC.map esOf; rw [List.map_append]
theorem erT_len (p : Nat) (h : p < 3) : (erT p).length + (erP p).length ≤ 53 := by
  unfold erT
  rw [List.length_map]
  rcases (show p = 0 ∨ p = 1 ∨ p = 2 by omega) with rfl | rfl | rfl <;> decide
theorem erP_z (p : Nat) : ∀ x ∈ erP p, x.1.size ≤ 100 := by
  have hA : ∀ x ∈ erA, x.1.size ≤ 100 := by decide +kernel
  have hB : ∀ x ∈ erB, x.1.size ≤ 100 := by decide +kernel
  have hC : ∀ x ∈ erC, x.1.size ≤ 100 := by decide +kernel
  unfold erP
  split
  · exact hA
  · split
    · exact hB
    · exact hC
theorem erT_pre (p : Nat) (h : p < 3) (k : Nat) : erT p ++ ((erP p).take k).map esOf <+: erT 3 := by
  have h1 : erT p ++ ((erP p).take k).map esOf <+: erT (p + 1) := by
    rw [erT_next p h]
    exact ⟨((erP p).drop k).map esOf, by rw [List.append_assoc, ← List.map_append, List.take_append_drop]⟩
  have h2 : ∀ q, q < 3 → erT q <+: erT (q + 1) := fun q hq => ⟨(erP q).map esOf, (erT_next q hq).symm⟩
  rcases (show p = 0 ∨ p = 1 ∨ p = 2 by omega) with rfl | rfl | rfl
  · exact h1.trans ((h2 1 (by omega)).trans (h2 2 (by omega)))
  · exact h1.trans (h2 2 (by omega))
  · exact h1
/-- The tables lie. -/
structure ErT3 (w : World) (Q qa qb qc : Nat) : Prop where
  a : ErB w qa erA
  b : ErB w qb erB
  c : ErB w qc erC
  q : w.heap[Q]? = some (.cells #[.slice (some ⟨qa, 0, none⟩) 22 22, .slice (some ⟨qb, 0, none⟩) 18 18, .slice (some ⟨qc, 0, none⟩) 13 13] 157 (0, 0))
theorem ErT3.keep {w w' : World} {Q qa qb qc : Nat} (h : ErT3 w Q qa qb qc) (k : KpE w w') : ErT3 w' Q qa qb qc :=
  ⟨k.2 _ _ _ _ h.a (Or.inl rfl), k.2 _ _ _ _ h.b (Or.inl rfl), k.2 _ _ _ _ h.c (Or.inl rfl), k.2 _ _ _ _ h.q (Or.inr rfl)⟩
theorem ErT3.part {w : World} {Q qa qb qc : Nat} (h : ErT3 w Q qa qb qc) (p : Nat) (hp : p < 3) : ∃ q m, (erP p).length = m ∧ w.cell? ⟨Q, p, none⟩ = some (.slice (some ⟨q, 0, none⟩) m m) ∧ ∀ w', ErT3 w' Q qa qb qc → ErB w' q (erP p) := by
  rcases (show p = 0 ∨ p = 1 ∨ p = 2 by omega) with rfl | rfl | rfl
  · exact ⟨qa, 22, rfl, cell_of_row _ _ 0 _ _ _ h.q, fun w' h' => h'.a⟩
  · exact ⟨qb, 18, rfl, cell_of_row _ _ 1 _ _ _ h.q, fun w' h' => h'.b⟩
  · exact ⟨qc, 13, rfl, cell_of_row _ _ 2 _ _ _ h.q, fun w' h' => h'.c⟩
set_option maxRecDepth 100000 in
set_option maxHeartbeats 4000000 in
theorem rows_stops (n : Nat) (hn : 1 ≤ n) (w : World) : SeqStopsK Fence.wide n Tryd.prog 84 #[] encE KpE (fun ys => ys = erT 3) (fun pre => pre <+: erT 3) 53 w := fun l J Jx W hW hJ hJx hY h0 => by
  have grow := Lib.hid fun (pre : List ES) (W1 W2 : World) (h : J pre W1) (b : Below W1.heap.size W1 W2) => hJ pre W1 W2 none h ⟨b.os, b.tape, b.output, b.size, fun k hk _ => b.block k hk⟩ (fun r e => by cases e)
  have HY := Lib.hid hY
  clear hY hJ hJx
  have HA := Lib.hid fun (w : World) => econtrols_any w
  have HB := Lib.hid fun (w : World) => emetas_any w
  have HC := Lib.hid fun (w : World) => eothers_any w
  refine callsIn_of_wp Tryd.func84 rfl trivial ?_ rfl
  simp only [Tryd.ntmps84, List.size_toArray, List.length_cons, List.length_nil, Nat.reduceAdd, Nat.reduceSub, Array.replicate_succ, Array.replicate_zero, List.push_toArray, List.append_toArray, List.nil_append, List.cons_append]
  gi_wp2_with (first
    | (refine ⟨trivial, ?_⟩; gi_at_call 103; refine (callsIn_wide.2 (HA.out _)).mono ?_; rintro e w1 ⟨rfl, hc, hb⟩; have C1 := Lib.hid hc; have J1 := Lib.hid (grow.out _ _ _ h0 hb); clear hc hb)
    | (refine ⟨trivial, ?_⟩; gi_at_call 104; refine (callsIn_wide.2 (HB.out _)).mono ?_; rintro e w2 ⟨rfl, hc, hb⟩; have C2 := Lib.hid (And.intro (show ErB w2 W.heap.size erA from blk_below C1.out hb) hc); have J2 := Lib.hid (grow.out _ _ _ J1.out hb); clear hc hb)
    | (refine ⟨trivial, ?_⟩; gi_at_call 105; refine (callsIn_wide.2 (HC.out _)).mono ?_; rintro e w3 ⟨rfl, hc, hb⟩; have C3 := Lib.hid (And.intro (show ErB w3 W.heap.size erA from blk_below C2.out.1 hb) (And.intro (show ErB w3 w1.heap.size erB from blk_below C2.out.2 hb) hc)); have J3 := Lib.hid (grow.out _ _ _ J2.out hb); clear hc hb))
  have TB : Hid (ErT3 (w3.alloc (.cells #[.slice (some ⟨W.heap.size, 0, none⟩) 22 22, .slice (some ⟨w1.heap.size, 0, none⟩) 18 18, .slice (some ⟨w2.heap.size, 0, none⟩) 13 13] 157)) w3.heap.size W.heap.size w1.heap.size w2.heap.size) := Lib.hid (by
    have b := below_alloc w3 (.cells #[.slice (some ⟨W.heap.size, 0, none⟩) 22 22, .slice (some ⟨w1.heap.size, 0, none⟩) 18 18, .slice (some ⟨w2.heap.size, 0, none⟩) 13 13] 157)
    exact ⟨blk_below C3.out.1 b, blk_below C3.out.2.1 b, blk_below C3.out.2.2 b, heap_alloc_new _ _⟩)
  have J4 := Lib.hid (grow.out _ _ _ J3.out (below_alloc w3 (.cells #[.slice (some ⟨W.heap.size, 0, none⟩) 22 22, .slice (some ⟨w1.heap.size, 0, none⟩) 18 18, .slice (some ⟨w2.heap.size, 0, none⟩) 13 13] 157)))
  clear C1 C2 C3 J1 J2 J3 HA HB HC h0 hW
  gi_loopw [11] (fun iv wr => ∃ p : Nat, p ≤ 3 ∧ iv = .int .i64 (p : Int) ∧ Hid (ErT3 wr w3.heap.size W.heap.size w1.heap.size w2.heap.size) ∧ Hid (J (erT p) wr)) (fun iv _ => 3 - (intOf iv).toNat)
  case atStart => exact ⟨0, by omega, rfl, TB, J4⟩
  case round =>
    clear TB J4
    obtain ⟨p, hp, rfl, HT, HJ⟩ := hrel
    by_cases hlt : p < 3
    · have hp1 : (p : Int) < 3 := by omega
      have hp0 : (0 : Int) ≤ p := by omega
      obtain ⟨q, m, hm, c0, hq⟩ := HT.out.part p hlt
      have HM := Lib.hid hm
      have HQ := Lib.hid hq
      have HLN := Lib.hid (erT_len p hlt)
      have HNX := Lib.hid (erT_next p hlt)
      have HPR := Lib.hid (erT_pre p hlt)
      have HZ := Lib.hid (erP_z p)
      have hm53 : m ≤ 53 := by have := erT_len p hlt; omega
      clear hm hq
      generalize erP p = L at *
      gi_wp2
      gi_loopw [17] (fun iv wq => ∃ k : Nat, k ≤ m ∧ iv = .int .i64 (k : Int) ∧ Hid (ErT3 wq w3.heap.size W.heap.size w1.heap.size w2.heap.size) ∧ Hid (J (erT p ++ (L.take k).map esOf) wq)) (fun iv _ => m - (intOf iv).toNat)
      case atStart => exact ⟨0, by omega, rfl, HT, Lib.hid (by rw [List.take_zero, List.map_nil, List.append_nil]; exact HJ.out)⟩
      case round =>
        clear c0 HT HJ
        obtain ⟨k, hk, rfl, HT, HJ⟩ := hrel
        by_cases hkm : k < m
        · have hk1 : (k : Int) < m := by omega
          have hk0 : (0 : Int) ≤ k := by omega
          obtain ⟨c0, c1⟩ := (HQ.out _ HT.out).cells k (by rw [HM.out]; exact hkm)
          have hmem : L.getD k (⟨#[]⟩, 0) ∈ L := by rw [List.getD, List.getElem?_eq_getElem (by rw [HM.out]; exact hkm)]; exact List.getElem_mem _
          have hes := esOf_ok (HZ.out _ hmem)
          have htk : (L.take (k + 1)).map esOf = (L.take k).map esOf ++ [esOf (L.getD k (⟨#[]⟩, 0))] := by
            rw [List.take_add_one, List.getElem?_eq_getElem (by rw [HM.out]; exact hkm), List.getD, List.getElem?_eq_getElem (by rw [HM.out]; exact hkm), List.map_append]
            rfl
          generalize L.getD k (⟨#[]⟩, 0) = x at *
          obtain ⟨s, v⟩ := x
          dsimp only at c0 c1
          have bA := below_alloc wr (.cells #[.string s, .int .i64 v] 142)
          have hj := grow.out _ _ _ HJ.out bA
          have hTA := HT.out.keep (KpE.below bA)
          obtain ⟨fn, tmps, assign, body, hy, hR⟩ := HY.out _ (esOf (s, v)) _ hj (by rw [List.length_append, List.length_map, List.length_take]; have := HLN.out; have := HM.out; omega)
          unfold encE at hy
          rw [hes] at hy
          have HR := Lib.hid hR
          have HTA := Lib.hid hTA
          have HTK := Lib.hid htk
          clear hR hTA htk hj bA hmem hes
          gi_wp2
          refine HR.out.mono ?_
          rintro e W3 (⟨rfl, hJ3, hk3⟩ | ⟨rfl, hJx3⟩)
          · have J3 := Lib.hid hJ3
            have T3 := Lib.hid (HTA.out.keep hk3)
            clear hJ3 hk3
            gi_wp2
            go_roundw
            case rel => exact ⟨k + 1, by omega, by go_num, T3, Lib.hid (by rw [HTK.out, ← List.append_assoc]; exact J3.out)⟩
            case measure => (simp [intOf]; try omega)
          · have JX := Lib.hid hJx3
            clear hJx3
            gi_wp2
            refine bodyPost_ret (results_none rfl _ _ _) rfl ?_
            exact ⟨⟨_, rfl⟩, .inr ⟨_, by have h := HPR.out (k + 1); rw [HTK.out, ← List.append_assoc] at h; exact h, JX.out⟩⟩
        · obtain rfl : k = m := by omega
          have hk1 : ¬ (k : Int) < k := by omega
          gi_wp2
          go_roundw
          case rel => exact ⟨p + 1, by omega, by go_num, HT, Lib.hid (by rw [HNX.out]; have h := HJ.out; rw [← HM.out, List.take_length] at h; exact h)⟩
          case measure => (simp [intOf]; try omega)
    · obtain rfl : p = 3 := by omega
      gi_wp2
      go_end0
      exact ⟨⟨_, rfl⟩, .inl ⟨_, rfl, HJ.out⟩⟩
end Go.Proofs.YtdifkjmpdmlobaaDoor
