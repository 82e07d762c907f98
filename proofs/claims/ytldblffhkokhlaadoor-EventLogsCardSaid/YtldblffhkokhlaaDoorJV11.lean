/-
  Joined: Ev11 Ev12 Ev13 Ev14 Ev15 Ev18 Ev16 Ev17 Ev19 Ev20.
-/
import Derived.Test.YtldblffhkokhlaaDoorJV02
import Derived.Test.YtldblffhkokhlaaDoorJV08
import Derived.Test.YtldblffhkokhlaaDoorJV10
set_option linter.unusedVariables false
set_option linter.unusedSimpArgs false
set_option maxRecDepth 100000
set_option linter.unusedVariables false
set_option linter.unusedSimpArgs false
namespace Go.Proofs.YtldblffhkokhlaaDoor
open Go.RowKit
/-- Lists of what happened lie in memory. -/
def EvsIn (w : World) (a : Option Addr) (V : List Ev) : Prop :=
  ∀ i, i < V.length → ∃ b off ai ci, a = some ⟨b, off, none⟩ ∧ b < w.heap.size ∧ w.cell? ⟨b, off + i * 3, none⟩ = some (.int .i64 (V.getD i (0, [], 0)).1) ∧ w.cell? ⟨b, off + i * 3 + 1, none⟩ = some (.slice ai (V.getD i (0, [], 0)).2.1.length ci) ∧ w.cell? ⟨b, off + i * 3 + 2, none⟩ = some (.int .i64 (V.getD i (0, [], 0)).2.2) ∧ Signs w ai (V.getD i (0, [], 0)).2.1 ∧ (V.getD i (0, [], 0)).2.1.length ≤ ci
theorem EvsIn.below {w w' : World} {a : Option Addr} {V : List Ev} (h : EvsIn w a V) (hb : Below w.heap.size w w') : EvsIn w' a V := fun i hi => by
  obtain ⟨b, off, ai, ci, e, hlt, h1, h2, h3, h4, h5⟩ := h i hi
  exact ⟨b, off, ai, ci, e, Nat.lt_of_lt_of_le hlt hb.size, (hb.cell (p := ⟨b, off + i * 3, none⟩) hlt).trans h1, (hb.cell (p := ⟨b, off + i * 3 + 1, none⟩) hlt).trans h2, (hb.cell (p := ⟨b, off + i * 3 + 2, none⟩) hlt).trans h3, h4.below hb, h5⟩
def evQ (v u : Ev) : Bool := decide (v = u)
theorem evQ_k {v u : Ev} (h : v.1 ≠ u.1) : evQ v u = false := decide_eq_false fun e => h (by rw [e])
theorem evQ_p {v u : Ev} (h : v.2.2 ≠ u.2.2) : evQ v u = false := decide_eq_false fun e => h (by rw [e])
theorem evQ_l {k p : Int} {l m : List (Int × Int)} : evQ (k, l, p) (k, m, p) = sgS l m := by
  unfold evQ sgS
  by_cases h : l = m
  · rw [decide_eq_true h, decide_eq_true (by rw [h])]
  · rw [decide_eq_false h, decide_eq_false fun e => h (by injection e with _ e; injection e)]
set_option maxRecDepth 100000 in
set_option maxHeartbeats 4000000 in
theorem eq2_any (v u : Ev) (n m : Nat) (a b : Option Addr) (c d q : Nat) (w : World) (hn : v.2.1.length = n) (hm : u.2.1.length = m) (hnl : n ≤ 9223372036854775807) (hml : m ≤ 9223372036854775807) (ha : Signs w a v.2.1) (hb : Signs w b u.2.1) (hq : w.cell? ⟨q, 0, none⟩ = some (.func (.func 44) #[] #[])) :
    Calls Tryd.prog 46 #[.agg #[.int .i64 v.1, .slice a n c, .int .i64 v.2.2], .agg #[.int .i64 u.1, .slice b m d, .int .i64 u.2.2], .pointer (some ⟨q, 0, none⟩)] w fun e w' => e = .returned (.bool (evQ v u)) ∧ Below w.heap.size w w' := by
  obtain ⟨k, l, p⟩ := v
  obtain ⟨k', l', p'⟩ := u
  dsimp only at hn hm ha hb ⊢
  have B0 := below_alloc w (.cells #[.int .i64 k, .slice a n c, .int .i64 p] 24)
  have q0 := heap_alloc_new w (.cells #[.int .i64 k, .slice a n c, .int .i64 p] 24)
  obtain ⟨W0, hW0⟩ : ∃ W0, w.alloc (.cells #[.int .i64 k, .slice a n c, .int .i64 p] 24) = W0 := ⟨_, rfl⟩
  rw [hW0] at B0 q0
  have B1 := below_alloc W0 (.cells #[.int .i64 k', .slice b m d, .int .i64 p'] 24)
  have r1 := heap_alloc_new W0 (.cells #[.int .i64 k', .slice b m d, .int .i64 p'] 24)
  obtain ⟨W1, hW1⟩ : ∃ W1, W0.alloc (.cells #[.int .i64 k', .slice b m d, .int .i64 p'] 24) = W1 := ⟨_, rfl⟩
  rw [hW1] at B1 r1
  have NB := Lib.hid (seqB B0 B1)
  have q1 := blk_below q0 B1
  have hq1 := (NB.out.cell (block_lt_of_cell hq)).trans hq
  have y := fun i => cell_of_row _ _ i _ _ _ q1
  have z := fun i => cell_of_row _ _ i _ _ _ r1
  have y0 := y 0; have y1 := y 1; have y2 := y 2
  have z0 := z 0; have z1 := z 1; have z2 := z 2
  dsimp at y0 y1 y2 z0 z1 z2
  have SL := Lib.hid (sls_any l l' a b c d W1 (by omega) (by omega) ((ha.below B0).below B1) ((hb.below B0).below B1))
  rw [hn, hm] at SL
  have hEl : ∀ (_ : k = k') (_ : p = p'), evQ (k, l, p) (k', l', p') = sgS l l' := fun h1 h2 => by rw [h1, h2]; exact evQ_l
  have hEk : k ≠ k' → evQ (k, l, p) (k', l', p') = false := fun h => evQ_k h
  have hEp : p ≠ p' → evQ (k, l, p) (k', l', p') = false := fun h => evQ_p h
  generalize hEE : evQ (k, l, p) (k', l', p') = E at *
  generalize sgS l l' = sg at *
  clear hEE y z q0 q1 r1 B0 B1 ha hb hq hn hm
  by_cases h1 : k = k'
  · have b1 : (k == k') = true := by rw [h1]; simp
    by_cases h2 : p = p'
    · have b2 : (p == p') = true := by rw [h2]; simp
      have HE := Lib.hid (hEl h1 h2)
      clear hEl hEk hEp
      subst h1; subst h2
      go_enter Tryd.func46, Tryd.ntmps46
      go_upto_region 1 with fail
      clear hW0 hW1
      go_wp2_with (go_at_call 47; refine SL.out.mono ?_; rintro e w1 ⟨rfl, hb3⟩)
      go_ret
      rw [HE.out]
      exact ⟨rfl, seqB NB.out hb3⟩
    · have b2 : (p == p') = false := by simpa using h2
      have HE := Lib.hid (hEp h2)
      clear hEl hEk hEp
      subst h1
      go_enter Tryd.func46, Tryd.ntmps46
      go_upto_region 1 with fail
      clear hW0 hW1
      go_wp2_with fail
      go_ret
      rw [HE.out]
      exact ⟨rfl, NB.out⟩
  · have b1 : (k == k') = false := by simpa using h1
    have HE := Lib.hid (hEk h1)
    clear hEl hEk hEp
    go_enter Tryd.func46, Tryd.ntmps46
    go_upto_region 1 with fail
    clear hW0 hW1
    go_wp2_with fail
    go_ret
    rw [HE.out]
    exact ⟨rfl, NB.out⟩
end Go.Proofs.YtldblffhkokhlaaDoor
set_option linter.unusedVariables false
set_option linter.unusedSimpArgs false
namespace Go.Proofs.YtldblffhkokhlaaDoor
open Go.RowKit
def evsQ (V U : List Ev) : Bool := decide (V = U)
theorem evsQ_len {V U : List Ev} (h : V.length ≠ U.length) : evsQ V U = false := decide_eq_false fun e => h (by rw [e])
theorem evsQ_no {V U : List Ev} {k : Nat} (h : evQ (V.getD k (0, [], 0)) (U.getD k (0, [], 0)) = false) : evsQ V U = false := decide_eq_false fun e => by
  rw [e] at h
  exact absurd rfl (of_decide_eq_false h)
theorem evsQ_yes {V U : List Ev} (hl : V.length = U.length) (h : ∀ j, j < V.length → evQ (V.getD j (0, [], 0)) (U.getD j (0, [], 0)) = true) : evsQ V U = true := decide_eq_true (by
  apply List.ext_getElem hl
  intro j h1 h2
  have := of_decide_eq_true (h j h1)
  simpa [List.getD, List.getElem?_eq_getElem h1, List.getElem?_eq_getElem h2] using this)
set_option maxRecDepth 100000 in
set_option maxHeartbeats 4000000 in
theorem sle_any (V U : List Ev) (a b : Option Addr) (c d q : Nat) (w : World) (hV : V.length ≤ 1000000) (hU : U.length ≤ 1000000) (hL : ∀ v ∈ V, v.2.1.length ≤ 1000000) (hM : ∀ u ∈ U, u.2.1.length ≤ 1000000) (ha : EvsIn w a V) (hb : EvsIn w b U) (hq : w.cell? ⟨q, 0, none⟩ = some (.func (.func 44) #[] #[])) :
    Calls Tryd.prog 45 #[.slice a V.length c, .slice b U.length d, .func (.func 46) #[] #[.pointer (some ⟨q, 0, none⟩)]] w fun e w' => e = .returned (.bool (evsQ V U)) ∧ Below w.heap.size w w' := by
  have HA := Lib.hid ha; have HB := Lib.hid hb; have HQ := Lib.hid hq
  have HLm := Lib.hid hL; have HMm := Lib.hid hM
  clear ha hb hq hL hM
  by_cases hl : V.length = U.length
  · have hln : ((V.length : Int) != (U.length : Int)) = false := by rw [hl]; simp
    have Hl := Lib.hid hl
    have hyl : U.length ≤ V.length ∧ V.length ≤ U.length := by omega
    clear hl
    go_enter Tryd.func45, Tryd.ntmps45
    go_wp2
    go_loopw [16] (fun iv wr => ∃ k : Nat, k ≤ V.length ∧ iv = .int .i64 (k : Int) ∧ Hid (∀ j, j < k → evQ (V.getD j (0, [], 0)) (U.getD j (0, [], 0)) = true) ∧ Hid (Below w.heap.size w wr)) (fun iv _ => V.length - (intOf iv).toNat)
    case atStart => exact ⟨0, Nat.zero_le _, rfl, Lib.hid (fun j hj => absurd hj (by omega)), Lib.hid (Below.refl _ _)⟩
    case round =>
      obtain ⟨k, hk, rfl, hall, hbl⟩ := hrel
      by_cases hlt : k < V.length
      · obtain ⟨b1, o1, a1, e1, rfl, hb1, c0, c1, c2, hs1, _⟩ := (HA.out.below hbl.out) k hlt
        obtain ⟨b2, o2, a2, e2, rfl, hb2, d0, d1, d2, hs2, _⟩ := (HB.out.below hbl.out) k (by omega)
        have hk1 : (k : Int) < V.length := by omega
        have hk2 : (k : Int) < U.length := by omega
        have hk0 : (0 : Int) ≤ k := by omega
        have hvm : V.getD k (0, [], 0) ∈ V := by rw [List.getD, List.getElem?_eq_getElem hlt]; exact List.getElem_mem hlt
        have hum : U.getD k (0, [], 0) ∈ U := by rw [List.getD, List.getElem?_eq_getElem (show k < U.length by omega)]; exact List.getElem_mem _
        have hlv := HLm.out _ hvm
        have hlu := HMm.out _ hum
        have hno := evsQ_no (V := V) (U := U) (k := k)
        obtain ⟨v, hv⟩ : ∃ v, V.getD k (0, [], 0) = v := ⟨_, rfl⟩
        obtain ⟨u, hu⟩ : ∃ u, U.getD k (0, [], 0) = u := ⟨_, rfl⟩
        rw [hv] at c0 c1 c2 hs1 hno hlv
        rw [hu] at d0 d1 d2 hs2 hno hlu
        obtain ⟨n, hn⟩ : ∃ n, v.2.1.length = n := ⟨_, rfl⟩
        obtain ⟨m, hm⟩ : ∃ m, u.2.1.length = m := ⟨_, rfl⟩
        have hq1 := (hbl.out.cell (block_lt_of_cell HQ.out)).trans HQ.out
        have BA := below_alloc wr (.cells #[.int .i64 v.1, .slice a1 n e1, .int .i64 v.2.2] 24)
        obtain ⟨W, hW⟩ : ∃ W, wr.alloc (.cells #[.int .i64 v.1, .slice a1 n e1, .int .i64 v.2.2] 24) = W := ⟨_, rfl⟩
        have r0 := heap_alloc_new wr (.cells #[.int .i64 v.1, .slice a1 n e1, .int .i64 v.2.2] 24)
        rw [hW] at BA r0
        have BD := BA.drew
        have S := Lib.hid (eq2_any v u n m a1 a2 e1 e2 q W.drew hn hm (by omega) (by omega) (hs1.below BD) (hs2.below BD) ((BD.cell (block_lt_of_cell hq1)).trans hq1))
        have HAll : Hid (evQ v u = true → ∀ j, j < k + 1 → evQ (V.getD j (0, [], 0)) (U.getD j (0, [], 0)) = true) := Lib.hid fun h j hj => by
          by_cases e : j = k
          · rw [e, hv, hu]; exact h
          · exact hall.out j (by omega)
        rw [hn] at c1; rw [hm] at d1
        generalize evQ v u = E at *
        obtain ⟨vk, vl, vp⟩ := v
        obtain ⟨uk, ul, up⟩ := u
        dsimp only at c0 c1 c2 d0 d1 d2 S r0 hn hm
        clear hv hu hvm hum hlv hlu hs1 hs2 hq1 hn hm
        have N1 := Lib.hid (hbl.out.trans (BA.mono hbl.out.size)).drew
        have f0 := (BA.cell (p := ⟨b2, o2 + k * 3, none⟩) hb2).trans d0
        have f1 := (BA.cell (p := ⟨b2, o2 + k * 3 + 1, none⟩) hb2).trans d1
        have f2 := (BA.cell (p := ⟨b2, o2 + k * 3 + 2, none⟩) hb2).trans d2
        have y := fun i => cell_of_row _ _ i _ _ _ r0
        have g0 := y 0; have g1 := y 1; have g2 := y 2
        dsimp at g0 g1 g2
        dsimp only at hW
        go_upto_region 6 with fail
        obtain ⟨r, hr⟩ : ∃ r, wr.heap.size = r := ⟨_, rfl⟩
        rw [hr] at g0 g1 g2 ⊢
        clear hW hr y r0 BD BA c0 c1 c2 d0 d1 d2 hb1 hb2
        replace f0 : W.drew.cell? ⟨b2, o2 + k * 3, none⟩ = some (.int .i64 uk) := f0
        replace f1 : W.drew.cell? ⟨b2, o2 + k * 3 + 1, none⟩ = some (.slice a2 m e2) := f1
        replace f2 : W.drew.cell? ⟨b2, o2 + k * 3 + 2, none⟩ = some (.int .i64 up) := f2
        replace g0 : W.drew.cell? ⟨r, 0, none⟩ = some (.int .i64 vk) := g0
        replace g1 : W.drew.cell? ⟨r, 1, none⟩ = some (.slice a1 n e1) := g1
        replace g2 : W.drew.cell? ⟨r, 2, none⟩ = some (.int .i64 vp) := g2
        have HC4 : Hid (∀ w', Below W.drew.heap.size W.drew w' → w'.cell? ⟨r, 0, none⟩ = some (.int .i64 vk) ∧ w'.cell? ⟨r, 1, none⟩ = some (.slice a1 n e1) ∧ w'.cell? ⟨r, 2, none⟩ = some (.int .i64 vp) ∧ w'.cell? ⟨b2, o2 + k * 3, none⟩ = some (.int .i64 uk) ∧ w'.cell? ⟨b2, o2 + k * 3 + 1, none⟩ = some (.slice a2 m e2) ∧ w'.cell? ⟨b2, o2 + k * 3 + 2, none⟩ = some (.int .i64 up)) := Lib.hid fun w' hb => ⟨(hb.cell (block_lt_of_cell g0)).trans g0, (hb.cell (block_lt_of_cell g1)).trans g1, (hb.cell (block_lt_of_cell g2)).trans g2, (hb.cell (block_lt_of_cell f0)).trans f0, (hb.cell (block_lt_of_cell f1)).trans f1, (hb.cell (block_lt_of_cell f2)).trans f2⟩
        cases E
        · have HF := Lib.hid (hno rfl)
          clear hno HAll
          go_region_held3 (fun w' => w'.cell? ⟨r, 0, none⟩ = some (.int .i64 vk) ∧ w'.cell? ⟨r, 1, none⟩ = some (.slice a1 n e1) ∧ w'.cell? ⟨r, 2, none⟩ = some (.int .i64 vp) ∧ w'.cell? ⟨b2, o2 + k * 3, none⟩ = some (.int .i64 uk) ∧ w'.cell? ⟨b2, o2 + k * 3 + 1, none⟩ = some (.slice a2 m e2) ∧ w'.cell? ⟨b2, o2 + k * 3 + 2, none⟩ = some (.int .i64 up)) (first | exact ⟨g0, g1, g2, f0, f1, f2⟩ | exact C4 | go_keep)
            (first | (go_at_call 46; refine S.out.mono ?_; rintro e w1 ⟨rfl, hb3⟩; have N3 := Lib.hid (seqB N1.out hb3); have C4 := HC4.out _ hb3; clear hb3))
          all_goals
            go_wp2
            go_ret
            rw [HF.out]
            exact ⟨rfl, N3.out⟩
        · have HF := Lib.hid (HAll.out rfl)
          clear hno HAll
          go_region_held3 (fun w' => w'.cell? ⟨r, 0, none⟩ = some (.int .i64 vk) ∧ w'.cell? ⟨r, 1, none⟩ = some (.slice a1 n e1) ∧ w'.cell? ⟨r, 2, none⟩ = some (.int .i64 vp) ∧ w'.cell? ⟨b2, o2 + k * 3, none⟩ = some (.int .i64 uk) ∧ w'.cell? ⟨b2, o2 + k * 3 + 1, none⟩ = some (.slice a2 m e2) ∧ w'.cell? ⟨b2, o2 + k * 3 + 2, none⟩ = some (.int .i64 up)) (first | exact ⟨g0, g1, g2, f0, f1, f2⟩ | exact C4 | go_keep)
            (first | (go_at_call 46; refine S.out.mono ?_; rintro e w1 ⟨rfl, hb3⟩; have N3 := Lib.hid (seqB N1.out hb3); have C4 := HC4.out _ hb3; clear hb3))
          all_goals
            go_wp2
            go_roundw
            case rel => exact ⟨k + 1, by omega, by go_num, HF, N3⟩
            case measure => (simp [intOf]; try omega)
      · obtain rfl : k = V.length := by omega
        have HF : Hid (evsQ V U = true) := Lib.hid (evsQ_yes Hl.out hall.out)
        go_wp2
        go_ret
        rw [HF.out]
        exact ⟨rfl, hbl.out⟩
  · have hln : ((V.length : Int) != (U.length : Int)) = true := by rw [bne_iff_ne]; omega
    have HF : Hid (evsQ V U = false) := Lib.hid (evsQ_len hl)
    go_enter Tryd.func45, Tryd.ntmps45
    go_wp2
    go_ret
    rw [HF.out]
    exact ⟨rfl, Below.refl _ _⟩
theorem esame_any (V U : List Ev) (n m : Nat) (a b : Option Addr) (c d : Nat) (w : World) (hn : V.length = n) (hm : U.length = m) (hV : n ≤ 1000000) (hU : m ≤ 1000000) (hL : ∀ v ∈ V, v.2.1.length ≤ 1000000) (hM : ∀ u ∈ U, u.2.1.length ≤ 1000000) (ha : EvsIn w a V) (hb : EvsIn w b U) :
    Calls Tryd.prog 14 #[.slice a n c, .slice b m d] w fun e w' => e = .returned (.bool (evsQ V U)) ∧ Below w.heap.size w w' := by
  have hmf : ∀ (fn : Fn) (first cap : Array Value) (w : World), (Instr.makeFunc fn first cap).run Tryd.prog w = .ok (.func fn first cap) w := fun _ _ _ _ => rfl
  have hsf : ∀ (w : World) (ad : Addr) (fn : Fn) (first cap : Array Value), (store ad (.func fn first cap)).run Tryd.prog w = stored Tryd.prog w ad (.func fn first cap) .plain := fun w ad _ _ _ => run_store _ w ad _ _ rfl
  have B0 := below_alloc w (.cells #[.func (.func 44) #[] #[]] 90)
  have S := sle_any V U a b c d w.heap.size _ (by omega) (by omega) hL hM (ha.below B0) (hb.below B0) (by rw [World.cell?_alloc_new]; rfl)
  rw [hn, hm] at S
  replace S := Lib.hid S
  replace B0 := Lib.hid B0
  clear ha hb hn hm
  go_enter Tryd.func14, Tryd.ntmps14
  go_wp2_with (go_at_call 45; refine S.out.mono ?_; rintro e w1 ⟨rfl, hb3⟩)
  go_ret
  exact ⟨rfl, seqB B0.out hb3⟩
end Go.Proofs.YtldblffhkokhlaaDoor
set_option linter.unusedVariables false
set_option linter.unusedSimpArgs false
namespace Go.Proofs.YtldblffhkokhlaaDoor
open Go.RowKit
set_option maxRecDepth 100000 in
set_option maxHeartbeats 4000000 in
theorem rmay33_ref (k : Int) (l : List (Int × Int)) (p : Int) (n : Nat) (a : Option Addr) (c : Nat) (w : World) (hn : l.length = n) (hl : n ≤ 1000000) (hs : Signs w a l) :
    Calls Tryd.prog 15 #[.agg #[.int .i64 k, .slice a n c, .int .i64 p]] w fun e w' => e = .returned (.bool (evMay (k, l, p))) ∧ Below w.heap.size w w' := by
  have B0 := below_alloc w (.cells #[.int .i64 k, .slice a n c, .int .i64 p] 24)
  have hq := heap_alloc_new w (.cells #[.int .i64 k, .slice a n c, .int .i64 p] 24)
  obtain ⟨W0, hW0⟩ : ∃ W0, w.alloc (.cells #[.int .i64 k, .slice a n c, .int .i64 p] 24) = W0 := ⟨_, rfl⟩
  rw [hW0] at B0 hq
  have AL := sgall_ref l a c W0 (by omega) (hs.below B0)
  rw [hn] at AL
  have hM : evMay (k, l, p) = (evKn k && ((evAb k || (decide (n = 0) && decide (p = 0))) && (decide (0 ≤ p ∧ p ≤ n) && sgC l))) := by unfold evMay; dsimp only; rw [hn]
  have h0 : n = 0 → sgC l = true := fun h => by
    rw [List.length_eq_zero_iff.1 (hn.trans h)]; rfl
  have y := fun i => cell_of_row _ _ i _ _ _ hq
  have y0 := y 0; have y1 := y 1; have y2 := y 2
  dsimp at y0 y1 y2
  have HQ := Lib.hid hq
  have NB := Lib.hid B0
  generalize hE : evMay (k, l, p) = E at *
  clear y hq B0 hs hE
  generalize sgC l = sg at *
  replace AL := Lib.hid AL
  have hZ : Hid (∀ w1, Below W0.heap.size W0 w1 → w1.cell? ⟨w.heap.size, 1, none⟩ = some (.slice a n c) ∧ w1.cell? ⟨w.heap.size, 2, none⟩ = some (.int .i64 p)) := Lib.hid fun w1 hb => ⟨(hb.cell (block_lt_of_cell y1)).trans y1, (hb.cell (block_lt_of_cell y2)).trans y2⟩
  have hcase : k = 1 ∨ k = 3 ∨ k = 4 ∨ k = 2 ∨ k = 5 ∨ k = 6 ∨ (k ≠ 1 ∧ k ≠ 2 ∧ k ≠ 3 ∧ k ≠ 4 ∧ k ≠ 5 ∧ k ≠ 6) := by omega
  rcases hcase with h | h | h | h | h | h | h
  iterate 3
    · subst h
      have hE : E = (decide (0 ≤ p ∧ p ≤ n) && sg) := by rw [hM]; simp [evKn, evAb]
      cases sg
      · have HE : Hid (E = false) := Lib.hid (by rw [hE, Bool.and_false])
        clear hE hM h0
        go_enter Tryd.func15, Tryd.ntmps15
        go_upto_region 1 with fail
        clear hW0
        go_wp2_with (go_at_call 48; refine AL.out.mono ?_; rintro e w1 ⟨rfl, hb1⟩)
        go_ret
        rw [HE.out]
        exact ⟨rfl, seqB NB.out hb1⟩
      · rw [Bool.and_true] at hE
        by_cases h1 : 0 ≤ p
        · by_cases h2 : p ≤ (n : Int)
          · have HE : Hid (E = true) := Lib.hid (by rw [hE]; exact decide_eq_true ⟨h1, h2⟩)
            clear hE hM h0
            go_enter Tryd.func15, Tryd.ntmps15
            go_upto_region 1 with fail
            clear hW0
            go_wp2_with (go_at_call 48; refine AL.out.mono ?_; rintro e w1 ⟨rfl, hb1⟩; obtain ⟨z1, z2⟩ := hZ.out _ hb1)
            go_ret
            rw [HE.out]
            exact ⟨rfl, seqB NB.out hb1⟩
          · have HE : Hid (E = false) := Lib.hid (by rw [hE]; exact decide_eq_false (by omega))
            have b9 : decide (p ≤ (n : Int)) = false := decide_eq_false h2
            clear hE hM h0
            go_enter Tryd.func15, Tryd.ntmps15
            go_upto_region 1 with fail
            clear hW0
            go_wp2_with (go_at_call 48; refine AL.out.mono ?_; rintro e w1 ⟨rfl, hb1⟩; obtain ⟨z1, z2⟩ := hZ.out _ hb1)
            go_ret
            rw [HE.out]
            refine ⟨?_, seqB NB.out hb1⟩
            first
              | rfl
              | (show Ending.returned (.bool (decide (p ≤ (n : Int)))) = _; rw [b9])
        · have HE : Hid (E = false) := Lib.hid (by rw [hE]; exact decide_eq_false (by omega))
          clear hE hM h0
          go_enter Tryd.func15, Tryd.ntmps15
          go_upto_region 1 with fail
          clear hW0
          go_wp2_with (go_at_call 48; refine AL.out.mono ?_; rintro e w1 ⟨rfl, hb1⟩; obtain ⟨z1, z2⟩ := hZ.out _ hb1)
          go_ret
          rw [HE.out]
          exact ⟨rfl, seqB NB.out hb1⟩
  iterate 3
    · subst h
      have hE : E = ((decide (n = 0) && decide (p = 0)) && (decide (0 ≤ p ∧ p ≤ n) && sg)) := by rw [hM]; simp [evKn, evAb]
      by_cases h1 : n = 0
      · have hsg := h0 h1
        by_cases h2 : p = 0
        · have HE : Hid (E = true) := Lib.hid (by rw [hE, hsg, decide_eq_true h1, decide_eq_true h2, decide_eq_true (by omega)]; rfl)
          clear hE hM h0 hsg
          subst h1; subst h2
          go_enter Tryd.func15, Tryd.ntmps15
          go_upto_region 1 with fail
          clear hW0
          go_wp2_with fail
          go_ret
          rw [HE.out]
          exact ⟨rfl, NB.out⟩
        · have HE : Hid (E = false) := Lib.hid (by rw [hE, decide_eq_false h2]; simp)
          have b2 : (p == 0) = false := by simpa using h2
          clear hE hM h0 hsg
          subst h1
          go_enter Tryd.func15, Tryd.ntmps15
          go_upto_region 1 with fail
          clear hW0
          go_wp2_with fail
          go_ret
          rw [HE.out]
          exact ⟨rfl, NB.out⟩
      · have HE : Hid (E = false) := Lib.hid (by rw [hE, decide_eq_false h1]; simp)
        have b1 : ((n : Int) == 0) = false := by rw [beq_eq_false_iff_ne]; omega
        clear hE hM h0
        go_enter Tryd.func15, Tryd.ntmps15
        go_upto_region 1 with fail
        clear hW0
        go_wp2_with fail
        go_ret
        rw [HE.out]
        exact ⟨rfl, NB.out⟩
  · have HE : Hid (E = false) := Lib.hid (by rw [hM, show evKn k = false from decide_eq_false (by omega)]; rfl)
    have b1 : (k == 1) = false := by rw [beq_eq_false_iff_ne]; omega
    have b2 : (k == 2) = false := by rw [beq_eq_false_iff_ne]; omega
    have b3 : (k == 3) = false := by rw [beq_eq_false_iff_ne]; omega
    have b4 : (k == 4) = false := by rw [beq_eq_false_iff_ne]; omega
    have b5 : (k == 5) = false := by rw [beq_eq_false_iff_ne]; omega
    have b6 : (k == 6) = false := by rw [beq_eq_false_iff_ne]; omega
    clear hM h0 h
    go_enter Tryd.func15, Tryd.ntmps15
    go_upto_region 1 with fail
    clear hW0
    go_wp2_with fail
    go_ret
    rw [HE.out]
    exact ⟨rfl, NB.out⟩
end Go.Proofs.YtldblffhkokhlaaDoor
set_option linter.unusedVariables false
set_option linter.unusedSimpArgs false
namespace Go.Proofs.YtldblffhkokhlaaDoor
open Go.RowKit
def evNames : Array Value := #[.string ⟨#[]⟩, .string ⟨#[97, 99, 99, 101, 112, 116]⟩, .string ⟨#[98, 101, 108, 108]⟩, .string ⟨#[97, 115, 107]⟩, .string ⟨#[99, 97, 110, 99, 101, 108]⟩, .string ⟨#[101, 111, 102]⟩, .string ⟨#[101, 114, 97, 115, 101]⟩]
theorem evNames_at (k : Nat) (h0 : 1 ≤ k) (h1 : k ≤ 6) : evNames[k]? = some (.string (mkL (evN (k : Int)))) := by
  rcases (show k = 1 ∨ k = 2 ∨ k = 3 ∨ k = 4 ∨ k = 5 ∨ k = 6 by omega) with rfl | rfl | rfl | rfl | rfl | rfl <;> rfl
theorem mkL_tab (a : List UInt8) : mkL a ++ ⟨#[9]⟩ = mkL (a ++ [9]) := ba_app a [9]
theorem mkL_app2 (a b : List UInt8) : mkL a ++ mkL b = mkL (a ++ b) := ba_app a b
theorem tgL_new {l : List (Int × Int)} {i : Nat} (h : rnNew l i = true) : tgL l (i + 1) = tgL l i ++ [9] ++ decS (l.getD i (0, 0)).2 ++ leF (l.getD i (0, 0)).1 := by
  show tgL l i ++ ((if rnNew l i = true then _ else _) ++ _) = _
  rw [if_pos h]; simp
theorem tgL_old {l : List (Int × Int)} {i : Nat} (h : rnNew l i = false) : tgL l (i + 1) = tgL l i ++ leF (l.getD i (0, 0)).1 := by
  show tgL l i ++ ((if rnNew l i = true then _ else _) ++ _) = _
  rw [if_neg (by rw [h]; decide)]; rfl
theorem rtext33_two (l : List (Int × Int)) (p : Int) (n : Nat) (a : Option Addr) (c : Nat) (w : World) :
    Calls Tryd.prog 18 #[.agg #[.int .i64 2, .slice a n c, .int .i64 p]] w fun e w' => e = .returned (.string (mkL (evT (2, l, p)))) ∧ Below w.heap.size w w' := by
  have HT : Hid (mkL (evT (2, l, p)) = ⟨#[98, 101, 108, 108]⟩) := Lib.hid rfl
  go_enter Tryd.func18, Tryd.ntmps18
  go_wp2
  go_ret
  rw [HT.out]
  exact ⟨rfl, seqB (below_alloc _ _) (below_alloc _ _)⟩
set_option maxRecDepth 100000 in
set_option maxHeartbeats 8000000 in
theorem rtext33_ref (k : Int) (l : List (Int × Int)) (p : Int) (n : Nat) (a : Option Addr) (c : Nat) (w : World) (hn : l.length = n) (hl : n ≤ 1000) (hs : Signs w a l) (hm : evMay (k, l, p) = true) :
    Calls Tryd.prog 18 #[.agg #[.int .i64 k, .slice a n c, .int .i64 p]] w fun e w' => e = .returned (.string (mkL (evT (k, l, p)))) ∧ Below w.heap.size w w' := by
  have hm' := hm
  unfold evMay at hm'
  simp only [Bool.and_eq_true, decide_eq_true_eq] at hm'
  obtain ⟨hkn, _, ⟨hp0, hp1⟩, hok⟩ := hm'
  have hk := of_decide_eq_true hkn
  rw [hn] at hp1
  obtain ⟨kk, rfl⟩ : ∃ kk : Nat, k = (kk : Int) := ⟨k.toNat, by omega⟩
  have hk1 : 1 ≤ kk := by omega
  have hk6 : kk ≤ 6 := by omega
  by_cases hk2 : kk = 2
  · subst hk2
    exact rtext33_two l p n a c w
  have B0 := below_alloc w (.cells #[.int .i64 (kk : Int), .slice a n c, .int .i64 p] 24)
  have hq := heap_alloc_new w (.cells #[.int .i64 (kk : Int), .slice a n c, .int .i64 p] 24)
  obtain ⟨W0, hW0⟩ : ∃ W0, w.alloc (.cells #[.int .i64 (kk : Int), .slice a n c, .int .i64 p] 24) = W0 := ⟨_, rfl⟩
  rw [hW0] at B0 hq
  have B1 := below_alloc W0 (.cells evNames 9)
  have hr := heap_alloc_new W0 (.cells evNames 9)
  obtain ⟨W1, hW1⟩ : ∃ W1, W0.alloc (.cells evNames 9) = W1 := ⟨_, rfl⟩
  rw [hW1] at B1 hr
  have cn := cell_of_row _ _ kk _ _ _ hr
  rw [evNames_at kk hk1 hk6] at cn
  have y := fun i => cell_of_row _ _ i _ _ _ hq
  have y0 := y 0
  dsimp at y0
  have y0' := y0
  have x := fun i => cell_of_row _ _ i _ _ _ (blk_below hq B1)
  have x0 := x 0; have x1 := x 1; have x2 := x 2
  dsimp at x0 x1 x2
  have N1 := Lib.hid (seqB B0 B1)
  have HS1 := Lib.hid (hs.below (seqB B0 B1))
  have DC : ∀ wx : World, Calls Tryd.prog 55 #[.int .i64 p] wx fun e w' => e = .returned (.string (mkL (decS p))) ∧ wx = w' := fun wx => dec_ref p.natAbs p wx (Nat.le_refl _) (by omega) (by omega)
  have hT : evT ((kk : Int), l, p) = evN (kk : Int) ++ (if evAb (kk : Int) = true then 9 :: (decS p ++ tgL l n) else []) := by unfold evT; dsimp only; rw [hn]
  have hNl : (mkL (evN (kk : Int))).size ≤ 6 := by
    rw [mkL_size]
    unfold evN
    repeat' split
    all_goals decide
  have hDl : (mkL (decS p)).size ≤ 21 := by rw [mkL_size]; exact decS_len p
  have e1 : Tryd.prog.underlying 83 = some (.slice 9) := Tryd.underlying83
  by_cases hab : evAb (kk : Int) = true
  · have h134 : kk = 1 ∨ kk = 3 ∨ kk = 4 := by have := of_decide_eq_true hab; omega
    have b2 : ((kk : Int) == 2) = false := by rw [beq_eq_false_iff_ne]; omega
    have g4 : ¬ (4 : Int) < (kk : Int) := by omega
    have k7 : (kk : Int) < 7 := by omega
    have k0 : (0 : Int) ≤ (kk : Int) := by omega
    rw [if_pos hab] at hT
    have HT : Hid (mkL (evT ((kk : Int), l, p)) = mkL (evN (kk : Int) ++ [9] ++ decS p ++ tgL l n)) := Lib.hid (by rw [hT]; simp)
    have HC0 : Hid (mkL (evN (kk : Int)) ++ ⟨#[9]⟩ ++ mkL (decS p) = mkL (evN (kk : Int) ++ [9] ++ decS p ++ tgL l 0)) := Lib.hid (by rw [mkL_tab, mkL_app2]; simp [tgL])
    have HOK := Lib.hid hok
    have HN := Lib.hid hn
    have hsz : (mkL (evN (kk : Int)) ++ ⟨#[9]⟩ : ByteArray).size ≤ 10 := by rw [ByteArray.size_append]; have : (⟨#[9]⟩ : ByteArray).size = 1 := rfl; omega
    have HLen : Hid (∀ i, i ≤ n → (mkL (evN (kk : Int) ++ [9] ++ decS p ++ tgL l i)).size ≤ 10050) := Lib.hid fun i hi => by
      have h1 := tgL_len hok i (by omega)
      rw [mkL_size] at hNl hDl
      rw [mkL_size, List.length_append, List.length_append, List.length_append, List.length_singleton]; omega
    have HSt : Hid (∀ i, rnNew l i = true → mkL (evN (kk : Int) ++ [9] ++ decS p ++ tgL l i) ++ ⟨#[9]⟩ ++ mkL (decS (l.getD i (0, 0)).2) ++ mkL (leF (l.getD i (0, 0)).1) = mkL (evN (kk : Int) ++ [9] ++ decS p ++ tgL l (i + 1))) := Lib.hid fun i h => by
      rw [mkL_tab, mkL_app2, mkL_app2, tgL_new h]
      simp only [List.append_assoc]
    have HSo : Hid (∀ i, rnNew l i = false → mkL (evN (kk : Int) ++ [9] ++ decS p ++ tgL l i) ++ mkL (leF (l.getD i (0, 0)).1) = mkL (evN (kk : Int) ++ [9] ++ decS p ++ tgL l (i + 1))) := Lib.hid fun i h => by
      rw [mkL_app2, tgL_old h]
      simp only [List.append_assoc]
    obtain ⟨M, hM⟩ : ∃ M : Nat → ByteArray, ∀ i, mkL (evN (kk : Int) ++ [9] ++ decS p ++ tgL l i) = M i := ⟨fun i => mkL (evN (kk : Int) ++ [9] ++ decS p ++ tgL l i), fun _ => rfl⟩
    simp only [hM] at HT HC0 HLen HSt HSo
    clear hM hT hok hm hn hkn hk B0 B1 hq hr y x hs hp1
    generalize mkL (evN (kk : Int)) = nm at *
    generalize mkL (decS p) = dp at *
    replace DC := Lib.hid DC
    go_enter Tryd.func18, Tryd.ntmps18
    go_upto_region 1 with fail
    clear hW0
    unfold evNames at hW1
    have HN1 : Hid (Below W1.heap.size W1 W1) := Lib.hid (Below.refl _ _)
    go_upto_region 7 with (go_at_call 55; refine (DC.out _).mono ?_; rintro e wd ⟨rfl, rfl⟩)
    clear hW1 cn
    have X1 := Lib.hid x1
    clear x0 x2 y0 y0'
    go_loopw [4, 5] (fun sv iv wr => ∃ i : Nat, i ≤ n ∧ iv = .int .i64 (i : Int) ∧ sv = .string (M i) ∧ Hid (Below W1.heap.size W1 wr)) (fun _ iv _ => n - (intOf iv).toNat)
    case atStart => exact ⟨0, Nat.zero_le _, rfl, by rw [HC0.out], HN1⟩
    case round =>
      obtain ⟨i, hi, rfl, rfl, hb⟩ := hrel
      clear HN1
      have c1e := (hb.out.cell (p := ⟨w.heap.size, 1, none⟩) (block_lt_of_cell X1.out)).trans X1.out
      by_cases hlt : i < n
      · have hi0 : (0 : Int) ≤ (i : Int) := by omega
        have hi1 : (i : Int) < (n : Int) := by omega
        have HSr := Lib.hid (HS1.out.below hb.out)
        have hm' : l.getD i (0, 0) ∈ l := getD_memS (by rw [HN.out]; exact hlt)
        have hlab := sg_lab HOK.out _ hm'
        have hrt := sg_right HOK.out _ hm'
        have LT := Lib.hid fun wx => rletters_ref (l.getD i (0, 0)).1 wx hrt
        have DL : Hid (∀ wx : World, Calls Tryd.prog 55 #[.int .i64 (l.getD i (0, 0)).2] wx fun e w' => e = .returned (.string (mkL (decS (l.getD i (0, 0)).2))) ∧ wx = w') := Lib.hid fun wx => dec_ref (l.getD i (0, 0)).2.natAbs (l.getD i (0, 0)).2 wx (Nat.le_refl _) (by omega) (by omega)
        have hz0 := HLen.out i hi
        have hz3 : (mkL (decS (l.getD i (0, 0)).2)).size ≤ 21 := by rw [mkL_size]; exact decS_len _
        have hz4 : (mkL (leF (l.getD i (0, 0)).1)).size ≤ 8 := by rw [mkL_size]; exact leF_len8 hrt
        have hst := HSt.out i; have hso := HSo.out i
        have hnew : rnNew l i = (decide (i = 0) || (l.getD i (0, 0)).2 != (l.getD (i - 1) (0, 0)).2) := rfl
        obtain ⟨ab, aoff, rfl, hblk, c1, c2⟩ := HSr.out i (by rw [HN.out]; exact hlt)
        have hprev : 0 < i → wr.cell? ⟨ab, aoff + (i - 1) * 2 + 1, none⟩ = some (.int .i64 (l.getD (i - 1) (0, 0)).2) := fun h0 => by
          obtain ⟨b', off', e', _, _, c2'⟩ := HSr.out (i - 1) (by rw [HN.out]; omega)
          obtain ⟨rfl, rfl⟩ : ab = b' ∧ aoff = off' := by simpa using e'
          exact c2'
        generalize (l.getD (i - 1) (0, 0)).2 = u0 at *
        generalize mkL (decS (l.getD i (0, 0)).2) = du at *
        generalize mkL (leF (l.getD i (0, 0)).1) = le at *
        obtain ⟨v, u, hp⟩ : ∃ v u, l.getD i (0, 0) = (v, u) := ⟨_, _, rfl⟩
        rw [hp] at c1 c2 hnew LT DL
        dsimp only at c1 c2 hnew LT DL
        have hz1 : (M i ++ ⟨#[9]⟩ : ByteArray).size ≤ 10051 := by rw [ByteArray.size_append]; have : (⟨#[9]⟩ : ByteArray).size = 1 := rfl; omega
        have hz2 : (M i ++ ⟨#[9]⟩ ++ du : ByteArray).size ≤ 10072 := by rw [ByteArray.size_append]; omega
        clear hp hm' hlab hrt
        have c1d : ∀ q, (wr.drewN q).cell? ⟨w.heap.size, 1, none⟩ = some (.slice (some ⟨ab, aoff, none⟩) n c) := fun q => c1e
        cases hw : rnNew l i
        · rw [hw] at hnew hso
          have hnew' := hnew.symm
          rw [Bool.or_eq_false_iff] at hnew'
          have hd0 : ((i : Int) == 0) = false := by rw [beq_eq_false_iff_ne]; have := of_decide_eq_false hnew'.1; omega
          have hd1 : (u != u0) = false := hnew'.2
          have hip : 0 < i := by have := of_decide_eq_false hnew'.1; omega
          have cp := hprev hip
          have hk2 : (0 : Int) ≤ (i : Int) - 1 := by omega
          have hk3 : (i : Int) - 1 < (n : Int) := by omega
          have HF := Lib.hid (hso rfl)
          clear hnew hnew' hst hso hprev hw
          go_wp2
          go_quiet (fail)
          go_wp2_with (go_at_call 56; refine (LT.out _).mono ?_; rintro e w5 ⟨rfl, hb5⟩; have N5 := Lib.hid (seqB (drewN_below hb.out nq) hb5); clear hb5)
          go_roundw
          case rel => exact ⟨i + 1, by omega, by go_num, by rw [← HF.out], N5⟩
          case measure => (simp [intOf]; try omega)
        · rw [hw] at hnew hst
          have HF := Lib.hid (hst rfl)
          by_cases hi00 : i = 0
          · subst hi00
            replace c1 : wr.cell? ⟨ab, aoff, none⟩ = some (.int .i64 v) := by simpa using c1
            replace c2 : wr.cell? ⟨ab, aoff + 1, none⟩ = some (.int .i64 u) := by simpa using c2
            clear hnew hst hso hprev hw
            go_wp2
            go_quiet (fail)
            go_wp2_with (first
              | (go_at_call 55; refine (DL.out _).mono ?_; rintro e wd ⟨rfl, rfl⟩)
              | (go_at_call 56; refine (LT.out _).mono ?_; rintro e w5 ⟨rfl, hb5⟩; have N5 := Lib.hid (seqB (drewN_below hb.out nq) hb5); clear hb5))
            go_roundw
            case rel => exact ⟨0 + 1, by omega, by go_num, by rw [← HF.out], N5⟩
            case measure => (simp [intOf]; try omega)
          · have hd0 : ((i : Int) == 0) = false := by rw [beq_eq_false_iff_ne]; omega
            have hd1 : (u != u0) = true := by
              rw [decide_eq_false hi00, Bool.false_or] at hnew; exact hnew.symm
            have cp := hprev (by omega)
            have hk2 : (0 : Int) ≤ (i : Int) - 1 := by omega
            have hk3 : (i : Int) - 1 < (n : Int) := by omega
            clear hnew hst hso hprev hw
            go_wp2
            go_quiet (fail)
            go_wp2_with (first
              | (go_at_call 55; refine (DL.out _).mono ?_; rintro e wd ⟨rfl, rfl⟩)
              | (go_at_call 56; refine (LT.out _).mono ?_; rintro e w5 ⟨rfl, hb5⟩; have N5 := Lib.hid (seqB (drewN_below hb.out nq) hb5); clear hb5))
            go_roundw
            case rel => exact ⟨i + 1, by omega, by go_num, by rw [← HF.out], N5⟩
            case measure => (simp [intOf]; try omega)
      · obtain rfl : i = n := by omega
        go_wp2
        go_ret
        rw [HT.out]
        exact ⟨rfl, seqB N1.out hb.out⟩
  · rw [if_neg hab, List.append_nil] at hT
    have h256 : kk = 2 ∨ kk = 5 ∨ kk = 6 := by
      have : ¬ ((kk : Int) = 1 ∨ (kk : Int) = 3 ∨ (kk : Int) = 4) := fun h => hab (decide_eq_true h)
      omega
    have HT : Hid (mkL (evT ((kk : Int), l, p)) = mkL (evN (kk : Int))) := Lib.hid (by rw [hT])
    have k7 : (kk : Int) < 7 := by omega
    have k0 : (0 : Int) ≤ (kk : Int) := by omega
    clear hT hok hm hn hkn hk B0 B1 hq hr y x hs hp1 DC
    generalize mkL (evN (kk : Int)) = nm at *
    have b2 : ((kk : Int) == 2) = false := by rw [beq_eq_false_iff_ne]; omega
    have g4 : (4 : Int) < (kk : Int) := by omega
    go_enter Tryd.func18, Tryd.ntmps18
    go_upto_region 1 with fail
    clear hW0
    unfold evNames at hW1
    go_wp2_with fail
    go_ret
    rw [HT.out]
    exact ⟨rfl, N1.out⟩
end Go.Proofs.YtldblffhkokhlaaDoor
set_option linter.unusedVariables false
set_option linter.unusedSimpArgs false
namespace Go.Proofs.YtldblffhkokhlaaDoor
open Go.RowKit
abbrev ev0 : Ev := (0, [], 0)
theorem getD_memE {V : List Ev} {k : Nat} (h : k < V.length) : V.getD k (0, [], 0) ∈ V := by
  rw [List.getD, List.getElem?_eq_getElem h]; exact List.getElem_mem h
def evLt (V : List Ev) : Bool := decide (V.length ≤ 20) && V.all fun v => decide (v.2.1.length ≤ 60)
def evA (V : List Ev) : Bool := V.all evMay
/-- The log of what happened. -/
def lgT (V : List Ev) : List UInt8 := V.flatMap fun v => evT v ++ [10]
theorem lg_take (V : List Ev) (k : Nat) (hk : k < V.length) : lgT (V.take (k + 1)) = lgT (V.take k) ++ evT (V.getD k (0, [], 0)) ++ [10] := by
  unfold lgT
  rw [List.take_succ_eq_append_getElem hk, List.flatMap_append, List.getD, List.getElem?_eq_getElem hk, List.flatMap_cons, List.flatMap_nil, List.append_nil, List.append_assoc]; rfl
theorem lg_len {V : List Ev} (hs : ∀ v ∈ V, evMay v = true ∧ v.2.1.length ≤ 1000) : (lgT V).length ≤ 10029 * V.length := by
  induction V with
  | nil => exact Nat.zero_le _
  | cons v V ih =>
    have h1 := hs v (List.mem_cons_self ..)
    have h2 := evT_len h1.1
    have h3 := ih (fun m hm => hs m (List.mem_cons_of_mem _ hm))
    unfold lgT at h3 ⊢
    rw [List.flatMap_cons, List.length_append, List.length_append, List.length_singleton, List.length_cons]
    omega
set_option maxHeartbeats 2000000 in
theorem light33_ref (h : List Ev) (a : Option Addr) (c : Nat) (w : World) (hl : h.length ≤ 9223372036854775807) (hs : EvsIn w a h) : Calls Tryd.prog 10 #[.slice a h.length c] w fun e w' => e = .returned (.bool (evLt h)) ∧ w = w' := by
  have HS := Lib.hid hs
  clear hs
  go_enter Tryd.func10, Tryd.ntmps10
  go_wp2
  go_loopw [3] (fun iv wr => ∃ k : Nat, k ≤ h.length ∧ iv = .int .i64 (k : Int) ∧ Hid (∀ j, j < k → (h.getD j (0, [], 0)).2.1.length ≤ 60) ∧ w = wr) (fun iv _ => h.length - (intOf iv).toNat)
  case atStart => exact ⟨0, Nat.zero_le _, rfl, Lib.hid (fun j hj => absurd hj (Nat.not_lt_zero j)), rfl⟩
  case round =>
    obtain ⟨k, hk, rfl, HA, rfl⟩ := hrel
    by_cases hlt : k < h.length
    · have hk1 : (k : Int) < h.length := by omega
      have hk0 : (0 : Int) ≤ k := by omega
      obtain ⟨bb, off, ai, ci, rfl, hblt, c0, c1, c2, hsi, _⟩ := HS.out k hlt
      by_cases hx : (h.getD k (0, [], 0)).2.1.length ≤ 60
      · have HA2 : Hid (∀ j, j < k + 1 → (h.getD j (0, [], 0)).2.1.length ≤ 60) := Lib.hid (fun j hj => by
          rcases Nat.lt_succ_iff_lt_or_eq.1 hj with h | rfl
          · exact HA.out j h
          · exact hx)
        clear hsi HA c0 c2
        generalize (h.getD k (0, [], 0)).2.1.length = m at *
        go_wp2
        go_roundw
        case rel => exact ⟨k + 1, by omega, by go_num, HA2, trivial⟩
        case measure => (simp [intOf]; try omega)
      · have hF : Hid (evLt h = false) := Lib.hid (by
          unfold evLt
          rw [Bool.and_eq_false_iff]
          refine Or.inr (List.all_eq_false.2 ⟨_, getD_memE hlt, ?_⟩)
          rw [decide_eq_false hx]; decide)
        clear hsi HA c0 c2
        generalize (h.getD k (0, [], 0)).2.1.length = m at *
        go_wp2
        go_ret
        exact ⟨by rw [hF.out]; rfl, rfl⟩
    · obtain rfl : k = h.length := by omega
      have hF : Hid (evLt h = decide (h.length ≤ 20)) := Lib.hid (by
        unfold evLt
        rw [show (h.all fun v => decide (v.2.1.length ≤ 60)) = true from List.all_eq_true.2 fun l hl => by
          obtain ⟨j, hj, rfl⟩ := List.getElem_of_mem hl
          have := HA.out j hj
          rw [List.getD, List.getElem?_eq_getElem hj] at this
          exact decide_eq_true this, Bool.and_true])
      have hkl : ¬ (h.length : Int) < (h.length : Int) := by omega
      by_cases h30 : h.length ≤ 20
      · have h30i : (h.length : Int) ≤ 20 := by omega
        go_wp2
        go_ret
        exact ⟨by rw [hF.out, decide_eq_true h30]; rfl, rfl⟩
      · have h30i : ¬ (h.length : Int) ≤ 20 := by omega
        go_wp2
        go_ret
        exact ⟨by rw [hF.out, decide_eq_false h30]; rfl, rfl⟩
set_option maxHeartbeats 2000000 in
theorem rall33_ref (h : List Ev) (a : Option Addr) (c : Nat) (w : World) (hl : h.length ≤ 1000000) (hs : EvsIn w a h) (hok : ∀ v ∈ h, v.2.1.length ≤ 1000000) : Calls Tryd.prog 21 #[.slice a h.length c] w fun e w' => e = .returned (.bool (evA h)) ∧ Below w.heap.size w w' := by
  have HS := Lib.hid hs
  have HR := Lib.hid hok
  clear hs hok
  go_enter Tryd.func21, Tryd.ntmps21
  go_wp2
  go_loopw [3] (fun iv wr => ∃ k : Nat, k ≤ h.length ∧ iv = .int .i64 (k : Int) ∧ Hid (∀ j, j < k → evMay (h.getD j (0, [], 0)) = true) ∧ Hid (Below w.heap.size w wr)) (fun iv _ => h.length - (intOf iv).toNat)
  case atStart => exact ⟨0, Nat.zero_le _, rfl, Lib.hid (fun j hj => absurd hj (Nat.not_lt_zero j)), Lib.hid (Below.refl _ _)⟩
  case round =>
    obtain ⟨k, hk, rfl, HA, HB⟩ := hrel
    by_cases hlt : k < h.length
    · have hk1 : (k : Int) < h.length := by omega
      have hk0 : (0 : Int) ≤ k := by omega
      obtain ⟨bb, off, ai, ci, rfl, hblt, c0, c1, c2, hsi, _⟩ := (HS.out.below HB.out) k hlt
      have hri := HR.out _ (getD_memE hlt)
      have hmem := getD_memE hlt
      obtain ⟨v, hv⟩ : ∃ v, h.getD k (0, [], 0) = v := ⟨_, rfl⟩
      rw [hv] at c0 c1 c2 hsi hri hmem
      have HV := Lib.hid hv
      obtain ⟨kk, ll, pp⟩ := v
      dsimp only at c0 c1 c2 hsi hri
      obtain ⟨m, hm⟩ : ∃ m, ll.length = m := ⟨_, rfl⟩
      have SA := rmay33_ref kk ll pp m ai ci wr hm (by omega) hsi
      rw [hm] at c1
      cases hx : evMay (kk, ll, pp) with
      | true =>
        rw [hx] at SA
        have HA2 : Hid (∀ j, j < k + 1 → evMay (h.getD j (0, [], 0)) = true) := Lib.hid (fun j hj => by
          rcases Nat.lt_succ_iff_lt_or_eq.1 hj with h | rfl
          · exact HA.out j h
          · rw [HV.out]; exact hx)
        replace SA := Lib.hid SA
        clear hx hsi hri HA hv hmem hm
        go_wp2_with (go_at_call 15; refine SA.out.mono ?_; rintro e w2 ⟨rfl, hb2⟩; have N2 := Lib.hid (seqB HB.out hb2); clear hb2)
        go_roundw
        case rel => exact ⟨k + 1, by omega, by go_num, HA2, N2⟩
        case measure => (simp [intOf]; try omega)
      | false =>
        rw [hx] at SA
        have hF : Hid (evA h = false) := Lib.hid (by
          unfold evA
          rw [List.all_eq_false]
          exact ⟨_, hmem, by rw [hx]; decide⟩)
        replace SA := Lib.hid SA
        clear hx hsi hri HA hv hmem hm
        go_wp2_with (go_at_call 15; refine SA.out.mono ?_; rintro e w2 ⟨rfl, hb2⟩; have N2 := Lib.hid (seqB HB.out hb2); clear hb2)
        go_ret
        exact ⟨by rw [hF.out]; rfl, N2.out⟩
    · obtain rfl : k = h.length := by omega
      have hF : Hid (evA h = true) := Lib.hid (by
        unfold evA
        rw [List.all_eq_true]
        intro l hl
        obtain ⟨j, hj, rfl⟩ := List.getElem_of_mem hl
        have := HA.out j hj
        rwa [List.getD, List.getElem?_eq_getElem hj] at this)
      have hkl : ¬ (h.length : Int) < (h.length : Int) := by omega
      go_wp2
      go_ret
      exact ⟨by rw [hF.out]; rfl, HB.out⟩
set_option maxHeartbeats 4000000 in
theorem rlog33_ref (h : List Ev) (a : Option Addr) (c : Nat) (w : World) (hl : h.length ≤ 1000) (hs : EvsIn w a h) (hok : ∀ v ∈ h, evMay v = true ∧ v.2.1.length ≤ 1000) : Calls Tryd.prog 23 #[.slice a h.length c] w fun e w' => e = .returned (.string (mkL (lgT h))) ∧ Below w.heap.size w w' := by
  have HS := Lib.hid hs
  have HR := Lib.hid hok
  clear hs hok
  go_enter Tryd.func23, Tryd.ntmps23
  go_wp2
  go_loopw [3, 4] (fun sv iv wr => ∃ (k : Nat) (t : ByteArray), k ≤ h.length ∧ sv = .string t ∧ iv = .int .i64 (k : Int) ∧ Hid (t = mkL (lgT (h.take k))) ∧ Hid (Below w.heap.size w wr)) (fun _ iv _ => h.length - (intOf iv).toNat)
  case atStart => exact ⟨0, ⟨#[]⟩, Nat.zero_le _, rfl, rfl, Lib.hid rfl, Lib.hid (Below.refl _ _)⟩
  case round =>
    obtain ⟨k, t, hk, rfl, rfl, HT, HB⟩ := hrel
    by_cases hlt : k < h.length
    · have hk1 : (k : Int) < h.length := by omega
      have hk0 : (0 : Int) ≤ k := by omega
      obtain ⟨bb, off, ai, ci, rfl, hblt, c0, c1, c2, hsi, _⟩ := (HS.out.below HB.out) k hlt
      have htk := lg_take h k hlt
      have hri := HR.out _ (getD_memE hlt)
      have hlen := lg_len (V := h.take k) (fun l hl => HR.out l (List.mem_of_mem_take hl))
      rw [List.length_take] at hlen
      have hle := evT_len hri.1
      have ht8 : t.size ≤ 20000000 := by rw [HT.out, mkL_size]; omega
      have hs8 : (mkL (evT (h.getD k (0, [], 0)))).size ≤ 11000 := by rw [mkL_size]; omega
      have hnx : Hid (t ++ mkL (evT (h.getD k (0, [], 0))) ++ ⟨#[10]⟩ = mkL (lgT (h.take (k + 1)))) := Lib.hid (by rw [htk, HT.out, mkL_app2]; exact mkL_app2 _ [10])
      have hcs : (t ++ mkL (evT (h.getD k (0, [], 0)))).size ≤ 30000000 := by rw [ByteArray.size_append]; omega
      obtain ⟨v, hv⟩ : ∃ v, h.getD k (0, [], 0) = v := ⟨_, rfl⟩
      rw [hv] at c0 c1 c2 hsi hri hs8 hnx hcs
      obtain ⟨kk, ll, pp⟩ := v
      dsimp only at c0 c1 c2 hsi hri
      obtain ⟨m, hm⟩ : ∃ m, ll.length = m := ⟨_, rfl⟩
      have LE := Lib.hid (rtext33_ref kk ll pp m ai ci wr hm (by omega) hsi hri.1)
      rw [hm] at c1
      clear htk hlen hle hri HT hsi hv hm
      generalize mkL (evT (kk, ll, pp)) = u at *
      go_wp2_with (go_at_call 18; refine LE.out.mono ?_; rintro e w2 ⟨rfl, hb2⟩; have N2 := Lib.hid (seqB HB.out hb2); clear hb2)
      go_roundw
      case rel => exact ⟨k + 1, _, by omega, rfl, by go_num, hnx, N2⟩
      case measure => (simp [intOf]; try omega)
    · obtain rfl : k = h.length := by omega
      rw [List.take_length] at HT
      have hkl : ¬ (h.length : Int) < (h.length : Int) := by omega
      go_wp2
      go_ret
      exact ⟨by rw [HT.out]; rfl, HB.out⟩
end Go.Proofs.YtldblffhkokhlaaDoor
set_option linter.unusedVariables false
set_option linter.unusedSimpArgs false
namespace Go.Proofs.YtldblffhkokhlaaDoor
open Go.RowKit
set_option maxRecDepth 100000 in
set_option maxHeartbeats 8000000 in
theorem r30same (V : List Ev) (n : Nat) (a b : Option Addr) (c d : Nat) (w : World) (hn : V.length = n) (hl : n ≤ 1000000) (hL : ∀ v ∈ V, v.2.1.length ≤ 1000000) (ha : EvsIn w a V) (hb : EvsIn w b V) :
    Calls Tryd.prog 19 #[.slice a n c, .slice b n d] w fun e w' => e = .returned (.bool true) ∧ Below w.heap.size w w' := by
  have HA := Lib.hid ha; have HB := Lib.hid hb; have HLm := Lib.hid hL; have HN := Lib.hid hn
  clear ha hb hL hn
  go_enter Tryd.func19, Tryd.ntmps19
  go_wp2
  go_loopw [5] (fun iv wr => ∃ k : Nat, k ≤ n ∧ iv = .int .i64 (k : Int) ∧ Hid (Below w.heap.size w wr)) (fun iv _ => n - (intOf iv).toNat)
  case atStart => exact ⟨0, Nat.zero_le _, rfl, Lib.hid (Below.refl _ _)⟩
  case round =>
    obtain ⟨k, hk, rfl, hbl⟩ := hrel
    by_cases hlt : k < n
    · have hlt' : k < V.length := by rw [HN.out]; exact hlt
      obtain ⟨b1, o1, a1, e1, rfl, hb1, c0, c1, c2, hs1, _⟩ := (HA.out.below hbl.out) k hlt'
      obtain ⟨b2, o2, a2, e2, rfl, hb2, d0, d1, d2, hs2, _⟩ := (HB.out.below hbl.out) k hlt'
      have hk1 : (k : Int) < n := by omega
      have hk0 : (0 : Int) ≤ k := by omega
      have hvm := getD_memE hlt'
      have hlv := HLm.out _ hvm
      obtain ⟨v, hv⟩ : ∃ v, V.getD k (0, [], 0) = v := ⟨_, rfl⟩
      rw [hv] at c0 c1 c2 hs1 d0 d1 d2 hs2 hlv
      obtain ⟨vk, vl, vp⟩ := v
      dsimp only at c0 c1 c2 d0 d1 d2 hs1 hs2 hlv
      obtain ⟨m, hm⟩ : ∃ m, vl.length = m := ⟨_, rfl⟩
      rw [hm] at c1 d1
      have SM := sgsame_ref vl vl a1 a2 e1 e2 wr.drew (by omega) (by omega) (hs1.below (Below.refl _ _).drew) (hs2.below (Below.refl _ _).drew)
      rw [decide_eq_true rfl, hm] at SM
      replace SM := Lib.hid SM
      have N1 := Lib.hid hbl.out.drew
      clear hv hvm hlv hs1 hs2 hm
      replace c0 : wr.drew.cell? ⟨b1, o1 + k * 3, none⟩ = some (.int .i64 vk) := c0
      replace c1 : wr.drew.cell? ⟨b1, o1 + k * 3 + 1, none⟩ = some (.slice a1 m e1) := c1
      replace c2 : wr.drew.cell? ⟨b1, o1 + k * 3 + 2, none⟩ = some (.int .i64 vp) := c2
      replace d0 : wr.drew.cell? ⟨b2, o2 + k * 3, none⟩ = some (.int .i64 vk) := d0
      replace d1 : wr.drew.cell? ⟨b2, o2 + k * 3 + 1, none⟩ = some (.slice a2 m e2) := d1
      replace d2 : wr.drew.cell? ⟨b2, o2 + k * 3 + 2, none⟩ = some (.int .i64 vp) := d2
      have HC4 : Hid (∀ w', Below wr.drew.heap.size wr.drew w' → w'.cell? ⟨b1, o1 + k * 3, none⟩ = some (.int .i64 vk) ∧ w'.cell? ⟨b1, o1 + k * 3 + 1, none⟩ = some (.slice a1 m e1) ∧ w'.cell? ⟨b1, o1 + k * 3 + 2, none⟩ = some (.int .i64 vp) ∧ w'.cell? ⟨b2, o2 + k * 3, none⟩ = some (.int .i64 vk) ∧ w'.cell? ⟨b2, o2 + k * 3 + 1, none⟩ = some (.slice a2 m e2) ∧ w'.cell? ⟨b2, o2 + k * 3 + 2, none⟩ = some (.int .i64 vp)) := Lib.hid fun w' hb => ⟨(hb.cell (block_lt_of_cell c0)).trans c0, (hb.cell (block_lt_of_cell c1)).trans c1, (hb.cell (block_lt_of_cell c2)).trans c2, (hb.cell (block_lt_of_cell d0)).trans d0, (hb.cell (block_lt_of_cell d1)).trans d1, (hb.cell (block_lt_of_cell d2)).trans d2⟩
      go_upto_region 6 with fail
      go_region_held3 (fun w' => w'.cell? ⟨b1, o1 + k * 3, none⟩ = some (.int .i64 vk) ∧ w'.cell? ⟨b1, o1 + k * 3 + 1, none⟩ = some (.slice a1 m e1) ∧ w'.cell? ⟨b1, o1 + k * 3 + 2, none⟩ = some (.int .i64 vp) ∧ w'.cell? ⟨b2, o2 + k * 3, none⟩ = some (.int .i64 vk) ∧ w'.cell? ⟨b2, o2 + k * 3 + 1, none⟩ = some (.slice a2 m e2) ∧ w'.cell? ⟨b2, o2 + k * 3 + 2, none⟩ = some (.int .i64 vp)) (first | exact ⟨c0, c1, c2, d0, d1, d2⟩ | exact C4 | go_keep)
        (first | (go_at_call 13; refine SM.out.mono ?_; rintro e w1 ⟨rfl, hb3⟩; have N3 := Lib.hid (seqB N1.out hb3); have C4 := HC4.out _ hb3; clear hb3))
      all_goals
        go_wp2
        go_roundw
        case rel => exact ⟨k + 1, by omega, by go_num, N3⟩
        case measure => (simp [intOf]; try omega)
    · obtain rfl : k = n := by omega
      go_wp2
      go_ret
      exact ⟨rfl, hbl.out⟩
end Go.Proofs.YtldblffhkokhlaaDoor
set_option linter.unusedVariables false
set_option linter.unusedSimpArgs false
namespace Go.Proofs.YtldblffhkokhlaaDoor
open Go.RowKit
theorem eparse_any (s : List UInt8) (w : World) (hT : UT w) (hK : EVT w) (hl : s.length ≤ 1000) : Calls Tryd.prog 17 #[.string (mkL s)] w (EvPost (evR ugS s) w) := by
  cases hp : (spB 9 s).2 with
  | nil => exact eparse_one s (spB 9 s).1 w hT hK hl (by unfold pcB; rw [hp])
  | cons q rs =>
    by_cases h : undE q = 0
    · exact eparse_many s (spB 9 s).1 q rs w hT hK hl (by unfold pcB; rw [hp]) h
    · exact eparse_bad s (spB 9 s).1 q rs w hT hK hl (by unfold pcB; rw [hp]) h
theorem evR_T {v : Ev} (h : evMay v = true) (hl : v.2.1.length ≤ 1000) : evR ugS (evT v) = some v := evR_good (fun l k hr hk => ugS_lnL hr k hk) h hl
/-- What pieces tell. -/
def rdPs (ps : List (List UInt8)) : List Ev := ps.filterMap (evR ugS)
def rdOk (ps : List (List UInt8)) : Bool := ps.all fun p => (evR ugS p).isSome
theorem rdPs_take (ps : List (List UInt8)) (k : Nat) (hk : k < ps.length) {v : Ev} (h : evR ugS (ps.getD k []) = some v) : rdPs (ps.take (k + 1)) = rdPs (ps.take k) ++ [v] := by
  unfold rdPs
  have h' : evR ugS ps[k] = some v := by
    rw [List.getD, List.getElem?_eq_getElem hk] at h; exact h
  rw [List.take_succ_eq_append_getElem hk, List.filterMap_append, List.filterMap_cons, h']
  rfl
theorem rdOk_no {ps : List (List UInt8)} {k : Nat} (hk : k < ps.length) (h : evR ugS (ps.getD k []) = none) : rdOk ps = false := by
  unfold rdOk
  rw [List.all_eq_false]
  refine ⟨ps[k], List.getElem_mem hk, ?_⟩
  rw [List.getD, List.getElem?_eq_getElem hk] at h
  rw [show evR ugS ps[k] = none from h]; decide
theorem rdOk_yes {ps : List (List UInt8)} (h : ∀ j, j < ps.length → (evR ugS (ps.getD j [])).isSome = true) : rdOk ps = true := by
  unfold rdOk
  rw [List.all_eq_true]
  intro p hp
  obtain ⟨j, hj, rfl⟩ := List.getElem_of_mem hp
  have := h j hj
  rwa [List.getD, List.getElem?_eq_getElem hj] at this
theorem rdPs_log {ps : List (List UInt8)} (h : rdOk ps = true) : lgT (rdPs ps) = ps.flatMap (fun p : List UInt8 => p ++ [10]) ∧ evA (rdPs ps) = true := by
  induction ps with
  | nil => exact ⟨rfl, rfl⟩
  | cons p ps ih =>
    unfold rdOk at h ih
    rw [List.all_cons, Bool.and_eq_true] at h
    obtain ⟨v, hv⟩ := Option.isSome_iff_exists.1 h.1
    have e : rdPs (p :: ps) = v :: rdPs ps := by unfold rdPs; rw [List.filterMap_cons, hv]
    have hs := evR_some hv
    obtain ⟨h1, h2⟩ := ih h.2
    rw [e]
    refine ⟨?_, ?_⟩
    · unfold lgT at h1 ⊢
      rw [List.flatMap_cons, List.flatMap_cons, h1, hs.2]
    · unfold evA at h2 ⊢
      rw [List.all_cons, hs.1, h2]; rfl
theorem jo_ten (p : List UInt8) (ps : List (List UInt8)) : joB 10 p ps ++ [10] = (p :: ps).flatMap (fun q : List UInt8 => q ++ [10]) := by
  induction ps generalizing p with
  | nil => rw [joB_nil]; simp
  | cons q ps ih =>
    rw [joB_cons, List.flatMap_cons, ← ih q, List.append_assoc, List.append_assoc]; rfl
theorem pc_ten (r : List UInt8) : (pcB 10 r).flatMap (fun q : List UInt8 => q ++ [10]) = r ++ [10] := by
  unfold pcB
  rw [← jo_ten, spB_jo]
theorem evT_ten {v : Ev} (h : evMay v = true) (hl : v.2.1.length ≤ 1000) : ∀ c ∈ evT v, c ≠ 10 := by
  have hm := h
  unfold evMay at h
  simp only [Bool.and_eq_true, decide_eq_true_eq] at h
  obtain ⟨_, _, ⟨h0, h1⟩, hok⟩ := h
  rw [evT_jo]
  intro c hc
  unfold joB at hc
  rcases List.mem_append.1 hc with hc | hc
  · exact (evN_tab v.1 c hc).2
  · rw [List.mem_flatMap] at hc
    obtain ⟨q, hq, hc⟩ := hc
    rcases List.mem_cons.1 hc with rfl | hc
    · decide
    · unfold evP at hq
      split at hq
      · rcases List.mem_cons.1 hq with rfl | hq
        · have hd : ∀ n : Nat, n < 1001 → ∀ c ∈ decS (n : Int), c ≠ 10 := by decide +kernel
          have := hd v.2.2.toNat (by omega)
          rw [Int.toNat_of_nonneg h0] at this
          exact this c hc
        · obtain ⟨r, hr, rfl⟩ := List.mem_map.1 hq
          intro e
          have := ruP_asc hok hr c hc
          rw [e] at this
          exact absurd this.1 (by decide)
      · cases hq
/-- The log of some that may be, read. -/
theorem lg_pc {V : List Ev} (hne : V ≠ []) (h : ∀ v ∈ V, evMay v = true ∧ v.2.1.length ≤ 1000) : ∃ r, lgT V = r ++ [10] ∧ pcB 10 r = V.map evT := by
  cases V with
  | nil => exact absurd rfl hne
  | cons v V =>
    refine ⟨joB 10 (evT v) (V.map evT), ?_, ?_⟩
    · rw [jo_ten]
      unfold lgT
      rw [List.flatMap_cons, List.flatMap_cons, List.flatMap_map]
    · unfold pcB
      rw [spB_of 10 _ _ (evT_ten (h v (List.mem_cons_self ..)).1 (h v (List.mem_cons_self ..)).2) (fun q hq => by
        obtain ⟨u, hu, rfl⟩ := List.mem_map.1 hq
        have := h u (List.mem_cons_of_mem _ hu)
        exact evT_ten this.1 this.2)]
      rfl
theorem rd_map {V : List Ev} (h : ∀ v ∈ V, evMay v = true ∧ v.2.1.length ≤ 1000) : rdOk (V.map evT) = true ∧ rdPs (V.map evT) = V := by
  induction V with
  | nil => exact ⟨rfl, rfl⟩
  | cons v V ih =>
    have h1 := evR_T (h v (List.mem_cons_self ..)).1 (h v (List.mem_cons_self ..)).2
    obtain ⟨h2, h3⟩ := ih (fun u hu => h u (List.mem_cons_of_mem _ hu))
    refine ⟨?_, ?_⟩
    · unfold rdOk at h2 ⊢
      rw [List.map_cons, List.all_cons, h1, h2]; rfl
    · unfold rdPs at h3 ⊢
      rw [List.map_cons, List.filterMap_cons, h1, h3]
theorem suf_yes (r : List UInt8) : Lib.hasSuffix (r ++ [10]) [10] = true ∧ Lib.trimSuffix (r ++ [10]) [10] = r := by
  have h : Lib.hasSuffix (r ++ [10]) [10] = true := by
    unfold Lib.hasSuffix
    rw [List.isSuffixOf_iff_suffix]
    exact ⟨r, rfl⟩
  refine ⟨h, ?_⟩
  unfold Lib.trimSuffix
  rw [if_pos h, List.length_append, List.length_singleton, Nat.add_sub_cancel, List.take_left]
theorem suf_no {s : List UInt8} (h : ∀ r : List UInt8, s ≠ r ++ [10]) : Lib.hasSuffix s [10] = false := by
  unfold Lib.hasSuffix
  cases hx : List.isSuffixOf [10] s
  · rfl
  · rw [List.isSuffixOf_iff_suffix] at hx
    obtain ⟨r, hr⟩ := hx
    exact absurd hr.symm (h r)
/-- What Log answers. -/
def LgPost (h : List Ev) (w : World) (e : Ending) (w' : World) : Prop := e = .returned (.tuple #[.string (mkL (if evA h = true then lgT h else [])), .int .i64 (if evA h = true then 0 else 2)]) ∧ Below w.heap.size w w'
theorem lgpost_no {h : List Ev} {w w' : World} (h0 : evA h = false) (hb : Below w.heap.size w w') : LgPost h w (.returned (.tuple #[.string ⟨#[]⟩, .int .i64 2])) w' := by
  unfold LgPost; rw [h0]; exact ⟨rfl, hb⟩
theorem lgpost_yes {h : List Ev} {w w' : World} {ls : List UInt8} (h0 : evA h = true) (hl : lgT h = ls) (hb : Below w.heap.size w w') : LgPost h w (.returned (.tuple #[.string (mkL ls), .int .i64 0])) w' := by
  unfold LgPost; rw [h0, hl]; exact ⟨rfl, hb⟩
set_option maxRecDepth 100000 in
set_option maxHeartbeats 4000000 in
theorem elog_any (h : List Ev) (n : Nat) (a : Option Addr) (c : Nat) (w : World) (hn : h.length = n) (hl : n ≤ 1000) (hK : EVT w) (hs : EvsIn w a h) (hok : ∀ v ∈ h, v.2.1.length ≤ 1000) : Calls Tryd.prog 20 #[.slice a n c] w (LgPost h w) := by
  have HS := Lib.hid hs
  have HR := Lib.hid hok
  have HK := Lib.hid hK
  clear hs hok hK
  have HN := Lib.hid hn
  have B0 := below_alloc w (.cells #[.pointer none, .slice none 0 0] 103)
  have I0 := blS_new w
  obtain ⟨W0, hW0⟩ : ∃ W0, w.alloc (.cells #[.pointer none, .slice none 0 0] 103) = W0 := ⟨_, rfl⟩
  rw [hW0] at B0 I0
  obtain ⟨B, hB⟩ : ∃ B, w.heap.size = B := ⟨_, rfl⟩
  have hBW : B ≤ W0.heap.size := by have := B0.size; omega
  rw [hB] at I0
  have HI0 := Lib.hid I0
  have HN0 := Lib.hid B0
  have HS0 := Lib.hid hBW
  have HBq := Lib.hid hB
  have WR := Lib.hid (fun (bs : List Value) (s : ByteArray) (w : World) (h2 : IsBld B B bs w) hl hB => bwrite_any B B bs s w h2 hl hB)
  clear B0 I0 hBW hn
  go_enter Tryd.func20, Tryd.ntmps20
  go_upto_region 3 with fail
  clear hW0
  go_loopw [11] (fun iv wr => ∃ k : Nat, k ≤ n ∧ iv = .int .i64 (k : Int) ∧ Hid (∀ j, j < k → evMay (h.getD j (0, [], 0)) = true) ∧ Hid (IsBld B B (Lib.byteCells (lgT (h.take k))) wr) ∧ Hid (B ≤ wr.heap.size) ∧ Hid (Below w.heap.size w wr)) (fun iv _ => n - (intOf iv).toNat)
  case atStart => exact ⟨0, Nat.zero_le _, rfl, Lib.hid (fun j hj => absurd hj (Nat.not_lt_zero j)), HI0, HS0, HN0⟩
  case round =>
    obtain ⟨k, hk, rfl, HA, HI, HBs, HB⟩ := hrel
    clear HI0 HN0 HS0 hB
    by_cases hlt : k < n
    · have hk1 : (k : Int) < n := by omega
      have hk0 : (0 : Int) ≤ k := by omega
      have hlt' : k < h.length := by rw [HN.out]; exact hlt
      obtain ⟨bb, off, ai, ci, rfl, hblt, c0, c1, c2, hsi, hci⟩ := (HS.out.below HB.out) k hlt'
      have hri := HR.out _ (getD_memE hlt')
      have hmem := getD_memE hlt'
      have htk := lg_take h k hlt'
      obtain ⟨v, hv⟩ : ∃ v, h.getD k (0, [], 0) = v := ⟨_, rfl⟩
      rw [hv] at c0 c1 c2 hsi hri hmem htk hci
      have HV := Lib.hid hv
      obtain ⟨kk, ll, pp⟩ := v
      dsimp only at c0 c1 c2 hsi hri hci
      obtain ⟨m, hm⟩ : ∃ m, ll.length = m := ⟨_, rfl⟩
      rw [hm] at c1 hri hci
      have BA := below_alloc wr (.cells #[.int .i64 kk, .slice ai m ci, .int .i64 pp] 24)
      have TX := Lib.hid (etext_any kk ll pp m ai ci _ hm ((HK.out.below HB.out).below BA) hri hci (hsi.below BA))
      have N1 := Lib.hid (seqB HB.out BA)
      have I1 := Lib.hid (blS_below HI.out BA)
      have S1 := Lib.hid (Nat.le_trans HBs.out BA.size)
      cases hx : evMay (kk, ll, pp) with
      | true =>
        rw [hx, if_pos rfl, evE_yes hx] at TX
        have HA2 : Hid (∀ j, j < k + 1 → evMay (h.getD j (0, [], 0)) = true) := Lib.hid (fun j hj => by
          rcases Nat.lt_succ_iff_lt_or_eq.1 hj with h | rfl
          · exact HA.out j h
          · rw [HV.out]; exact hx)
        have hlen := lg_len (V := h.take k) (fun l hl => by
          refine ⟨?_, HR.out l (List.mem_of_mem_take hl)⟩
          obtain ⟨j, hj, rfl⟩ := List.getElem_of_mem hl
          rw [List.length_take] at hj
          have := HA.out j (by omega)
          rw [List.getD, List.getElem?_eq_getElem (by omega)] at this
          rw [List.getElem_take]; exact this)
        rw [List.length_take] at hlen
        have hle := evT_len hx
        dsimp only at hle
        have hs8 : (mkL (evT (kk, ll, pp))).size ≤ 11000 := by rw [mkL_size]; omega
        have hcell : Hid (Lib.byteCells (lgT (h.take (k + 1))) = Lib.byteCells (lgT (h.take k)) ++ Lib.strCells (mkL (evT (kk, ll, pp))) ++ Lib.strCells ⟨#[10]⟩) := Lib.hid (by rw [htk, Lib.byteCells_append, Lib.byteCells_append]; rfl)
        have hbl : (Lib.byteCells (lgT (h.take k))).length ≤ 100000000 := by rw [Lib.byteCells_length]; omega
        have hl1 : (Lib.byteCells (lgT (h.take k))).length + (mkL (evT (kk, ll, pp))).size ≤ 140737488355328 := by omega
        have hl2 : (Lib.byteCells (lgT (h.take k)) ++ Lib.strCells (mkL (evT (kk, ll, pp)))).length + (⟨#[10]⟩ : ByteArray).size ≤ 140737488355328 := by rw [List.length_append, Lib.strCells_length]; have : (⟨#[10]⟩ : ByteArray).size = 1 := rfl; omega
        have HL1 := Lib.hid hl1; have HL2 := Lib.hid hl2
        clear htk hlen hle hs8 hbl hsi hx hmem hv hm HI hl1 hl2 BA
        generalize mkL (evT (kk, ll, pp)) = t at *
        generalize Lib.byteCells (lgT (h.take k)) = bs at *
        go_wp2_with (first
          | (go_at_call 12; refine TX.out.mono ?_; rintro e w2 ⟨rfl, hb2⟩; have I2 := Lib.hid (blS_below I1.out hb2); have N2 := Lib.hid (seqB N1.out hb2); have S2 := Lib.hid (Nat.le_trans S1.out hb2.size); clear hb2 TX)
          | (go_at_call 57; refine (WR.out _ t _ I2.out HL1.out S2.out).mono ?_; rintro e w3 ⟨rfl, hI3, hb3⟩; have N3 := Lib.hid (N2.out.trans (hb3.mono (Nat.le_of_eq HBq.out))); have I3 := Lib.hid (show IsBld B B _ w3 from Or.inr hI3); have S3 := Lib.hid (Nat.le_trans S2.out hb3.size); clear hI3 hb3 HL1)
          | (go_at_call 57; refine (WR.out _ ⟨#[10]⟩ _ I3.out HL2.out S3.out).mono ?_; rintro e w4 ⟨rfl, hI4, hb4⟩; have N4 := Lib.hid (N3.out.trans (hb4.mono (Nat.le_of_eq HBq.out))); have I4 := Lib.hid (show IsBld B B _ w4 from Or.inr hI4); have S4 := Lib.hid (Nat.le_trans S3.out hb4.size); clear hI4 hb4))
        go_roundw
        case rel => exact ⟨k + 1, by omega, by go_num, HA2, Lib.hid (by rw [hcell.out]; exact I4.out), S4, N4⟩
        case measure => (simp [intOf]; try omega)
      | false =>
        rw [hx, if_neg (by decide), evE_no hx] at TX
        have hF : Hid (evA h = false) := Lib.hid (by
          unfold evA
          rw [List.all_eq_false]
          exact ⟨_, hmem, by rw [hx]; decide⟩)
        clear hx hsi hri HA hv hmem hm htk BA HI
        go_wp2_with (go_at_call 12; refine TX.out.mono ?_; rintro e w2 ⟨rfl, hb2⟩; have N2 := Lib.hid (seqB N1.out hb2); clear hb2)
        refine bodyPost_ret (v := .tuple #[.string ⟨#[]⟩, .int .i64 2]) (by simp [results, Tryd.results20, go_sem]) rfl ?_
        exact lgpost_no hF.out N2.out
    · obtain rfl : k = n := by omega
      rw [← HN.out, List.take_length] at HI
      have hF : Hid (evA h = true) := Lib.hid (by
        unfold evA
        rw [List.all_eq_true]
        intro l hl
        obtain ⟨j, hj, rfl⟩ := List.getElem_of_mem hl
        have := HA.out j (by rw [HN.out] at hj; exact hj)
        rwa [List.getD, List.getElem?_eq_getElem hj] at this)
      have ST := Lib.hid (fun (w : World) h2 hB => Tryd.Builder_String_any B B (lgT h) w h2 hB)
      have hkl : ¬ (k : Int) < (k : Int) := by omega
      generalize hls : lgT h = ls at *
      have HLS := Lib.hid hls; clear hls
      go_wp2_with (go_at_call 58; refine (ST.out _ HI.out HBs.out).mono ?_; rintro e w2 ⟨rfl, hb2⟩)
      refine bodyPost_ret (v := .tuple #[.string (mkL ls), .int .i64 0]) (by simp [results, Tryd.results20, go_sem]; rfl) rfl ?_
      exact lgpost_yes hF.out HLS.out (HB.out.trans (hb2.mono (Nat.le_of_eq HBq.out)))
end Go.Proofs.YtldblffhkokhlaaDoor
set_option linter.unusedVariables false
set_option linter.unusedSimpArgs false
namespace Go.Proofs.YtldblffhkokhlaaDoor
open Go.RowKit
theorem infoEvE : (Tryd.prog.info? 24).map (fun i => (i.zero, i.size, i.bytes)) = some (some (.agg #[.int .i64 0, .slice none 0 0, .int .i64 0]), 3, 40) := by kernel_rfl
/-- What happened under way: a row, each's signs of the call's own. -/
structure ErSt (B : Nat) (v : Value) (V : List Ev) (w : World) : Prop where
  ex : ∃ xs : List Value, w.ownsRow B 24 3 v V.length xs ∧ ∀ i, i < V.length → ∃ ai ci, xs[i * 3]? = some (.int .i64 (V.getD i (0, [], 0)).1) ∧ xs[i * 3 + 1]? = some (.slice ai (V.getD i (0, [], 0)).2.1.length ci) ∧ xs[i * 3 + 2]? = some (.int .i64 (V.getD i (0, [], 0)).2.2) ∧ OwS w B (.slice ai (V.getD i (0, [], 0)).2.1.length ci) (V.getD i (0, [], 0)).2.1
  le : B ≤ w.heap.size
theorem ErSt.below {B : Nat} {v : Value} {V : List Ev} {w w' : World} (h : ErSt B v V w) (hb : Below w.heap.size w w') : ErSt B v V w' := by
  obtain ⟨xs, h1, h2⟩ := h.ex
  exact ⟨⟨xs, own_below h1 hb, fun i hi => by obtain ⟨ai, ci, e1, e2, e3, hx⟩ := h2 i hi; exact ⟨ai, ci, e1, e2, e3, own_below hx hb⟩⟩, Nat.le_trans h.le hb.size⟩
theorem ErSt.evs {B : Nat} {v : Value} {V : List Ev} {w : World} (h : ErSt B v V w) : ∃ a c, v = .slice a V.length c ∧ EvsIn w a V := by
  obtain ⟨xs, h1, h2⟩ := h.ex
  rcases h1.2 with ⟨rfl, h0⟩ | ⟨g, cap, cur, rfl, hB, hg, hle, _⟩
  · exact ⟨none, 0, by rw [h0], fun j hj => by omega⟩
  · refine ⟨_, cap, rfl, fun i hi => ?_⟩
    obtain ⟨ai, ci, e1, e2, e3, hx⟩ := h2 i hi
    obtain ⟨a', c', e', hs⟩ := hx.sl
    injection e' with f1 f2 f3
    subst f1; subst f3
    exact ⟨g, 0, ai, ci, rfl, blk_lt hg, by rw [Nat.zero_add, h1.cellAt (i * 3) (by omega)]; exact e1, by rw [Nat.zero_add, h1.cellAt (i * 3 + 1) (by omega)]; exact e2, by rw [Nat.zero_add, h1.cellAt (i * 3 + 2) (by omega)]; exact e3, hs.s, hs.le⟩
theorem ErSt.next {B : Nat} {v v' : Value} {V : List Ev} {u : Ev} {w w1 : World} {xs : List Value} {a : Option Addr} {n c : Nat} (h2 : ∀ i, i < V.length → ∃ ai ci, xs[i * 3]? = some (.int .i64 (V.getD i (0, [], 0)).1) ∧ xs[i * 3 + 1]? = some (.slice ai (V.getD i (0, [], 0)).2.1.length ci) ∧ xs[i * 3 + 2]? = some (.int .i64 (V.getD i (0, [], 0)).2.2) ∧ OwS w B (.slice ai (V.getD i (0, [], 0)).2.1.length ci) (V.getD i (0, [], 0)).2.1) (hn : u.2.1.length = n)
    (hw : w.ownsRow B 24 3 v V.length xs) (hx : OwS w B (.slice a n c) u.2.1) (ho : w1.ownsRow B 24 3 v' (V.length + 1) (xs ++ [.int .i64 u.1, .slice a n c, .int .i64 u.2.2])) (hg : w.grownBy w1 v.ownBlock) (hle : B ≤ w.heap.size) : ErSt B v' (V ++ [u]) w1 := by
  have hk : ∀ y M, OwS w B y M → OwS w1 B y M := fun y M hy => World.ownsRow.kept hy hg (own_ne_own hy hw (by decide))
  have hxl : xs.length = V.length * 3 := hw.1
  subst hn
  refine ⟨⟨_, by rw [List.length_append]; exact ho, fun i hi => ?_⟩, Nat.le_trans hle hg.size⟩
  rw [List.length_append, List.length_singleton] at hi
  by_cases hlt : i < V.length
  · obtain ⟨ai, ci, e1, e2, e3, hy⟩ := h2 i hlt
    have hgd : (V ++ [u]).getD i (0, [], 0) = V.getD i (0, [], 0) := by rw [List.getD, List.getElem?_append_left hlt, List.getD]
    rw [hgd]
    exact ⟨ai, ci, by rw [List.getElem?_append_left (by omega)]; exact e1, by rw [List.getElem?_append_left (by omega)]; exact e2, by rw [List.getElem?_append_left (by omega)]; exact e3, hk _ _ hy⟩
  · obtain rfl : i = V.length := by omega
    have hgd : (V ++ [u]).getD V.length (0, [], 0) = u := by rw [List.getD, List.getElem?_append_right (Nat.le_refl _), Nat.sub_self]; rfl
    rw [hgd]
    refine ⟨a, c, ?_, ?_, ?_, hk _ _ hx⟩
    · rw [List.getElem?_append_right (by omega), hxl, Nat.sub_self]; rfl
    · rw [List.getElem?_append_right (by omega), hxl, show V.length * 3 + 1 - V.length * 3 = 1 by omega]; rfl
    · rw [List.getElem?_append_right (by omega), hxl, show V.length * 3 + 2 - V.length * 3 = 2 by omega]; rfl
theorem ErSt.form {B : Nat} {v : Value} {V : List Ev} {w : World} (h : ErSt B v V w) {n : Nat} (hn : V.length = n) : ∃ a c, v = .slice a n c := by
  obtain ⟨a, c, e, _⟩ := h.evs
  exact ⟨a, c, by rw [e, hn]⟩
/-- What Read answers of pieces. -/
def ErPost (ps : List (List UInt8)) (w : World) (e : Ending) (w' : World) : Prop :=
  (if rdOk ps = true then ∃ a c, e = .returned (.tuple #[.slice a (rdPs ps).length c, .int .i64 0]) ∧ EvsIn w' a (rdPs ps) else e = .returned (.tuple #[.slice none 0 0, .int .i64 10])) ∧ Below w.heap.size w w'
theorem erpost_no {ps : List (List UInt8)} {w w' : World} (h : rdOk ps = false) (hb : Below w.heap.size w w') : ErPost ps w (.returned (.tuple #[.slice none 0 0, .int .i64 10])) w' := by
  unfold ErPost; rw [h]; exact ⟨rfl, hb⟩
theorem erpost_yes {ps : List (List UInt8)} {w w' : World} {a : Option Addr} {n c : Nat} (h : rdOk ps = true) (hn : (rdPs ps).length = n) (hs : EvsIn w' a (rdPs ps)) (hb : Below w.heap.size w w') : ErPost ps w (.returned (.tuple #[.slice a n c, .int .i64 0])) w' := by
  unfold ErPost; rw [h, if_pos rfl]; subst hn; exact ⟨⟨a, c, rfl, hs⟩, hb⟩
theorem eread_nil (w : World) : Calls Tryd.prog 22 #[.string ⟨#[]⟩] w fun e w' => e = .returned (.tuple #[.slice none 0 0, .int .i64 0]) ∧ w = w' := by
  go_enter Tryd.func22, Tryd.ntmps22
  go_wp2
  refine bodyPost_ret (v := .tuple #[.slice none 0 0, .int .i64 0]) (by simp [results, Tryd.results22, go_sem]) rfl ?_
  exact ⟨rfl, rfl⟩
theorem eread_form (s : List UInt8) (w : World) (hne : s ≠ []) (hl : s.length ≤ 1000000) (hs : ∀ r : List UInt8, s ≠ r ++ [10]) : Calls Tryd.prog 22 #[.string (mkL s)] w fun e w' => e = .returned (.tuple #[.slice none 0 0, .int .i64 6]) ∧ w = w' := by
  have SF := fun w => Tryd.strings_HasSuffix (mkL s) ⟨#[10]⟩ w (by rw [mkL_size]; omega)
  rw [show Lib.hasSuffix (mkL s).data.toList (⟨#[10]⟩ : ByteArray).data.toList = false from suf_no hs] at SF
  obtain ⟨hne1, hne2, hne3⟩ := estr_ne (s := mkL s) (t := ⟨#[]⟩) (fun e => hne (mkL_inj e))
  have hie : (mkL s).toList.isEmpty = false := by
    cases hh : (mkL s).toList with
    | nil => rw [hh] at hne3; exact absurd (by rw [ByteArray.toList_eq]) hne3
    | cons c r => rfl
  generalize mkL s = S at *
  replace SF := Lib.hid SF
  clear hne hs
  go_enter Tryd.func22, Tryd.ntmps22
  go_wp2_with (go_at_call 59; refine (SF.out _).mono ?_; rintro e w1 ⟨rfl, rfl⟩)
  refine bodyPost_ret (v := .tuple #[.slice none 0 0, .int .i64 6]) (by simp [results, Tryd.results22, go_sem]) rfl ?_
  exact ⟨rfl, rfl⟩
set_option maxRecDepth 100000 in
set_option maxHeartbeats 4000000 in
theorem eread_ten (r : List UInt8) (w : World) (hT : UT w) (hK : EVT w) (hl : r.length ≤ 1000000) (hp : ∀ p ∈ pcB 10 r, p.length ≤ 1000) : Calls Tryd.prog 22 #[.string (mkL (r ++ [10]))] w (ErPost (pcB 10 r) w) := by
  have SF := Lib.hid fun w => Tryd.strings_HasSuffix (mkL (r ++ [10])) ⟨#[10]⟩ w (by rw [mkL_size, List.length_append, List.length_singleton]; omega)
  rw [show Lib.hasSuffix (mkL (r ++ [10])).data.toList (⟨#[10]⟩ : ByteArray).data.toList = true from (suf_yes r).1] at SF
  have TF := Lib.hid fun w => Tryd.strings_TrimSuffix (mkL (r ++ [10])) ⟨#[10]⟩ w (by rw [mkL_size, List.length_append, List.length_singleton]; omega)
  rw [show (⟨(Lib.trimSuffix (mkL (r ++ [10])).data.toList (⟨#[10]⟩ : ByteArray).data.toList).toArray⟩ : ByteArray) = mkL r from congrArg mkL (suf_yes r).2] at TF
  have SP := Lib.hid fun w => splitb_any 10 r w (by omega)
  obtain ⟨hne1, hne2, hne3⟩ := estr_ne (s := mkL (r ++ [10])) (t := ⟨#[]⟩) (fun e => (by have := mkL_inj e; simp at this : r ++ [10] ≠ []) (mkL_inj e))
  have hie : (mkL (r ++ [10])).toList.isEmpty = false := by
    cases hh : (mkL (r ++ [10])).toList with
    | nil => rw [hh] at hne3; exact absurd (by rw [ByteArray.toList_eq]) hne3
    | cons c r => rfl
  have hpl := pcB_len 10 r
  have HP := Lib.hid hp; have HT := Lib.hid hT; have HK := Lib.hid hK
  clear hp hT hK
  generalize mkL (r ++ [10]) = S at *
  generalize mkL r = R at *
  generalize hps : pcB 10 r = ps at *
  obtain ⟨n, hn⟩ : ∃ n, ps.length = n := ⟨_, rfl⟩
  rw [hn] at SP hpl
  have HN := Lib.hid hn
  clear hps hn
  obtain ⟨i0, hj, hy0, hy1, hy2⟩ := info_parts infoEvE
  go_enter Tryd.func22, Tryd.ntmps22
  go_upto_region 7 with (first
    | (go_at_call 59; refine (SF.out _).mono ?_; rintro e w1 ⟨rfl, hw⟩; replace hw := hw.symm; subst hw)
    | (go_at_call 60; refine (TF.out _).mono ?_; rintro e w1 ⟨rfl, hw⟩; replace hw := hw.symm; subst hw)
    | (go_at_call 50; refine (SP.out _).mono ?_; rintro e w1 ⟨rfl, hpc, hb1⟩; have PC := Lib.hid hpc; have B1 := Lib.hid hb1; clear hpc hb1))
  obtain ⟨g, hg⟩ : ∃ g, w.heap.size = g := ⟨_, rfl⟩
  rw [hg] at PC ⊢
  obtain ⟨B, hB⟩ : ∃ B, w1.heap.size = B := ⟨_, rfl⟩
  have hwB : Hid (w.heap.size ≤ B) := Lib.hid (by rw [← hB]; exact B1.out.size)
  have hgB : Hid (g < B) := Lib.hid (by rw [← hB]; exact PC.out.1)
  have R0 : Hid (ErSt B (.slice none 0 0) (rdPs (ps.take 0)) w1) := Lib.hid ⟨⟨[], World.ownsRow_nil _ _ _ _, fun i hi => absurd hi (Nat.not_lt_zero i)⟩, Nat.le_of_eq hB.symm⟩
  have BB : Hid (Below B w1 w1) := Lib.hid (Below.refl _ _)
  clear SF TF SP hg hB hne1 hne2 hne3 hie
  go_loopw [4, 18] (fun lv iv wr => ∃ k : Nat, k ≤ n ∧ iv = .int .i64 (k : Int) ∧ Hid (ErSt B lv (rdPs (ps.take k)) wr) ∧ Hid (∀ j, j < k → (evR ugS (ps.getD j [])).isSome = true) ∧ Hid ((rdPs (ps.take k)).length ≤ k) ∧ Hid (Below B w1 wr)) (fun _ iv _ => n - (intOf iv).toNat)
  case atStart => exact ⟨0, Nat.zero_le _, rfl, R0, Lib.hid (fun j hj => absurd hj (Nat.not_lt_zero j)), Lib.hid (Nat.le_refl 0), BB⟩
  case round =>
    obtain ⟨k, hk, rfl, HR, HS, HLk, HB⟩ := hrel
    clear R0 BB
    have HBw := Lib.hid (show Below w.heap.size w wr from B1.out.trans (HB.out.mono hwB.out))
    have hlk := HLk.out
    obtain ⟨nv, hnv⟩ : ∃ nv, (rdPs (ps.take k)).length = nv := ⟨_, rfl⟩
    obtain ⟨la, lc, rfl⟩ := HR.out.form hnv
    by_cases hlt : k < n
    · have hk1 : (k : Int) < (n : Int) := by omega
      have hk0 : (0 : Int) ≤ (k : Int) := by omega
      have hlt' : k < ps.length := by rw [HN.out]; exact hlt
      have cc := (HB.out.cell (p := ⟨g, k, none⟩) hgB.out).trans (PC.out.2 k hlt')
      have hpm : ps.getD k [] ∈ ps := by rw [List.getD, List.getElem?_eq_getElem hlt']; exact List.getElem_mem hlt'
      have PS := Lib.hid (eparse_any (ps.getD k []) wr (HT.out.below HBw.out) (HK.out.below HBw.out) (HP.out _ hpm))
      cases hev : evR ugS (ps.getD k []) with
      | none =>
        rw [hev] at PS
        have hF := Lib.hid (rdOk_no hlt' hev)
        generalize mkL (ps.getD k []) = s at *
        clear hev hpm hnv
        go_wp2_with (go_at_call 17; refine PS.out.mono ?_; rintro e w2 ⟨he, hb2⟩; replace he : e = .returned (.tuple #[.agg #[.int .i64 0, .slice none 0 0, .int .i64 0], .int .i64 10]) := he; subst he)
        refine bodyPost_ret (v := .tuple #[.slice none 0 0, .int .i64 10]) (by simp [results, Tryd.results22, go_sem]) rfl ?_
        exact erpost_no hF.out (seqB (seqB HBw.out hb2) (below_alloc _ _))
      | some v =>
        rw [hev] at PS
        have htk := Lib.hid (rdPs_take ps k hlt' hev)
        have HS2 : Hid (∀ j, j < k + 1 → (evR ugS (ps.getD j [])).isSome = true) := Lib.hid (fun j hj => by
          rcases Nat.lt_succ_iff_lt_or_eq.1 hj with h | rfl
          · exact HS.out j h
          · rw [hev]; rfl)
        generalize mkL (ps.getD k []) = s at *
        have HNV := Lib.hid hnv
        have hnk : nv ≤ k := by omega
        clear hev hpm hnv HS
        generalize hE : rdPs (ps.take k) = E at *
        clear hE
        obtain ⟨m, hm⟩ : ∃ m, v.2.1.length = m := ⟨_, rfl⟩
        have HM := Lib.hid hm
        obtain ⟨vk, vl, vp⟩ := v
        dsimp only at hm HM
        clear hm
        go_wp2_with (first
          | (go_at_call 17; refine PS.out.mono ?_; rintro e w2 ⟨⟨a2, c2, he, hos⟩, hb2⟩; dsimp only at he hos; rw [HM.out] at he hos; subst he; have BA := below_alloc w2 (.cells #[.int .i64 vk, .slice a2 m c2, .int .i64 vp] 24); have BA2 := below_alloc (w2.alloc (.cells #[.int .i64 vk, .slice a2 m c2, .int .i64 vp] 24)) (.cells #[.int .i64 vk, .slice a2 m c2, .int .i64 vp] 24); have hbb := seqB (seqB hb2 BA) BA2; have R3 := Lib.hid (HR.out.below hbb); have O3 := Lib.hid (World.ownsRow.mono (own_below (own_below hos BA) BA2) HR.out.le); have B3 := Lib.hid (HB.out.trans (hbb.mono HR.out.le)); have hnew : ∀ j x, ([Value.int .i64 vk, Value.slice a2 m c2, Value.int .i64 vp] : List Value)[j]? = some x → ((w2.alloc (.cells #[.int .i64 vk, .slice a2 m c2, .int .i64 vp] 24)).alloc (.cells #[.int .i64 vk, .slice a2 m c2, .int .i64 vp] 24)).cell? ((⟨w2.heap.size + 1, 0, none⟩ : Addr).add j) = some x := (fun j x hj => app_cells (by simp) hj); obtain ⟨xs, hxw, hxs⟩ := R3.out.ex; rw [HNV.out] at hxw; clear hb2 hos BA BA2 hbb PS)
          | (at_builtin; refine wpList_append_own _ rfl _ _ 26 rfl B 24 i0 _ 3 40 Tryd.underlying26 hj hy0 hy1 hy2 rfl (by decide) _ nv xs rfl hxw ⟨_, 0, none⟩ 1 1 [.int .i64 vk, .slice a2 m c2, .int .i64 vp] rfl rfl hnew (by intro x hx; simp at hx; rcases hx with rfl | rfl | rfl <;> rfl) ?g3 ?g4 R3.out.le ?_))
        case g3 => unfold maxLen; omega
        case g4 => omega
        intro v' w5 hown hgrow _
        rw [← HNV.out] at hown
        have R5 := Lib.hid (ErSt.next (u := (vk, vl, vp)) hxs HM.out (by rw [HNV.out]; exact hxw) O3.out hown hgrow R3.out.le)
        have B5 := Lib.hid (B3.out.grown hgrow R3.out.le (fun k hk => (hxw.lt k hk).1))
        clear hown hgrow hxw hxs
        go_wp2
        go_roundw
        case rel => exact ⟨k + 1, by omega, by go_num, Lib.hid (by rw [htk.out]; exact R5.out), HS2, Lib.hid (by rw [htk.out, List.length_append, HNV.out, List.length_singleton]; omega), B5⟩
        case measure => (simp [intOf]; try omega)
    · obtain rfl : k = n := by omega
      have hF : Hid (rdOk ps = true) := Lib.hid (rdOk_yes fun j hj => HS.out j (by rw [HN.out] at hj; exact hj))
      have HRR := HR
      rw [← HN.out, List.take_length] at HRR hnv
      obtain ⟨_, _, he, hev⟩ := HRR.out.evs
      rw [hnv] at he
      cases he
      have HE := Lib.hid hev
      have HNV := Lib.hid hnv
      have hkl : ¬ (k : Int) < (k : Int) := by omega
      clear hev HRR hnv
      go_wp2
      refine bodyPost_ret (v := .tuple #[.slice la nv lc, .int .i64 0]) (by simp [results, Tryd.results22, go_sem]) rfl ?_
      exact erpost_yes hF.out HNV.out HE.out HBw.out
end Go.Proofs.YtldblffhkokhlaaDoor
set_option linter.unusedVariables false
set_option linter.unusedSimpArgs false
namespace Go.Proofs.YtldblffhkokhlaaDoor
open Go.RowKit
theorem evs_one {w : World} {b : Nat} {k p : Int} {l : List (Int × Int)} {n c : Nat} {a : Option Addr} {t : TypeId} {f : Nat × Nat} (h : w.heap[b]? = some (.cells #[.int .i64 k, .slice a n c, .int .i64 p] t f)) (hn : l.length = n) (hs : Signs w a l) (hc : n ≤ c) : EvsIn w (some ⟨b, 0, none⟩) [(k, l, p)] := fun i hi => by
  obtain rfl : i = 0 := by simpa using hi
  have y := fun i => cell_of_row _ _ i _ _ _ h
  subst hn
  exact ⟨b, 0, a, c, rfl, blk_lt h, y 0, y 1, y 2, hs, hc⟩
theorem evs_two {w : World} {b : Nat} {k p k' p' : Int} {l l' : List (Int × Int)} {n c n' c' : Nat} {a a' : Option Addr} {t : TypeId} {f : Nat × Nat} (h : w.heap[b]? = some (.cells #[.int .i64 k, .slice a n c, .int .i64 p, .int .i64 k', .slice a' n' c', .int .i64 p'] t f)) (hn : l.length = n) (hs : Signs w a l) (hc : n ≤ c) (hn' : l'.length = n') (hs' : Signs w a' l') (hc' : n' ≤ c') : EvsIn w (some ⟨b, 0, none⟩) [(k, l, p), (k', l', p')] := fun i hi => by
  have y := fun i => cell_of_row _ _ i _ _ _ h
  subst hn; subst hn'
  rcases (show i = 0 ∨ i = 1 by simp at hi; omega) with rfl | rfl
  · exact ⟨b, 0, a, c, rfl, blk_lt h, y 0, y 1, y 2, hs, hc⟩
  · exact ⟨b, 0, a', c', rfl, blk_lt h, y 3, y 4, y 5, hs', hc'⟩
def veaL : List (Int × Int) := [(97, 0), (9, 2)]
def veaV : Ev := (1, veaL, 1)
def veaU : Ev := (2, [], 0)
def veaS : List UInt8 := [97, 99, 99, 101, 112, 116, 9, 49, 9, 48, 97, 9, 50, 92, 117, 48, 48, 48, 48, 48, 57]
theorem vea_facts : evMay veaV = true ∧ evT veaV = veaS ∧ evMay veaU = true ∧ evMay ev0 = false := by decide +kernel
theorem vea_ok : ∀ v ∈ [veaV, veaU], evMay v = true ∧ v.2.1.length ≤ 1000 := by
  intro v hv
  rcases List.mem_cons.1 hv with rfl | hv
  · exact ⟨vea_facts.1, by decide⟩
  · rcases List.mem_cons.1 hv with rfl | hv
    · exact ⟨vea_facts.2.2.1, by decide⟩
    · cases hv
theorem vea_parse (w : World) (hT : UT w) (hK : EVT w) : Calls Tryd.prog 17 #[.string ⟨#[97, 99, 99, 101, 112, 116, 9, 49, 9, 48, 97, 9, 50, 92, 117, 48, 48, 48, 48, 48, 57]⟩] w fun e w' => (∃ a c, e = .returned (.tuple #[.agg #[.int .i64 1, .slice a 2 c, .int .i64 1], .int .i64 0]) ∧ OwS w' w.heap.size (.slice a 2 c) veaL) ∧ Below w.heap.size w w' := by
  have h := eparse_any veaS w hT hK (by decide)
  rw [← vea_facts.2.1, evR_T vea_facts.1 (by decide), vea_facts.2.1] at h
  exact h
theorem vea_text (a : Option Addr) (c : Nat) (w : World) (hK : EVT w) (hc : 2 ≤ c) (hs : Signs w a veaL) : Calls Tryd.prog 12 #[.agg #[.int .i64 1, .slice a 2 c, .int .i64 1]] w fun e w' => e = .returned (.tuple #[.string ⟨#[97, 99, 99, 101, 112, 116, 9, 49, 9, 48, 97, 9, 50, 92, 117, 48, 48, 48, 48, 48, 57]⟩, .int .i64 0]) ∧ Below w.heap.size w w' := by
  have h := etext_good 1 veaL 1 2 a c w rfl hK (by decide) hc hs vea_facts.1
  rw [show evT (1, veaL, 1) = veaS from vea_facts.2.1] at h
  exact h
def veaT : List UInt8 := lgT [veaV, veaU]
theorem vea_log (a : Option Addr) (w : World) (hK : EVT w) (hs : EvsIn w a [veaV, veaU]) : Calls Tryd.prog 20 #[.slice a 2 2] w fun e w' => e = .returned (.tuple #[.string (mkL veaT), .int .i64 0]) ∧ Below w.heap.size w w' := by
  have h := elog_any [veaV, veaU] 2 a 2 w rfl (by decide) hK hs (fun v hv => (vea_ok v hv).2)
  unfold LgPost at h
  rw [show evA [veaV, veaU] = true from List.all_eq_true.2 fun v hv => (vea_ok v hv).1] at h
  exact h
theorem vea_read (w : World) (hT : UT w) (hK : EVT w) : Calls Tryd.prog 22 #[.string (mkL veaT)] w fun e w' => (∃ a c, e = .returned (.tuple #[.slice a 2 c, .int .i64 0]) ∧ EvsIn w' a [veaV, veaU]) ∧ Below w.heap.size w w' := by
  obtain ⟨r, h1, h2⟩ := lg_pc (V := [veaV, veaU]) (by simp) vea_ok
  have h3 := lg_len vea_ok
  rw [h1, List.length_append, List.length_singleton] at h3
  have h := eread_ten r w hT hK (by simp at h3; omega) (fun p hp => by
    rw [h2] at hp
    obtain ⟨v, hv, rfl⟩ := List.mem_map.1 hp
    have := evT_len (vea_ok v hv).1
    have h4 : v.2.1.length ≤ 2 := by
      rcases List.mem_cons.1 hv with rfl | hv
      · decide
      · rcases List.mem_cons.1 hv with rfl | hv
        · decide
        · cases hv
    omega)
  rw [h2] at h
  unfold ErPost at h
  obtain ⟨h5, h6⟩ := rd_map vea_ok
  rw [h5, h6] at h
  unfold veaT
  rw [h1]
  refine h.mono fun e w' hh => ?_
  rw [if_pos rfl] at hh
  exact hh
theorem vea_check (w : World) (hK : EVT w) : Calls Tryd.prog 16 #[.agg #[.int .i64 0, .slice none 0 0, .int .i64 0]] w fun e w' => e = .returned (.int .i64 2) ∧ Below w.heap.size w w' := by
  have h := echeck_any 0 [] 0 0 none 0 w rfl hK (by decide) (fun j hj => absurd hj (Nat.not_lt_zero j))
  rw [evE_no vea_facts.2.2.2] at h
  exact h
end Go.Proofs.YtldblffhkokhlaaDoor
set_option linter.unusedVariables false
set_option linter.unusedSimpArgs false
namespace Go.Proofs.YtldblffhkokhlaaDoor
open Go.RowKit
set_option maxRecDepth 100000 in
set_option maxHeartbeats 8000000 in
theorem awake33_any (w : World) (hT : UT w) (hK : EVT w) : Calls Tryd.prog 11 #[] w fun e w' => e = .returned (.bool true) ∧ Below w.heap.size w w' := by
  have B0 := below_alloc w (.cells #[.int .i64 97, .int .i64 0, .int .i64 9, .int .i64 2] 77)
  have p0 : (w.alloc (.cells #[.int .i64 97, .int .i64 0, .int .i64 9, .int .i64 2] 77)).heap[w.heap.size]? = some (.cells (sRow veaL) 77 (0, 0)) := heap_alloc_new w (.cells #[.int .i64 97, .int .i64 0, .int .i64 9, .int .i64 2] 77)
  obtain ⟨W0, hW0⟩ : ∃ W0, w.alloc (.cells #[.int .i64 97, .int .i64 0, .int .i64 9, .int .i64 2] 77) = W0 := ⟨_, rfl⟩
  rw [hW0] at B0 p0
  have B1 := below_alloc W0 (.cells #[.int .i64 1, .slice (some ⟨w.heap.size, 0, none⟩) 2 2, .int .i64 1] 24)
  have p1 := heap_alloc_new W0 (.cells #[.int .i64 1, .slice (some ⟨w.heap.size, 0, none⟩) 2 2, .int .i64 1] 24)
  obtain ⟨W1, hW1⟩ : ∃ W1, W0.alloc (.cells #[.int .i64 1, .slice (some ⟨w.heap.size, 0, none⟩) 2 2, .int .i64 1] 24) = W1 := ⟨_, rfl⟩
  rw [hW1] at B1 p1
  have N1 := Lib.hid (seqB B0 B1)
  have S1 := Lib.hid (signs_of_blk (blk_below p0 B1))
  have V1 := Lib.hid p1
  have HT := Lib.hid hT; have HK := Lib.hid hK
  have y := fun i => cell_of_row _ _ i _ _ _ p1
  have y0 := y 0; have y1 := y 1; have y2 := y 2
  dsimp at y0 y1 y2
  have PX := Lib.hid fun (wx : World) hT hK => vea_parse wx hT hK
  have TX := Lib.hid fun (wx : World) hK hs => vea_text (some ⟨w.heap.size, 0, none⟩) 2 wx hK (Nat.le_refl _) hs
  obtain ⟨S, hS⟩ : ∃ S : ByteArray, (⟨#[97, 99, 99, 101, 112, 116, 9, 49, 9, 48, 97, 9, 50, 92, 117, 48, 48, 48, 48, 48, 57]⟩ : ByteArray) = S := ⟨_, rfl⟩
  have hS1 : Hid ((S.toList == (⟨#[97, 99, 99, 101, 112, 116, 9, 49, 9, 48, 97, 9, 50, 92, 117, 48, 48, 48, 48, 48, 57]⟩ : ByteArray).toList) = true) := Lib.hid (by rw [hS]; simp)
  have hS2 : Hid ((S.toList == [97, 99, 99, 101, 112, 116, 9, 49, 9, 48, 97, 9, 50, 92, 117, 48, 48, 48, 48, 48, 57]) = true) := Lib.hid (by rw [← hS, ByteArray.toList_eq]; rfl)
  rw [hS] at TX PX
  clear hS
  have EQ := Lib.hid fun (n m : Nat) (a b : Option Addr) (wx : World) (ha : EvsIn wx a [veaV]) (hb : EvsIn wx b [veaV]) => esame_any [veaV] [veaV] 1 1 a b 1 1 wx rfl rfl (by decide) (by decide) (by decide) (by decide) ha hb
  rw [show evsQ [veaV] [veaV] = true from decide_eq_true rfl] at EQ
  clear y B0 B1 p0 p1 hT hK
  go_enter Tryd.func11, Tryd.ntmps11
  go_upto_region 2 with fail
  clear hW0 hW1
  go_upto_region 4 with (first
    | (go_at_call 12; refine (TX.out _ (HK.out.below N1.out) S1.out).mono ?_; rintro e w2 ⟨rfl, hb2⟩; have N2 := Lib.hid (seqB N1.out hb2); have S2 := Lib.hid (S1.out.below hb2); have V2 := Lib.hid (blk_below V1.out hb2); clear hb2 y0 y1 y2 TX)
    | (go_at_call 17; refine (PX.out _ (HT.out.below N2.out) (HK.out.below N2.out)).mono ?_; rintro e w3 ⟨⟨xa, xc, rfl, hox⟩, hb3⟩; have BA := below_alloc w3 (.cells #[.int .i64 1, .slice xa 2 xc, .int .i64 1] 24); have N3 := Lib.hid (seqB (seqB N2.out hb3) BA); have S3 := Lib.hid ((S2.out.below hb3).below BA); have V3 := Lib.hid (blk_below (blk_below V2.out hb3) BA); have O3 := Lib.hid (own_below hox BA); have X3 := Lib.hid (heap_alloc_new w3 (.cells #[.int .i64 1, .slice xa 2 xc, .int .i64 1] 24)); have y := fun i => cell_of_row _ _ i _ _ _ V3.out; have y0 := y 0; have y1 := y 1; have y2 := y 2; dsimp at y0 y1 y2; clear hb3 BA hox y))
  obtain ⟨xb, hxb⟩ : ∃ xb, w3.heap.size = xb := ⟨_, rfl⟩
  obtain ⟨WA, hWA⟩ : ∃ WA, w3.alloc (.cells #[.int .i64 1, .slice xa 2 xc, .int .i64 1] 24) = WA := ⟨_, rfl⟩
  rw [hxb] at X3 ⊢
  rw [hWA] at N3 S3 V3 O3 X3 y0 y1 y2 ⊢
  clear hxb hWA N2 S2 V2 N1 S1 V1
  obtain ⟨vb, hvb⟩ : ∃ vb, W0.heap.size = vb := ⟨_, rfl⟩
  obtain ⟨sb, hsb⟩ : ∃ sb, w.heap.size = sb := ⟨_, rfl⟩
  rw [hvb] at V3 y0 y1 y2 ⊢
  rw [hsb] at V3 y1 S3 ⊢
  have BL := below_alloc WA (.cells #[.int .i64 1, .slice (some ⟨sb, 0, none⟩) 2 2, .int .i64 1, .int .i64 2, .slice none 0 0, .int .i64 0] 24)
  have EL := Lib.hid (evs_two (heap_alloc_new WA (.cells #[.int .i64 1, .slice (some ⟨sb, 0, none⟩) 2 2, .int .i64 1, .int .i64 2, .slice none 0 0, .int .i64 0] 24)) (l := veaL) (l' := []) rfl (S3.out.below BL) (Nat.le_refl _) rfl (fun j hj => absurd hj (Nat.not_lt_zero j)) (Nat.le_refl _))
  have HBL := Lib.hid BL
  have NL := Lib.hid (seqB N3.out BL)
  clear hvb hsb BL
  go_upto_region 6 with (first
    | (go_at_call 20; refine (vea_log _ _ (HK.out.below NL.out) EL.out).mono ?_; rintro e w5 ⟨rfl, hb5⟩; have D5 := Lib.hid (seqB HBL.out hb5); have N5 := Lib.hid (seqB N3.out D5.out); clear hb5)
    | (go_at_call 22; refine (vea_read _ (HT.out.below N5.out) (HK.out.below N5.out)).mono ?_; rintro e w6 ⟨⟨la, lc, rfl, hev⟩, hb6⟩; have D6 := Lib.hid (seqB D5.out hb6); have N6 := Lib.hid (seqB N3.out D6.out); have E6 := Lib.hid hev; clear hb6 hev))
  obtain ⟨lb, loff, _, _, rfl, hlb, l0, _⟩ := E6.out 1 (by decide)
  replace l0 : w6.cell? ⟨lb, loff + 3, none⟩ = some (.int .i64 2) := l0
  have V6 := blk_below V3.out D6.out
  have X6 := blk_below X3.out D6.out
  have S6 := S3.out.below D6.out
  have hO6 : OwS w6 w2.heap.size (.slice xa 2 xc) veaL := own_below O3.out D6.out
  obtain ⟨_, _, hxe, hxs⟩ := hO6.sl
  injection hxe with f1 f2 f3
  subst f1; subst f3; clear f2
  have C1 := below_alloc w6 (.cells #[.int .i64 1, .slice xa 2 xc, .int .i64 1] 24)
  have C2 := below_alloc (w6.alloc (.cells #[.int .i64 1, .slice xa 2 xc, .int .i64 1] 24)) (.cells #[.int .i64 1, .slice (some ⟨sb, 0, none⟩) 2 2, .int .i64 1] 24)
  have hs2 : (w6.alloc (.cells #[.int .i64 1, .slice xa 2 xc, .int .i64 1] 24)).heap.size = w6.heap.size + 1 := by simp
  have HE1 := Lib.hid (evs_one (blk_below (heap_alloc_new w6 (.cells #[.int .i64 1, .slice xa 2 xc, .int .i64 1] 24)) C2) (l := veaL) rfl ((hxs.s.below C1).below C2) hxs.le)
  have HE2 := Lib.hid (evs_one (heap_alloc_new (w6.alloc (.cells #[.int .i64 1, .slice xa 2 xc, .int .i64 1] 24)) (.cells #[.int .i64 1, .slice (some ⟨sb, 0, none⟩) 2 2, .int .i64 1] 24)) (l := veaL) rfl ((S6.below C1).below C2) (Nat.le_refl _))
  rw [hs2] at HE2
  have x := fun i => cell_of_row _ _ i _ _ _ X6
  have x0 := x 0; have x1 := x 1; have x2 := x 2
  have v := fun i => cell_of_row _ _ i _ _ _ (blk_below V6 C1)
  have v0 := v 0; have v1 := v 1; have v2 := v 2
  dsimp at x0 x1 x2 v0 v1 v2
  have NC := Lib.hid (seqB N6.out (seqB C1 C2))
  have hl3 := ((seqB C1 C2).cell (p := ⟨lb, loff + 3, none⟩) hlb).trans l0
  have HL3 := Lib.hid hl3
  have hlb2 := Lib.hid (Nat.lt_of_lt_of_le hlb (seqB C1 C2).size)
  have h1 := hS1.out; have h2 := hS2.out
  clear x v X6 V6 S6 hxs C1 C2 hs2 l0 hl3 y0 y1 y2
  go_wp2_with (first
    | (go_at_call 14; refine (EQ.out 1 1 _ _ _ HE1.out HE2.out).mono ?_; rintro e w7 ⟨rfl, hb7⟩; have N7 := Lib.hid (seqB NC.out hb7); have l7 := (hb7.cell (p := ⟨lb, loff + 3, none⟩) hlb2.out).trans HL3.out; clear hb7)
    | (go_at_call 16; refine (vea_check _ (HK.out.below N7.out)).mono ?_; rintro e w8 ⟨rfl, hb8⟩; have N8 := Lib.hid (seqB N7.out hb8); clear hb8))
  go_ret
  exact ⟨rfl, N8.out⟩
end Go.Proofs.YtldblffhkokhlaaDoor
