/-
  Joined: Ud8 Ud10 Ud11 ArgS.
-/
import Derived.Test.YtjgffedcbdnddaaDoorJU01
import Derived.Test.YtjgffedcbdnddaaDoorJU05
import Derived.Deep.RegionHeld3
import Derived.Deep.AppendLies
import Derived.Deep.Onto
import Derived.Deep.RegionLaw
import Derived.Deep.SlicePairs
import Derived.ChangeArms
import Derived.Lib.LaidTab
import Derived.Lib.LaidU8
import Derived.Lib.SmallJoins
set_option linter.unusedVariables false
set_option linter.unusedSimpArgs false
set_option maxRecDepth 100000
set_option linter.unusedVariables false
set_option linter.unusedSimpArgs false
namespace Go.Proofs.YtjgffedcbdnddaaDoor
open Go.RowKit
/-- A step, and where its signs lie. -/
abbrev StR := UStp × (Option Addr × Nat) × (Option Addr × Nat)
def stA (q : StR) : Array Value := #[.int .i64 (q.1.1 : Int), .slice q.2.1.1 q.1.2.1.length q.2.1.2, .slice q.2.2.1 q.1.2.2.1.length q.2.2.2, .int .i64 q.1.2.2.2]
def bkR (q : StR) (x : ULn) : StR := (bkU q.1 x, q.2.2, q.2.1)
/-- A step's signs lie in blocks of F. -/
structure StIn (F : Nat → Prop) (w : World) (q : StR) : Prop where
  g : SlS F w q.2.1.1 q.1.2.1 q.2.1.2
  c : SlS F w q.2.2.1 q.1.2.2.1 q.2.2.2
  pg : q.1.2.1 ≠ [] → PlB w q.2.1.1
  pc : q.1.2.2.1 ≠ [] → PlB w q.2.2.1
theorem plb_keep {F : Nat → Prop} {w w' : World} {a : Option Addr} {L : List Sn} {c : Nat} (h : L ≠ [] → PlB w a) (s : SlS F w a L c) (hk : ∀ k, F k → w'.heap[k]? = w.heap[k]?) : L ≠ [] → PlB w' a := fun hn ad e => by
  obtain ⟨tA, csA, lo, hi, h1, h2⟩ := h hn ad e
  exact ⟨tA, csA, lo, hi, (hk _ (s.st ad e hn)).trans h1, h2⟩
theorem StIn.keep {F : Nat → Prop} {w w' : World} {q : StR} (h : StIn F w q) (hs : w.heap.size ≤ w'.heap.size) (hk : ∀ k, F k → w'.heap[k]? = w.heap[k]?) : StIn F w' q :=
  ⟨h.g.keep hs hk, h.c.keep hs hk, plb_keep h.pg h.g hk, plb_keep h.pc h.c hk⟩
theorem StIn.mono {F G : Nat → Prop} {w : World} {q : StR} (h : StIn F w q) (hF : ∀ k, F k → G k) : StIn G w q := ⟨h.g.mono hF, h.c.mono hF, h.pg, h.pc⟩
theorem StIn.back {F : Nat → Prop} {w : World} {q : StR} (h : StIn F w q) (x : ULn) : StIn F w (bkR q x) := ⟨h.c, h.g, h.pc, h.pg⟩
/-- What the doing of a step leaves of the world. -/
structure DoP (P : Nat) (most : Int) (vs rw rt : Value) (y : ULn) (w w' : World) : Prop where
  ex : ∃ vs', w'.heap[P]? = some (.cells #[.int .i64 most, vs', .int .i64 y.2, rw, rt] 49 (0, 0)) ∧ RmS w' 0 vs' y.1 ∧ ∀ k, vs'.ownBlock = some k → vs.ownBlock = some k ∨ w.heap.size ≤ k
  os : w'.os = w.os
  tape : w'.tape = w.tape
  output : w'.output = w.output
  size : w.heap.size ≤ w'.heap.size
  oth : ∀ k, k < w.heap.size → k ≠ P → vs.ownBlock ≠ some k → w'.heap[k]? = w.heap[k]?
def DoPost (q : StR) (x : ULn) (P : Nat) (most : Int) (vs rw rt : Value) (y : ULn) (w : World) (e : Ending) (w' : World) : Prop := e = .returned (.agg (stA (bkR q x))) ∧ DoP P most vs rw rt y w w'
theorem own_typS {w : World} {B : Nat} {v : Value} {L : List Sn} (h : RmS w B v L) {k : Nat} {cs : Array Value} {t : TypeId} {f : Nat × Nat} (hk : w.heap[k]? = some (.cells cs t f)) (ht : t ≠ 56) : v.ownBlock ≠ some k := fun e => by
  rcases h with ⟨rfl, _⟩ | ⟨g, D, rfl, _, h3, _⟩
  · cases e
  · have e2 : g = k := Option.some.inj e
    subst e2
    rw [h3] at hk
    injection hk with hk
    injection hk with _ e3 _
    exact ht e3.symm
theorem cell_hp {w w' : World} {b : Nat} (h : w'.heap[b]? = w.heap[b]?) (i : Nat) : w'.cell? ⟨b, i, none⟩ = w.cell? ⟨b, i, none⟩ := by
  unfold World.cell?; rw [h]
theorem cell_far {w : World} {p q : Addr} (h : q.block ≠ p.block) (u : Value) : (w.setCell p u).cell? q = w.cell? q := by
  unfold World.cell?; rw [Below.heap_setCell w p u q.block h]
theorem wrap_pg (a b : Nat) (h : a + b ≤ 1000000) : IntKind.i64.wrap ((a : Int) + (b : Int)) = (a : Int) + (b : Int) := by
  rw [IntKind.wrap_i64]; omega
theorem typTr : 49 ≠ 56 := by decide
theorem infoUst : (Tryd.prog.info? 63).map (fun i => i.size) = some 4 := by kernel_rfl
set_option maxRecDepth 100000 in
set_option maxHeartbeats 8000000 in
theorem doer_any (pt P : Nat) (most : Int) (vs rw rt : Value) (x y : ULn) (q : StR) (w : World) (hq : w.cell? ⟨pt, 0, none⟩ = some (.pointer (some ⟨P, 1, none⟩))) (hP : w.heap[P]? = some (.cells #[.int .i64 most, vs, .int .i64 x.2, rw, rt] 49 (0, 0)))
    (hv : RmS w 0 vs x.1) (hl : Ld q.1 x y) (hs : StIn (fun k => k ≠ P ∧ vs.ownBlock ≠ some k) w q) (hx : x.1.length ≤ 100000) (hy : y.1.length ≤ 100000) :
    Calls Tryd.prog 36 #[.agg (stA q), .pointer (some ⟨pt, 0, none⟩)] w (DoPost q x P most vs rw rt y w) := by
  have hlen := hl.len
  have hfit := hl.fits
  have hdo := hl.does
  obtain ⟨⟨pl, G, C, at'⟩, ⟨ga, gc⟩, ⟨ca, cc⟩⟩ := q
  obtain ⟨X, xa⟩ := x
  unfold doU at hdo
  unfold stA
  dsimp only at *
  obtain ⟨g, hg⟩ : ∃ g, G.length = g := ⟨_, rfl⟩
  obtain ⟨c, hc⟩ : ∃ c, C.length = c := ⟨_, rfl⟩
  obtain ⟨n, hn⟩ : ∃ n, X.length = n := ⟨_, rfl⟩
  rw [hg, hc]
  rw [hg, hn] at hfit
  rw [hg, hc, hn] at hlen
  rw [hn] at hx
  -- the boxes
  have b0 := below_alloc w (.cells #[.int .i64 (pl : Int), .slice ga g gc, .slice ca c cc, .int .i64 at'] 63)
  have r0 := heap_alloc_new w (.cells #[.int .i64 (pl : Int), .slice ga g gc, .slice ca c cc, .int .i64 at'] 63)
  obtain ⟨B0, hB0⟩ : ∃ B0, w.heap.size = B0 := ⟨_, rfl⟩
  obtain ⟨W0, hW0⟩ : ∃ W0, w.alloc (.cells #[.int .i64 (pl : Int), .slice ga g gc, .slice ca c cc, .int .i64 at'] 63) = W0 := ⟨_, rfl⟩
  rw [hW0] at b0 r0
  have b1 := below_alloc W0 (.cells #[.int .i64 0, .slice none 0 0, .slice none 0 0, .int .i64 0] 63)
  have r1 := heap_alloc_new W0 (.cells #[.int .i64 0, .slice none 0 0, .slice none 0 0, .int .i64 0] 63)
  obtain ⟨B1, hB1⟩ : ∃ B1, W0.heap.size = B1 := ⟨_, rfl⟩
  obtain ⟨W1, hW1⟩ : ∃ W1, W0.alloc (.cells #[.int .i64 0, .slice none 0 0, .slice none 0 0, .int .i64 0] 63) = W1 := ⟨_, rfl⟩
  rw [hW1] at b1 r1
  have r01 := blk_below r0 b1
  rw [hB0] at r01 b0
  rw [hB1] at r1
  have BW := seqB (show Below w.heap.size w W0 by rw [hB0]; exact b0) b1
  have BH := Lib.hid BW
  have b0sz := Lib.hid (show w.heap.size ≤ W0.heap.size by have := b0.size; omega)
  have R01 := Lib.hid r01; have R1 := Lib.hid r1
  have hPlt : P < w.heap.size := blk_lt hP
  have HP1 := Lib.hid ((BW.block P hPlt).trans hP)
  have q1 := (BW.cell (p := ⟨pt, 0, none⟩) (block_lt_of_cell hq)).trans hq
  have xx := fun i => cell_of_row _ _ i _ _ _ R01.out
  have x0 := xx 0; have x1 := xx 1; have x2 := xx 2; have x3 := xx 3
  have pp := fun i => cell_of_row _ _ i _ _ _ HP1.out
  have p1 := pp 1; have p2 := pp 2
  dsimp at x0 x1 x2 x3 p1 p2
  have al : ∀ (o : Obj) (b i : Nat) (v : Value), W1.cell? ⟨b, i, none⟩ = some v → (W1.alloc o).cell? ⟨b, i, none⟩ = some v := fun o b i v h => (World.cell?_alloc_lt _ _ _ (block_lt_of_cell h)).trans h
  have q1a := fun o => al o _ _ _ q1
  have p1a := fun o => al o _ _ _ p1; have p2a := fun o => al o _ _ _ p2
  have x0a := fun o => al o _ _ _ x0; have x1a := fun o => al o _ _ _ x1; have x2a := fun o => al o _ _ _ x2
  have HV := Lib.hid hv; have HS := Lib.hid hs
  have HPlt := Lib.hid hPlt
  clear al xx pp b0 b1 r0 r1 r01 hP hv hs hPlt BW
  go_enter Tryd.func36, Tryd.ntmps36
  go_upto_region 1 with fail
  go_region
  have bn := (below_alloc W1 (.cells #[.int .i64 (pl : Int), .slice ca c cc, .slice ga g gc, .int .i64 xa] 63)).drew
  have rn : (W1.alloc (.cells #[.int .i64 (pl : Int), .slice ca c cc, .slice ga g gc, .int .i64 xa] 63)).drew.heap[W1.heap.size]? = some (.cells #[.int .i64 (pl : Int), .slice ca c cc, .slice ga g gc, .int .i64 xa] 63 (0, 0)) := heap_alloc_new W1 _
  obtain ⟨W2, hW2⟩ : ∃ W2, (W1.alloc (.cells #[.int .i64 (pl : Int), .slice ca c cc, .slice ga g gc, .int .i64 xa] 63)).drew = W2 := ⟨_, rfl⟩
  have h1lt := blk_lt R1.out
  have b1lt := Lib.hid (show w.heap.size ≤ B1 by rw [← hB1]; exact b0sz.out)
  obtain ⟨B2, hB2⟩ : ∃ B2, W1.heap.size = B2 := ⟨_, rfl⟩
  rw [hW2] at bn rn ⊢
  rw [hB2] at rn h1lt ⊢
  have BW2 := seqB BH.out bn
  have B2H := Lib.hid BW2
  have R02 := Lib.hid (blk_below R01.out bn); have R12 := Lib.hid (blk_below R1.out bn); have R22 := Lib.hid rn
  have HP2 := Lib.hid (blk_below HP1.out bn)
  have H1L := Lib.hid h1lt
  have q2 := (bn.cell (p := ⟨pt, 0, none⟩) (block_lt_of_cell q1)).trans q1
  have xx := fun i => cell_of_row _ _ i _ _ _ R02.out
  have y0 := xx 0; have y1 := xx 1; have y2 := xx 2; have y3 := xx 3
  have pp := fun i => cell_of_row _ _ i _ _ _ HP2.out
  have s1 := pp 1
  dsimp at y0 y1 y2 y3 s1
  clear xx pp bn rn q1 q1a p1 p2 p1a p2a x0 x1 x2 x3 x0a x1a x2a R01 R1 HP1 BH hW2 hW0 hW1 hB1
  as_aux_lemma =>
    -- the call
    have hVS : ∀ j, vs.ownBlock = some j → j < w.heap.size := fun j hj => (HV.out.lt j hj).2
    have BD := BW2.drew
    have V2 : RmS W2.drew 0 vs X := HV.out.keep (fun k hk => BD.block k (hVS k hk))
    have S2 : SlS (fun k => vs.ownBlock ≠ some k) W2.drew ca C cc := (HS.out.c.below BD).mono fun k hk => hk.2
    have P2 : C ≠ [] → PlB W2.drew ca := fun hne ad e => by
      obtain ⟨tA, csA, lo, hi, h1, h2⟩ := HS.out.pc hne ad e
      exact ⟨tA, csA, lo, hi, (BD.block _ (blk_lt h1)).trans h1, h2⟩
    have RP := replace_any vs X C 0 pl (pl + g) n c ca cc W2.drew V2 hn hc (by omega) hfit S2 P2 (by omega) (Nat.zero_le _)
    rw [hg] at hdo
    have hY : X.take pl ++ C ++ X.drop (pl + g) = y.1 := by rw [← hdo]
    have hYa : at' = y.2 := by rw [← hdo]
    rw [hY, Int.natCast_add] at RP
    have hwr : IntKind.i64.wrap ((pl : Int) + (g : Int)) = (pl : Int) + (g : Int) := wrap_pg pl g (by omega)
    rw [← hwr] at RP
    have hPt : vs.ownBlock ≠ some P := own_typS V2 (show W2.drew.heap[P]? = _ from HP2.out) typTr
    have hptv : vs.ownBlock ≠ some pt := fun e => by
      rcases V2 with ⟨rfl, _⟩ | ⟨gb, D, rfl, _, h3, _⟩
      · cases e
      · have e2 : gb = pt := Option.some.inj e
        subst e2
        have h4 := cell_of_row _ _ 0 _ _ _ h3
        rw [show W2.drew.cell? ⟨gb, 0, none⟩ = W2.cell? ⟨gb, 0, none⟩ from rfl, q2] at h4
        cases D with
        | nil => simp [sRow] at h4
        | cons a D => simp [sRow] at h4
    have hb0 : vs.ownBlock ≠ some B0 := fun e => by have := hVS _ e; omega
    have hb1 : vs.ownBlock ≠ some B1 := fun e => by have := hVS _ e; have := blk_lt R02.out; have := B2H.out.size; have := b1lt.out; omega
    have hb2 : vs.ownBlock ≠ some B2 := fun e => by have := hVS _ e; have := b1lt.out; have := H1L.out; omega
    have RPh := Lib.hid RP
    have HG := Lib.hid (And.intro hc hg)
    have hPlt0 : P < w.heap.size := HPlt.out
    have hB0P := Lib.hid (show B0 ≠ P by omega)
    have hPpt := Lib.hid (show pt ≠ P from fun e => by
      subst e
      have h4 := cell_of_row _ _ 0 _ _ _ HP2.out
      rw [q2] at h4
      simp at h4)
    have HN := Lib.hid (And.intro hPt (And.intro hptv (And.intro hb0 (And.intro hb1 hb2))))
    have lt0 := Lib.hid (blk_lt R02.out); have lt1 := Lib.hid (blk_lt R12.out); have lt2 := Lib.hid (blk_lt R22.out); have ltp := Lib.hid (blk_lt HP2.out); have ltq := Lib.hid (block_lt_of_cell q2)
    have HYa := Lib.hid hYa
    clear hwr RP V2 S2 P2 BD BW2 hdo hY hYa hPt hptv hb0 hb1 hb2 hVS hlen hfit hl hx hy hg hc hn
    go_upto_region 2 with fail
    have q2d : W2.drew.cell? ⟨pt, 0, none⟩ = some (.pointer (some ⟨P, 1, none⟩)) := q2
    have y0d : W2.drew.cell? ⟨B0, 0, none⟩ = some (.int .i64 (pl : Int)) := y0
    have y1d : W2.drew.cell? ⟨B0, 1, none⟩ = some (.slice ga g gc) := y1
    have y2d : W2.drew.cell? ⟨B0, 2, none⟩ = some (.slice ca c cc) := y2
    have s1d : W2.drew.cell? ⟨P, 1, none⟩ = some vs := s1
    clear y0 y1 y2 y3 s1
    refine wp_region_held_drew (S := fun w' => w'.cell? ⟨pt, 0, none⟩ = some (.pointer (some ⟨P, 1, none⟩)) ∧ w'.cell? ⟨B0, 0, none⟩ = some (.int .i64 (pl : Int)) ∧ w'.cell? ⟨B0, 1, none⟩ = some (.slice ga g gc) ∧ w'.cell? ⟨B0, 2, none⟩ = some (.slice ca c cc)) (by kernel_rfl) ⟨q2d, y0d, y1d, y2d⟩ (fun hHeld => ?_)
    refine wpAnyH_take (i := 0) (v := .pointer (some ⟨P, 1, none⟩)) rfl (by kernel_rfl) (by kernel_rfl) (by kernel_rfl) (fun _ _ _ h => h) (Or.inl ⟨by rfl, ?y0⟩) (by assumption) ?r0
    case y0 =>
      as_aux_lemma =>
        intro w hSw
        try dsimp only at hSw
        go_simp
        all_goals with_reducible rfl
    try simp only [Act.put, List.getElem_toArray, List.getElem_cons_zero, List.getElem_cons_succ, List.setIfInBounds_toArray, List.set_cons_zero, List.set_cons_succ]
    refine wpAnyH_take (i := 1) (v := .pointer (some ⟨P, 1, none⟩)) rfl (by kernel_rfl) (by kernel_rfl) (by kernel_rfl) (fun _ _ _ h => h) (Or.inl ⟨by rfl, ?y1⟩) (by assumption) ?r1
    case y1 =>
      as_aux_lemma =>
        intro w hSw
        try dsimp only at hSw
        go_simp
        all_goals with_reducible rfl
    try simp only [Act.put, List.getElem_toArray, List.getElem_cons_zero, List.getElem_cons_succ, List.setIfInBounds_toArray, List.set_cons_zero, List.set_cons_succ]
    refine wpAnyH_take (i := 2) (v := .pointer (some ⟨P, 1, none⟩)) rfl (by kernel_rfl) (by kernel_rfl) (by kernel_rfl) (fun _ _ _ h => h) (Or.inl ⟨by rfl, ?y2⟩) (by assumption) ?r2
    case y2 =>
      as_aux_lemma =>
        intro w hSw
        try dsimp only at hSw
        go_simp
        all_goals with_reducible rfl
    try simp only [Act.put, List.getElem_toArray, List.getElem_cons_zero, List.getElem_cons_succ, List.setIfInBounds_toArray, List.set_cons_zero, List.set_cons_succ]
    refine wpAnyH_take (i := 3) (v := .pointer (some ⟨P, 1, none⟩)) rfl (by kernel_rfl) (by kernel_rfl) (by kernel_rfl) (fun _ _ _ h => h) (Or.inl ⟨by rfl, ?y3⟩) (by assumption) ?r3
    case y3 =>
      as_aux_lemma =>
        intro w hSw
        try dsimp only at hSw
        go_simp
        all_goals with_reducible rfl
    try simp only [Act.put, List.getElem_toArray, List.getElem_cons_zero, List.getElem_cons_succ, List.setIfInBounds_toArray, List.set_cons_zero, List.set_cons_succ]
    refine wpAnyH_take (i := 5) (v := .pointer (some ⟨B0, 0, none⟩)) rfl (by kernel_rfl) (by kernel_rfl) (by kernel_rfl) (fun _ _ _ h => h) (Or.inl ⟨by rfl, ?y5⟩) (by assumption) ?r5
    case y5 =>
      as_aux_lemma =>
        intro w hSw
        try dsimp only at hSw
        go_simp
        all_goals with_reducible rfl
    try simp only [Act.put, List.getElem_toArray, List.getElem_cons_zero, List.getElem_cons_succ, List.setIfInBounds_toArray, List.set_cons_zero, List.set_cons_succ]
    refine wpAnyH_take (i := 6) (v := .int .i64 (pl : Int)) rfl (by kernel_rfl) (by kernel_rfl) (by kernel_rfl) (fun _ _ _ h => h) (Or.inl ⟨by rfl, ?y6⟩) (by assumption) ?r6
    case y6 =>
      as_aux_lemma =>
        intro w hSw
        try dsimp only at hSw
        go_simp
        all_goals with_reducible rfl
    try simp only [Act.put, List.getElem_toArray, List.getElem_cons_zero, List.getElem_cons_succ, List.setIfInBounds_toArray, List.set_cons_zero, List.set_cons_succ]
    refine wpAnyH_take (i := 7) (v := .pointer (some ⟨B0, 0, none⟩)) rfl (by kernel_rfl) (by kernel_rfl) (by kernel_rfl) (fun _ _ _ h => h) (Or.inl ⟨by rfl, ?y7⟩) (by assumption) ?r7
    case y7 =>
      as_aux_lemma =>
        intro w hSw
        try dsimp only at hSw
        go_simp
        all_goals with_reducible rfl
    try simp only [Act.put, List.getElem_toArray, List.getElem_cons_zero, List.getElem_cons_succ, List.setIfInBounds_toArray, List.set_cons_zero, List.set_cons_succ]
    refine wpAnyH_take (i := 8) (v := .int .i64 (pl : Int)) rfl (by kernel_rfl) (by kernel_rfl) (by kernel_rfl) (fun _ _ _ h => h) (Or.inl ⟨by rfl, ?y8⟩) (by assumption) ?r8
    case y8 =>
      as_aux_lemma =>
        intro w hSw
        try dsimp only at hSw
        go_simp
        all_goals with_reducible rfl
    try simp only [Act.put, List.getElem_toArray, List.getElem_cons_zero, List.getElem_cons_succ, List.setIfInBounds_toArray, List.set_cons_zero, List.set_cons_succ]
    refine wpAnyH_take (i := 9) (v := .pointer (some ⟨B0, 1, none⟩)) rfl (by kernel_rfl) (by kernel_rfl) (by kernel_rfl) (fun _ _ _ h => h) (Or.inl ⟨by rfl, ?y9⟩) (by assumption) ?r9
    case y9 =>
      as_aux_lemma =>
        intro w hSw
        try dsimp only at hSw
        go_simp
        all_goals with_reducible rfl
    try simp only [Act.put, List.getElem_toArray, List.getElem_cons_zero, List.getElem_cons_succ, List.setIfInBounds_toArray, List.set_cons_zero, List.set_cons_succ]
    refine wpAnyH_take (i := 10) (v := .slice ga g gc) rfl (by kernel_rfl) (by kernel_rfl) (by kernel_rfl) (fun _ _ _ h => h) (Or.inl ⟨by rfl, ?y10⟩) (by assumption) ?r10
    case y10 =>
      as_aux_lemma =>
        intro w hSw
        try dsimp only at hSw
        go_simp
        all_goals with_reducible rfl
    try simp only [Act.put, List.getElem_toArray, List.getElem_cons_zero, List.getElem_cons_succ, List.setIfInBounds_toArray, List.set_cons_zero, List.set_cons_succ]
    refine wpAnyH_take (i := 11) (v := .int .i64 (g : Int)) rfl (by kernel_rfl) (by kernel_rfl) (by kernel_rfl) (fun _ _ _ h => h) (Or.inl ⟨by rfl, ?y11⟩) (by assumption) ?r11
    case y11 =>
      as_aux_lemma =>
        intro w hSw
        try dsimp only at hSw
        go_simp
        all_goals with_reducible rfl
    try simp only [Act.put, List.getElem_toArray, List.getElem_cons_zero, List.getElem_cons_succ, List.setIfInBounds_toArray, List.set_cons_zero, List.set_cons_succ]
    refine wpAnyH_take (i := 12) (v := .int .i64 (IntKind.i64.wrap ((pl : Int) + (g : Int)))) rfl (by kernel_rfl) (by kernel_rfl) (by kernel_rfl) (fun _ _ _ h => h) (Or.inl ⟨by rfl, ?y12⟩) (by assumption) ?r12
    case y12 =>
      as_aux_lemma =>
        intro w hSw
        try dsimp only at hSw
        go_simp
        all_goals with_reducible rfl
    try simp only [Act.put, List.getElem_toArray, List.getElem_cons_zero, List.getElem_cons_succ, List.setIfInBounds_toArray, List.set_cons_zero, List.set_cons_succ]
    refine wpAnyH_take (i := 13) (v := .pointer (some ⟨B0, 2, none⟩)) rfl (by kernel_rfl) (by kernel_rfl) (by kernel_rfl) (fun _ _ _ h => h) (Or.inl ⟨by rfl, ?y13⟩) (by assumption) ?r13
    case y13 =>
      as_aux_lemma =>
        intro w hSw
        try dsimp only at hSw
        go_simp
        all_goals with_reducible rfl
    try simp only [Act.put, List.getElem_toArray, List.getElem_cons_zero, List.getElem_cons_succ, List.setIfInBounds_toArray, List.set_cons_zero, List.set_cons_succ]
    refine wpAnyH_take (i := 14) (v := .slice ca c cc) rfl (by kernel_rfl) (by kernel_rfl) (by kernel_rfl) (fun _ _ _ h => h) (Or.inl ⟨by rfl, ?y14⟩) (by assumption) ?r14
    case y14 =>
      as_aux_lemma =>
        intro w hSw
        try dsimp only at hSw
        go_simp
        all_goals with_reducible rfl
    try simp only [Act.put, List.getElem_toArray, List.getElem_cons_zero, List.getElem_cons_succ, List.setIfInBounds_toArray, List.set_cons_zero, List.set_cons_succ]
    refine wpAnyH_ready (rs := [4]) (by kernel_rfl) (by simp) ?_
    refine AllReadyH.cons rfl (fun K hK => ?_) AllReadyH.nil
    go_simp
    refine hK.out _ _ ⟨q2d, y0d, y1d, y2d⟩ (fun hHeld4 => ?_)
    clear hK K hHeld
    try simp only [Act.put, List.getElem_toArray, List.getElem_cons_zero, List.getElem_cons_succ, List.setIfInBounds_toArray, List.set_cons_zero, List.set_cons_succ]
    refine wpAnyH_ready (rs := [15]) (by kernel_rfl) (by simp) ?_
    refine AllReadyH.cons rfl (fun K hK => ?_) AllReadyH.nil
    go_simp
    go_at_call 37
    refine RPh.out.mono ?_
    rintro e w6 ⟨v6, rfl, rv6, gr6, ow6⟩
    have k6 : ∀ k, k < W2.heap.size → vs.ownBlock ≠ some k → w6.heap[k]? = W2.heap[k]? := fun k hk hne => gr6.block k hk (fun e => hne e.symm)
    have R06 := Lib.hid ((k6 B0 lt0.out HN.out.2.2.1).trans R02.out)
    have R16 := Lib.hid ((k6 B1 lt1.out HN.out.2.2.2.1).trans R12.out)
    have R26 := Lib.hid ((k6 B2 lt2.out HN.out.2.2.2.2).trans R22.out)
    have HP6 := Lib.hid ((k6 P ltp.out HN.out.1).trans HP2.out)
    have q6 := (cell_hp (k6 pt ltq.out HN.out.2.1) 0).trans q2
    have xx := fun i => cell_of_row _ _ i _ _ _ R06.out
    have z0 := xx 0; have z1 := xx 1; have z2 := xx 2; have z3 := xx 3
    have pp := fun i => cell_of_row _ _ i _ _ _ HP6.out
    have u1 := pp 1; have u2 := pp 2
    dsimp at z0 z1 z2 z3 u1 u2
    have zf := fun i => frozen_of_row _ P i _ _ HP6.out
    obtain ⟨a6, c6, e6, _⟩ := rv6.sl
    subst e6
    have RV6 := Lib.hid rv6; have GR6 := Lib.hid gr6; have OW6 := Lib.hid ow6
    have K6 := Lib.hid k6
    have R07 := blk_far R06.out (p := ⟨P, 1, none⟩) hB0P.out (.slice a6 y.1.length c6)
    have q7 := (cell_far (w := w6) (p := ⟨P, 1, none⟩) (q := ⟨pt, 0, none⟩) hPpt.out (.slice a6 y.1.length c6)).trans q6
    have vv := fun i => cell_of_row _ _ i _ _ _ R07
    have v0 := vv 0; have v1 := vv 1; have v2 := vv 2; have v3 := vv 3
    dsimp at v0 v1 v2 v3
    clear vv R07
    clear xx pp rv6 gr6 ow6 k6
    refine hK.out _ _ ⟨q6, z0, z1, z2⟩ (fun hHeld6 => ?_)
    clear hK K hHeld4
    try simp only [Act.put, List.getElem_toArray, List.getElem_cons_zero, List.getElem_cons_succ, List.setIfInBounds_toArray, List.set_cons_zero, List.set_cons_succ]
    refine wpAnyH_ready (rs := [16]) (by kernel_rfl) (by simp) ?_
    refine AllReadyH.cons rfl (fun K hK => ?_) AllReadyH.nil
    go_simp
    refine hK.out _ _ ⟨q6, z0, z1, z2⟩ (fun hHeld7 => ?_)
    clear hK K hHeld6
    try simp only [Act.put, List.getElem_toArray, List.getElem_cons_zero, List.getElem_cons_succ, List.setIfInBounds_toArray, List.set_cons_zero, List.set_cons_succ]
    refine wpAnyH_ready (rs := [17]) (by kernel_rfl) (by simp) ?_
    refine AllReadyH.cons rfl (fun K hK => ?_) AllReadyH.nil
    go_simp
    refine hK.out _ _ ⟨q6, z0, z1, z2⟩ (fun hHeld8 => ?_)
    clear hK K hHeld7
    try simp only [Act.put, List.getElem_toArray, List.getElem_cons_zero, List.getElem_cons_succ, List.setIfInBounds_toArray, List.set_cons_zero, List.set_cons_succ]
    refine wpAnyH_ready (rs := [18]) (by kernel_rfl) (by simp) ?_
    refine AllReadyH.cons rfl (fun K hK => ?_) AllReadyH.nil
    go_simp
    refine hK.out _ _ ⟨q7, v0, v1, v2⟩ (fun hHeld9 => ?_)
    clear hK K hHeld8
    try simp only [Act.put, List.getElem_toArray, List.getElem_cons_zero, List.getElem_cons_succ, List.setIfInBounds_toArray, List.set_cons_zero, List.set_cons_succ]
    refine wpAnyH_done (by kernel_rfl) ?_ _
    have hB1P : B1 ≠ P := by have := b1lt.out; have := HPlt.out; omega
    have hB2P : B2 ≠ P := by have := b1lt.out; have := HPlt.out; have := H1L.out; omega
    have HP7 : (w6.setCell ⟨P, 1, none⟩ (.slice a6 y.1.length c6)).heap[P]? = some (.cells #[.int .i64 most, .slice a6 y.1.length c6, .int .i64 xa, rw, rt] 49 (0, 0)) := blk_set HP6.out 1 (.slice a6 y.1.length c6)
    have R17 := blk_far R16.out (p := ⟨P, 1, none⟩) hB1P (.slice a6 y.1.length c6)
    have R27 := blk_far R26.out (p := ⟨P, 1, none⟩) hB2P (.slice a6 y.1.length c6)
    have oth7 : ∀ k, k ≠ P → (w6.setCell ⟨P, 1, none⟩ (.slice a6 y.1.length c6)).heap[k]? = w6.heap[k]? := fun k hk => Below.heap_setCell _ _ _ _ hk
    have sz7 : (w6.setCell ⟨P, 1, none⟩ (.slice a6 y.1.length c6)).heap.size = w6.heap.size := by simp [World.setCell]
    obtain ⟨o7, t7, u7⟩ : (w6.setCell ⟨P, 1, none⟩ (.slice a6 y.1.length c6)).os = w6.os ∧ (w6.setCell ⟨P, 1, none⟩ (.slice a6 y.1.length c6)).tape = w6.tape ∧ (w6.setCell ⟨P, 1, none⟩ (.slice a6 y.1.length c6)).output = w6.output := ⟨rfl, rfl, rfl⟩
    obtain ⟨W7, hW7⟩ : ∃ W7, w6.setCell ⟨P, 1, none⟩ (.slice a6 y.1.length c6) = W7 := ⟨_, rfl⟩
    rw [hW7] at HP7 R17 R27 oth7 sz7 o7 t7 u7 q7 v0 v1 v2 v3 ⊢
    have pp := fun i => cell_of_row _ _ i _ _ _ HP7
    have p1 := pp 1; have p2 := pp 2
    dsimp at p1 p2
    have zf7 := fun i => frozen_of_row _ P i _ _ HP7
    have HP8 : (W7.setCell ⟨P, 2, none⟩ (.int .i64 at')).heap[P]? = some (.cells #[.int .i64 most, .slice a6 y.1.length c6, .int .i64 at', rw, rt] 49 (0, 0)) := blk_set HP7 2 (.int .i64 at')
    have R18 := blk_far R17 (p := ⟨P, 2, none⟩) hB1P (.int .i64 at')
    have R28 := blk_far R27 (p := ⟨P, 2, none⟩) hB2P (.int .i64 at')
    have oth8 : ∀ k, k ≠ P → (W7.setCell ⟨P, 2, none⟩ (.int .i64 at')).heap[k]? = w6.heap[k]? := fun k hk => (Below.heap_setCell _ _ _ _ hk).trans (oth7 k hk)
    have sz8 : (W7.setCell ⟨P, 2, none⟩ (.int .i64 at')).heap.size = w6.heap.size := by rw [← sz7]; simp [World.setCell]
    have H8 := Lib.hid (And.intro HP8 (And.intro R18 (And.intro R28 (And.intro oth8 sz8))))
    have H7 := Lib.hid (And.intro o7 (And.intro t7 u7))
    have HNE := Lib.hid (And.intro hB1P hB2P)
    clear hW7 oth7 sz7 oth8 sz8 HP7 R17 R27 HP8 R18 R28 pp o7 t7 u7 hHeld9 q6 u1 u2 z0 z1 z2 z3 zf q2 q2d y0d y1d y2d s1d hB1P hB2P
    go_upto_region 4 with fail
    obtain ⟨hp8, r18, r28, ot8, s8⟩ := H8.out
    obtain ⟨W8, hW8⟩ : ∃ W8, W7.setCell ⟨P, 2, none⟩ (.int .i64 at') = W8 := ⟨_, rfl⟩
    obtain ⟨o8, t8, u8⟩ : (W7.setCell ⟨P, 2, none⟩ (.int .i64 at')).os = w6.os ∧ (W7.setCell ⟨P, 2, none⟩ (.int .i64 at')).tape = w6.tape ∧ (W7.setCell ⟨P, 2, none⟩ (.int .i64 at')).output = w6.output := H7.out
    rw [hW8] at hp8 r18 r28 ot8 s8 o8 t8 u8 ⊢
    have xx := fun i => cell_of_row _ _ i _ _ _ r28
    have n0 := xx 0; have n1 := xx 1; have n2 := xx 2; have n3 := xx 3
    have yy := fun i => cell_of_row _ _ i _ _ _ r18
    have m0 := yy 0; have m1 := yy 1; have m2 := yy 2; have m3 := yy 3
    dsimp at n0 n1 n2 n3 m0 m1 m2 m3
    have zf8 := fun i => frozen_of_row _ B1 i _ _ r18
    have RF := Lib.hid (blk_set (blk_set (blk_set (blk_set r18 0 (.int .i64 (pl : Int))) 1 (.slice ca c cc)) 2 (.slice ga g gc)) 3 (.int .i64 xa))
    have F8 := Lib.hid (And.intro hp8 (And.intro ot8 (And.intro s8 (And.intro o8 (And.intro t8 u8)))))
    clear xx yy hW8 hp8 r18 r28 ot8 s8 o8 t8 u8 H8 p1 p2 zf7 v0 v1 v2 v3
    go_wp2
    refine bodyPost_ret (results_cell_row rfl _ _ B1 63 _ (0, 0) _ rfl RF.out Tryd.underlying63 rfl (infoUst.trans rfl)) rfl ⟨?_, ?_⟩
    · unfold stA bkR bkU
      try dsimp only
      (try rw [HG.out.1, HG.out.2]) <;> rfl
    · obtain ⟨hp8, ot8, s8, o8, t8, u8⟩ := F8.out
      have far : ∀ (k : Nat) (W : World), k ≠ B1 → ((((W.setCell ⟨B1, 0, none⟩ (.int .i64 (pl : Int))).setCell ⟨B1, 1, none⟩ (.slice ca c cc)).setCell ⟨B1, 2, none⟩ (.slice ga g gc)).setCell ⟨B1, 3, none⟩ (.int .i64 xa)).heap[k]? = W.heap[k]? := fun k W hk =>
        (Below.heap_setCell _ _ _ _ hk).trans ((Below.heap_setCell _ _ _ _ hk).trans ((Below.heap_setCell _ _ _ _ hk).trans (Below.heap_setCell _ _ _ _ hk)))
      have szf : ((((W8.setCell ⟨B1, 0, none⟩ (.int .i64 (pl : Int))).setCell ⟨B1, 1, none⟩ (.slice ca c cc)).setCell ⟨B1, 2, none⟩ (.slice ga g gc)).setCell ⟨B1, 3, none⟩ (.int .i64 xa)).heap.size = w6.heap.size := by rw [← s8]; simp [World.setCell]
      have vn : ∀ k, (Value.slice a6 y.1.length c6).ownBlock = some k → k ≠ P ∧ k ≠ B1 := fun k hk => by
        have hkt : k ≠ P := fun e => own_typS RV6.out HP6.out typTr (by rw [hk, e])
        refine ⟨hkt, fun e => ?_⟩
        rcases OW6.out k hk with h | h
        · exact HN.out.2.2.2.1 (by rw [h, e])
        · have h2 : W2.heap.size ≤ k := h
          have := lt1.out; omega
      refine ⟨⟨.slice a6 y.1.length c6, ?_, ?_, fun k hk => ?_⟩, o8.trans (GR6.out.os.trans B2H.out.os), t8.trans (GR6.out.tape.trans B2H.out.tape), u8.trans (GR6.out.output.trans B2H.out.output), ?_, fun k hk hkP hkv => ?_⟩
      · rw [far P W8 HNE.out.1.symm, hp8, HYa.out]
      · refine RV6.out.keep fun k hk => ?_
        rw [far k W8 (vn k hk).2, ot8 k (vn k hk).1]
      · rcases OW6.out k hk with h | h
        · exact Or.inl h
        · right
          have h2 : W2.heap.size ≤ k := h
          have := B2H.out.size; omega
      · rw [szf]
        have h2 : W2.heap.size ≤ w6.heap.size := GR6.out.size
        have := B2H.out.size; omega
      · have h1 := b1lt.out
        have h2 := B2H.out.size
        rw [far k W8 (by omega), ot8 k hkP, K6.out k (by omega) hkv]
        exact B2H.out.block k hk
end Go.Proofs.YtjgffedcbdnddaaDoor
set_option linter.unusedVariables false
set_option linter.unusedSimpArgs false
namespace Go.Proofs.YtjgffedcbdnddaaDoor
open Go.RowKit
def tC (L : List StR) : List Value := L.flatMap fun q => [Value.int .i64 (q.1.1 : Int), Value.slice q.2.1.1 q.1.2.1.length q.2.1.2, Value.slice q.2.2.1 q.1.2.2.1.length q.2.2.2, Value.int .i64 q.1.2.2.2]
def q0 : StR := ((0, [], [], 0), (none, 0), (none, 0))
theorem tC_at (L : List StR) : ∀ i, i < L.length → (tC L)[i * 4]? = some (.int .i64 ((L.getD i q0).1.1 : Int)) ∧ (tC L)[i * 4 + 1]? = some (.slice (L.getD i q0).2.1.1 (L.getD i q0).1.2.1.length (L.getD i q0).2.1.2) ∧ (tC L)[i * 4 + 2]? = some (.slice (L.getD i q0).2.2.1 (L.getD i q0).1.2.2.1.length (L.getD i q0).2.2.2) ∧ (tC L)[i * 4 + 3]? = some (.int .i64 (L.getD i q0).1.2.2.2) := by
  induction L with
  | nil => intro i hi; simp at hi
  | cons x L ih =>
    intro i hi
    cases i with
    | zero => exact ⟨rfl, rfl, rfl, rfl⟩
    | succ i =>
      have h := ih i (by simpa using hi)
      rw [show (i + 1) * 4 = i * 4 + 1 + 1 + 1 + 1 by omega]
      exact h
theorem tC_len (L : List StR) : (tC L).length = L.length * 4 := by
  unfold tC
  induction L with
  | nil => rfl
  | cons x L ih => simp only [List.flatMap_cons, List.length_append, List.length_cons, List.length_nil, ih]; omega
theorem tC_app (a b : List StR) : tC (a ++ b) = tC a ++ tC b := by simp [tC]
theorem tC_cons (q : StR) (b : List StR) : tC (q :: b) = tC [q] ++ tC b := tC_app [q] b
theorem tC_sta (q : StR) : tC [q] = (stA q).toList := rfl
theorem tC_one (l : List StR) : ∀ u ∈ tC l, u.oneCell' = true := by
  intro u hu
  unfold tC at hu
  rw [List.mem_flatMap] at hu
  obtain ⟨p, _, hp⟩ := hu
  simp at hp
  rcases hp with rfl | rfl | rfl | rfl <;> rfl
theorem sta_news {w : World} {b : Nat} {q : StR} {T : TypeId} {f : Nat × Nat} (h : w.heap[b]? = some (.cells (stA q) T f)) : ∀ j u, (tC [q])[j]? = some u → w.cell? ((⟨b, 0, none⟩ : Addr).add j) = some u := by
  intro j u hj
  have hadd : (⟨b, 0, none⟩ : Addr).add j = ⟨b, j, none⟩ := by unfold Addr.add; split <;> simp_all
  rw [hadd, cell_of_row w b j _ _ _ h]
  rw [tC_sta] at hj
  rw [← hj]; exact (Array.getElem?_toList).symm
/-- A row of steps of the call's own. -/
def OwT (w : World) (B : Nat) (v : Value) (L : List StR) : Prop := w.ownsRow B 63 4 v L.length (tC L)
theorem infoStep4 : (Tryd.prog.info? 63).map (fun i => (i.zero, i.size)) = some (some (.agg #[.int .i64 0, .slice none 0 0, .slice none 0 0, .int .i64 0]), 4) := by kernel_rfl
theorem bytesStep : ∃ b, (Tryd.prog.info? 63).map (fun i => (i.zero, i.size, i.bytes)) = some (some (.agg #[.int .i64 0, .slice none 0 0, .slice none 0 0, .int .i64 0]), 4, b) ∧ 1 ≤ b ∧ b ≤ 64 := ⟨64, by kernel_rfl, by decide, by decide⟩
theorem owt_nil (w : World) (B : Nat) : OwT w B (.slice none 0 0) [] := World.ownsRow_nil _ _ _ _
theorem OwT.form {w : World} {B : Nat} {v : Value} {L : List StR} {n : Nat} (h : OwT w B v L) (hn : L.length = n) : ∃ a c, v = .slice a n c := by
  subst hn
  rcases h.2 with ⟨rfl, h0⟩ | ⟨g, cap, cur, rfl, _⟩
  · exact ⟨none, 0, by rw [h0]⟩
  · exact ⟨_, cap, rfl⟩
theorem OwT.mono {w : World} {B B' : Nat} {v : Value} {L : List StR} (h : OwT w B v L) (hB : B' ≤ B) : OwT w B' v L := World.ownsRow.mono h hB
theorem OwT.keep {w w' : World} {B : Nat} {v : Value} {L : List StR} (h : OwT w B v L) (hk : ∀ k, v.ownBlock = some k → w'.heap[k]? = w.heap[k]?) : OwT w' B v L := by
  refine ⟨h.1, ?_⟩
  rcases h.2 with hn | ⟨g, cap, cur, rfl, hb, hg, rest⟩
  · exact .inl hn
  · exact .inr ⟨g, cap, cur, rfl, hb, (hk g rfl).trans hg, rest⟩
theorem OwT.lt {w : World} {B : Nat} {v : Value} {L : List StR} (h : OwT w B v L) : ∀ k, v.ownBlock = some k → B ≤ k ∧ k < w.heap.size := World.ownsRow.lt h
theorem OwT.below {w w' : World} {B : Nat} {v : Value} {L : List StR} (h : OwT w B v L) (hb : Below w.heap.size w w') : OwT w' B v L := h.keep fun k hk => hb.block k (h.lt k hk).2
/-- The block of a row that isn't empty is one of steps. -/
theorem own_typT {w : World} {B : Nat} {v : Value} {L : List StR} (h : OwT w B v L) {k : Nat} {cs : Array Value} {t : TypeId} {f : Nat × Nat} (hk : w.heap[k]? = some (.cells cs t f)) (ht : t ≠ 63) : v.ownBlock ≠ some k := fun e => by
  rcases h.2 with ⟨rfl, _⟩ | ⟨g, cap, cur, rfl, _, h3, _⟩
  · cases e
  · have e2 : g = k := Option.some.inj e
    subst e2
    rw [h3] at hk
    injection hk with hk
    injection hk with _ e3 _
    exact ht e3.symm
/-- A step of the row: its four cells. -/
theorem OwT.cell {w : World} {B n : Nat} {a : Option Addr} {c : Nat} {L : List StR} (h : OwT w B (.slice a n c) L) (hn : L.length = n) (i : Nat) (hi : i < n) :
    ∃ g, a = some ⟨g, 0, none⟩ ∧ w.heap.size > g ∧ w.cell? ⟨g, i * 4, none⟩ = some (.int .i64 ((L.getD i q0).1.1 : Int)) ∧ w.cell? ⟨g, i * 4 + 1, none⟩ = some (.slice (L.getD i q0).2.1.1 (L.getD i q0).1.2.1.length (L.getD i q0).2.1.2) ∧
      w.cell? ⟨g, i * 4 + 2, none⟩ = some (.slice (L.getD i q0).2.2.1 (L.getD i q0).1.2.2.1.length (L.getD i q0).2.2.2) ∧ w.cell? ⟨g, i * 4 + 3, none⟩ = some (.int .i64 (L.getD i q0).1.2.2.2) := by
  subst hn
  rcases h.2 with ⟨e, h0⟩ | ⟨g, cap, cur, e, _, hg, _⟩
  · omega
  · injection e with e1 e2 e3
    subst e1; subst e3
    have := tC_at L i hi
    refine ⟨g, rfl, blk_lt hg, ?_, ?_, ?_, ?_⟩
    · rw [World.ownsRow.cellAt h (i * 4) (by omega)]; exact this.1
    · rw [World.ownsRow.cellAt h (i * 4 + 1) (by omega)]; exact this.2.1
    · rw [World.ownsRow.cellAt h (i * 4 + 2) (by omega)]; exact this.2.2.1
    · rw [World.ownsRow.cellAt h (i * 4 + 3) (by omega)]; exact this.2.2.2
/-- The row without its last step. -/
theorem OwT.pop {w : World} {B n : Nat} {a : Option Addr} {c : Nat} {L : List StR} {q : StR} (h : OwT w B (.slice a (n + 1) c) (L ++ [q])) (hn : L.length = n) : OwT w B (.slice a n c) L := by
  subst hn
  refine ⟨tC_len L, ?_⟩
  rcases h.2 with ⟨e, h0⟩ | ⟨g, cap, cur, e, hb, hg, hle, hm, hcs, ht⟩
  · simp at h0
  · injection e with e1 e2 e3
    subst e1; subst e3
    rw [List.length_append, List.length_singleton] at hle ht
    refine .inr ⟨g, _, cur, rfl, hb, hg, by omega, hm, hcs, ?_⟩
    have e4 : cur.toList.take (L.length * 4) = (cur.toList.take ((L.length + 1) * 4)).take (L.length * 4) := by
      rw [List.take_take]; congr 1; omega
    rw [e4, ht, tC_app, List.take_left' (tC_len L)]
theorem OwT.room {w : World} {B n : Nat} {a : Option Addr} {c : Nat} {L : List StR} (h : OwT w B (.slice a n c) L) (hn : L.length = n) : n ≤ c := by
  subst hn
  rcases h.2 with ⟨e, h0⟩ | ⟨g, cap, cur, e, hb, hg, hle, _⟩
  · omega
  · injection e with e1 e2 e3
    subst e3; exact hle
theorem run_append_placeT {P : Program} (w : World) (base : Nat) (t ty e : TypeId) (i : TypeInfo) (z : Value) (size bytes : Nat) (ht : P.underlying t = some (.slice e)) (hi : P.info? e = some i) (hz : i.zero = some z)
    (hsize : i.size = size) (hby : i.bytes = bytes) (hzs : z.cells.size = size) (hsz : 0 < size)
    (v : Value) (n : Nat) (xs : List Value) (hown : w.ownsRow base e size v n xs)
    (a : Addr) (m c : Nat) (news : List Value) (hl : news.length = m * size) (hnews : ∀ j u, news[j]? = some u → w.cell? (a.add j) = some u) (h1 : ∀ u ∈ news, u.oneCell' = true)
    (h63 : n + m ≤ maxLen) (hbytes : (n + m) * bytes ≤ 140737488355328) (hbase : base ≤ w.heap.size) :
    ∃ v' w', (Builtin.append_ #[t, t] ty #[v, .slice (some a) m c]).run P w = .ok v' w' ∧ w'.ownsRow base e size v' (n + m) (xs ++ news) ∧ w.grownBy w' v.ownBlock ∧
      (∀ k, v'.ownBlock = some k → v.ownBlock = some k ∨ w.heap.size ≤ k) := by
  obtain ⟨v', w', hr, h2, h3, _⟩ := run_append_own (P := P) w base t ty e i z size bytes ht hi hz hsize hby hzs hsz v n xs hown a m c news hl hnews h1 h63 hbytes hbase
  refine ⟨v', w', hr, h2, h3, fun k hk => ?_⟩
  rcases hown.2 with ⟨rfl, rfl⟩ | ⟨g, cap, cur, rfl, hbg, hg, hnc, hcm, hcs, htake⟩
  · obtain ⟨v2, w2, hr2, h4, _⟩ := run_append_own (P := P) w w.heap.size t ty e i z size bytes ht hi hz hsize hby hzs hsz _ 0 xs ⟨hown.1, .inl ⟨rfl, rfl⟩⟩ a m c news hl hnews h1 h63 hbytes (Nat.le_refl _)
    rw [hr] at hr2
    injection hr2 with e1 e2
    subst e1
    exact Or.inr (h4.lt k hk).1
  · subst hsize; subst hby
    by_cases hroom : n + m ≤ cap
    · have hr2 := run_append_room (P := P) w t ty e i ht hi g n cap cur hg a m c news hl hnews h1 hroom (by rw [hl, hcs, ← Nat.add_mul]; exact Nat.mul_le_mul_right _ hroom)
      rw [hr] at hr2
      injection hr2 with e1 e2
      subst e1
      exact Or.inl hk
    · have holds := hown.cells (g := g) rfl
      have hr2 := run_append_grow (P := P) w t ty e i z ht hi hz ⟨g, 0, none⟩ n cap xs hown.1 holds a m c news hl hnews (by omega) (by unfold maxLen at h63; omega) (growslice_fits (by omega) hbytes)
      rw [hr] at hr2
      injection hr2 with e1 e2
      subst e1
      simp [Value.ownBlock] at hk
      exact Or.inr (by omega)
/-- An append of a step to a row of the call's own. -/
theorem step_app_step {w : World} {ops : Array Oper} {o : Oper} {a : Act} {K : Act → World → Prop} {Q : Exit → Act → World → Prop} {E : Prop} (hgd : Region.wanted o (yielded ops a.tmps) = true) (s x : Operand)
    (ho : o.op = .call { callee := .builtin .append, args := #[s, x], argTypes := #[47, 47] }) (base : Nat)
    (v : Value) (np : Nat) (p : List StR) (hs : a.eval s = v) (hp : p.length = np) (hown : OwT w base v p) (b c : Nat) (q : StR) (hx : a.eval x = .slice (some ⟨b, 0, none⟩) 1 c) (hq : ∀ j u, (tC [q])[j]? = some u → w.cell? ((⟨b, 0, none⟩ : Addr).add j) = some u)
    (hlen : np + 1 ≤ 1000000) (hbase : base ≤ w.heap.size)
    (h : ∀ ad' c' w', OwT w' base (.slice ad' (np + 1) c') (p ++ [q]) → w.grownBy w' v.ownBlock → (∀ k, (Value.slice ad' (np + 1) c').ownBlock = some k → v.ownBlock = some k ∨ w.heap.size ≤ k) → K (a.put o.dst (.slice ad' (np + 1) c')) w') :
    if Region.wanted o (yielded ops a.tmps) = true then Oper.wp Tryd.prog o a w K Q else E := by
  obtain ⟨bb, hbb, hb1, hb2⟩ := bytesStep
  obtain ⟨i0, hi, hz0, hz1, hz2⟩ := info_parts hbb
  subst hp
  rw [if_pos hgd]
  obtain ⟨v', w', hr, a1, a2, a3⟩ := run_append_placeT (P := Tryd.prog) w base 47 o.type 63 i0 _ 4 bb Tryd.underlying47 hi hz0 hz1 hz2 rfl (by decide) v p.length _ hown ⟨b, 0, none⟩ 1 c (tC [q]) (tC_len [q]) hq (tC_one [q]) (by unfold maxLen; omega) (Nat.le_trans (Nat.mul_le_mul hlen hb2) (by decide)) hbase
  have hO : OwT w' base v' (p ++ [q]) := by unfold OwT; rw [List.length_append, tC_app]; exact a1
  obtain ⟨ad', c', rfl⟩ := hO.form (n := p.length + 1) (by rw [List.length_append]; rfl)
  have h' := h ad' c' w' hO a2 a3
  unfold Oper.wp execOp
  simp only [ho, resolve, invoke, builtin, Sem.run_bind, Sem.run_pure, Result.andThen_ok, List.map_toArray, List.map_cons, List.map_nil, hs, hx, hr]
  exact h'
theorem wpList_app_step {w : World} {ops : Array Oper} {rest : List Oper} {o : Oper} {a : Act} {Q : Exit → Act → World → Prop} (hgd : Region.wanted o (yielded ops a.tmps) = true) (s x : Operand)
    (ho : o.op = .call { callee := .builtin .append, args := #[s, x], argTypes := #[47, 47] }) (base : Nat)
    (v : Value) (np : Nat) (p : List StR) (hs : a.eval s = v) (hp : p.length = np) (hown : OwT w base v p) (b c : Nat) (q : StR) (hx : a.eval x = .slice (some ⟨b, 0, none⟩) 1 c) (hq : ∀ j u, (tC [q])[j]? = some u → w.cell? ((⟨b, 0, none⟩ : Addr).add j) = some u)
    (hlen : np + 1 ≤ 1000000) (hbase : base ≤ w.heap.size)
    (h : ∀ ad' c' w', OwT w' base (.slice ad' (np + 1) c') (p ++ [q]) → w.grownBy w' v.ownBlock → (∀ k, (Value.slice ad' (np + 1) c').ownBlock = some k → v.ownBlock = some k ∨ w.heap.size ≤ k) → wpList Tryd.prog ops Q rest (a.put o.dst (.slice ad' (np + 1) c')) w') : wpList Tryd.prog ops Q (o :: rest) a w :=
  wpList_step fun K hK => step_app_step hgd s x ho base v np p hs hp hown b c q hx hq hlen hbase (fun ad' c' w' h1 h2 h3 => hK _ _ (h ad' c' w' h1 h2 h3))
end Go.Proofs.YtjgffedcbdnddaaDoor
set_option linter.unusedVariables false
set_option linter.unusedSimpArgs false
namespace Go.Proofs.YtjgffedcbdnddaaDoor
open Go.RowKit
theorem stc_at (g : Nat) (t : TypeId) (f : Nat × Nat) : ∀ (us : List Value) (o : Nat) (w : World) (cs : Array Value), w.heap[g]? = some (.cells cs t f) → ∃ cs' : Array Value, (w.setCells g o us).heap[g]? = some (.cells cs' t f) ∧ cs'.size = cs.size ∧ (∀ k, k < o ∨ o + us.length ≤ k → cs'[k]? = cs[k]?) ∧ (∀ j, j < us.length → o + j < cs.size → cs'[o + j]? = us[j]?) ∧ w.grownBy (w.setCells g o us) (some g)
  | [], _, w, cs, h => ⟨cs, h, rfl, fun _ _ => rfl, fun j hj => absurd hj (Nat.not_lt_zero j), ⟨rfl, rfl, rfl, Nat.le_refl _, fun _ _ _ => rfl⟩⟩
  | u :: us, o, w, cs, h => by
    have h1 := blk_set h o u
    obtain ⟨cs', h2, h3, h4, h5, h6⟩ := stc_at g t f us (o + 1) (w.setCell ⟨g, o, none⟩ u) _ h1
    rw [Array.size_setIfInBounds] at h3 h5
    refine ⟨cs', h2, h3, fun k hk => ?_, fun j hj hs => ?_, ?_⟩
    · rw [List.length_cons] at hk
      rw [h4 k (by omega), Array.getElem?_setIfInBounds_ne (by omega)]
    · rw [List.length_cons] at hj
      cases j with
      | zero => rw [h4 (o + 0) (by omega), Nat.add_zero, Array.getElem?_setIfInBounds_self_of_lt (by omega)]; rfl
      | succ j => rw [show o + (j + 1) = o + 1 + j by omega, h5 j (by omega) (by omega)]; rfl
    · have hs : (w.setCell ⟨g, o, none⟩ u).heap.size = w.heap.size := by simp
      refine ⟨h6.os, h6.tape, h6.output, Nat.le_trans (Nat.le_of_eq hs.symm) h6.size, fun k hk hne => ?_⟩
      have hkg : k ≠ g := fun e => hne (by rw [e])
      exact (h6.block k (by omega) hne).trans (Below.heap_setCell w ⟨g, o, none⟩ u k hkg)
theorem elemSt : Tryd.prog.elem 47 = 63 := by kernel_rfl
theorem sizeSt (w : World) : (sizeOf 63).run Tryd.prog w = .ok 4 w := by kernel_rfl
theorem zeroSt (w : World) : (zeroValue 63).run Tryd.prog w = .ok (.agg #[.int .i64 0, .slice none 0 0, .slice none 0 0, .int .i64 0]) w := by kernel_rfl
theorem run_cutSL (w : World) (g n c f : Nat) (h : f ≤ n) (hc : n ≤ c) : ∃ A, (∀ w, (Instr.slice 47 (.slice (some ⟨g, 0, none⟩) n c) (some (.int .i64 (f : Int))) none none).run Tryd.prog w = .ok (.slice (some A) (n - f) (c - f)) w) ∧ (0 < n - f → ∀ j, A.add j = ⟨g, f * 4 + j, none⟩) := by
  by_cases hcf : c = f
  · refine ⟨⟨g, 0, none⟩, fun w => ?_, fun hj => by omega⟩
    rw [run_slice_l (P := Tryd.prog) w 47 _ n c (by kernel_rfl) .i64 (f : Int) (by omega) (by omega), elemSt, sizeSt]
    show Result.ok (Value.slice (if c = f then _ else _) (n - f) (c - f)) w = _
    rw [if_pos hcf]
  · refine ⟨⟨g, f * 4, none⟩, fun w => ?_, fun _ j => by unfold Addr.add; split <;> simp_all⟩
    rw [run_slice_l (P := Tryd.prog) w 47 _ n c (by kernel_rfl) .i64 (f : Int) (by omega) (by omega), elemSt, sizeSt]
    show Result.ok (Value.slice (if c = f then _ else _) (n - f) (c - f)) w = _
    rw [if_neg hcf]
    have hadd : (⟨g, 0, none⟩ : Addr).add (f * 4) = ⟨g, f * 4, none⟩ := by unfold Addr.add; split <;> simp_all
    rw [Option.map_some, Int.toNat_natCast, hadd]
theorem run_cutSLH (w : World) (g n c f t : Nat) (h : f ≤ t) (hf : f < c) (ht : t ≤ c) : (Instr.slice 47 (.slice (some ⟨g, 0, none⟩) n c) (some (.int .i64 (f : Int))) (some (.int .i64 (t : Int))) none).run Tryd.prog w = .ok (.slice (some ⟨g, f * 4, none⟩) (t - f) (c - f)) w := by
  rw [run_slice_lh (P := Tryd.prog) w 47 _ n c (by kernel_rfl) .i64 .i64 (f : Int) (t : Int) (by omega) (by omega) (by omega), elemSt, sizeSt]
  show Result.ok (Value.slice (if c = f then _ else _) (t - f) (c - f)) w = _
  rw [if_neg (by omega)]
  have hadd : (⟨g, 0, none⟩ : Addr).add (f * 4) = ⟨g, f * 4, none⟩ := by unfold Addr.add; split <;> simp_all
  rw [Option.map_some, Int.toNat_natCast, hadd]
theorem run_cutSH (w : World) (g n c t : Nat) (h : t ≤ n) (hc : n ≤ c) (h0 : 0 < c) : (Instr.slice 47 (.slice (some ⟨g, 0, none⟩) n c) none (some (.int .i64 (t : Int))) none).run Tryd.prog w = .ok (.slice (some ⟨g, 0, none⟩) t c) w := by
  rw [run_slice_h (P := Tryd.prog) w 47 _ n c (by kernel_rfl) .i64 (t : Int) (by omega) (by omega), elemSt, sizeSt]
  show Result.ok (Value.slice (if c = 0 then _ else _) t c) w = _
  rw [if_neg (by omega)]
  have hadd : (⟨g, 0, none⟩ : Addr).add (0 * 4) = ⟨g, 0, none⟩ := by unfold Addr.add; split <;> simp_all
  rw [Option.map_some, hadd]
/-- The cells of no step. -/
def zSt : List Value := [.int .i64 0, .slice none 0 0, .slice none 0 0, .int .i64 0]
/-- One step of a row is cleared. -/
theorem clear_st {w : World} (ty : TypeId) {g : Nat} {cs : Array Value} {o c : Nat} (hg : w.heap[g]? = some (.cells cs 63 (0, 0))) (hfit : o + 4 ≤ cs.size) :
    (Builtin.clear_ #[47] ty #[.slice (some ⟨g, o, none⟩) 1 c]).run Tryd.prog w = .ok (.tuple #[]) (w.setRow g (cs.toList.take o ++ zSt ++ cs.toList.drop (o + 4)).toArray) := by
  have hz : (Builtin.zeroCells #[.int .i64 0, .slice none 0 0, .slice none 0 0, .int .i64 0] 1).toList = zSt := by simp [Builtin.zeroCells, zSt, List.range_succ]
  have hst := run_storeCells_at Tryd.prog g o 63 zSt 0 cs w hg (by show o + 0 + 4 ≤ _; omega) (by intro v hv; simp [zSt] at hv; rcases hv with rfl | rfl | rfl | rfl <;> rfl)
  rw [Nat.add_zero, show o + zSt.length = o + 4 from rfl] at hst
  have e : (Value.agg #[.int .i64 0, .slice none 0 0, .slice none 0 0, .int .i64 0]).cells = #[.int .i64 0, .slice none 0 0, .slice none 0 0, .int .i64 0] := rfl
  simp [Builtin.clear_, run_underlying Tryd.underlying47, zeroSt, e, hz, hst]
set_option maxHeartbeats 4000000 in
theorem tcut_any (L : List StR) (v : Value) (B n m : Nat) (w : World) (h : OwT w B v L) (hn : L.length = n) (hm : n = m + 1) (hl : n ≤ 100000) :
    Calls Tryd.prog 27 #[v, .int .i64 0, .int .i64 1] w fun e w' => ∃ v', e = .returned v' ∧ OwT w' B v' L.tail ∧ w.grownBy w' v.ownBlock ∧ v'.ownBlock = v.ownBlock := by
  have hL := h.1
  have h2 := h.2
  rw [hn] at h2 hL
  rcases h2 with ⟨_, h0⟩ | ⟨g, cap, cur, rfl, hBg, hg, hnc, hcm, hcs, hct⟩
  · omega
  obtain ⟨q, R, rfl⟩ : ∃ q R, L = q :: R := by
    cases L with
    | nil => simp at hn; omega
    | cons q R => exact ⟨q, R, rfl⟩
  have hRm : R.length = m := by simp at hn; omega
  obtain ⟨bb, hbb, _⟩ := bytesStep
  obtain ⟨i0, hi0, hz0, hz1, hz2⟩ := info_parts hbb
  obtain ⟨A, hcut1, hA⟩ := run_cutSL w g n cap 1 (by omega) hnc
  rw [show n - 1 = m by omega] at hcut1 hA
  replace hcut1 : ∀ w, (Instr.slice 47 (.slice (some ⟨g, 0, none⟩) n cap) (some (.int .i64 1)) none none).run Tryd.prog w = .ok (.slice (some A) m (cap - 1)) w := hcut1
  have hcut0 : ∀ w, (Instr.slice 47 (.slice (some ⟨g, 0, none⟩) n cap) none (some (.int .i64 0)) none).run Tryd.prog w = .ok (.slice (some ⟨g, 0, none⟩) 0 cap) w := fun w => run_cutSH w g n cap 0 (by omega) hnc (by omega)
  have hcutc : ∀ w, (Instr.slice 47 (.slice (some ⟨g, 0, none⟩) m cap) (some (.int .i64 (m : Int))) (some (.int .i64 (n : Int))) none).run Tryd.prog w = .ok (.slice (some ⟨g, m * 4, none⟩) 1 (cap - m)) w := fun w => by
    have := run_cutSLH w g m cap m n (by omega) (by omega) hnc
    rw [show n - m = 1 by omega] at this
    exact this
  obtain ⟨news, hnews⟩ : ∃ news, tC R = news := ⟨_, rfl⟩
  have hlen : news.length = m * 4 := by rw [← hnews, tC_len, hRm]
  have hat : ∀ k, k < m * 4 → cur[4 + k]? = news[k]? := fun k hk => by
    have e1 : (tC (q :: R))[4 + k]? = news[k]? := by
      rw [tC_cons, List.getElem?_append_right (by show 4 ≤ 4 + k; omega), hnews]
      congr 1
      show 4 + k - 4 = k
      omega
    rw [← e1, ← hct, List.getElem?_take, if_pos (by omega), Array.getElem?_toList]
  have s1 : Hid (news.length = m * 4) := Lib.hid hlen
  have s2 : Hid (∀ j u, news[j]? = some u → w.drew.cell? (A.add j) = some u) := Lib.hid fun j u hu => by
    have hj : j < m * 4 := by
      have := (List.getElem?_eq_some_iff.1 hu).1
      rwa [hlen] at this
    rw [hA (by omega) j]
    show w.cell? _ = _
    rw [cell_of_row _ g _ _ _ _ hg, hat j hj, hu]
  have s3 : Hid (∀ u ∈ news, u.oneCell' = true) := Lib.hid (by rw [← hnews]; exact tC_one R)
  have s4 : Hid (∀ j, j < news.length → (w.drew.cell? ⟨g, 0 + 0 * 4 + j, none⟩).isSome = true ∧ w.drew.frozen? ⟨g, 0 + 0 * 4 + j, none⟩ = false) := Lib.hid fun j hj => by
    refine ⟨?_, frozen_of_row _ g _ _ _ hg⟩
    show (w.cell? _).isSome = true
    have : 0 + 0 * 4 + j < cur.size := by rw [hcs]; omega
    rw [cell_of_row _ g _ _ _ _ hg, Array.getElem?_eq_getElem this]; rfl
  obtain ⟨cs1, z1, z2, z3, z4, gr1⟩ := stc_at g _ _ news 0 w.drew cur hg
  obtain ⟨W1, hW1⟩ : ∃ W1, w.drew.setCells g (0 + 0 * 4) news = W1 := ⟨_, rfl⟩
  rw [show 0 + 0 * 4 = 0 from rfl] at hW1
  rw [hW1] at z1 gr1
  have hW : Hid (w.drew.setCells g (0 + 0 * 4) news = W1) := Lib.hid hW1
  have hcl := fun ty => clear_st (w := W1) ty (g := g) (cs := cs1) (o := m * 4) (c := cap - m) z1 (by rw [z2, hcs]; omega)
  obtain ⟨cs2, hc2⟩ : ∃ cs2, (cs1.toList.take (m * 4) ++ zSt ++ cs1.toList.drop (m * 4 + 4)).toArray = cs2 := ⟨_, rfl⟩
  rw [hc2] at hcl
  have y1 := setRow_heap W1 g cs1 cs2 _ _ z1
  have gr2 : W1.grownBy (W1.setRow g cs2) (some g) := ⟨rfl, rfl, rfl, by simp, fun k hk hne => setRow_other W1 g k cs2 (fun e => hne (by rw [e]))⟩
  obtain ⟨W2, hW2⟩ : ∃ W2, W1.setRow g cs2 = W2 := ⟨_, rfl⟩
  rw [hW2] at hcl y1 gr2
  have gr0 : w.grownBy w.drew (some g) := ⟨rfl, rfl, rfl, Nat.le_refl _, fun _ _ _ => rfl⟩
  have hgr : w.grownBy W2 (some g) := (gr0.trans gr1).trans gr2
  have hs1 : cs1.size = cap * 4 := by rw [z2, hcs]
  have hfin : OwT W2 B (.slice (some ⟨g, 0, none⟩) m cap) R := by
    unfold OwT
    rw [hRm, hnews]
    refine ⟨hlen, .inr ⟨g, cap, cs2, rfl, hBg, y1, by omega, hcm, ?_, ?_⟩⟩
    · rw [← hc2]
      simp only [List.size_toArray, List.length_append, List.length_take, List.length_drop, Array.length_toList, show zSt.length = 4 from rfl]
      omega
    · rw [← hc2]
      show List.take (m * 4) (cs1.toList.take (m * 4) ++ _ ++ _) = news
      rw [List.append_assoc, List.take_left' (by rw [List.length_take, Array.length_toList]; omega)]
      apply List.ext_getElem?
      intro k
      rw [List.getElem?_take]
      by_cases hk : k < m * 4
      · rw [if_pos hk, Array.getElem?_toList]
        have := z4 k (by omega) (by omega)
        rw [Nat.zero_add] at this
        exact this
      · rw [if_neg hk, List.getElem?_eq_none (by omega)]
  have HF := Lib.hid hfin
  have HG := Lib.hid hgr
  have hn1 : (1 : Int) ≤ n := by omega
  have hn2 : ¬ n = 0 := by omega
  have hnc' : (n : Int) ≤ cap := by omega
  have hmc : m ≤ cap := by omega
  have HM := Lib.hid hm
  show Calls _ _ _ _ fun e w' => ∃ v', e = .returned v' ∧ OwT w' B v' R ∧ w.grownBy w' (some g) ∧ v'.ownBlock = some g
  clear h hct hat hlen hnews z1 z2 z3 z4 gr0 gr1 hW1 y1 gr2 hW2 hgr hfin hA hg hBg hcs hn hm hL hs1 hc2 hRm hbb
  go_enter Tryd.func27, Tryd.ntmps27
  go_wp2_with fail
  go_region_law (refine step_append_room rfl (.tmp 22) (.tmp 25) 47 rfl 63 i0 4 Tryd.underlying47 hi0 hz1 g 0 0 cap (by simp [Act.eval, Act.put]) A m (cap - 1) news (by simp [Act.eval, Act.put]) s1.out s2.out s3.out (by omega) s4.out ?_; rw [hW.out])
  go_wp2
  go_ret
  exact ⟨_, rfl, HF.out, HG.out, rfl⟩
end Go.Proofs.YtjgffedcbdnddaaDoor
set_option linter.unusedVariables false
set_option linter.unusedSimpArgs false
namespace Go.Proofs.YtjgffedcbdnddaaDoor
open Go.ChangeShapes Go.WideShapes Go.ChangeAt Go.RowKit Go.Deep Go.Joins
section
variable {H : Type} {enc : TypeId × Value → H} {W : World}
theorem addS_none (b off k : Nat) : (⟨b, off, none⟩ : Addr).add k = ⟨b, off + k, none⟩ := by unfold Addr.add; split <;> simp_all
set_option maxRecDepth 100000 in
theorem cellsIntS : Tryd.prog.cellsOf 3 = 1 := by kernel_rfl
set_option maxRecDepth 100000 in
theorem cellsSign : Tryd.prog.cellsOf 56 = 2 := by kernel_rfl
set_option maxRecDepth 100000 in
theorem arg_signs0 {base : Nat} {v0 : Value} {d0 : DataW H} {p : List MemPlace} (hv : Value.okWide Tryd.prog W .any base 28 v0) (h : DataW.Trod enc Tryd.prog W 0 (fun _ => true) true 28 v0 d0 p) :
    ∃ (l : List (Int × Int)) (a : Option Addr) (c : Nat), v0 = .slice a l.length c ∧ Signs W a l ∧ l.length ≤ 9223372036854775807 ∧ (a = none → c = 0) := by
  obtain ⟨a0, len, cap, rfl⟩ := okWide_slice Tryd.underlying28 hv
  obtain ⟨fuel, hf⟩ := h
  rcases open_slice_pairs Tryd.underlying28 Tryd.underlying56 cellsSign rfl rfl cellsIntS cellsIntS hf with ⟨hcs, _⟩ | ⟨a, len', cap', m, n, V0, V1, D0, D1, P0, P1, hcs, _, hl, hm, hmm, _, hcell⟩
  · simp [Value.cells] at hcs
    obtain ⟨rfl, rfl, rfl⟩ := hcs
    exact ⟨[], none, 0, rfl, fun j hj => absurd hj (Nat.not_lt_zero j), by simp, fun _ => rfl⟩
  · simp [Value.cells] at hcs
    obtain ⟨rfl, rfl, rfl⟩ := hcs
    have hlm : len ≤ m := by rw [hmm]; split <;> omega
    have key : ∀ i, i < len → ∃ q : Int × Int, V0 i = .int .i64 q.1 ∧ V1 i = .int .i64 q.2 := fun i hi => by
      obtain ⟨_, _, h1, h2⟩ := hcell i (by omega)
      obtain ⟨x, hx, _, _⟩ := DataW.trod_int Tryd.underlying3 h1
      obtain ⟨y, hy, _, _⟩ := DataW.trod_int Tryd.underlying3 h2
      exact ⟨(x, y), by simpa using hx, by simpa using hy⟩
    obtain ⟨F, hF⟩ : ∃ F : Nat → Int × Int, ∀ i, i < len → V0 i = .int .i64 (F i).1 ∧ V1 i = .int .i64 (F i).2 :=
      ⟨fun i => if h : i < len then (key i h).choose else (0, 0), fun i hi => by simp only [dif_pos hi]; exact (key i hi).choose_spec⟩
    clear key
    refine ⟨(List.range len).map F, some a, cap, by simp, ?_, by simp; unfold maxLen at hm; omega, fun h => by cases h⟩
    intro j hj
    have hj2 : j < len := by simpa using hj
    obtain ⟨c0, c1, _, _⟩ := hcell j (by omega)
    have hk := hF j hj2
    obtain ⟨b, off, sp⟩ := a
    have hsp : sp = none := by
      obtain ⟨c00, _⟩ := hcell 0 (by omega)
      have h1 : W.cell? ⟨b, off, sp⟩ = some (V0 0) := by simpa [Addr.add] using c00
      exact cell_spot h1
    subst hsp
    rw [addS_none] at c0 c1
    have hg : ((List.range len).map F).getD j (0, 0) = F j := by
      rw [List.getD, List.getElem?_map, List.getElem?_range hj2]; rfl
    rw [hg]
    refine ⟨b, off, rfl, block_lt_of_cell c0, ?_, ?_⟩
    · rw [c0, hk.1]
    · rw [show off + j * 2 + 1 = off + (j * 2 + 1) by omega, c1, hk.2]
theorem arg_signs {base : Nat} {v0 : Value} {d0 : DataW H} {p : List MemPlace} (hv : Value.okWide Tryd.prog W .any base 28 v0) (h : DataW.Trod enc Tryd.prog W 0 (fun _ => true) true 28 v0 d0 p) :
    ∃ (l : List (Int × Int)) (a : Option Addr) (c : Nat), v0 = .slice a l.length c ∧ Signs W a l ∧ l.length ≤ 9223372036854775807 := by
  obtain ⟨l, a, c, h1, h2, h3, _⟩ := arg_signs0 hv h
  exact ⟨l, a, c, h1, h2, h3⟩
theorem arg_sign {base : Nat} {v0 : Value} {d0 : DataW H} {p : List MemPlace} (hv : Value.okWide Tryd.prog W .any base 56 v0) (h : DataW.Trod enc Tryd.prog W 0 (fun _ => true) true 56 v0 d0 p) :
    ∃ (x y : Int), v0 = .agg #[.int .i64 x, .int .i64 y] := by
  obtain ⟨a0, a1, y0, y1, n, rfl, rfl, rfl, h0, h1⟩ := open_agg2 Tryd.underlying56 (by kernel_rfl) cellsSign hv h
  obtain ⟨x, hx, _, _⟩ := DataW.trod_int Tryd.underlying3 h0
  obtain ⟨y, hy, _, _⟩ := DataW.trod_int Tryd.underlying3 h1
  obtain rfl : a0 = .int .i64 x := by simpa using hx
  obtain rfl : a1 = .int .i64 y := by simpa using hy
  exact ⟨x, y, rfl⟩
end
end Go.Proofs.YtjgffedcbdnddaaDoor
