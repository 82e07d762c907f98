import Derived.Test.YtfhcfamjlhmgiaaDoorSh7
import Derived.Test.YtfhcfamjlhmgiaaDoorSh8
set_option linter.unusedVariables false
set_option linter.unusedSimpArgs false
namespace Go.Proofs.YtfhcfamjlhmgiaaDoor
set_option maxRecDepth 100000
open Go.RowKit
attribute [local go_sem ↓] Go.wp_at_zero Go.wp_at_succ
/-- What the law holds: the tables, the sign's box at B, its cells and the other's. -/
structure Q6 (w : World) (B : Nat) (v l : Int) (a b : Option Addr) (C D : List Cl) : Prop where
  t : Tabs w
  c1 : w.cell? ⟨B, 0, none⟩ = some (.int .i64 v)
  c2 : w.cell? ⟨B, 1, none⟩ = some (.int .i64 l)
  lt : B < w.heap.size
  c : CellsIn w a C
  d : CellsIn w b D
theorem Q6.below {w w' : World} {B : Nat} {v l : Int} {a b : Option Addr} {C D : List Cl} (h : Q6 w B v l a b C D) (hb : Below w.heap.size w w') : Q6 w' B v l a b C D :=
  ⟨h.t.below hb, (hb.cell (p := ⟨B, 0, none⟩) h.lt).trans h.c1, (hb.cell (p := ⟨B, 1, none⟩) h.lt).trans h.c2, Nat.lt_of_lt_of_le h.lt hb.size, h.c.below hb, h.d.below hb⟩
theorem Q6.drew {w : World} {B : Nat} {v l : Int} {a b : Option Addr} {C D : List Cl} (h : Q6 w B v l a b C D) : Q6 w.drew B v l a b C D := h.below (Below.refl _ _).drew
set_option maxHeartbeats 8000000 in
theorem showcells_any (v l v' l' o : Int) (w : World) (hT : Tabs w) : Calls Tryd.prog 3 #[.agg #[.int .i64 v, .int .i64 l], .agg #[.int .i64 v', .int .i64 l'], .int .i64 o] w fun e w' => e = .returned (.bool true) ∧ Below w.heap.size w w' := by
  have AW := Lib.hid fun w hT => shawake_any w hT
  have hb0 := seqB (below_alloc w (.cells #[.int .i64 v, .int .i64 l] 23)) (below_alloc _ (.cells #[.int .i64 v', .int .i64 l'] 23))
  have HT := Lib.hid (hT.below hb0)
  clear hT
  have C := Lib.hid fun w hT => cells_any v l o w hT
  have D := Lib.hid fun w => cells_ref v' l' o w
  have E := fun w => cells_ref v l o w
  have L1 := fun w hT => looks_any v l w hT
  have L2 := fun w => looks_ref v l w
  have K := fun w => shcols_ref v w
  have hlen := shK_len v l o
  have hle1 := shK_le v l o
  have hle2 := shK_le v' l' o
  rw [← hlen] at K
  generalize shK v l o = X at *
  generalize shK v' l' o = Y at *
  generalize lkI v l = lk at *
  have A := fun w1 a b c d (h1 : CellsIn w1 a X) (h2 : CellsIn w1 b X) => shall_ref X X a b c d w1 (by omega) (by omega) h1 h2
  rw [show shA X X = true by unfold shA; simp] at A
  have S1 := fun w1 a b c d (h1 : CellsIn w1 a X) (h2 : CellsIn w1 b Y) => shsame_any X Y a b c d w1 (by omega) (by omega) h1 h2
  have S2 := fun w1 a b c d (h1 : CellsIn w1 a X) (h2 : CellsIn w1 b Y) => shsame_ref X Y a b c d w1 (by omega) (by omega) h1 h2
  generalize shS X Y = r at *
  have hr : (r == r) = true := by simp
  have hlk : (lk == lk) = true := by simp
  have hll : ((X.length : Int) == (X.length : Int)) = true := by simp
  replace E := Lib.hid E; replace L1 := Lib.hid L1; replace L2 := Lib.hid L2; replace K := Lib.hid K; replace A := Lib.hid A; replace S1 := Lib.hid S1; replace S2 := Lib.hid S2
  clear hlen
  have q1 : ((w.alloc (.cells #[.int .i64 v, .int .i64 l] 23)).alloc (.cells #[.int .i64 v', .int .i64 l'] 23)).cell? ⟨w.heap.size, 0, none⟩ = some (.int .i64 v) := by simp
  have q2 : ((w.alloc (.cells #[.int .i64 v, .int .i64 l] 23)).alloc (.cells #[.int .i64 v', .int .i64 l'] 23)).cell? ⟨w.heap.size, 1, none⟩ = some (.int .i64 l) := by simp
  have q3 : ((w.alloc (.cells #[.int .i64 v, .int .i64 l] 23)).alloc (.cells #[.int .i64 v', .int .i64 l'] 23)).cell? ⟨w.heap.size + 1, 0, none⟩ = some (.int .i64 v') := by simp
  have q4 : ((w.alloc (.cells #[.int .i64 v, .int .i64 l] 23)).alloc (.cells #[.int .i64 v', .int .i64 l'] 23)).cell? ⟨w.heap.size + 1, 1, none⟩ = some (.int .i64 l') := by simp
  have hz : ((w.alloc (.cells #[.int .i64 v, .int .i64 l] 23)).alloc (.cells #[.int .i64 v', .int .i64 l'] 23)).heap.size = w.heap.size + 1 + 1 := by simp
  go_enter Tryd.func3, Tryd.ntmps3
  go_wp2_with fail
  generalize hW : (w.alloc _).alloc _ = W0 at *
  have Hz := Lib.hid hz
  have hlt0 : w.heap.size < W0.heap.size := by omega
  have hlt1 : w.heap.size + 1 < W0.heap.size := by omega
  clear hW hz
  go_wp2_with (first
    | (go_at_call 15; refine (C.out _ HT.out).mono ?_; rintro e w1 ⟨x, rfl, hown, hb1⟩; obtain ⟨ca, cc, rfl, hci⟩ := cells_of_own hown; have T1 := Lib.hid (HT.out.below hb1); have HC := Lib.hid hci; have g3 := (hb1.cell (p := ⟨w.heap.size + 1, 0, none⟩) hlt1).trans q3; have g4 := (hb1.cell (p := ⟨w.heap.size + 1, 1, none⟩) hlt1).trans q4; have G1 := Lib.hid ((hb1.cell (p := ⟨w.heap.size, 0, none⟩) hlt0).trans q1); have G2 := Lib.hid ((hb1.cell (p := ⟨w.heap.size, 1, none⟩) hlt0).trans q2); clear hown hci)
    | (go_at_call 16; refine (D.out _).mono ?_; rintro e w2 ⟨x, rfl, hown, hb2⟩; obtain ⟨da, dc, rfl, hdi⟩ := cells_of_own hown; have HQ := Lib.hid ((⟨T1.out.below hb2, (hb2.cell (p := ⟨w.heap.size, 0, none⟩) (Nat.lt_of_lt_of_le hlt0 hb1.size)).trans G1.out, (hb2.cell (p := ⟨w.heap.size, 1, none⟩) (Nat.lt_of_lt_of_le hlt0 hb1.size)).trans G2.out, Nat.lt_of_lt_of_le hlt0 (Nat.le_trans hb1.size hb2.size), HC.out.below hb2, hdi⟩ : Q6 w2 w.heap.size v l ca da X Y)); clear hown hdi))
  have N2 := seqB (seqB hb0 hb1) hb2
  have c1 := HQ.out.c1
  have c2 := HQ.out.c2
  have HQd := Lib.hid HQ.out.drew
  clear hb1 hb2 hb0 T1 HC G1 G2 g3 g4 q1 q2 q3 q4 hlt1 HT C D
  go_region_held3 (fun w' => w'.cell? ⟨w.heap.size, 0, none⟩ = some (.int .i64 v) ∧ w'.cell? ⟨w.heap.size, 1, none⟩ = some (.int .i64 l)) (first | go_keep)
    (first
      | (go_at_call 17; refine (AW.out _ HQd.out.t).mono ?_; rintro e w3 ⟨rfl, hb3⟩; have Q3 := Lib.hid (HQd.out.below hb3); have c3 := Q3.out.c1; have d3 := Q3.out.c2)
      | (go_at_call 18; refine (L1.out _ Q3.out.t).mono ?_; rintro e w4 ⟨rfl, hb4⟩; have Q4 := Lib.hid (Q3.out.below hb4); have c4 := Q4.out.c1; have d4 := Q4.out.c2)
      | (go_at_call 19; refine (L2.out _).mono ?_; rintro e w5 ⟨rfl, hb5⟩; have Q5 := Lib.hid (Q4.out.below hb5); have c5 := Q5.out.c1; have d5 := Q5.out.c2)
      | (go_at_call 16; (with_reducible refine (E.out w5).mono ?_); rintro e w6 ⟨x, rfl, hown, hb6⟩; obtain ⟨ea, ec, rfl, hei⟩ := cells_of_own hown; have Q6 := Lib.hid (Q5.out.below hb6); have H6 := Lib.hid hei; clear hown hei; have c6 := Q6.out.c1; have d6 := Q6.out.c2)
      | (go_at_call 20; refine (A.out _ _ _ _ _ Q6.out.c H6.out).mono ?_; rintro e w7 ⟨rfl, hb7⟩; have Q7 := Lib.hid (Q6.out.below hb7); have c7 := Q7.out.c1; have d7 := Q7.out.c2)
      | (go_at_call 21; refine (K.out _).mono ?_; rintro e w8 ⟨rfl, hb8⟩; have Q8 := Lib.hid (Q7.out.below hb8); have c8 := Q8.out.c1; have d8 := Q8.out.c2)
      | (go_at_call 22; refine (S1.out _ _ _ _ _ Q8.out.c Q8.out.d).mono ?_; rintro e w9 ⟨rfl, hb9⟩; have Q9 := Lib.hid (Q8.out.below hb9); have c9 := Q9.out.c1; have d9 := Q9.out.c2)
      | (go_at_call 16; (with_reducible refine (E.out w9).mono ?_); rintro e w10 ⟨x, rfl, hown, hb10⟩; obtain ⟨fa, fc, rfl, hfi⟩ := cells_of_own hown; have Q10 := Lib.hid (Q9.out.below hb10); have H10 := Lib.hid hfi; clear hown hfi; have c10 := Q10.out.c1; have d10 := Q10.out.c2)
      | (go_at_call 23; refine (S2.out _ _ _ _ _ H10.out Q10.out.d).mono ?_; rintro e w11 ⟨rfl, hb11⟩; have Q11 := Lib.hid (Q10.out.below hb11); have c11 := Q11.out.c1; have d11 := Q11.out.c2))
  have N3 : Below w2.heap.size w2 w3 := (Below.refl _ _).drew.trans hb3
  have NF := N2.trans ((seqB (seqB (seqB (seqB (seqB (seqB (seqB (seqB N3 hb4) hb5) hb6) hb7) hb8) hb9) hb10) hb11).mono N2.size)
  go_wp2
  go_ret
  exact ⟨rfl, NF⟩
end Go.Proofs.YtfhcfamjlhmgiaaDoor
