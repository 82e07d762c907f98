import Derived.Test.YtecffaidpiadoaaDoorC10
set_option linter.unusedVariables false
set_option linter.unusedSimpArgs false
namespace Go.Proofs.YtecffaidpiadoaaDoor
open Go.RowKit
theorem ints_new (w : World) (l : List Int) : Ints (w.alloc (.cells (iRow l) 3)) (some ⟨w.heap.size, 0, none⟩) l :=
  ⟨fun i hi => ⟨_, _, rfl, by simp⟩, fun i b off hi e => by
    obtain ⟨rfl, rfl⟩ : w.heap.size = b ∧ 0 = off := by simpa using e
    rw [World.cell?_alloc_new, Nat.zero_add, iRow_at l i hi]⟩
theorem cnt_awake : cnts cls [97, 19968, 8238, 7, -1] = [1, 1, 1, 0, 1, 0, 0, 1, 0, 0, 0, 0, 0] := by decide +kernel
theorem awake_facts : cls 97 = 1 ∧ cls 1072 = 3 ∧ skel 1072 = 97 ∧ wid 19968 = 2 ∧ dng 8203 = true ∧ dng 97 = false ∧ alk [1072] [97] = true := by decide +kernel
/-- The tables, and awake's counts at block B. -/
structure Awk (w : World) (B : Nat) : Prop where
  t : Tabs w
  b : B < w.heap.size
  c0 : w.cell? ⟨B, 0, none⟩ = some (.int .i64 1)
  c1 : w.cell? ⟨B, 1, none⟩ = some (.int .i64 1)
  c2 : w.cell? ⟨B, 2, none⟩ = some (.int .i64 1)
  c4 : w.cell? ⟨B, 4, none⟩ = some (.int .i64 1)
  c7 : w.cell? ⟨B, 7, none⟩ = some (.int .i64 1)
theorem Awk.below {w w' : World} {B : Nat} (h : Awk w B) (hb : Below w.heap.size w w') : Awk w' B :=
  ⟨h.t.below hb, Nat.lt_of_lt_of_le h.b hb.size, (hb.cell (p := ⟨B, 0, none⟩) h.b).trans h.c0, (hb.cell (p := ⟨B, 1, none⟩) h.b).trans h.c1, (hb.cell (p := ⟨B, 2, none⟩) h.b).trans h.c2, (hb.cell (p := ⟨B, 4, none⟩) h.b).trans h.c4, (hb.cell (p := ⟨B, 7, none⟩) h.b).trans h.c7⟩
theorem Awk.alloc {w : World} {B : Nat} (h : Awk w B) (o : Obj) : Awk (w.alloc o) B := h.below (below_alloc _ _)
theorem awk_new {w : World} (h : Tabs w) : Awk (w.alloc (.cells #[.int .i64 1, .int .i64 1, .int .i64 1, .int .i64 0, .int .i64 1, .int .i64 0, .int .i64 0, .int .i64 1, .int .i64 0, .int .i64 0, .int .i64 0, .int .i64 0, .int .i64 0] 36)) w.heap.size :=
  ⟨h.alloc _, by simp, by rw [World.cell?_alloc_new]; rfl, by rw [World.cell?_alloc_new]; rfl, by rw [World.cell?_alloc_new]; rfl, by rw [World.cell?_alloc_new]; rfl, by rw [World.cell?_alloc_new]; rfl⟩
set_option maxRecDepth 100000 in
set_option maxHeartbeats 4000000 in
theorem awake_any (w : World) (hT : Tabs w) : Calls Tryd.prog 26 #[] w fun e w' => e = .returned (.bool true) ∧ Below w.heap.size w w' := by
  have HT := Lib.hid hT; clear hT
  have ⟨f1, f2, f3, f4, f5, f6, f7⟩ := awake_facts
  have C := fun (w : World) (hT : Tabs w) => count_any [97, 19968, 8238, 7, -1] (some ⟨w.heap.size, 0, none⟩) 5 (w.alloc (.cells (iRow [97, 19968, 8238, 7, -1]) 3)) (hT.alloc _) (by decide) (ints_new w _).some (ints_new w _).cell
  rw [cnt_awake] at C
  simp only [iRow, List.map_cons, List.map_nil, List.length_cons, List.length_nil, Nat.zero_add, Nat.reduceAdd] at C
  have O1 := fun w hT => of_any 97 w hT
  have O2 := fun w hT => of_any 1072 w hT
  have S := fun w hT => skel_any 1072 w hT
  have Wd := fun w hT => width_any 19968 w hT
  have D1 := fun w hT => danger_any 8203 w hT
  have D2 := fun w hT => danger_any 97 w hT
  rw [f1] at O1; rw [f2] at O2; rw [f3] at S; rw [f4] at Wd; rw [f5] at D1; rw [f6] at D2
  replace C := Lib.hid C; replace O1 := Lib.hid O1; replace O2 := Lib.hid O2; replace S := Lib.hid S; replace Wd := Lib.hid Wd; replace D1 := Lib.hid D1; replace D2 := Lib.hid D2
  have A7 := fun (w : World) (hT : Tabs w) => alike_any [1072] [97] (some ⟨w.heap.size, 0, none⟩) (some ⟨w.heap.size + 1, 0, none⟩) 1 1 ((w.alloc (.cells (iRow [1072]) 3)).alloc (.cells (iRow [97]) 3)) ((hT.alloc _).alloc _) (by decide) (by decide) ((ints_new w [1072]).below (below_alloc _ _)) (by have := ints_new (w.alloc (.cells (iRow [1072]) 3)) [97]; simpa using this)
  rw [f7] at A7
  simp only [iRow, List.map_cons, List.map_nil, List.length_cons, List.length_nil, Nat.zero_add, Nat.reduceAdd] at A7
  replace A7 := Lib.hid A7
  clear f1 f2 f3 f4 f5 f6 f7
  go_enter Tryd.func26, Tryd.ntmps26
  go_wp2_with (first
    | (go_at_call 32; refine (C.out _ HT.out).mono ?_; rintro e w1 ⟨rfl, hb1⟩; have K1 := Lib.hid (awk_new ((HT.out.alloc _).below hb1)))
    | (go_at_call 27; (with_reducible refine (O1.out _ K1.out.t).mono ?_); rintro e w2 ⟨rfl, hb2⟩; have K2 := Lib.hid (K1.out.below hb2))
    | (go_at_call 27; (with_reducible refine (O2.out _ K2.out.t).mono ?_); rintro e w3 ⟨rfl, hb3⟩; have K3 := Lib.hid (K2.out.below hb3))
    | (go_at_call 25; (with_reducible refine (S.out _ K3.out.t).mono ?_); rintro e w4 ⟨rfl, hb4⟩; have K4 := Lib.hid (K3.out.below hb4))
    | (go_at_call 28; (with_reducible refine (Wd.out _ K4.out.t).mono ?_); rintro e w5 ⟨rfl, hb5⟩; have K5 := Lib.hid (K4.out.below hb5))
    | (go_at_call 30; (with_reducible refine (D1.out _ K5.out.t).mono ?_); rintro e w6 ⟨rfl, hb6⟩; have K6 := Lib.hid (K5.out.below hb6))
    | (go_at_call 30; (with_reducible refine (D2.out _ K6.out.t).mono ?_); rintro e w7 ⟨rfl, hb7⟩; have K7 := Lib.hid (K6.out.below hb7))
    | (go_at_call 33; refine (A7.out _ K7.out.t).mono ?_; rintro e w8 ⟨rfl, hb8⟩; have K8 := ((K7.out.alloc _).alloc _).below hb8; have k0 := K8.c0; have k1 := K8.c1; have k2 := K8.c2; have k4 := K8.c4; have k7 := K8.c7))
  go_ret
  exact ⟨rfl, seqB (seqB (seqB (seqB (seqB (seqB (seqB (seqB (below_alloc _ _) hb1) (seqB (below_alloc _ _) hb2)) hb3) hb4) hb5) hb6) hb7) (seqB (seqB (below_alloc _ _) (below_alloc _ _)) hb8)⟩
end Go.Proofs.YtecffaidpiadoaaDoor
