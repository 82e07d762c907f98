/-
  Joined: R41 R38.
-/
import Derived.Test.YtcdecnmhogmhaaaDoorJ12
set_option linter.unusedVariables false
set_option linter.unusedSimpArgs false
set_option maxRecDepth 100000
set_option linter.unusedVariables false
set_option linter.unusedSimpArgs false
namespace Go.Proofs.YtcdecnmhogmhaaaDoor
open Go.RowKit
/-- What the walk keeps of the arguments. -/
structure FitW (w : World) (F G : Nat) (FA FB : Array Value) (a b b2 : Option Addr) (p x y : List (Int × Int)) : Prop where
  f : w.heap[F]? = some (.cells FA 24 (0, 0))
  g : w.heap[G]? = some (.cells FB 24 (0, 0))
  t : Tabs w
  p : Signs w a p
  x : Signs w b x
  y : Signs w b2 y
theorem FitW.below {w w' : World} {F G : Nat} {FA FB : Array Value} {a b b2 : Option Addr} {p x y : List (Int × Int)} (h : FitW w F G FA FB a b b2 p x y) (hb : Below w.heap.size w w') : FitW w' F G FA FB a b b2 p x y :=
  ⟨blk_below h.f hb, blk_below h.g hb, h.t.below hb, h.p.below hb, h.x.below hb, h.y.below hb⟩
/-- .. and of the screens. -/
structure FitS (w : World) (s g : Nat) (SA : Array Value) (R : List (List Cl)) : Prop where
  s : w.heap[s]? = some (.cells SA 28 (0, 0))
  r : RowsB w g R
theorem FitS.below {w w' : World} {s g : Nat} {SA : Array Value} {R : List (List Cl)} (h : FitS w s g SA R) (hb : Below w.heap.size w w') : FitS w' s g SA R := ⟨blk_below h.s hb, h.r.below hb⟩
theorem fits_keep {w w' : World} (hb : Below w.heap.size w w') {p q F s1 s2 i j : Nat} {v1 v2 v3 x0 x1 x2 x3 x4 y0 y1 y2 y3 y4 : Value} (hp : p < w.heap.size) (hq : q < w.heap.size) (hF : F < w.heap.size) (h1 : s1 < w.heap.size) (h2 : s2 < w.heap.size)
    (m1 : w.cell? ⟨p, i, none⟩ = some v1) (m2 : w.cell? ⟨q, j, none⟩ = some v2) (m3 : w.cell? ⟨F, 4, none⟩ = some v3) (a0 : w.cell? ⟨s1, 0, none⟩ = some x0) (a1 : w.cell? ⟨s1, 1, none⟩ = some x1) (a2 : w.cell? ⟨s1, 2, none⟩ = some x2) (a3 : w.cell? ⟨s1, 3, none⟩ = some x3) (a4 : w.cell? ⟨s1, 4, none⟩ = some x4)
    (b0 : w.cell? ⟨s2, 0, none⟩ = some y0) (b1 : w.cell? ⟨s2, 1, none⟩ = some y1) (b2 : w.cell? ⟨s2, 2, none⟩ = some y2) (b3 : w.cell? ⟨s2, 3, none⟩ = some y3) (b4 : w.cell? ⟨s2, 4, none⟩ = some y4) :
    w'.cell? ⟨p, i, none⟩ = some v1 ∧ w'.cell? ⟨q, j, none⟩ = some v2 ∧ w'.cell? ⟨F, 4, none⟩ = some v3 ∧ w'.cell? ⟨s1, 0, none⟩ = some x0 ∧ w'.cell? ⟨s1, 1, none⟩ = some x1 ∧ w'.cell? ⟨s1, 2, none⟩ = some x2 ∧ w'.cell? ⟨s1, 3, none⟩ = some x3 ∧ w'.cell? ⟨s1, 4, none⟩ = some x4 ∧ w'.cell? ⟨s2, 0, none⟩ = some y0 ∧ w'.cell? ⟨s2, 1, none⟩ = some y1 ∧ w'.cell? ⟨s2, 2, none⟩ = some y2 ∧ w'.cell? ⟨s2, 3, none⟩ = some y3 ∧ w'.cell? ⟨s2, 4, none⟩ = some y4 :=
  ⟨(hb.cell (p := ⟨p, i, none⟩) hp).trans m1, (hb.cell (p := ⟨q, j, none⟩) hq).trans m2, (hb.cell (p := ⟨F, 4, none⟩) hF).trans m3, (hb.cell (p := ⟨s1, 0, none⟩) h1).trans a0, (hb.cell (p := ⟨s1, 1, none⟩) h1).trans a1, (hb.cell (p := ⟨s1, 2, none⟩) h1).trans a2, (hb.cell (p := ⟨s1, 3, none⟩) h1).trans a3, (hb.cell (p := ⟨s1, 4, none⟩) h1).trans a4,
    (hb.cell (p := ⟨s2, 0, none⟩) h2).trans b0, (hb.cell (p := ⟨s2, 1, none⟩) h2).trans b1, (hb.cell (p := ⟨s2, 2, none⟩) h2).trans b2, (hb.cell (p := ⟨s2, 3, none⟩) h2).trans b3, (hb.cell (p := ⟨s2, 4, none⟩) h2).trans b4⟩
theorem fits_args {w : World} {F G : Nat} {x0 x1 x2 x3 x4 y0 y1 y2 y3 y4 : Value} {T : TypeId} {f g : Nat × Nat} (h1 : w.heap[F]? = some (.cells #[x0, x1, x2, x3, x4] T f)) (h2 : w.heap[G]? = some (.cells #[y0, y1, y2, y3, y4] T g)) : w.cell? ⟨F, 1, none⟩ = some x1 ∧ w.cell? ⟨F, 2, none⟩ = some x2 ∧ w.cell? ⟨G, 1, none⟩ = some y1 ∧ w.cell? ⟨G, 2, none⟩ = some y2 :=
  ⟨by rw [cell_of_row _ _ _ _ _ _ h1]; rfl, by rw [cell_of_row _ _ _ _ _ _ h1]; rfl, by rw [cell_of_row _ _ _ _ _ _ h2]; rfl, by rw [cell_of_row _ _ _ _ _ _ h2]; rfl⟩
set_option maxHeartbeats 16000000 in
theorem fits_good (p p2 x y : List (Int × Int)) (a b a2 b2 : Option Addr) (c d c2 d2 : Nat) (wd h at' bt' : Nat) (wd2 h2 : Int) (w : World) (hT : Tabs w) (hp : p.length ≤ 10) (hx : x.length ≤ 20) (hy : y.length ≤ 20) (h4 : 4 ≤ wd) (h80 : wd ≤ 80) (h1 : 1 ≤ h) (h60 : h ≤ 60) (ha : Signs w a p) (hb : Signs w b x) (hb2 : Signs w b2 y)
    (hat : at' ≤ x.length) (hbt : bt' ≤ y.length) (hP : sgC p = true) (hX : sgC x = true) (hY : sgC y = true) :
    Calls Tryd.prog 4 #[.agg #[.slice a p.length c, .slice b x.length d, .int .i64 at', .int .i64 wd, .int .i64 h], .agg #[.slice a2 p2.length c2, .slice b2 y.length d2, .int .i64 bt', .int .i64 wd2, .int .i64 h2]] w fun e w' => e = .returned (.bool true) ∧ Below w.heap.size w w' := by
  have B0 := seqB (below_alloc w (.cells #[.slice a p.length c, .slice b x.length d, .int .i64 at', .int .i64 wd, .int .i64 h] 24)) (below_alloc _ (.cells #[.slice a2 p2.length c2, .slice b2 y.length d2, .int .i64 bt', .int .i64 wd2, .int .i64 h2] 24))
  have AW := Lib.hid fun w (h : Tabs w) => pawake_any w h
  have q0 := blk_alloc (heap_alloc_new w (.cells #[.slice a p.length c, .slice b x.length d, .int .i64 at', .int .i64 wd, .int .i64 h] 24)) (.cells #[.slice a2 p2.length c2, .slice b2 y.length d2, .int .i64 bt', .int .i64 wd2, .int .i64 h2] 24)
  have q1 := heap_alloc_new (w.alloc (.cells #[.slice a p.length c, .slice b x.length d, .int .i64 at', .int .i64 wd, .int .i64 h] 24)) (.cells #[.slice a2 p2.length c2, .slice b2 y.length d2, .int .i64 bt', .int .i64 wd2, .int .i64 h2] 24)
  rw [show (w.alloc (.cells #[.slice a p.length c, .slice b x.length d, .int .i64 at', .int .i64 wd, .int .i64 h] 24)).heap.size = w.heap.size + 1 by simp] at q1
  have K0 := Lib.hid (⟨q0, q1, hT.below B0, ha.below B0, hb.below B0, hb2.below B0⟩ : FitW ((w.alloc (.cells #[.slice a p.length c, .slice b x.length d, .int .i64 at', .int .i64 wd, .int .i64 h] 24)).alloc (.cells #[.slice a2 p2.length c2, .slice b2 y.length d2, .int .i64 bt', .int .i64 wd2, .int .i64 h2] 24)) w.heap.size (w.heap.size + 1) #[.slice a p.length c, .slice b x.length d, .int .i64 at', .int .i64 wd, .int .i64 h] #[.slice a2 p2.length c2, .slice b2 y.length d2, .int .i64 bt', .int .i64 wd2, .int .i64 h2] a b b2 p x y)
  clear hT ha hb hb2 q0 q1
  have k0' : ¬ (10 : Int) < p.length := by omega
  have k1' : ¬ (20 : Int) < x.length := by omega
  have k2' : ¬ (20 : Int) < y.length := by omega
  have k3' : ¬ (wd : Int) < 4 := by omega
  have k4' : ¬ (80 : Int) < wd := by omega
  have k5' : ¬ (h : Int) < 1 := by omega
  have k6' : ¬ (60 : Int) < h := by omega
  have S1 := fun w ha hb hT => scr_any p x a b c d at' wd h w (by omega) (by omega) ha hb hT hat (by omega) (by omega) (by omega) (by omega) hP hX
  have S2 := fun w ha hb hT => scr_any p y a b2 c d2 bt' wd h w (by omega) (by omega) ha hb hT hbt (by omega) (by omega) (by omega) (by omega) hP hY
  have V1 := fun w ha hb => vof_ref p x a b c d w (by omega) (by omega) ha hb hP hX
  have V2 := fun w ha hb => vof_ref p y a b2 c d2 w (by omega) (by omega) ha hb hP hY
  have l1 := vwOf_le p x
  have l2 := vwOf_le p y
  have P1 := fun a c w h => spots_ref (vwOf p x) wd a c w (by omega) (by omega) (by omega) (rowOk_lay (rowOk_vw p x)) h
  have P2 := fun a c w h => spots_ref (vwOf p y) wd a c w (by omega) (by omega) (by omega) (rowOk_lay (rowOk_vw p y)) h
  have e1 := spAll_len (vwOf p x) wd
  have e2 := spAll_len (vwOf p y) wd
  have FA := fun g1 g2 hs => fits_all (p := p) (x := x) (y := y) (w := wd) (h := h) (a := at') (b := bt') (by omega) hX hY hat hbt g1 g2 hs
  have r1 := scr_full p x (w := wd) (by omega) (topP (vwOf p x) wd at' h) h
  have r2 := scr_full p y (w := wd) (by omega) (topP (vwOf p y) wd bt' h) h
  have z1 := scR_len (vwOf p x) wd (topP (vwOf p x) wd at' h) h
  have z2 := scR_len (vwOf p y) wd (topP (vwOf p y) wd bt' h) h
  have Q1 := fun w1 (h : Signs w1 b x) => sgvalues_ref x b d w1 (by omega) h
  have Q2 := fun w1 (h : Signs w1 b2 y) => sgvalues_ref y b2 d2 w1 (by omega) h
  have I := fun w1 pa pb ca cb (h1 : Row w1 pa (x.map (·.1))) (h2 : Row w1 pb (y.map (·.1))) => ints_ref (x.map (·.1)) (y.map (·.1)) pa pb ca cb w1 h1 h2 (by simp; omega) (by simp; omega)
  generalize x.map (·.1) = X1 at *
  generalize y.map (·.1) = Y1 at *
  generalize (curP (vwOf p x) wd at').1 - (topP (vwOf p x) wd at' h : Int) = R1 at *
  generalize (curP (vwOf p y) wd bt').1 - (topP (vwOf p y) wd bt' h : Int) = R2 at *
  generalize (curP (vwOf p x) wd at').2 = C1 at *
  generalize (curP (vwOf p y) wd bt').2 = C2 at *
  generalize scR (vwOf p x) wd (topP (vwOf p x) wd at' h) h = rows1 at *
  generalize scR (vwOf p y) wd (topP (vwOf p y) wd bt' h) h = rows2 at *
  have PS := fun w2 g g' (h1 : RowsIn w2 (some ⟨g, 0, none⟩) rows1) (h2 : RowsIn w2 (some ⟨g', 0, none⟩) rows2) => (by
    have := psame_any wd h R1 C1 wd h R2 C2 rows1 rows2 (some ⟨g, 0, none⟩) (some ⟨g', 0, none⟩) h h w2 (by omega) (by omega) (fun i hi => by have := (r1 i (by omega)).1; omega) (fun i hi => by have := (r2 i (by omega)).1; omega) h1 h2
    rw [z1, z2] at this
    exact this : Calls Tryd.prog 24 #[.agg #[.int .i64 wd, .int .i64 h, .slice (some ⟨g, 0, none⟩) h h, .int .i64 R1, .int .i64 C1], .agg #[.int .i64 wd, .int .i64 h, .slice (some ⟨g', 0, none⟩) h h, .int .i64 R2, .int .i64 C2]] w2 fun e w' => e = .returned (.bool (scrS wd h R1 C1 wd h R2 C2 rows1 rows2)) ∧ Below w2.heap.size w2 w')
  generalize hsv : scrS wd h R1 C1 wd h R2 C2 rows1 rows2 = sv at *
  have g1l := e1; have g2l := e2
  generalize vwOf p x = L at *
  generalize vwOf p y = M at *
  have ev1 : ∀ i, i = L.length → (spAll L wd).getD i (0, 0) = (spAll L wd).getD L.length (0, 0) := fun i h => by rw [h]
  generalize hq1 : ((spAll L wd).getD L.length (0, 0)).1 = t1 at *
  generalize hq2 : ((spAll M wd).getD M.length (0, 0)).1 = t2 at *
  replace S1 := Lib.hid S1; replace S2 := Lib.hid S2; replace V1 := Lib.hid V1; replace V2 := Lib.hid V2; replace P1 := Lib.hid P1; replace P2 := Lib.hid P2; replace Q1 := Lib.hid Q1; replace Q2 := Lib.hid Q2
  replace FA := Lib.hid FA; replace PS := Lib.hid PS; replace e1 := Lib.hid e1; replace e2 := Lib.hid e2; replace hsv := Lib.hid hsv; replace hq1 := Lib.hid hq1; replace hq2 := Lib.hid hq2; replace I := Lib.hid I
  clear r1 r2 z1 z2 ev1 g1l g2l
  go_enter Tryd.func4, Tryd.ntmps4
  go_wp2_with (fail)
  go_at_call 14
  refine (S1.out _ K0.out.p K0.out.x K0.out.t).mono ?_
  rintro e w1 ⟨g1, rfl, hr1, hb1⟩
  have B1 := below_alloc w1 (.cells #[.int .i64 wd, .int .i64 h, .slice (some ⟨g1, 0, none⟩) h h, .int .i64 R1, .int .i64 C1] 28)
  have K1 := Lib.hid ((K0.out.below hb1).below B1)
  have U1 := Lib.hid (⟨heap_alloc_new w1 _, hr1.below B1⟩ : FitS (w1.alloc (.cells #[.int .i64 wd, .int .i64 h, .slice (some ⟨g1, 0, none⟩) h h, .int .i64 R1, .int .i64 C1] 28)) w1.heap.size g1 #[.int .i64 wd, .int .i64 h, .slice (some ⟨g1, 0, none⟩) h h, .int .i64 R1, .int .i64 C1] rows1)
  have N1 := seqB (seqB B0 hb1) B1
  have y := fun i => cell_of_row _ _ i _ _ _ K1.out.f; have y0 := y 0; have y3 := y 3; have y4 := y 4; clear y; dsimp at y0 y3 y4
  have y := fun i => cell_of_row _ _ i _ _ _ K1.out.g; have v1 := y 1; have v2 := y 2; clear y; dsimp at v1 v2
  clear hr1
  go_wp2_with (fail)
  go_at_call 14
  refine (S2.out _ K1.out.p K1.out.y K1.out.t).mono ?_
  rintro e w2 ⟨g2, rfl, hr2, hb2⟩
  have B2 := below_alloc w2 (.cells #[.int .i64 wd, .int .i64 h, .slice (some ⟨g2, 0, none⟩) h h, .int .i64 R2, .int .i64 C2] 28)
  have K2 := Lib.hid ((K1.out.below hb2).below B2)
  have U2 := Lib.hid ((U1.out.below hb2).below B2)
  have T2 := Lib.hid (⟨heap_alloc_new w2 _, hr2.below B2⟩ : FitS (w2.alloc (.cells #[.int .i64 wd, .int .i64 h, .slice (some ⟨g2, 0, none⟩) h h, .int .i64 R2, .int .i64 C2] 28)) w2.heap.size g2 #[.int .i64 wd, .int .i64 h, .slice (some ⟨g2, 0, none⟩) h h, .int .i64 R2, .int .i64 C2] rows2)
  have N2 := seqB (seqB N1 hb2) B2
  generalize w1.heap.size = s1 at *
  generalize hs2 : w2.heap.size = s2 at *
  clear hr2 y0 y3 y4 v1 v2 hb1 hb2 B1 B2 U1 K0
  go_upto_region 7 with fail
  have hF := blk_lt K2.out.f; have hG := blk_lt K2.out.g
  have y := fun i => cell_of_row _ _ i _ _ _ K2.out.f; have y0 := y 0; have y1 := y 1; clear y; dsimp at y0 y1
  have y := fun i => cell_of_row _ _ i _ _ _ K2.out.g; have v1 := y 1; clear y; dsimp at v1
  generalize hW2 : w2.alloc (.cells #[.int .i64 wd, .int .i64 h, .slice (some ⟨g2, 0, none⟩) h h, .int .i64 R2, .int .i64 C2] 28) = W2 at *
  have K2d := Lib.hid (K2.out.below (Below.refl _ _).drew)
  have U2d := Lib.hid (U2.out.below (Below.refl _ _).drew)
  have T2d := Lib.hid (T2.out.below (Below.refl _ _).drew)
  replace N2 := N2.drew
  clear hW2
  go_region_held3 (fun w' => w'.cell? ⟨w.heap.size, 0, none⟩ = some (.slice a p.length c) ∧ w'.cell? ⟨w.heap.size, 1, none⟩ = some (.slice b x.length d) ∧ w'.cell? ⟨w.heap.size + 1, 1, none⟩ = some (.slice b2 y.length d2))
    (first | exact ⟨y0, y1, v1⟩ | exact ⟨o0, o1, o2⟩ | exact ⟨o3, o4, o5⟩ | go_keep)
    (first
      | (go_at_call 22; (with_reducible refine (V2.out _ K3.out.p K3.out.y).mono ?_); rintro e w4 ⟨x4, rfl, own4, hb4⟩; obtain ⟨da, dc, rfl, hd4⟩ := cells_of_own own4; have D4 := Lib.hid hd4; have C4 := Lib.hid (C3.out.below hb4); have K4 := Lib.hid (K3.out.below hb4); have U4 := Lib.hid (U3.out.below hb4); have T4 := Lib.hid (T3.out.below hb4); have N4 := seqB N3 hb4; have y := fun i => cell_of_row _ _ i _ _ _ K4.out.f; have o3 := y 0; have o4 := y 1; clear y; dsimp at o3 o4; have y := fun i => cell_of_row _ _ i _ _ _ K4.out.g; have o5 := y 1; clear y hd4 own4 hb4; dsimp at o5)
      | (go_at_call 22; (with_reducible refine (V1.out _ K2d.out.p K2d.out.x).mono ?_); rintro e w3 ⟨x3, rfl, own3, hb3⟩; obtain ⟨ca, cc, rfl, hc3⟩ := cells_of_own own3; have C3 := Lib.hid hc3; have K3 := Lib.hid (K2d.out.below hb3); have U3 := Lib.hid (U2d.out.below hb3); have T3 := Lib.hid (T2d.out.below hb3); have N3 := seqB N2 hb3; have y := fun i => cell_of_row _ _ i _ _ _ K3.out.f; have o0 := y 0; have o1 := y 1; clear y; dsimp at o0 o1; have y := fun i => cell_of_row _ _ i _ _ _ K3.out.g; have o2 := y 1; clear y hc3 own3 hb3; dsimp at o2))
  go_upto_region 8 with fail
  clear y0 y1 v1 o0 o1 o2 o3 o4 o5 K3 U3 T3 C3 K2d U2d T2d K2 U2 T2 N3 N2
  have y := fun i => cell_of_row _ _ i _ _ _ K4.out.f; have y3 := y 3; clear y; dsimp at y3
  have K4d := Lib.hid (K4.out.below (Below.refl _ _).drew)
  have U4d := Lib.hid (U4.out.below (Below.refl _ _).drew)
  have T4d := Lib.hid (T4.out.below (Below.refl _ _).drew)
  have C4d := Lib.hid (C4.out.below (Below.refl _ _).drew)
  have D4d := Lib.hid (D4.out.below (Below.refl _ _).drew)
  replace N4 := N4.drew
  clear K4 U4 T4 C4 D4
  go_region_held3 (fun w' => w'.cell? ⟨w.heap.size, 3, none⟩ = some (.int .i64 wd))
    (first | exact y3 | exact o0 | exact o1 | go_keep)
    (first
      | (go_at_call 23; (with_reducible refine (P2.out _ _ _ D5.out).mono ?_); rintro e w6 ⟨x6, rfl, own6, hb6⟩; obtain ⟨qa, qc, rfl, hq6⟩ := spots_of_own own6; rw [e2.out]; have Q6 := Lib.hid hq6; have P6 := Lib.hid (P5.out.below hb6); have K6 := Lib.hid (K5.out.below hb6); have U6 := Lib.hid (U5.out.below hb6); have T6 := Lib.hid (T5.out.below hb6); have N6 := seqB N5 hb6; have y := fun i => cell_of_row _ _ i _ _ _ K6.out.f; have o1 := y 3; clear y hq6 own6 hb6; dsimp at o1)
      | (go_at_call 23; (with_reducible refine (P1.out _ _ _ C4d.out).mono ?_); rintro e w5 ⟨x5, rfl, own5, hb5⟩; obtain ⟨pa, pc, rfl, hp5⟩ := spots_of_own own5; rw [e1.out]; have P5 := Lib.hid hp5; have D5 := Lib.hid (D4d.out.below hb5); have K5 := Lib.hid (K4d.out.below hb5); have U5 := Lib.hid (U4d.out.below hb5); have T5 := Lib.hid (T4d.out.below hb5); have N5 := seqB N4 hb5; have y := fun i => cell_of_row _ _ i _ _ _ K5.out.f; have o0 := y 3; clear y hp5 own5 hb5; dsimp at o0))
  clear y3 o0 o1 K5 U5 T5 P5 D5 K4d U4d T4d C4d D4d N4 N5 P1 P2 V1 V2 S1 S2
  obtain ⟨pb, po, rfl, hpb, m1, _⟩ := P6.out L.length (by rw [e1.out]; omega)
  obtain ⟨qb, qo, rfl, hqb, m2, _⟩ := Q6.out M.length (by rw [e2.out]; omega)
  rw [hq1.out] at m1
  rw [hq2.out] at m2
  have y := fun i => cell_of_row _ _ i _ _ _ K6.out.f; have m3 := y 4; clear y; dsimp at m3
  have y := fun i => cell_of_row _ _ i _ _ _ U6.out.s; have a0 := y 0; have a1 := y 1; have a2 := y 2; have a3 := y 3; have a4 := y 4; clear y; dsimp at a0 a1 a2 a3 a4
  have y := fun i => cell_of_row _ _ i _ _ _ T6.out.s; have b0 := y 0; have b1 := y 1; have b2 := y 2; have b3 := y 3; have b4 := y 4; clear y; dsimp at b0 b1 b2 b3 b4
  have hl0 : (0 : Int) ≤ (L.length : Int) := by omega
  have hl1 : (L.length : Int) < (L.length : Int) + 1 := by omega
  have hm0 : (0 : Int) ≤ (M.length : Int) := by omega
  have hm1 : (M.length : Int) < (M.length : Int) + 1 := by omega
  have TQ := Lib.hid (fun n => K6.out.t.below (drewN_below (Below.refl _ _) n))
  by_cases c1 : (h : Int) ≤ t1
  · clear K6 U6 T6 P6 Q6 FA PS Q1 Q2 I
    go_upto_region 9 with fail
    go_quiet (fail)
    go_wp2_with (go_at_call 13; refine (AW.out _ (TQ.out _)).mono ?_; rintro e w7 ⟨rfl, hb7⟩)
    go_ret
    exact ⟨rfl, seqB (drewN_below N6 _) hb7⟩
  by_cases c2 : (h : Int) ≤ t2
  · clear K6 U6 T6 P6 Q6 FA PS Q1 Q2 I
    go_upto_region 9 with fail
    go_quiet (fail)
    go_wp2_with (go_at_call 13; refine (AW.out _ (TQ.out _)).mono ?_; rintro e w7 ⟨rfl, hb7⟩)
    go_ret
    exact ⟨rfl, seqB (drewN_below N6 _) hb7⟩
  clear TQ
  have K6d := Lib.hid (K6.out.below (Below.refl _ _).drew)
  have U6d := Lib.hid (U6.out.below (Below.refl _ _).drew)
  have T6d := Lib.hid (T6.out.below (Below.refl _ _).drew)
  replace N6 := N6.drew
  have hF := blk_lt K6d.out.f; have hG := blk_lt K6d.out.g; have hs1 := blk_lt U6d.out.s; have hs3 := blk_lt T6d.out.s
  cases hsv2 : sv
  · obtain rfl : sv = false := hsv2
    clear K6 U6 T6 P6 Q6 FA Q1 Q2 I
    go_upto_region 9 with fail
    go_region_held3 (fun w' => w'.cell? ⟨pb, po + L.length * 2, none⟩ = some (.int .i64 t1) ∧ w'.cell? ⟨qb, qo + M.length * 2, none⟩ = some (.int .i64 t2) ∧ w'.cell? ⟨w.heap.size, 4, none⟩ = some (.int .i64 h) ∧ w'.cell? ⟨s1, 0, none⟩ = some (.int .i64 wd) ∧ w'.cell? ⟨s1, 1, none⟩ = some (.int .i64 h) ∧ w'.cell? ⟨s1, 2, none⟩ = some (.slice (some ⟨g1, 0, none⟩) h h) ∧ w'.cell? ⟨s1, 3, none⟩ = some (.int .i64 R1) ∧ w'.cell? ⟨s1, 4, none⟩ = some (.int .i64 C1) ∧ w'.cell? ⟨s2, 0, none⟩ = some (.int .i64 wd) ∧ w'.cell? ⟨s2, 1, none⟩ = some (.int .i64 h) ∧ w'.cell? ⟨s2, 2, none⟩ = some (.slice (some ⟨g2, 0, none⟩) h h) ∧ w'.cell? ⟨s2, 3, none⟩ = some (.int .i64 R2) ∧ w'.cell? ⟨s2, 4, none⟩ = some (.int .i64 C2))
      (first | exact ⟨m1, m2, m3, a0, a1, a2, a3, a4, b0, b1, b2, b3, b4⟩ | exact hh7 | go_keep)
      (first | (go_at_call 24; (with_reducible refine (PS.out _ _ _ U6d.out.r.rows.rows T6d.out.r.rows.rows).mono ?_); rintro e w7 ⟨rfl, hb7⟩; have hh7 := fits_keep hb7 hpb hqb hF hs1 hs3 m1 m2 m3 a0 a1 a2 a3 a4 b0 b1 b2 b3 b4))
    have T7 := Lib.hid (K6d.out.t.below hb7)
    go_wp2_with (go_at_call 13; refine (AW.out _ T7.out).mono ?_; rintro e w8 ⟨rfl, hb8⟩)
    go_ret
    exact ⟨rfl, seqB (seqB N6 hb7) hb8⟩
  · obtain rfl : sv = true := hsv2
    obtain ⟨hval, rfl⟩ := FA.out (by omega) (by omega) rfl
    have I2 := I.out
    rw [decide_eq_true hval] at I2
    replace I2 := Lib.hid I2
    clear K6 U6 T6 P6 Q6 FA hval I
    go_upto_region 9 with fail
    go_region_held3 (fun w' => w'.cell? ⟨pb, po + L.length * 2, none⟩ = some (.int .i64 t1) ∧ w'.cell? ⟨qb, qo + M.length * 2, none⟩ = some (.int .i64 t2) ∧ w'.cell? ⟨w.heap.size, 4, none⟩ = some (.int .i64 h) ∧ w'.cell? ⟨s1, 0, none⟩ = some (.int .i64 wd) ∧ w'.cell? ⟨s1, 1, none⟩ = some (.int .i64 h) ∧ w'.cell? ⟨s1, 2, none⟩ = some (.slice (some ⟨g1, 0, none⟩) h h) ∧ w'.cell? ⟨s1, 3, none⟩ = some (.int .i64 R1) ∧ w'.cell? ⟨s1, 4, none⟩ = some (.int .i64 C1) ∧ w'.cell? ⟨s2, 0, none⟩ = some (.int .i64 wd) ∧ w'.cell? ⟨s2, 1, none⟩ = some (.int .i64 h) ∧ w'.cell? ⟨s2, 2, none⟩ = some (.slice (some ⟨g2, 0, none⟩) h h) ∧ w'.cell? ⟨s2, 3, none⟩ = some (.int .i64 R2) ∧ w'.cell? ⟨s2, 4, none⟩ = some (.int .i64 C2))
      (first | exact ⟨m1, m2, m3, a0, a1, a2, a3, a4, b0, b1, b2, b3, b4⟩ | exact hh7 | go_keep)
      (first | (go_at_call 24; (with_reducible refine (PS.out _ _ _ U6d.out.r.rows.rows T6d.out.r.rows.rows).mono ?_); rintro e w7 ⟨rfl, hb7⟩; have hh7 := fits_keep hb7 hpb hqb hF hs1 hs3 m1 m2 m3 a0 a1 a2 a3 a4 b0 b1 b2 b3 b4))
    have K7 := Lib.hid (K6d.out.below hb7)
    have N7 := seqB N6 hb7
    clear K6d U6d T6d m1 m2 m3 a0 a1 a2 a3 a4 b0 b1 b2 b3 b4 hh7 hb7 N6 hpb hqb hs1 hs3 hF hG
    go_upto_region 11 with fail
    have K7d := Lib.hid (K7.out.below (Below.refl _ _).drew)
    replace N7 := N7.drew
    have y := fun i => cell_of_row _ _ i _ _ _ K7.out.f; have y1 := y 1; have y2 := y 2; clear y; dsimp at y1 y2
    have y := fun i => cell_of_row _ _ i _ _ _ K7.out.g; have v1 := y 1; have v2 := y 2; clear y; dsimp at v1 v2
    clear K7
    go_region_held3 (fun w' => w'.cell? ⟨w.heap.size, 1, none⟩ = some (.slice b x.length d) ∧ w'.cell? ⟨w.heap.size, 2, none⟩ = some (.int .i64 at') ∧ w'.cell? ⟨w.heap.size + 1, 1, none⟩ = some (.slice b2 y.length d2) ∧ w'.cell? ⟨w.heap.size + 1, 2, none⟩ = some (.int .i64 at'))
      (first | exact ⟨y1, y2, v1, v2⟩ | exact f8 | exact f9 | exact f10 | exact f11 | go_keep)
      (first
        | (go_at_call 13; refine (AW.out _ K7d.out.t).mono ?_; rintro e w8 ⟨rfl, hb8⟩; have K8 := Lib.hid (K7d.out.below hb8); have N8 := seqB N7 hb8; have f8 := fits_args K8.out.f K8.out.g)
        | (go_at_call 26; (with_reducible refine (Q2.out _ K9.out.y).mono ?_); rintro e w10 ⟨v10, rfl, own10, hb10⟩; obtain ⟨fa, fc, rfl, hr10⟩ := row_of_own own10; have K10 := Lib.hid (K9.out.below hb10); have N10 := seqB N9 hb10; have f10 := fits_args K10.out.f K10.out.g; have R10 := Lib.hid (R9.out.below hb10); have T10 := Lib.hid hr10; clear own10 hr10 hb10)
        | (go_at_call 26; (with_reducible refine (Q1.out _ K8.out.x).mono ?_); rintro e w9 ⟨v9, rfl, own9, hb9⟩; obtain ⟨ea, ec, rfl, hr9⟩ := row_of_own own9; have K9 := Lib.hid (K8.out.below hb9); have N9 := seqB N8 hb9; have f9 := fits_args K9.out.f K9.out.g; have R9 := Lib.hid hr9; clear own9 hr9 hb9)
        | (go_at_call 25; refine (I2.out _ _ _ _ _ R10.out T10.out).mono ?_; rintro e w11 ⟨rfl, n11, rfl⟩; have f11 := fits_args (K10.out.below (drewN_below (Below.refl _ _) n11)).f (K10.out.below (drewN_below (Below.refl _ _) n11)).g))
    go_wp2
    go_ret
    exact ⟨rfl, drewN_below N10 _⟩
theorem portfits_any (p p2 x y : List (Int × Int)) (a b a2 b2 : Option Addr) (c d c2 d2 : Nat) (at_ wd h bt wd2 h2 : Int) (w : World) (hT : Tabs w) (hmp : p.length ≤ 9223372036854775807) (hmx : x.length ≤ 9223372036854775807) (hmy : y.length ≤ 9223372036854775807) (ha : Signs w a p) (hb : Signs w b x) (hb2 : Signs w b2 y) :
    Calls Tryd.prog 4 #[.agg #[.slice a p.length c, .slice b x.length d, .int .i64 at_, .int .i64 wd, .int .i64 h], .agg #[.slice a2 p2.length c2, .slice b2 y.length d2, .int .i64 bt, .int .i64 wd2, .int .i64 h2]] w fun e w' => e = .returned (.bool true) ∧ Below w.heap.size w w' := by
  by_cases hbig : 10 < p.length ∨ 20 < x.length ∨ 20 < y.length ∨ wd < 4 ∨ 80 < wd ∨ h < 1 ∨ 60 < h
  · exact fits_big p p2 x y a b a2 b2 c d c2 d2 at_ wd h bt wd2 h2 w hT hmp hmx hmy hbig
  · have n := fun q => hbig q
    have hp : p.length ≤ 10 := Nat.le_of_not_lt fun q => hbig (Or.inl q)
    have hx : x.length ≤ 20 := Nat.le_of_not_lt fun q => hbig (Or.inr (Or.inl q))
    have hy : y.length ≤ 20 := Nat.le_of_not_lt fun q => hbig (Or.inr (Or.inr (Or.inl q)))
    have h4 : 4 ≤ wd := Int.not_lt.1 fun q => hbig (Or.inr (Or.inr (Or.inr (Or.inl q))))
    have h80 : wd ≤ 80 := Int.not_lt.1 fun q => hbig (Or.inr (Or.inr (Or.inr (Or.inr (Or.inl q)))))
    have h1 : 1 ≤ h := Int.not_lt.1 fun q => hbig (Or.inr (Or.inr (Or.inr (Or.inr (Or.inr (Or.inl q))))))
    have h60 : h ≤ 60 := Int.not_lt.1 fun q => hbig (Or.inr (Or.inr (Or.inr (Or.inr (Or.inr (Or.inr q))))))
    clear hbig n
    obtain ⟨wd', rfl⟩ := Int.eq_ofNat_of_zero_le (show 0 ≤ wd by omega)
    obtain ⟨h', rfl⟩ := Int.eq_ofNat_of_zero_le (show 0 ≤ h by omega)
    cases hg : goodS p x at_
    · exact fits_bad1 p p2 x y a b a2 b2 c d c2 d2 wd' h' at_ bt wd2 h2 w hT hp hx hy (by omega) (by omega) (by omega) (by omega) ha hb hb2 hg
    · cases hg2 : goodS p y bt
      · exact fits_bad2 p p2 x y a b a2 b2 c d c2 d2 wd' h' at_ bt wd2 h2 w hT hp hx hy (by omega) (by omega) (by omega) (by omega) ha hb hb2 hg hg2
      · obtain ⟨n, rfl, hn, hP, hX⟩ := goodS_yes hg
        obtain ⟨m, rfl, hm, _, hY⟩ := goodS_yes hg2
        exact fits_good p p2 x y a b a2 b2 c d c2 d2 wd' h' n m wd2 h2 w hT hp hx hy (by omega) (by omega) (by omega) (by omega) ha hb hb2 hn hm hP hX hY
end Go.Proofs.YtcdecnmhogmhaaaDoor
set_option linter.unusedVariables false
set_option linter.unusedSimpArgs false
namespace Go.Proofs.YtcdecnmhogmhaaaDoor
open Go.RowKit
theorem portshows_any (p l : List (Int × Int)) (a b : Option Addr) (c d : Nat) (at_ wd h : Int) (w : World) (hT : Tabs w) (hmp : p.length ≤ 9223372036854775807) (hml : l.length ≤ 9223372036854775807) (ha : Signs w a p) (hb : Signs w b l) :
    Calls Tryd.prog 3 #[.agg #[.slice a p.length c, .slice b l.length d, .int .i64 at_, .int .i64 wd, .int .i64 h]] w fun e w' => e = .returned (.bool true) ∧ Below w.heap.size w w' := by
  by_cases hbig : 30 < p.length ∨ 60 < l.length ∨ (80 < wd ∧ wd ≤ 1000) ∨ (40 < h ∧ h ≤ 1000)
  · exact shows_big p l a b c d at_ wd h w hT hmp hml hbig
  · have h1 : p.length ≤ 30 := Nat.le_of_not_lt fun x => hbig (Or.inl x)
    have h2 : l.length ≤ 60 := Nat.le_of_not_lt fun x => hbig (Or.inr (Or.inl x))
    have hw : ¬ (80 < wd ∧ wd ≤ 1000) := fun x => hbig (Or.inr (Or.inr (Or.inl x)))
    have hh : ¬ (40 < h ∧ h ≤ 1000) := fun x => hbig (Or.inr (Or.inr (Or.inr x)))
    by_cases n1 : at_ < 0
    · exact shows_neg p l a b c d at_ wd h w hT h1 h2 hw hh ha hb n1
    · by_cases n2 : (l.length : Int) < at_
      · exact shows_far p l a b c d at_ wd h w hT h1 h2 hw hh ha hb n2 n1
      · by_cases n3 : (sideB wd && sideB h) = false
        · exact shows_side p l a b c d at_ wd h w hT h1 h2 hw hh ha hb n3 n1 n2
        · have hs : sideB wd = true ∧ sideB h = true := by
            cases x : sideB wd <;> cases y : sideB h <;> simp [x, y] at n3 ⊢
          have r1 : 1 ≤ wd ∧ wd ≤ 1000 := by
            rcases sideB_cases wd with ⟨x, y, _⟩ | ⟨_, x⟩ | ⟨_, _, x⟩
            · exact ⟨x, y⟩
            · rw [hs.1] at x; cases x
            · rw [hs.1] at x; cases x
          have r2 : 1 ≤ h ∧ h ≤ 1000 := by
            rcases sideB_cases h with ⟨x, y, _⟩ | ⟨_, x⟩ | ⟨_, _, x⟩
            · exact ⟨x, y⟩
            · rw [hs.2] at x; cases x
            · rw [hs.2] at x; cases x
          have w80 : wd ≤ 80 := by omega
          have h40 : h ≤ 40 := by omega
          obtain ⟨at', rfl⟩ := Int.eq_ofNat_of_zero_le (show 0 ≤ at_ by omega)
          obtain ⟨wd', rfl⟩ := Int.eq_ofNat_of_zero_le (show 0 ≤ wd by omega)
          obtain ⟨h', rfl⟩ := Int.eq_ofNat_of_zero_le (show 0 ≤ h by omega)
          by_cases hS : (sgC p && sgC l) = false
          · exact shows_arg p l a b c d at' wd' h' w hT h1 h2 (by omega) (by omega) (by omega) (by omega) (by omega) ha hb hS
          · have hPL : sgC p = true ∧ sgC l = true := by
              cases h1 : sgC p <;> cases h2 : sgC l <;> simp [h1, h2] at hS ⊢
            exact shows_good p l a b c d at' wd' h' w hT h1 h2 (by omega) (by omega) (by omega) (by omega) (by omega) ha hb hPL.1 hPL.2
end Go.Proofs.YtcdecnmhogmhaaaDoor
