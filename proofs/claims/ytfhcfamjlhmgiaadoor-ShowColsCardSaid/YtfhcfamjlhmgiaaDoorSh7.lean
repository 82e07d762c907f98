import Derived.Test.YtfhcfamjlhmgiaaDoorSh4
import Derived.Test.YtfhcfamjlhmgiaaDoorSh6
set_option linter.unusedVariables false
set_option linter.unusedSimpArgs false
namespace Go.Proofs.YtfhcfamjlhmgiaaDoor
set_option maxRecDepth 100000
open Go.RowKit
theorem eqCell (v a o f k v' a' o' f' k' : Int) (h : ((v, a, o, f, k) : Cl) = (v', a', o', f', k')) (w : World) : (binOp .eql 67 (.agg #[.int .i64 v, .int .i64 a, .int .i64 o, .int .i64 f, .int .i64 k]) (.agg #[.int .i64 v', .int .i64 a', .int .i64 o', .int .i64 f', .int .i64 k'])).run Tryd.prog w = .ok (.bool true) w := by
  simp only [Prod.mk.injEq] at h
  obtain ⟨rfl, rfl, rfl, rfl, rfl⟩ := h
  simp [go_sem]
def aw6 : List Cl := [(19968, 2, 7, 19968, 0), (-1, 2, 7, 19968, 1)]
theorem aw6_facts : shT 27 = ⟨#[94, 91]⟩ ∧ shT 1114307 = ⟨#[92, 120, 67, 51]⟩ ∧ shT 8238 = ⟨#[60, 85, 43, 50, 48, 50, 69, 62]⟩ ∧ shC 27 = 2 ∧ shK 19968 2 7 = aw6 ∧ lkI 1072 0 = 4 ∧ twM 97 98 = true ∧ twM 97 27 = false ∧ shS aw6 aw6 = true := by decide +kernel
/-- What awake holds: the tables, and its cells at block g. -/
structure A6 (w : World) (g : Nat) : Prop where
  t : Tabs w
  c : CellsIn w (some ⟨g, 0, none⟩) aw6
theorem A6.below {w w' : World} {g : Nat} (h : A6 w g) (hb : Below w.heap.size w w') : A6 w' g := ⟨h.t.below hb, h.c.below hb⟩
theorem A6.cell {w : World} {g : Nat} (h : A6 w g) : w.cell? ⟨g, 5, none⟩ = some (.int .i64 (-1)) ∧ w.cell? ⟨g, 6, none⟩ = some (.int .i64 2) ∧ w.cell? ⟨g, 7, none⟩ = some (.int .i64 7) ∧ w.cell? ⟨g, 8, none⟩ = some (.int .i64 19968) ∧ w.cell? ⟨g, 9, none⟩ = some (.int .i64 1) := by
  obtain ⟨b, off, e, _, h1, h2, h3, h4, h5⟩ := h.c 1 (by decide)
  obtain ⟨rfl, rfl⟩ : g = b ∧ 0 = off := by simpa using e
  exact ⟨h1, h2, h3, h4, h5⟩
set_option maxHeartbeats 4000000 in
theorem shawake_any (w : World) (hT : Tabs w) : Calls Tryd.prog 17 #[] w fun e w' => e = .returned (.bool true) ∧ Below w.heap.size w w' := by
  have ⟨f1, f2, f3, f4, f5, f6, f7, f8, f9⟩ := aw6_facts
  have C := cells_any 19968 2 7 w hT
  rw [f5] at C
  have X1 := fun w h => shtext_any 27 w h
  have X2 := fun w h => shtext_any 1114307 w h
  have X3 := fun w h => shtext_any 8238 w h
  have K := fun w h => shcols_any 27 w h
  have L := fun w h => looks_any 1072 0 w h
  have T1 := fun w h => twin_any 97 98 w h
  have T2 := fun w h => twin_any 97 27 w h
  have S := fun w1 g c (h : A6 w1 g) => shsame_any aw6 aw6 (some ⟨g, 0, none⟩) (some ⟨g, 0, none⟩) c c w1 (by decide) (by decide) h.c h.c
  rw [f1] at X1; rw [f2] at X2; rw [f3] at X3; rw [f4] at K; rw [f6] at L; rw [f7] at T1; rw [f8] at T2; rw [show aw6.length = 2 from rfl, f9] at S
  have E := fun W => eqCell (-1) 2 7 19968 1 (-1) 2 7 19968 1 rfl W
  replace C := Lib.hid C; replace X1 := Lib.hid X1; replace X2 := Lib.hid X2; replace X3 := Lib.hid X3; replace K := Lib.hid K; replace L := Lib.hid L; replace T1 := Lib.hid T1; replace T2 := Lib.hid T2; replace S := Lib.hid S
  have HT := Lib.hid hT
  clear f1 f2 f3 f4 f5 f6 f7 f8 f9 hT
  go_enter Tryd.func17, Tryd.ntmps17
  go_wp2_with (first
    | (go_at_call 15; refine C.out.mono ?_; rintro e w1 ⟨x, rfl, hown, hb1⟩; obtain ⟨g, cap, rfl⟩ := ownsRow_pos hown (by decide); obtain ⟨ca, cc, he, hci⟩ := cells_of_own hown; have K1 := Lib.hid (⟨HT.out.below hb1, by injection he with he; rw [he]; exact hci⟩ : A6 w1 g); clear hown he hci)
    | (go_at_call 24; (with_reducible refine (X1.out _ K1.out.t).mono ?_); rintro e w2 ⟨rfl, hb2⟩; have K2 := Lib.hid (K1.out.below hb2))
    | (go_at_call 24; (with_reducible refine (X2.out _ K2.out.t).mono ?_); rintro e w3 ⟨rfl, hb3⟩; have K3 := Lib.hid (K2.out.below hb3))
    | (go_at_call 24; (with_reducible refine (X3.out _ K3.out.t).mono ?_); rintro e w4 ⟨rfl, hb4⟩; have K4 := Lib.hid (K3.out.below hb4))
    | (go_at_call 26; refine (K.out _ K4.out.t).mono ?_; rintro e w5 ⟨rfl, hb5⟩; have hA5 := K4.out.below hb5; have K5 := Lib.hid hA5; have z1 := hA5.cell.1; have z2 := hA5.cell.2.1; have z3 := hA5.cell.2.2.1; have z4 := hA5.cell.2.2.2.1; have z5 := hA5.cell.2.2.2.2; clear hA5)
    | (go_at_call 18; refine (L.out _ K5.out.t).mono ?_; rintro e w6 ⟨rfl, hb6⟩; have K6 := Lib.hid (K5.out.below hb6))
    | (go_at_call 63; (with_reducible refine (T1.out _ K6.out.t).mono ?_); rintro e w7 ⟨rfl, hb7⟩; have K7 := Lib.hid (K6.out.below hb7))
    | (go_at_call 63; (with_reducible refine (T2.out _ K7.out.t).mono ?_); rintro e w8 ⟨rfl, hb8⟩; have K8 := Lib.hid (K7.out.below hb8))
    | (go_at_call 22; refine (S.out _ _ _ K8.out).mono ?_; rintro e w9 ⟨rfl, hb9⟩))
  go_ret
  exact ⟨rfl, seqB (seqB (seqB (seqB (seqB (seqB (seqB (seqB hb1 hb2) hb3) hb4) hb5) hb6) hb7) hb8) hb9⟩
end Go.Proofs.YtfhcfamjlhmgiaaDoor
