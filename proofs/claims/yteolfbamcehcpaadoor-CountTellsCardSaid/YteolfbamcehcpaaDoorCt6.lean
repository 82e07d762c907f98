/-
  Counts: what must come at any rate.
-/
import Derived.Test.YteolfbamcehcpaaDoorCt3
set_option linter.unusedVariables false
set_option linter.unusedSimpArgs false
namespace Go.Proofs.YteolfbamcehcpaaDoor
set_option maxRecDepth 100000
open Go.RowKit
/-- The table, behind a call that writes one block of its caller's. -/
theorem KT.grown {w w' : World} {p : Nat} (h : KT w) (hg : w.grownBy w' (some p)) (hp : p ≠ 0) : KT w' :=
  ⟨fun i hi => (World.cell?_of_block (w := w) (a := ⟨0, i, none⟩) (hg.block _ h.lt (fun e => hp (by injection e with e; exact e.symm)))).trans (h.cell i hi), Nat.lt_of_lt_of_le h.lt hg.size⟩
theorem below_gb {w0 w w' : World} {p : Nat} (h : Below w0.heap.size w0 w) (hg : w.grownBy w' (some p)) (hp : w0.heap.size ≤ p) : Below w0.heap.size w0 w' :=
  h.grown hg h.size (fun k e => by injection e with e; subst e; exact hp)
theorem ctdo_t (p : Nat) (s s' : Cs) (b : Bool) (k : Ky) (w : World) (hK : KT w) (hp : CtAt p s w) (hn0 : 0 ≤ s.2.2.1) (hn1 : s.2.2.1 ≤ 9999) (h : doC s k = (s', b)) : Calls Tryd.prog 24 #[.pointer (some ⟨p, 0, none⟩), .agg #[.int .i64 k.1, .int .i64 k.2.1, .string k.2.2.1, .bool k.2.2.2]] w fun e w' => e = .returned (.bool b) ∧ CtAt p s' w' ∧ w.grownBy w' (some p) := by
  have := ctdo_any p s k w hK hp hn0 hn1
  unfold DoPost at this
  rw [h] at this
  exact this
theorem cttake_t (p : Nat) (s : Cs) (v : Int) (b : Bool) (w : World) (hp : CtAt p s w) (hn0 : 0 ≤ s.2.2.1) (hn1 : s.2.2.1 ≤ 9999) (h1 : csVal s = v) (h2 : csBg s = b) : Calls Tryd.prog 27 #[.pointer (some ⟨p, 0, none⟩)] w fun e w' => e = .returned (.tuple #[.int .i64 v, .bool b]) ∧ CtAt p cs0 w' ∧ w.grownBy w' (some p) := by
  subst h1; subst h2; exact cttake_any p s w hp hn0 hn1
theorem ctvalue_t (p : Nat) (s : Cs) (v : Int) (b : Bool) (w : World) (hp : CtAt p s w) (hn0 : 0 ≤ s.2.2.1) (hn1 : s.2.2.1 ≤ 9999) (h1 : csVal s = v) (h2 : csBg s = b) : Calls Tryd.prog 26 #[.pointer (some ⟨p, 0, none⟩)] w fun e w' => e = .returned (.tuple #[.int .i64 v, .bool b]) ∧ Below w.heap.size w w' := by
  subst h1; subst h2; exact ctvalue_any p s w hp hn0 hn1
set_option maxHeartbeats 4000000 in
set_option maxRecDepth 100000 in
theorem ctawake_any (w : World) (hK : KT w) : Calls Tryd.prog 21 #[] w fun e w' => e = .returned (.bool true) ∧ Below w.heap.size w w' := by
  have hne : w.heap.size ≠ 0 := by have := hK.lt; omega
  have B0 := below_alloc w (.cells #[.bool false, .bool false, .int .i64 0, .bool false] 93)
  have P0 : CtAt w.heap.size cs0 (w.alloc (.cells #[.bool false, .bool false, .int .i64 0, .bool false] 93)) := heap_alloc_new w _
  obtain ⟨W0, hW0⟩ : ∃ W0, w.alloc (.cells #[.bool false, .bool false, .int .i64 0, .bool false] 93) = W0 := ⟨_, rfl⟩
  have NW := Lib.hid fun w => ctnew_any w
  rw [hW0] at B0 P0
  have K0 := Lib.hid (hK.below B0)
  obtain ⟨P, hP⟩ : ∃ P, w.heap.size = P := ⟨_, rfl⟩
  have hPle : Hid (w.heap.size ≤ P) := Lib.hid (by omega)
  rw [hP] at hne P0
  have D1 : Hid (∀ w, KT w → CtAt P (cs0) w → Calls Tryd.prog 24 #[.pointer (some ⟨P, 0, none⟩), .agg #[.int .i64 3, .int .i64 45, .string ⟨#[]⟩, .bool false]] w fun e w' => e = .returned (.bool true) ∧ CtAt P (true, false, 0, true) w' ∧ w.grownBy w' (some P)) :=
    Lib.hid fun w hK hp => ctdo_t P (cs0) (true, false, 0, true) true (3, 45, ⟨#[]⟩, false) w hK hp (by decide) (by decide) (by decide)
  have D2 : Hid (∀ w, KT w → CtAt P (true, false, 0, true) w → Calls Tryd.prog 24 #[.pointer (some ⟨P, 0, none⟩), .agg #[.int .i64 3, .int .i64 49, .string ⟨#[]⟩, .bool false]] w fun e w' => e = .returned (.bool true) ∧ CtAt P (true, true, 1, true) w' ∧ w.grownBy w' (some P)) :=
    Lib.hid fun w hK hp => ctdo_t P (true, false, 0, true) (true, true, 1, true) true (3, 49, ⟨#[]⟩, false) w hK hp (by decide) (by decide) (by decide)
  have D3 : Hid (∀ w, KT w → CtAt P (true, true, 1, true) w → Calls Tryd.prog 24 #[.pointer (some ⟨P, 0, none⟩), .agg #[.int .i64 1, .int .i64 50, .string ⟨#[]⟩, .bool false]] w fun e w' => e = .returned (.bool true) ∧ CtAt P (true, true, 12, true) w' ∧ w.grownBy w' (some P)) :=
    Lib.hid fun w hK hp => ctdo_t P (true, true, 1, true) (true, true, 12, true) true (1, 50, ⟨#[]⟩, false) w hK hp (by decide) (by decide) (by decide)
  have D4 : Hid (∀ w, KT w → CtAt P (true, true, 12, true) w → Calls Tryd.prog 24 #[.pointer (some ⟨P, 0, none⟩), .agg #[.int .i64 1, .int .i64 120, .string ⟨#[]⟩, .bool false]] w fun e w' => e = .returned (.bool false) ∧ CtAt P (true, true, 12, true) w' ∧ w.grownBy w' (some P)) :=
    Lib.hid fun w hK hp => ctdo_t P (true, true, 12, true) (true, true, 12, true) false (1, 120, ⟨#[]⟩, false) w hK hp (by decide) (by decide) (by decide)
  have TK : Hid (∀ w, CtAt P (true, true, 12, true) w → Calls Tryd.prog 27 #[.pointer (some ⟨P, 0, none⟩)] w fun e w' => e = .returned (.tuple #[.int .i64 (-12), .bool true]) ∧ CtAt P cs0 w' ∧ w.grownBy w' (some P)) :=
    Lib.hid fun w hp => cttake_t P _ _ _ w hp (by decide) (by decide) (by decide) (by decide)
  have VL : Hid (∀ w, CtAt P cs0 w → Calls Tryd.prog 26 #[.pointer (some ⟨P, 0, none⟩)] w fun e w' => e = .returned (.tuple #[.int .i64 1, .bool false]) ∧ Below w.heap.size w w') :=
    Lib.hid fun w hp => ctvalue_t P _ _ _ w hp (by decide) (by decide) (by decide) (by decide)
  have H0 := Lib.hid P0
  have hne' := Lib.hid hne
  have HW0 := Lib.hid hW0
  clear hK P0 hne hW0
  go_enter Tryd.func21, Tryd.ntmps21
  go_wp2_with (first
    | (go_at_call 22; refine (NW.out _).mono ?_; rintro e w0 ⟨rfl, hw0⟩; rw [hP]; obtain rfl : W0 = w0 := HW0.out.symm.trans hw0)
    | (go_at_call 24; (with_reducible refine (D1.out _ K0.out H0.out).mono ?_); rintro e w1 ⟨rfl, h1, g1⟩; have K1 := Lib.hid (K0.out.grown g1 hne'.out); have H1 := Lib.hid h1; have B1 := Lib.hid (below_gb B0 g1 hPle.out); clear h1 g1)
    | (go_at_call 24; (with_reducible refine (D2.out _ K1.out H1.out).mono ?_); rintro e w2 ⟨rfl, h2, g2⟩; have K2 := Lib.hid (K1.out.grown g2 hne'.out); have H2 := Lib.hid h2; have B2 := Lib.hid (below_gb B1.out g2 hPle.out); clear h2 g2)
    | (go_at_call 24; (with_reducible refine (D3.out _ K2.out H2.out).mono ?_); rintro e w3 ⟨rfl, h3, g3⟩; have K3 := Lib.hid (K2.out.grown g3 hne'.out); have H3 := Lib.hid h3; have B3 := Lib.hid (below_gb B2.out g3 hPle.out); clear h3 g3)
    | (go_at_call 24; (with_reducible refine (D4.out _ K3.out H3.out).mono ?_); rintro e w4 ⟨rfl, h4, g4⟩; have H4 := Lib.hid h4; have B4 := Lib.hid (below_gb B3.out g4 hPle.out); clear h4 g4)
    | (go_at_call 27; refine (TK.out _ H4.out).mono ?_; rintro e w5 ⟨rfl, h5, g5⟩; have H5 := Lib.hid h5; have B5 := Lib.hid (below_gb B4.out g5 hPle.out); clear h5 g5)
    | (go_at_call 26; refine (VL.out _ H5.out).mono ?_; rintro e w6 ⟨rfl, hb6⟩))
  go_ret
  exact ⟨rfl, seqB B5.out hb6⟩
end Go.Proofs.YteolfbamcehcpaaDoor
