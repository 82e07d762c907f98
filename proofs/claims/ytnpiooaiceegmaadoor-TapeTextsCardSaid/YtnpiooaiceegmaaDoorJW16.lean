/-
  Joined: Tp20 Tp21 Tp22 Tp23 Tp24 Tp25 Tp26 Tp27.
-/
import Derived.Test.YtnpiooaiceegmaaDoorJW02
import Derived.Test.YtnpiooaiceegmaaDoorJW06
import Derived.Test.YtnpiooaiceegmaaDoorJW15
import Derived.Deep.RegionHeld3
import Derived.BigQuiet
import Derived.Laws.IdiomStrings
set_option linter.unusedVariables false
set_option linter.unusedSimpArgs false
set_option maxRecDepth 100000
set_option linter.unusedVariables false
set_option linter.unusedSimpArgs false
namespace Go.Proofs.YtnpiooaiceegmaaDoor
open Go.RowKit
theorem stW_b {x : Stp} {W : List (List UInt8)} (hb : tsB x) (h : stW x = some W) : 1 ≤ W.length ∧ W.length ≤ 1000000 ∧ ∀ q, q ∈ W → q.length ≤ 1000000 := by
  obtain ⟨k, t, n, m, L⟩ := x
  obtain ⟨h1, h2, h3, _⟩ := hb
  dsimp only at h1 h2 h3
  have t0 := wdL_len t
  have d0 := decS_len n
  have d1 := decS_len m
  have one : ∀ a ∈ [byW, tiW, reW, ofW, loW, saW, poW], a.length ≤ 1000000 := by decide
  unfold stW swW at h
  dsimp only at h
  repeat' split at h
  all_goals first | (cases h; done) | skip
  all_goals obtain rfl := Option.some.inj h
  all_goals refine ⟨by simp, by simp; try omega, ?_⟩
  all_goals intro q hq
  · simp only [List.mem_cons, List.not_mem_nil, or_false] at hq
    rcases hq with rfl | rfl
    · exact one _ (by decide)
    · omega
  · simp only [List.mem_cons, List.not_mem_nil, or_false] at hq
    subst hq; exact one _ (by decide)
  · simp only [List.mem_cons, List.not_mem_nil, or_false] at hq
    rcases hq with rfl | rfl | rfl
    · exact one _ (by decide)
    · omega
    · omega
  · rcases List.mem_cons.1 hq with rfl | hq
    · exact one _ (by decide)
    · obtain ⟨s, hs, rfl⟩ := List.mem_map.1 hq
      have := wdL_len s
      have := h3 s hs
      omega
  · simp only [List.mem_cons, List.not_mem_nil, or_false] at hq
    rcases hq with rfl | rfl
    · exact one _ (by decide)
    · omega
  · simp only [List.mem_cons, List.not_mem_nil, or_false] at hq
    subst hq; exact one _ (by decide)
  · simp only [List.mem_cons, List.not_mem_nil, or_false] at hq
    subst hq; exact one _ (by decide)
  · simp only [List.mem_cons, List.not_mem_nil, or_false] at hq
    subst hq; exact one _ (by decide)
theorem plS_len (x : Stp) (hb : tsB x) : (plS x).2.2.2.2.length ≤ 1000000 := by
  have := hb.2.1
  unfold plS
  repeat' split
  all_goals first | (dsimp only; omega) | exact Nat.zero_le _
def StPost (x : Stp) (w : World) (e : Ending) (w' : World) : Prop := e = .returned (.tuple #[.string (mkL (stLs x)), .int .i64 (if (stLn x).isSome = true then 0 else 2)]) ∧ Below w.heap.size w w'
theorem stpost_no {x : Stp} {w w' : World} (h : stLn x = none) (hb : Below w.heap.size w w') : StPost x w (.returned (.tuple #[.string ⟨#[]⟩, .int .i64 2])) w' := by
  unfold StPost stLs; rw [h]; exact ⟨rfl, hb⟩
theorem stpost_yes {x : Stp} {l : List UInt8} {w w' : World} (h : stLn x = some l) (hb : Below w.heap.size w w') : StPost x w (.returned (.tuple #[.string (mkL l), .int .i64 0])) w' := by
  unfold StPost stLs; rw [h]; exact ⟨rfl, hb⟩
set_option maxRecDepth 100000 in
set_option maxHeartbeats 8000000 in
theorem tstep_any (x : Stp) (a : Option Addr) (c : Nat) (w : World) (hb : tsB x) (hS : StI w a (x.2.2.2.2.map mkL)) : Calls Tryd.prog 15 #[tsV x a c] w (StPost x w) := by
  have hlen : x.2.2.2.2.length ≤ 1000000 := Nat.le_trans hb.2.1 (by omega)
  have hpl := plS_len x hb
  obtain ⟨k, t, n, m, L⟩ := x
  obtain ⟨l, hl⟩ : ∃ l, L.length = l := ⟨_, rfl⟩
  have b0 := below_alloc w (.cells #[.int .i64 k, .string (mkL t), .int .i64 n, .int .i64 m, .slice a l c] 38)
  have r0 := heap_alloc_new w (.cells #[.int .i64 k, .string (mkL t), .int .i64 n, .int .i64 m, .slice a l c] 38)
  obtain ⟨W0, hW0⟩ : ∃ W0, w.alloc (.cells #[.int .i64 k, .string (mkL t), .int .i64 n, .int .i64 m, .slice a l c] 38) = W0 := ⟨_, rfl⟩
  rw [hW0] at b0 r0
  have SW := tsw_any (k, t, n, m, L) a c W0 hb (hS.below b0)
  have PL := Lib.hid fun (w' : World) (h : Below w.heap.size w w') => tplain_any (k, t, n, m, L) a c w' (hS.below h)
  have SM := Lib.hid fun (y : Stp) (b : Option Addr) (d : Nat) (w' : World) (h : Below w.heap.size w w') (hy : y.2.2.2.2.length ≤ 1000000) (hq : StI w' b (y.2.2.2.2.map mkL)) => tsame_st (k, t, n, m, L) y a b c d w' hlen hy (hS.below h) hq
  have B0 := Lib.hid b0
  have R0 := Lib.hid r0
  have zz := fun i => cell_of_row _ _ i _ _ _ r0
  have f0 := zz 0; have f1 := zz 1; have f2 := zz 2; have f3 := zz 3; have f4 := zz 4
  dsimp at f0 f1 f2 f3 f4
  unfold tsV at SW PL SM ⊢
  dsimp only at SW PL SM ⊢
  rw [hl] at SW PL SM ⊢
  clear zz b0 r0 hS hlen
  cases hW : stW (k, t, n, m, L) with
  | none =>
    rw [hW] at SW
    have SWh := Lib.hid SW
    have HN : Hid (stLn (k, t, n, m, L) = none) := Lib.hid (by unfold stLn; rw [hW])
    clear SW hW hb hpl PL SM
    go_enter Tryd.func15, Tryd.ntmps15
    go_upto_region 2 with (go_at_call 61; refine SWh.out.mono ?_; rintro e w3 ⟨⟨v, rfl, hv⟩, hb3⟩)
    have B3 := Lib.hid (seqB B0.out hb3)
    clear hv hb3
    go_quiet (fail)
    go_wp2
    refine bodyPost_ret (v := .tuple #[.string ⟨#[]⟩, .int .i64 2]) (by simp [results, Tryd.results15, go_sem]) rfl ?_
    exact stpost_no HN.out (drewN_below B3.out _)
  | some W =>
    rw [hW] at SW
    have SWh := Lib.hid SW
    have WB := Lib.hid (stW_b hb hW)
    have HPL := Lib.hid hpl
    have HL := Lib.hid hl
    have HW := Lib.hid hW
    clear SW hW hb hpl hl
    go_enter Tryd.func15, Tryd.ntmps15
    go_upto_region 2 with (go_at_call 61; refine SWh.out.mono ?_; rintro e w3 ⟨⟨v, rfl, hv⟩, hb3⟩)
    have B3 := Lib.hid (seqB B0.out hb3)
    have V3 := Lib.hid (show owS w3 W0.heap.size v W from hv)
    have R3 := Lib.hid (blk_below R0.out hb3)
    have yy := fun i => cell_of_row _ _ i _ _ _ R3.out
    have g0 := yy 0; have g1 := yy 1; have g2 := yy 2; have g3 := yy 3; have g4 := yy 4
    dsimp at g0 g1 g2 g3 g4
    clear yy f0 f1 f2 f3 f4 hW0 hv hb3
    have SM2 := Lib.hid fun (b : Option Addr) (d : Nat) (w' : World) (h : Below w.heap.size w w') hq => SM.out (plS (k, t, n, m, L)) b d w' h HPL.out hq
    clear SM
    by_cases hp : (k, t, n, m, L) = plS (k, t, n, m, L)
    · have HY : Hid (stLn (k, t, n, m, L) = some (tjS W)) := Lib.hid (by unfold stLn; rw [HW.out]; dsimp only; rw [if_pos hp])
      rw [decide_eq_true hp] at SM2
      clear hp
      go_region_held3 (fun w' => w'.cell? ⟨w.heap.size, 0, none⟩ = some (.int .i64 k) ∧ w'.cell? ⟨w.heap.size, 1, none⟩ = some (.string (mkL t)) ∧ w'.cell? ⟨w.heap.size, 2, none⟩ = some (.int .i64 n) ∧ w'.cell? ⟨w.heap.size, 3, none⟩ = some (.int .i64 m) ∧ w'.cell? ⟨w.heap.size, 4, none⟩ = some (.slice a l c)) (first | exact ⟨g0, g1, g2, g3, g4⟩ | exact ⟨h0, h1, h2, h3, h4⟩ | exact ⟨i0, i1, i2, i3, i4⟩ | go_keep)
        (first
          | (go_at_call 62
             with_reducible refine (PL.out w3.drew B3.out.drew).mono ?_
             rintro e w4 ⟨⟨a4, c4, rfl, s4⟩, hb4⟩
             have B4 := Lib.hid (seqB B3.out.drew hb4)
             have S4 := Lib.hid (s4.below hb4)
             have V4 := Lib.hid (owS_below (w := w3) V3.out (seqB (Below.refl _ _).drew hb4))
             have R4 := Lib.hid (blk_below (w := w3) R3.out (seqB (Below.refl _ _).drew hb4))
             have yy := fun i => cell_of_row _ _ i _ _ _ R4.out
             have h0 := yy 0; have h1 := yy 1; have h2 := yy 2; have h3 := yy 3; have h4 := yy 4
             dsimp at h0 h1 h2 h3 h4
             clear hb4 yy s4)
          | (go_at_call 59
             with_reducible refine (SM2.out _ _ _ B4.out S4.out).mono ?_
             rintro e w5 ⟨rfl, hb5⟩
             have B5 := Lib.hid (seqB B4.out hb5)
             have V5 := Lib.hid (owS_below V4.out hb5)
             have R5 := Lib.hid (blk_below R4.out hb5)
             have yy := fun i => cell_of_row _ _ i _ _ _ R5.out
             have i0 := yy 0; have i1 := yy 1; have i2 := yy 2; have i3 := yy 3; have i4 := yy 4
             dsimp at i0 i1 i2 i3 i4
             clear hb5 yy))
      all_goals
        obtain ⟨av, cv, ev, hle, sv⟩ := owS_at V5.out
        have JN := Lib.hid (tjoin_any W av W.length cv w5 rfl WB.out.1 WB.out.2.1 hle WB.out.2.2 sv)
        subst ev
        clear hle sv
        go_wp2_with (go_at_call 63; refine JN.out.mono ?_; rintro e w6 ⟨rfl, hb6⟩)
        refine bodyPost_ret (v := .tuple #[.string (mkL (tjS W)), .int .i64 0]) (by simp [results, Tryd.results15, go_sem]) rfl ?_
        exact stpost_yes HY.out (seqB B5.out hb6)
    · have HY : Hid (stLn (k, t, n, m, L) = none) := Lib.hid (by unfold stLn; rw [HW.out]; dsimp only; rw [if_neg hp])
      rw [decide_eq_false hp] at SM2
      clear hp
      go_region_held3 (fun w' => w'.cell? ⟨w.heap.size, 0, none⟩ = some (.int .i64 k) ∧ w'.cell? ⟨w.heap.size, 1, none⟩ = some (.string (mkL t)) ∧ w'.cell? ⟨w.heap.size, 2, none⟩ = some (.int .i64 n) ∧ w'.cell? ⟨w.heap.size, 3, none⟩ = some (.int .i64 m) ∧ w'.cell? ⟨w.heap.size, 4, none⟩ = some (.slice a l c)) (first | exact ⟨g0, g1, g2, g3, g4⟩ | exact ⟨h0, h1, h2, h3, h4⟩ | exact ⟨i0, i1, i2, i3, i4⟩ | go_keep)
        (first
          | (go_at_call 62
             with_reducible refine (PL.out w3.drew B3.out.drew).mono ?_
             rintro e w4 ⟨⟨a4, c4, rfl, s4⟩, hb4⟩
             have B4 := Lib.hid (seqB B3.out.drew hb4)
             have S4 := Lib.hid (s4.below hb4)
             have V4 := Lib.hid (owS_below (w := w3) V3.out (seqB (Below.refl _ _).drew hb4))
             have R4 := Lib.hid (blk_below (w := w3) R3.out (seqB (Below.refl _ _).drew hb4))
             have yy := fun i => cell_of_row _ _ i _ _ _ R4.out
             have h0 := yy 0; have h1 := yy 1; have h2 := yy 2; have h3 := yy 3; have h4 := yy 4
             dsimp at h0 h1 h2 h3 h4
             clear hb4 yy s4)
          | (go_at_call 59
             with_reducible refine (SM2.out _ _ _ B4.out S4.out).mono ?_
             rintro e w5 ⟨rfl, hb5⟩
             have B5 := Lib.hid (seqB B4.out hb5)
             have V5 := Lib.hid (owS_below V4.out hb5)
             have R5 := Lib.hid (blk_below R4.out hb5)
             have yy := fun i => cell_of_row _ _ i _ _ _ R5.out
             have i0 := yy 0; have i1 := yy 1; have i2 := yy 2; have i3 := yy 3; have i4 := yy 4
             dsimp at i0 i1 i2 i3 i4
             clear hb5 yy))
      all_goals
        go_wp2
        refine bodyPost_ret (v := .tuple #[.string ⟨#[]⟩, .int .i64 2]) (by simp [results, Tryd.results15, go_sem]) rfl ?_
        exact stpost_no HY.out B5.out
end Go.Proofs.YtnpiooaiceegmaaDoor
set_option linter.unusedVariables false
set_option linter.unusedSimpArgs false
namespace Go.Proofs.YtnpiooaiceegmaaDoor
open Go.RowKit
/-- Bytes that lie in a block of their own. -/
def KpU (w : World) (a : Option Addr) (l : List UInt8) : Prop := (a = none ∧ l = []) ∨ ∃ g cs fr, a = some ⟨g, 0, none⟩ ∧ w.heap[g]? = some (.cells cs 5 fr) ∧ ∀ j (hj : j < l.length), cs[j]? = some (.int .u8 (l[j].toNat : Int))
theorem KpU.kept {w w' : World} {a : Option Addr} {l : List UInt8} (h : KpU w a l) (hk : ∀ (g : Nat) (cs : Array Value) (fr : Nat × Nat), w.heap[g]? = some (Obj.cells cs 5 fr) → w'.heap[g]? = w.heap[g]?) : KpU w' a l := by
  rcases h with h | ⟨g, cs, fr, e, h1, h2⟩
  · exact .inl h
  · exact .inr ⟨g, cs, fr, e, (hk _ _ _ h1).trans h1, h2⟩
theorem KpU.below {w w' : World} {a : Option Addr} {l : List UInt8} (h : KpU w a l) (hb : Below w.heap.size w w') : KpU w' a l := h.kept fun g cs fr hg => hb.block g (blk_lt hg)
theorem KpU.cvt {w : World} {a : Option Addr} {l : List UInt8} (h : KpU w a l) (c : Nat) : Cvt w a l.length c l := fun w' hb dst hd => by
  rcases h.below hb with ⟨rfl, rfl⟩ | ⟨g, cs, fr, rfl, h1, h2⟩
  · exact Lib.run_convert_nil_bytes w' _ _ _ c Tryd.underlying95 Tryd.underlying5 hd
  · exact run_convert_bytes_back (P := Tryd.prog) w' 95 dst 5 ⟨g, 0, none⟩ c l Tryd.underlying95 Tryd.underlying5 hd (fun j hj => by
      have e : (⟨g, 0, none⟩ : Addr).add j = ⟨g, j, none⟩ := by unfold Addr.add; split <;> simp_all
      rw [e, cell_of_row _ _ j _ _ _ h1]
      exact h2 j hj)
/-- Crashes lie in memory. -/
def CrI (w : World) (a : Option Addr) (C : List Crs) : Prop := ∀ i, i < C.length → ∃ b off ai ci, a = some ⟨b, off, none⟩ ∧ b < w.heap.size ∧ w.cell? ⟨b, off + i * 2, none⟩ = some (.int .i64 (C.getD i (0, [])).1) ∧ w.cell? ⟨b, off + i * 2 + 1, none⟩ = some (.slice ai (C.getD i (0, [])).2.length ci) ∧ Cvt w ai (C.getD i (0, [])).2.length ci (C.getD i (0, [])).2
theorem Cvt.below {w w' : World} {a : Option Addr} {n c : Nat} {l : List UInt8} (h : Cvt w a n c l) (hb : Below w.heap.size w w') : Cvt w' a n c l := fun w2 hb2 => h w2 (seqB hb hb2)
theorem CrI.below {w w' : World} {a : Option Addr} {C : List Crs} (h : CrI w a C) (hb : Below w.heap.size w w') : CrI w' a C := fun i hi => by
  obtain ⟨b, off, ai, ci, e, hlt, h1, h2, h3⟩ := h i hi
  exact ⟨b, off, ai, ci, e, Nat.lt_of_lt_of_le hlt hb.size, (hb.cell (p := ⟨b, off + i * 2, none⟩) hlt).trans h1, (hb.cell (p := ⟨b, off + i * 2 + 1, none⟩) hlt).trans h2, h3.below hb⟩
/-- No step. -/
abbrev st0 : Stp := (0, [], 0, 0, [])
/-- Steps lie in memory. -/
def SpI (w : World) (a : Option Addr) (S : List Stp) : Prop := ∀ i, i < S.length → ∃ b off ai ci, a = some ⟨b, off, none⟩ ∧ b < w.heap.size ∧ w.cell? ⟨b, off + i * 5, none⟩ = some (.int .i64 (S.getD i st0).1) ∧ w.cell? ⟨b, off + i * 5 + 1, none⟩ = some (.string (mkL (S.getD i st0).2.1)) ∧ w.cell? ⟨b, off + i * 5 + 2, none⟩ = some (.int .i64 (S.getD i st0).2.2.1) ∧ w.cell? ⟨b, off + i * 5 + 3, none⟩ = some (.int .i64 (S.getD i st0).2.2.2.1) ∧ w.cell? ⟨b, off + i * 5 + 4, none⟩ = some (.slice ai (S.getD i st0).2.2.2.2.length ci) ∧ StI w ai ((S.getD i st0).2.2.2.2.map mkL)
theorem SpI.below {w w' : World} {a : Option Addr} {S : List Stp} (h : SpI w a S) (hb : Below w.heap.size w w') : SpI w' a S := fun i hi => by
  obtain ⟨b, off, ai, ci, e, hlt, h1, h2, h3, h4, h5, h6⟩ := h i hi
  exact ⟨b, off, ai, ci, e, Nat.lt_of_lt_of_le hlt hb.size, (hb.cell (p := ⟨b, off + i * 5, none⟩) hlt).trans h1, (hb.cell (p := ⟨b, off + i * 5 + 1, none⟩) hlt).trans h2, (hb.cell (p := ⟨b, off + i * 5 + 2, none⟩) hlt).trans h3, (hb.cell (p := ⟨b, off + i * 5 + 3, none⟩) hlt).trans h4, (hb.cell (p := ⟨b, off + i * 5 + 4, none⟩) hlt).trans h5, h6.below hb⟩
set_option maxRecDepth 100000 in
set_option maxHeartbeats 4000000 in
theorem tadd_any (B b : Nat) (bs : List Value) (s : List UInt8) (w : World) (h : IsBld B b bs w) (hlen : bs.length + s.length + 1 ≤ 140737488355328) (hB : B ≤ w.heap.size) :
    Calls Tryd.prog 47 #[.string (mkL s), .pointer (some ⟨b, 0, none⟩)] w fun e w' => e = .returned (.tuple #[]) ∧ BldAt B b (.pointer (some ⟨b, 0, none⟩)) (bs ++ Lib.byteCells (s ++ [10])) w' ∧ Below B w w' := by
  have W1 := Lib.hid (bwrite_any B b bs (mkL s) w h (by rw [mkL_size]; omega) hB)
  have W2 := Lib.hid (fun (w : World) h2 hB => bwrite_any B b (bs ++ Lib.strCells (mkL s)) ⟨#[10]⟩ w h2 (by rw [List.length_append, Lib.strCells_length, mkL_size]; show _ + 1 ≤ _; omega) hB)
  have HC : Hid (bs ++ Lib.strCells (mkL s) ++ Lib.strCells ⟨#[10]⟩ = bs ++ Lib.byteCells (s ++ [10])) := Lib.hid (by rw [List.append_assoc, Lib.byteCells_append]; rfl)
  have HB := Lib.hid hB
  generalize bs ++ Lib.byteCells (s ++ [10]) = bf at *
  clear h hlen hB
  generalize mkL s = ms at *
  go_enter Tryd.func47, Tryd.ntmps47
  go_wp2_with (first
    | (go_at_call 48; (with_reducible refine W1.out.mono ?_); rintro e w2 ⟨rfl, h2, hb2⟩; have N2 := Lib.hid hb2; have I2 := Lib.hid (show IsBld B b (bs ++ Lib.strCells ms) w2 from Or.inr h2); have S2 := Lib.hid (Nat.le_trans HB.out hb2.size); clear W1 h2 hb2)
    | (go_at_call 48; (with_reducible refine (W2.out _ I2.out S2.out).mono ?_); rintro e w3 ⟨rfl, h3, hb3⟩))
  go_end0
  rw [HC.out] at h3
  exact ⟨rfl, h3, N2.out.trans hb3⟩
theorem tjS_len {W : List (List UInt8)} {M : Nat} (h : ∀ q ∈ W, q.length ≤ M) : (tjS W).length ≤ W.length * (M + 1) := by
  have hf : ∀ ps : List (List UInt8), (∀ q ∈ ps, q.length ≤ M) → (ps.flatMap fun y => (32 : UInt8) :: y).length ≤ ps.length * (M + 1) := fun ps => by
    induction ps with
    | nil => intro _; exact Nat.zero_le _
    | cons p ps ih =>
      intro hp
      have h1 := ih (fun q hq => hp q (List.mem_cons_of_mem _ hq))
      have h2 := hp p (List.mem_cons_self ..)
      rw [List.flatMap_cons, List.length_append, List.length_cons, List.length_cons, Nat.add_mul]; omega
  cases W with
  | nil => exact Nat.zero_le _
  | cons p ps =>
    have h1 := hf ps (fun q hq => h q (List.mem_cons_of_mem _ hq))
    have h2 := h p (List.mem_cons_self ..)
    show (p ++ ps.flatMap _).length ≤ _
    rw [List.length_append, List.length_cons, Nat.add_mul]; omega
theorem stW_n {x : Stp} {W : List (List UInt8)} (hb : tsB x) (h : stW x = some W) : W.length ≤ 100001 := by
  obtain ⟨k, t, n, m, L⟩ := x
  have h2 : L.length ≤ 100000 := hb.2.1
  unfold stW swW at h
  dsimp only at h
  repeat' split at h
  all_goals first | (cases h; done) | skip
  all_goals obtain rfl := Option.some.inj h
  all_goals (simp; try omega)
theorem stLs_len {x : Stp} (hb : tsB x) : (stLs x).length ≤ 100001 * 1000001 := by
  unfold stLs
  cases h : stLn x with
  | none => exact Nat.zero_le _
  | some l =>
    obtain ⟨W, h1, rfl, _, _⟩ := stLn_W h
    have := tjS_len (stW_b hb h1).2.2
    have h2 := stW_n hb h1
    show (tjS W).length ≤ _
    exact Nat.le_trans this (Nat.mul_le_mul_right _ h2)
theorem crLn_len {c : Crs} (h : c.2.length ≤ 300000) : (crLn c).length ≤ 1000000 := by
  have h1 := decS_len c.1
  have h2 := wdL_len c.2
  show (crW ++ (32 :: decS c.1 ++ (32 :: wdL c.2 ++ []))).length ≤ _
  simp only [List.length_append, List.length_cons, List.length_nil]
  have : crW.length = 5 := rfl
  omega
theorem cfT_len {f : Cf} (h : f.1.length = 8) (hp : f.2.2.length ≤ 300000) : (cfT f).length ≤ 12 * 1000001 := by
  have hl : ∀ q ∈ cfL f.1 8 ++ [cfK f.2.1, wdL f.2.2], q.length ≤ 1000000 := by
    intro q hq
    rcases List.mem_append.1 hq with hq | hq
    · unfold cfL at hq
      rcases List.mem_cons.1 hq with rfl | hq
      · decide
      · obtain ⟨n, _, rfl⟩ := List.mem_map.1 hq
        have := decS_len n; omega
    · simp only [List.mem_cons, List.not_mem_nil, or_false] at hq
      rcases hq with rfl | rfl
      · cases f.2.1 <;> decide
      · have := wdL_len f.2.2; omega
  have := tjS_len hl
  refine Nat.le_trans this (Nat.mul_le_mul_right _ ?_)
  rw [List.length_append, cfL_len _ _ (by omega)]
  show 9 + 2 ≤ 12
  omega
theorem enT_len {L : List (List UInt8)} {M : Nat} (h : ∀ l ∈ L, l.length ≤ M) : (enT L).length ≤ L.length * (M + 1) := by
  unfold enT
  induction L with
  | nil => exact Nat.zero_le _
  | cons p ps ih =>
    have h1 := ih (fun q hq => h q (List.mem_cons_of_mem _ hq))
    have h2 := h p (List.mem_cons_self ..)
    simp only [List.flatMap_cons, List.length_append, List.length_cons, List.length_nil, Nat.add_mul]; omega
theorem getD_memX {α : Type} {L : List α} {k : Nat} (d : α) (h : k < L.length) : L.getD k d ∈ L := by
  rw [List.getD, List.getElem?_eq_getElem h]; exact List.getElem_mem h
/-- What is laid of a script so far. -/
def laC (f : Cf) (C : List Crs) (k : Nat) : List UInt8 := enT (cfT f :: (C.take k).map crLn)
def laS (f : Cf) (C : List Crs) (S : List Stp) (k : Nat) : List UInt8 := enT (cfT f :: (C.map crLn ++ (S.take k).map stLs))
theorem laC_succ (f : Cf) (C : List Crs) (k : Nat) (h : k < C.length) : laC f C (k + 1) = laC f C k ++ (crLn (C.getD k (0, [])) ++ [10]) := by
  unfold laC
  rw [List.take_succ_eq_append_getElem h, List.map_append, ← List.cons_append, enT_app, List.getD, List.getElem?_eq_getElem h]
  simp [enT]
theorem laS_succ (f : Cf) (C : List Crs) (S : List Stp) (k : Nat) (h : k < S.length) : laS f C S (k + 1) = laS f C S k ++ (stLs (S.getD k st0) ++ [10]) := by
  unfold laS
  rw [List.take_succ_eq_append_getElem h, List.map_append, ← List.append_assoc, ← List.cons_append, enT_app, List.getD, List.getElem?_eq_getElem h]
  simp [enT]
theorem laC_end (f : Cf) (C : List Crs) (S : List Stp) (n : Nat) (h : C.length = n) : laC f C n = laS f C S 0 := by
  unfold laC laS
  rw [← h, List.take_length, List.take_zero]; simp
end Go.Proofs.YtnpiooaiceegmaaDoor
set_option linter.unusedVariables false
set_option linter.unusedSimpArgs false
namespace Go.Proofs.YtnpiooaiceegmaaDoor
open Go.RowKit
/-- What bounds a script. -/
def scB (C : List Crs) (S : List Stp) : Prop := C.length ≤ 200 ∧ S.length ≤ 200 ∧ (∀ c ∈ C, in64 c.1 ∧ c.2.length ≤ 300000) ∧ ∀ x ∈ S, tsB x
def TsPost (s : Scr) (w : World) (e : Ending) (w' : World) : Prop := e = .returned (.tuple #[.string (mkL ((scT s).getD [])), .int .i64 (if (scT s).isSome = true then 0 else 2)]) ∧ Below w.heap.size w w'
theorem tspost_no {s : Scr} {w w' : World} (h : scT s = none) (hb : Below w.heap.size w w') : TsPost s w (.returned (.tuple #[.string ⟨#[]⟩, .int .i64 2])) w' := by
  unfold TsPost; rw [h]; exact ⟨rfl, hb⟩
theorem tspost_yes {s : Scr} {l : List UInt8} {w w' : World} (h : scT s = some l) (hb : Below w.heap.size w w') : TsPost s w (.returned (.tuple #[.string (mkL l), .int .i64 0])) w' := by
  unfold TsPost; rw [h]; exact ⟨rfl, hb⟩
theorem sc_no {f : Cf} {C : List Crs} {S : List Stp} {x : Stp} (hx : x ∈ S) (h : stLn x = none) : scT (f, C, S) = none := by
  unfold scT
  rw [if_neg]
  intro ha
  rw [List.all_eq_true] at ha
  have := ha x hx
  rw [h] at this; cases this
theorem sc_yes {f : Cf} {C : List Crs} {S : List Stp} (h : ∀ j, j < S.length → (stLn (S.getD j st0)).isSome = true) : scT (f, C, S) = some (laS f C S S.length) := by
  unfold scT laS
  rw [if_pos, List.take_length]
  rw [List.all_eq_true]
  intro x hx
  obtain ⟨j, hj, rfl⟩ := List.getElem_of_mem hx
  have := h j hj
  rwa [List.getD, List.getElem?_eq_getElem hj] at this
theorem laC_len {f : Cf} {C : List Crs} (h1 : f.1.length = 8) (h2 : f.2.2.length ≤ 300000) (hC : ∀ c ∈ C, in64 c.1 ∧ c.2.length ≤ 300000) (hl : C.length ≤ 200) (k : Nat) : (laC f C k).length ≤ 100000000000 := by
  unfold laC
  have hq : ∀ q ∈ cfT f :: (C.take k).map crLn, q.length ≤ 12 * 1000001 := by
    intro q hq
    rcases List.mem_cons.1 hq with rfl | hq
    · exact cfT_len h1 h2
    · obtain ⟨c, hc, rfl⟩ := List.mem_map.1 hq
      have := crLn_len (hC c (List.mem_of_mem_take hc)).2
      omega
  have := enT_len hq
  have hn : (cfT f :: (C.take k).map crLn).length ≤ 201 := by
    rw [List.length_cons, List.length_map, List.length_take]; omega
  refine Nat.le_trans this (Nat.le_trans (Nat.mul_le_mul_right _ hn) ?_)
  omega
theorem laS_len {f : Cf} {C : List Crs} {S : List Stp} (h1 : f.1.length = 8) (h2 : f.2.2.length ≤ 300000) (hB : scB C S) (k : Nat) : (laS f C S k).length ≤ 100000000000000 := by
  obtain ⟨hc, hs, hC, hS⟩ := hB
  unfold laS
  have hq : ∀ q ∈ cfT f :: (C.map crLn ++ (S.take k).map stLs), q.length ≤ 100001 * 1000001 := by
    intro q hq
    rcases List.mem_cons.1 hq with rfl | hq
    · exact Nat.le_trans (cfT_len h1 h2) (by omega)
    · rcases List.mem_append.1 hq with hq | hq
      · obtain ⟨c, hc, rfl⟩ := List.mem_map.1 hq
        have := crLn_len (hC c hc).2
        omega
      · obtain ⟨x, hx, rfl⟩ := List.mem_map.1 hq
        exact stLs_len (hS x (List.mem_of_mem_take hx))
  have := enT_len hq
  have hn : (cfT f :: (C.map crLn ++ (S.take k).map stLs)).length ≤ 401 := by
    rw [List.length_cons, List.length_append, List.length_map, List.length_map, List.length_take]; omega
  refine Nat.le_trans this (Nat.le_trans (Nat.mul_le_mul_right _ hn) ?_)
  omega
set_option maxRecDepth 100000 in
set_option maxHeartbeats 8000000 in
theorem ttext_any (n0 n1 n2 n3 n4 n5 n6 n7 : Int) (vi : Bool) (p : List UInt8) (C : List Crs) (S : List Stp) (ca sa : Option Addr) (nc cc ns sc : Nat) (w : World) (hnc : C.length = nc) (hns : S.length = ns) (hp : p.length ≤ 300000) (hN : ∀ x, x ∈ [n0, n1, n2, n3, n4, n5, n6, n7] → in64 x) (hB : scB C S) (hC : CrI w ca C) (hS : SpI w sa S) :
    Calls Tryd.prog 11 #[.agg #[.int .i64 n0, .int .i64 n1, .int .i64 n2, .int .i64 n3, .int .i64 n4, .int .i64 n5, .int .i64 n6, .int .i64 n7, .bool vi, .string (mkL p), .slice ca nc cc, .slice sa ns sc]] w (TsPost (([n0, n1, n2, n3, n4, n5, n6, n7], vi, p), C, S) w) := by
  obtain ⟨f, hf⟩ : ∃ f : Cf, ([n0, n1, n2, n3, n4, n5, n6, n7], vi, p) = f := ⟨_, rfl⟩
  have hf8 : f.1.length = 8 := by rw [← hf]; rfl
  have hfp : f.2.2.length ≤ 300000 := by rw [← hf]; exact hp
  have CL0 := tconf_any n0 n1 n2 n3 n4 n5 n6 n7 vi p
  have hcf : cfLine [n0, n1, n2, n3, n4, n5, n6, n7] vi p = cfT f := by rw [← hf]; rfl
  rw [hcf] at CL0
  have CL := Lib.hid (fun w => CL0 w hp hN)
  have LC := Lib.hid (fun k => laC_len hf8 hfp hB.2.2.1 hB.1 k)
  have LS := Lib.hid (fun k => laS_len hf8 hfp hB k)
  rw [hf]
  have b0 := below_alloc w (.cells #[.int .i64 n0, .int .i64 n1, .int .i64 n2, .int .i64 n3, .int .i64 n4, .int .i64 n5, .int .i64 n6, .int .i64 n7, .bool vi, .string (mkL p), .slice ca nc cc, .slice sa ns sc] 27)
  have r0 := heap_alloc_new w (.cells #[.int .i64 n0, .int .i64 n1, .int .i64 n2, .int .i64 n3, .int .i64 n4, .int .i64 n5, .int .i64 n6, .int .i64 n7, .bool vi, .string (mkL p), .slice ca nc cc, .slice sa ns sc] 27)
  obtain ⟨W0, hW0⟩ : ∃ W0, w.alloc (.cells #[.int .i64 n0, .int .i64 n1, .int .i64 n2, .int .i64 n3, .int .i64 n4, .int .i64 n5, .int .i64 n6, .int .i64 n7, .bool vi, .string (mkL p), .slice ca nc cc, .slice sa ns sc] 27) = W0 := ⟨_, rfl⟩
  rw [hW0] at b0 r0
  have b1 := below_alloc W0 (.cells #[.pointer none, .slice none 0 0] 103)
  have I0 := kbld_new W0
  have r1 := blk_below r0 b1
  obtain ⟨B, hBB⟩ : ∃ B, W0.heap.size = B := ⟨_, rfl⟩
  obtain ⟨W1, hW1⟩ : ∃ W1, W0.alloc (.cells #[.pointer none, .slice none 0 0] 103) = W1 := ⟨_, rfl⟩
  rw [hW1] at b1 I0 r1
  rw [hBB] at I0 b1
  have hwB : w.heap.size < B := by rw [← hBB]; exact blk_lt r0
  have hBW : B ≤ W1.heap.size := by rw [← hBB]; exact b1.size
  have N1 := Lib.hid (b0.trans (b1.mono (Nat.le_of_lt hwB)))
  have HI := Lib.hid I0
  have HR := Lib.hid r1
  have HBW := Lib.hid hBW
  have HwB := Lib.hid hwB
  have HBs := Lib.hid hB
  have HC := Lib.hid hC
  have HS := Lib.hid hS
  have hnc200 : nc ≤ 200 := by have := hB.1; omega
  have hns200 : ns ≤ 200 := by have := hB.2.1; omega
  have HNC := Lib.hid hnc
  have HNS := Lib.hid hns
  have AD := Lib.hid (fun (bs : List Value) (s : List UInt8) (w : World) (h : IsBld B B bs w) hl hB => tadd_any B B bs s w h hl hB)
  have hmf : ∀ (fn : Fn) (first cap : Array Value) (w : World), (Instr.makeFunc fn first cap).run Tryd.prog w = .ok (.func fn first cap) w := fun _ _ _ _ => rfl
  have zz := fun i => cell_of_row _ _ i _ _ _ r1
  have f0 := zz 0; have f1 := zz 1; have f2 := zz 2; have f3 := zz 3; have f4 := zz 4; have f5 := zz 5; have f6 := zz 6; have f7 := zz 7; have f8 := zz 8; have f9 := zz 9
  dsimp at f0 f1 f2 f3 f4 f5 f6 f7 f8 f9
  clear zz b0 b1 r0 r1 I0 hwB hBW hB hC hS hnc hns CL0 hcf hf8 hfp hp hN
  go_enter Tryd.func11, Tryd.ntmps11
  go_upto_region 3 with fail
  obtain ⟨cl, hcl⟩ : ∃ cl, cfT f = cl := ⟨_, rfl⟩
  have LC0 : Hid (cl.length ≤ 100000000000) := Lib.hid (by
    have := LC.out 0
    unfold laC at this
    rw [← hcl]
    have h2 : (cfT f).length ≤ (enT (cfT f :: (C.take 0).map crLn)).length := by simp [enT]
    omega)
  have E0 : Hid ([] ++ Lib.byteCells (cl ++ [10]) = Lib.byteCells (laC f C 0)) := Lib.hid (by rw [← hcl]; unfold laC; simp [enT])
  have CLh : Hid (∀ w, Calls Tryd.prog 49 #[.agg #[.int .i64 n0, .int .i64 n1, .int .i64 n2, .int .i64 n3, .int .i64 n4, .int .i64 n5, .int .i64 n6, .int .i64 n7, .bool vi, .string (mkL p)]] w fun e w' => e = .returned (.string (mkL cl)) ∧ Below w.heap.size w w') := Lib.hid (by rw [← hcl]; exact CL.out)
  clear CL hcl
  go_upto_region 4 with (first
    | (go_at_call 49; refine (CLh.out _).mono ?_; rintro e w2 ⟨rfl, hb2⟩; have N2 := Lib.hid (seqB N1.out hb2); have I2 := Lib.hid (kbld_below HI.out hb2); have R2 := Lib.hid (blk_below HR.out hb2); have S2 := Lib.hid (Nat.le_trans HBW.out hb2.size); clear hb2)
    | (go_at_call 47; refine (AD.out [] cl w2 I2.out (by show 0 + _ + 1 ≤ _; have := LC0.out; omega) S2.out).mono ?_; rintro e w3 ⟨rfl, hI3, hb3⟩))
  have R3a := Lib.hid ((hb3.block w.heap.size HwB.out).trans R2.out)
  have N3 := Lib.hid (N2.out.trans (hb3.mono (Nat.le_of_lt HwB.out)))
  have S3 := Lib.hid (Nat.le_trans S2.out hb3.size)
  rw [E0.out] at hI3
  have I3 : Hid (IsBld B B (Lib.byteCells (laC f C 0)) w3) := Lib.hid (Or.inr hI3)
  obtain ⟨CF, hCF⟩ : ∃ CF, #[Value.int .i64 n0, .int .i64 n1, .int .i64 n2, .int .i64 n3, .int .i64 n4, .int .i64 n5, .int .i64 n6, .int .i64 n7, .bool vi, .string (mkL p), .slice ca nc cc, .slice sa ns sc] = CF := ⟨_, rfl⟩
  have q10 : CF[10]? = some (.slice ca nc cc) := by rw [← hCF]; rfl
  have q11 : CF[11]? = some (.slice sa ns sc) := by rw [← hCF]; rfl
  rw [hCF] at R3a
  have f10 := (cell_of_row _ _ 10 _ _ _ R3a.out).trans q10
  have Q10 := Lib.hid q10; have Q11 := Lib.hid q11
  clear I2 R2 S2 N2 HI HR N1 HBW hI3 hb3 hCF q10 q11 E0 LC0 CLh f0 f1 f2 f3 f4 f5 f6 f7 f8 f9 hW0 hW1 hBB
  go_upto_region 5 with fail
  go_loopw [21] (fun iv wr => ∃ k : Nat, k ≤ nc ∧ iv = .int .i64 (k : Int) ∧ Hid (IsBld B B (Lib.byteCells (laC f C k)) wr) ∧ Hid (B ≤ wr.heap.size) ∧ Hid (wr.heap[w.heap.size]? = some (.cells CF 27 (0, 0))) ∧ Hid (Below w.heap.size w wr)) (fun iv _ => nc - (intOf iv).toNat)
  case atStart => exact ⟨0, Nat.zero_le _, rfl, I3, S3, R3a, N3⟩
  case round =>
    obtain ⟨k, hk, rfl, HI, HZ, HR, HB⟩ := hrel
    clear I3 S3 R3a N3 f10
    by_cases hlt : k < nc
    · have hk1 : (k : Int) < nc := by omega
      have hk0 : (0 : Int) ≤ k := by omega
      have hlt' : k < C.length := by rw [HNC.out]; exact hlt
      obtain ⟨bb, off, ai, ci, rfl, hblt, c0, c1, hcv⟩ := (HC.out.below HB.out) k hlt'
      have hri := HBs.out.2.2.1 _ (getD_memX (0, []) hlt')
      have htk := laC_succ f C k hlt'
      have hll := LC.out k
      obtain ⟨v, hv⟩ : ∃ v, C.getD k (0, []) = v := ⟨_, rfl⟩
      rw [hv] at c0 c1 hcv hri htk
      obtain ⟨at', keep⟩ := v
      dsimp only at c0 c1 hcv hri
      have hcl := crLn_len (c := (at', keep)) hri.2
      obtain ⟨m, hm⟩ : ∃ m, keep.length = m := ⟨_, rfl⟩
      rw [hm] at c1 hcv
      have BA := below_alloc wr (.cells #[.int .i64 at', .slice ai m ci] 97)
      have TX0 := tcrash_any at' keep ai m ci _ hri.1 hri.2 (hcv.below BA)
      rw [show crLine at' keep = crLn (at', keep) from rfl] at TX0
      have TX := Lib.hid TX0
      have N1 := Lib.hid (seqB HB.out BA)
      have I1 := Lib.hid (kbld_below HI.out BA)
      have R1 := Lib.hid (blk_below HR.out BA)
      have S1 := Lib.hid (Nat.le_trans HZ.out BA.size)
      have hcell : Hid (Lib.byteCells (laC f C (k + 1)) = Lib.byteCells (laC f C k) ++ Lib.byteCells (crLn (at', keep) ++ [10])) := Lib.hid (by rw [htk, Lib.byteCells_append])
      have HL : Hid ((Lib.byteCells (laC f C k)).length + (crLn (at', keep)).length + 1 ≤ 140737488355328) := Lib.hid (by rw [Lib.byteCells_length]; omega)
      clear htk hcl hll hri hcv hv hm BA TX0 hlt' HI
      generalize crLn (at', keep) = t at *
      generalize Lib.byteCells (laC f C k) = bs at *
      go_wp2_with (first
        | (go_at_call 50; refine TX.out.mono ?_; rintro e w2 ⟨rfl, hb2⟩; have I2 := Lib.hid (kbld_below I1.out hb2); have N2 := Lib.hid (seqB N1.out hb2); have R2 := Lib.hid (blk_below R1.out hb2); have S2 := Lib.hid (Nat.le_trans S1.out hb2.size); clear hb2 TX)
        | (go_at_call 47; refine (AD.out bs t w2 I2.out HL.out S2.out).mono ?_; rintro e w3 ⟨rfl, hI3, hb3⟩))
      have N3 := Lib.hid (N2.out.trans (hb3.mono (Nat.le_of_lt HwB.out)))
      have I3 : Hid (IsBld B B (Lib.byteCells (laC f C (k + 1))) w3) := Lib.hid (by rw [hcell.out]; exact Or.inr hI3)
      have S3 := Lib.hid (Nat.le_trans S2.out hb3.size)
      have R3 := Lib.hid ((hb3.block w.heap.size HwB.out).trans R2.out)
      clear hI3 hb3 hcell
      go_roundw
      case rel => exact ⟨k + 1, by omega, by go_num, I3, S3, R3, N3⟩
      case measure => (simp [intOf]; try omega)
    · obtain rfl : k = nc := by omega
      have hmm : ¬ (k : Int) < (k : Int) := by omega
      rw [laC_end f C S k HNC.out] at HI
      have f11 := (cell_of_row _ _ 11 _ _ _ HR.out).trans Q11.out
      go_upto_region 10 with fail
      go_loopw [33] (fun iv wv => ∃ k : Nat, k ≤ ns ∧ iv = .int .i64 (k : Int) ∧ Hid (IsBld B B (Lib.byteCells (laS f C S k)) wv) ∧ Hid (B ≤ wv.heap.size) ∧ Hid (∀ j, j < k → (stLn (S.getD j st0)).isSome = true) ∧ Hid (Below w.heap.size w wv)) (fun iv _ => ns - (intOf iv).toNat)
      case atStart => exact ⟨0, Nat.zero_le _, rfl, HI, HZ, Lib.hid (fun j hj => absurd hj (Nat.not_lt_zero j)), HB⟩
      case round =>
        obtain ⟨j, hj, rfl, HI, HZ, HA, HB⟩ := hrel
        clear f11 HR
        by_cases hlt : j < ns
        · have hk1 : (j : Int) < ns := by omega
          have hk0 : (0 : Int) ≤ j := by omega
          have hlt' : j < S.length := by rw [HNS.out]; exact hlt
          obtain ⟨bb, off, ai, ci, rfl, hblt, c0, c1, c2, c3, c4, hsi⟩ := (HS.out.below HB.out) j hlt'
          have hmem := getD_memX st0 hlt'
          have hri := HBs.out.2.2.2 _ hmem
          have htk := laS_succ f C S j hlt'
          have hll := LS.out j
          have hln := stLs_len hri
          obtain ⟨v, hv⟩ : ∃ v, S.getD j st0 = v := ⟨_, rfl⟩
          have HV := Lib.hid hv
          rw [hv] at c0 c1 c2 c3 c4 hsi hri htk hmem hln
          obtain ⟨kk, tt, nn, mm, ll⟩ := v
          dsimp only at c0 c1 c2 c3 c4 hsi
          obtain ⟨m, hm⟩ : ∃ m, ll.length = m := ⟨_, rfl⟩
          rw [hm] at c4
          have BA := below_alloc wr (.cells #[.int .i64 kk, .string (mkL tt), .int .i64 nn, .int .i64 mm, .slice ai m ci] 38)
          have TX0 := tstep_any (kk, tt, nn, mm, ll) ai ci _ hri (hsi.below BA)
          unfold tsV StPost at TX0
          dsimp only at TX0
          rw [hm] at TX0
          have N1 := Lib.hid (seqB HB.out BA)
          have I1 := Lib.hid (kbld_below HI.out BA)
          have S1 := Lib.hid (Nat.le_trans HZ.out BA.size)
          cases hx : stLn (kk, tt, nn, mm, ll) with
          | some l =>
            have hls : stLs (kk, tt, nn, mm, ll) = l := by unfold stLs; rw [hx]; rfl
            rw [hx, hls, show (if (some l).isSome = true then (0 : Int) else 2) = 0 from rfl] at TX0
            rw [hls] at htk hln
            have TX := Lib.hid TX0
            have HA2 : Hid (∀ i, i < j + 1 → (stLn (S.getD i st0)).isSome = true) := Lib.hid (fun i hi => by
              rcases Nat.lt_succ_iff_lt_or_eq.1 hi with h | rfl
              · exact HA.out i h
              · rw [HV.out, hx]; rfl)
            have hcell : Hid (Lib.byteCells (laS f C S (j + 1)) = Lib.byteCells (laS f C S j) ++ Lib.byteCells (l ++ [10])) := Lib.hid (by rw [htk, Lib.byteCells_append])
            have HL : Hid ((Lib.byteCells (laS f C S j)).length + l.length + 1 ≤ 140737488355328) := Lib.hid (by rw [Lib.byteCells_length]; omega)
            clear htk hln hll hri hsi hv hm BA TX0 hlt' HI HA hls hx hmem
            generalize Lib.byteCells (laS f C S j) = bs at *
            go_wp2_with (first
              | (go_at_call 15; refine TX.out.mono ?_; rintro e w2 ⟨rfl, hb2⟩; have I2 := Lib.hid (kbld_below I1.out hb2); have N2 := Lib.hid (seqB N1.out hb2); have S2 := Lib.hid (Nat.le_trans S1.out hb2.size); clear hb2 TX)
              | (go_at_call 47; refine (AD.out bs l w2 I2.out HL.out S2.out).mono ?_; rintro e w3 ⟨rfl, hI3, hb3⟩))
            have N3 := Lib.hid (N2.out.trans (hb3.mono (Nat.le_of_lt HwB.out)))
            have I3 : Hid (IsBld B B (Lib.byteCells (laS f C S (j + 1))) w3) := Lib.hid (by rw [hcell.out]; exact Or.inr hI3)
            have S3 := Lib.hid (Nat.le_trans S2.out hb3.size)
            clear hI3 hb3 hcell
            go_roundw
            case rel => exact ⟨j + 1, by omega, by go_num, I3, S3, HA2, N3⟩
            case measure => (simp [intOf]; try omega)
          | none =>
            have hls : stLs (kk, tt, nn, mm, ll) = [] := by unfold stLs; rw [hx]; rfl
            rw [hx, hls, show (if (none : Option (List UInt8)).isSome = true then (0 : Int) else 2) = 2 from rfl] at TX0
            have TX := Lib.hid TX0
            have HF := Lib.hid (sc_no (f := f) (C := C) hmem hx)
            clear htk hln hll hri hsi hv hm BA TX0 hlt' HI HA hls hx hmem
            go_wp2_with (go_at_call 15; refine TX.out.mono ?_; rintro e w2 ⟨rfl, hb2⟩; have N2 := Lib.hid (seqB N1.out hb2); clear hb2 TX)
            refine bodyPost_ret (v := .tuple #[.string ⟨#[]⟩, .int .i64 2]) (by simp [results, Tryd.results11, go_sem]) rfl ?_
            exact tspost_no HF.out N2.out
        · obtain rfl : j = ns := by omega
          have hmm : ¬ (j : Int) < (j : Int) := by omega
          have HF := Lib.hid (sc_yes (f := f) (C := C) (S := S) (by rw [HNS.out]; exact HA.out))
          have HF2 := Lib.hid (show scT (f, C, S) = some (laS f C S j) by rw [HF.out, HNS.out])
          have ST := Lib.hid (fun (w : World) h2 hB => Tryd.Builder_String_any B B (laS f C S j) w h2 hB)
          clear HF HA
          generalize laS f C S j = ls at *
          go_wp2_with (go_at_call 51; refine (ST.out _ HI.out HZ.out).mono ?_; rintro e w2 ⟨rfl, hb2⟩)
          refine bodyPost_ret (v := .tuple #[.string (mkL ls), .int .i64 0]) (by simp [results, Tryd.results11, go_sem]; rfl) rfl ?_
          exact tspost_yes HF2.out (HB.out.trans (hb2.mono (Nat.le_of_lt HwB.out)))
end Go.Proofs.YtnpiooaiceegmaaDoor
set_option linter.unusedVariables false
set_option linter.unusedSimpArgs false
namespace Go.Proofs.YtnpiooaiceegmaaDoor
open Go.RowKit
/-- The words of a line under way: i of them are read. -/
structure WrS (g q r : Nat) (P : List (List UInt8)) (i : Nat) (bad : Bool) (w : World) : Prop where
  row : PcI w g P
  c : ∃ a, w.heap[q]? = some (.cells #[.slice a (P.length - i) (P.length - i), .bool bad] 194 (0, 0)) ∧ (i < P.length → a = some ⟨g, i, none⟩)
  p : w.heap[r]? = some (.cells #[.pointer (some ⟨q, 0, none⟩)] 186 (0, 0))
  lt : g < q ∧ q < r
theorem WrS.kept {g q r : Nat} {P : List (List UInt8)} {i : Nat} {bad : Bool} {w w' : World} (h : WrS g q r P i bad w) (hs : w.heap.size ≤ w'.heap.size) (hk : ∀ k, k = g ∨ k = q ∨ k = r → w'.heap[k]? = w.heap[k]?) : WrS g q r P i bad w' := by
  obtain ⟨a, h1, h2⟩ := h.c
  exact ⟨⟨Nat.lt_of_lt_of_le h.row.1 hs, fun j hj => (cell_blk (hk g (.inl rfl)) j).trans (h.row.2 j hj)⟩, ⟨a, (hk q (.inr (.inl rfl))).trans h1, h2⟩, (hk r (.inr (.inr rfl))).trans h.p, h.lt⟩
theorem WrS.below {g q r : Nat} {P : List (List UInt8)} {i : Nat} {bad : Bool} {w w' : World} (h : WrS g q r P i bad w) (hb : Below w.heap.size w w') : WrS g q r P i bad w' := by
  have h1 := h.row.1
  have h3 := blk_lt h.p
  obtain ⟨a, h2, _⟩ := h.c
  have h2 := blk_lt h2
  refine h.kept hb.size fun k hk => hb.block k ?_
  rcases hk with rfl | rfl | rfl
  · exact h1
  · exact h2
  · exact h3
/-- What a block's cells become. -/
theorem WrS.set {g q r : Nat} {P : List (List UInt8)} {i j : Nat} {bad b2 : Bool} {w w' : World} (h : WrS g q r P i bad w) {a : Option Addr} (hs : w.heap.size ≤ w'.heap.size) (hk : ∀ k, k < w.heap.size → k ≠ q → w'.heap[k]? = w.heap[k]?) (hq : w'.heap[q]? = some (.cells #[.slice a (P.length - j) (P.length - j), .bool b2] 194 (0, 0))) (ha : j < P.length → a = some ⟨g, j, none⟩) : WrS g q r P j b2 w' := by
  have h1 := h.row.1
  have h3 := blk_lt h.p
  have hlt := h.lt
  exact ⟨⟨Nat.lt_of_lt_of_le h.row.1 hs, fun j hj => (cell_blk (hk g h1 (by omega)) j).trans (h.row.2 j hj)⟩, ⟨a, hq, ha⟩, (hk r h3 (by omega)).trans h.p, h.lt⟩
theorem KeepB.mono {B B' p : Nat} {w w' : World} (h : KeepB B p w w') (hB : B' ≤ B) : KeepB B' p w w' := ⟨h.os, h.tape, h.output, h.size, fun k hk hp => h.block k (by omega) hp⟩
theorem KeepB.set (w : World) (q i : Nat) (v : Value) : KeepB w.heap.size q w (w.setCell ⟨q, i, none⟩ v) := ⟨rfl, rfl, rfl, by simp [World.setCell], fun k _ hk => Below.heap_setCell w ⟨q, i, none⟩ v k hk⟩
/-- The function that reads the next word. -/
abbrev rnV (r : Nat) : Value := .func (.func 166) #[] #[.pointer (some ⟨r, 0, none⟩)]
set_option maxHeartbeats 4000000 in
set_option maxRecDepth 100000 in
theorem treader_any (l : List UInt8) (w : World) (hl : l.length ≤ 300000) : Calls Tryd.prog 116 #[.string (mkL l)] w fun e w' => ∃ g q r, e = .returned (.tuple #[rnV r, .pointer (some ⟨q, 0, none⟩)]) ∧ WrS g q r (pcB 32 l) 0 false w' ∧ w.heap.size ≤ g ∧ Below w.heap.size w w' := by
  have SP := Lib.hid (splitb_any 32 l w (by omega))
  have hmf : ∀ (fn : Fn) (first cap : Array Value) (w : World), (Instr.makeFunc fn first cap).run Tryd.prog w = .ok (.func fn first cap) w := fun _ _ _ _ => rfl
  obtain ⟨P, hP⟩ : ∃ P, pcB 32 l = P := ⟨_, rfl⟩
  rw [hP] at SP ⊢
  obtain ⟨n, hn⟩ : ∃ n, P.length = n := ⟨_, rfl⟩
  rw [hn] at SP
  have HN := Lib.hid hn
  clear hn hP hl
  go_enter Tryd.func116, Tryd.ntmps116
  go_wp2_with (go_at_call 65; refine SP.out.mono ?_; rintro e w1 ⟨rfl, hpc, hb1⟩)
  have b2 := below_alloc w1 (.cells #[.slice (some ⟨w.heap.size, 0, none⟩) n n, .bool false] 194)
  have r2 := heap_alloc_new w1 (.cells #[.slice (some ⟨w.heap.size, 0, none⟩) n n, .bool false] 194)
  obtain ⟨W2, hW2⟩ : ∃ W2, w1.alloc (.cells #[.slice (some ⟨w.heap.size, 0, none⟩) n n, .bool false] 194) = W2 := ⟨_, rfl⟩
  have hs2 : W2.heap.size = w1.heap.size + 1 := by rw [← hW2]; simp
  rw [hW2] at b2 r2 ⊢
  rw [← hs2]
  have b3 := below_alloc W2 (.cells #[.pointer (some ⟨w1.heap.size, 0, none⟩)] 186)
  have r3 := heap_alloc_new W2 (.cells #[.pointer (some ⟨w1.heap.size, 0, none⟩)] 186)
  obtain ⟨W3, hW3⟩ : ∃ W3, W2.alloc (.cells #[.pointer (some ⟨w1.heap.size, 0, none⟩)] 186) = W3 := ⟨_, rfl⟩
  rw [hW3] at b3 r3 ⊢
  have hlt := hpc.1
  have F : Hid (WrS w.heap.size w1.heap.size W2.heap.size P 0 false W3) := Lib.hid ⟨(hpc.below b2).below b3, ⟨_, by rw [Nat.sub_zero, HN.out]; exact blk_below r2 b3, fun _ => rfl⟩, r3, hlt, by omega⟩
  have c0 := cell_of_row _ _ 0 _ _ _ r3
  dsimp at c0
  have BF := Lib.hid (seqB (seqB hb1 b2) b3)
  obtain ⟨qq, hqq⟩ : ∃ qq, w1.heap.size = qq := ⟨_, rfl⟩
  obtain ⟨rr, hrr⟩ : ∃ rr, W2.heap.size = rr := ⟨_, rfl⟩
  rw [hqq, hrr] at F
  rw [hqq] at c0 r3 ⊢
  rw [hrr] at c0 r3 ⊢
  clear hs2 hW2 hW3 b2 b3 r2 r3 hqq hrr hpc hb1 hlt SP
  go_region
  go_wp2
  refine bodyPost_ret (v := .tuple #[rnV rr, .pointer (some ⟨qq, 0, none⟩)]) (by simp [results, Tryd.results116, go_sem]) rfl ?_
  exact ⟨_, _, _, rfl, F.out.kept (Nat.le_refl _) (fun _ _ => rfl), Nat.le_refl _, BF.out.drew⟩
theorem KeepB.drew {B q : Nat} {w w' : World} (h : KeepB B q w w') : KeepB B q w w'.drew := ⟨h.os, h.tape, h.output, h.size, h.block⟩
set_option maxHeartbeats 4000000 in
set_option maxRecDepth 100000 in
theorem tnext_any (g q r : Nat) (P : List (List UInt8)) (i : Nat) (bad : Bool) (w : World) (h : WrS g q r P i bad w) : Calls Tryd.prog 166 #[.pointer (some ⟨r, 0, none⟩)] w fun e w' => e = .returned (.string (mkL (wA P i))) ∧ WrS g q r P (i + 1) bad w' ∧ KeepB w.heap.size q w w' := by
  obtain ⟨a, hq, ha⟩ := h.c
  have hr := h.p
  have c0 := cell_of_row _ _ 0 _ _ _ hr
  have d0 := cell_of_row _ _ 0 _ _ _ hq
  dsimp at c0 d0
  have fz : w.frozen? ⟨q, 0, none⟩ = false := frozen_of_row _ q 0 _ _ hq
  have H := Lib.hid h
  by_cases hlt : i < P.length
  · have e := ha hlt
    subst e
    have hw : wA P i = P.getD i [] := rfl
    have x0 := h.row.2 i hlt
    rw [← hw] at x0
    obtain ⟨m, hm⟩ : ∃ m, P.length - i = m + 1 := ⟨P.length - i - 1, by omega⟩
    rw [hm] at d0 hq
    obtain ⟨A, hA⟩ : ∃ A : Option Addr, (if m = 0 then some ⟨g, i, none⟩ else some ⟨g, i + 1, none⟩) = A := ⟨_, rfl⟩
    have hA2 : i + 1 < P.length → A = some ⟨g, i + 1, none⟩ := fun h => by rw [← hA, if_neg (by omega)]
    have hcut : ∀ w : World, (Instr.slice 36 (.slice (some ⟨g, i, none⟩) (m + 1) (m + 1)) (some (.int .i64 1)) none none).run Tryd.prog w = .ok (.slice A m m) w := fun w => by
      rw [run_slice_l (P := Tryd.prog) w 36 _ _ _ (by kernel_rfl) .i64 1 (by omega) (by omega)]
      rw [show Tryd.prog.elem 36 = 9 by kernel_rfl, show (sizeOf 9).run Tryd.prog w = .ok 1 w by kernel_rfl]
      show Result.ok (sliced (some ⟨g, i, none⟩) (Int.toNat 1) (m + 1) (m + 1) 1) w = _
      unfold sliced
      rw [← hA]
      by_cases h : m = 0
      · subst h; rfl
      · rw [if_neg h, if_neg (by show ¬ (m + 1 = 1); omega)]
        show Result.ok (Value.slice (some ((⟨g, i, none⟩ : Addr).add 1)) m m) w = _
        rw [show (⟨g, i, none⟩ : Addr).add 1 = ⟨g, i + 1, none⟩ by unfold Addr.add; split <;> simp_all]
    have hm1 : ((m : Int) + 1 == 0) = false := by rw [beq_eq_false_iff_ne]; omega
    have hset : Hid (WrS g q r P (i + 1) bad ((w.setCell ⟨q, 0, none⟩ (.slice A m m)).drew)) := Lib.hid (h.set (j := i + 1) (a := A) (by simp [World.setCell, World.drew]) (fun k _ hk => Below.heap_setCell w ⟨q, 0, none⟩ _ k hk) (by
      rw [show P.length - (i + 1) = m by omega]
      exact blk_set hq 0 (.slice A m m)) hA2)
    clear h ha hm hw hA hA2 hr hq
    go_enter Tryd.func166, Tryd.ntmps166
    go_upto_region 4 with fail
    go_region
    go_wp2
    go_ret
    exact ⟨rfl, hset.out, (KeepB.set w q 0 _).drew⟩
  · have hm0 : P.length - i = 0 := by omega
    have hw : Hid (wA P i = []) := Lib.hid (by unfold wA; rw [List.getD, List.getElem?_eq_none (by omega)]; rfl)
    rw [hm0] at d0
    have F : Hid (WrS g q r P (i + 1) bad w) := Lib.hid ⟨h.row, ⟨a, by rw [show P.length - (i + 1) = P.length - i by omega]; exact hq, fun h => absurd h (by omega)⟩, hr, h.lt⟩
    clear h ha hr hq hm0 hlt
    go_enter Tryd.func166, Tryd.ntmps166
    go_wp2
    go_ret
    exact ⟨by rw [hw.out]; rfl, F.out, KeepB.refl _ _ _⟩
end Go.Proofs.YtnpiooaiceegmaaDoor
set_option linter.unusedVariables false
set_option linter.unusedSimpArgs false
namespace Go.Proofs.YtnpiooaiceegmaaDoor
open Go.RowKit
theorem infoCrE : (Tryd.prog.info? 97).map (fun i => (i.zero, i.size, i.bytes)) = some (some (.agg #[.int .i64 0, .slice none 0 0]), 2, 32) := by kernel_rfl
theorem infoStE : (Tryd.prog.info? 38).map (fun i => (i.zero, i.size, i.bytes)) = some (some (.agg #[.int .i64 0, .string ⟨#[]⟩, .int .i64 0, .int .i64 0, .slice none 0 0]), 5, 64) := by kernel_rfl
/-- Crashes under way. -/
structure CrSt (B : Nat) (v : Value) (C : List Crs) (w : World) : Prop where
  ex : ∃ xs : List Value, w.ownsRow B 97 2 v C.length xs ∧ ∀ i, i < C.length → ∃ ai ci, xs[i * 2]? = some (.int .i64 (C.getD i (0, [])).1) ∧ xs[i * 2 + 1]? = some (.slice ai (C.getD i (0, [])).2.length ci) ∧ KpU w ai (C.getD i (0, [])).2
  le : B ≤ w.heap.size
theorem CrSt.below {B : Nat} {v : Value} {C : List Crs} {w w' : World} (h : CrSt B v C w) (hb : Below w.heap.size w w') : CrSt B v C w' := by
  obtain ⟨xs, h1, h2⟩ := h.ex
  exact ⟨⟨xs, own_below h1 hb, fun i hi => by obtain ⟨ai, ci, e1, e2, hx⟩ := h2 i hi; exact ⟨ai, ci, e1, e2, hx.below hb⟩⟩, Nat.le_trans h.le hb.size⟩
/-- A block of another type is written. -/
theorem CrSt.set {B : Nat} {v : Value} {C : List Crs} {w : World} (h : CrSt B v C w) {b : Nat} {cs : Array Value} {T : TypeId} {fr : Nat × Nat} (hb : w.heap[b]? = some (.cells cs T fr)) (h1 : T ≠ 97) (h2 : T ≠ 5) (i : Nat) (u : Value) : CrSt B v C (w.setCell ⟨b, i, none⟩ u) := by
  obtain ⟨xs, h3, h4⟩ := h.ex
  refine ⟨⟨xs, own_set h3 (own_ne_kind h3 hb h1) u, fun j hj => ?_⟩, by have := h.le; simpa [World.setCell] using this⟩
  obtain ⟨ai, ci, e1, e2, hx⟩ := h4 j hj
  refine ⟨ai, ci, e1, e2, hx.kept fun g cs' fr' hg => Below.heap_setCell w ⟨b, i, none⟩ u g fun e => ?_⟩
  subst e
  rw [hb] at hg; simp at hg; exact h2 hg.2.1
/-- Another row is grown. -/
theorem CrSt.grown {B : Nat} {v : Value} {C : List Crs} {w w' : World} (h : CrSt B v C w) {B' n' s' : Nat} {v' : Value} {T : TypeId} {xs' : List Value} (ho : w.ownsRow B' T s' v' n' xs') (hg : w.grownBy w' v'.ownBlock) (h1 : 97 ≠ T) (h2 : 5 ≠ T) : CrSt B v C w' := by
  obtain ⟨xs, h3, h4⟩ := h.ex
  refine ⟨⟨xs, World.ownsRow.kept h3 hg (own_ne_own h3 ho h1), fun j hj => ?_⟩, Nat.le_trans h.le hg.size⟩
  obtain ⟨ai, ci, e1, e2, hx⟩ := h4 j hj
  exact ⟨ai, ci, e1, e2, hx.kept fun g cs' fr' hh => hg.block g (blk_lt hh) (fun e => own_ne_kind ho hh h2 e.symm)⟩
theorem CrSt.crs {B : Nat} {v : Value} {C : List Crs} {w : World} (h : CrSt B v C w) : ∃ a c, v = .slice a C.length c ∧ CrI w a C := by
  obtain ⟨xs, h1, h2⟩ := h.ex
  rcases h1.2 with ⟨rfl, h0⟩ | ⟨g, cap, cur, rfl, hB, hg, hle, _⟩
  · exact ⟨none, 0, by rw [h0], fun j hj => by omega⟩
  · refine ⟨_, cap, rfl, fun i hi => ?_⟩
    obtain ⟨ai, ci, e1, e2, hx⟩ := h2 i hi
    exact ⟨g, 0, ai, ci, rfl, blk_lt hg, by rw [Nat.zero_add, h1.cellAt (i * 2) (by omega)]; exact e1, by rw [Nat.zero_add, h1.cellAt (i * 2 + 1) (by omega)]; exact e2, hx.cvt ci⟩
theorem CrSt.next {B : Nat} {v v' : Value} {C : List Crs} {u : Crs} {w w1 : World} {xs : List Value} {a : Option Addr} {n c : Nat} (h2 : ∀ i, i < C.length → ∃ ai ci, xs[i * 2]? = some (.int .i64 (C.getD i (0, [])).1) ∧ xs[i * 2 + 1]? = some (.slice ai (C.getD i (0, [])).2.length ci) ∧ KpU w ai (C.getD i (0, [])).2) (hn : u.2.length = n)
    (hw : w.ownsRow B 97 2 v C.length xs) (hx : KpU w a u.2) (ho : w1.ownsRow B 97 2 v' (C.length + 1) (xs ++ [.int .i64 u.1, .slice a n c])) (hg : w.grownBy w1 v.ownBlock) (hle : B ≤ w.heap.size) : CrSt B v' (C ++ [u]) w1 := by
  have hk : ∀ y M, KpU w y M → KpU w1 y M := fun y M hy => hy.kept fun g cs' fr' hh => hg.block g (blk_lt hh) (fun e => own_ne_kind hw hh (by decide) e.symm)
  have hxl : xs.length = C.length * 2 := hw.1
  subst hn
  refine ⟨⟨_, by rw [List.length_append]; exact ho, fun i hi => ?_⟩, Nat.le_trans hle hg.size⟩
  rw [List.length_append, List.length_singleton] at hi
  by_cases hlt : i < C.length
  · obtain ⟨ai, ci, e1, e2, hy⟩ := h2 i hlt
    have hgd : (C ++ [u]).getD i (0, []) = C.getD i (0, []) := by rw [List.getD, List.getElem?_append_left hlt, List.getD]
    rw [hgd]
    exact ⟨ai, ci, by rw [List.getElem?_append_left (by omega)]; exact e1, by rw [List.getElem?_append_left (by omega)]; exact e2, hk _ _ hy⟩
  · obtain rfl : i = C.length := by omega
    have hgd : (C ++ [u]).getD C.length (0, []) = u := by rw [List.getD, List.getElem?_append_right (Nat.le_refl _), Nat.sub_self]; rfl
    rw [hgd]
    refine ⟨a, c, ?_, ?_, hk _ _ hx⟩
    · rw [List.getElem?_append_right (by omega), hxl, Nat.sub_self]; rfl
    · rw [List.getElem?_append_right (by omega), hxl, show C.length * 2 + 1 - C.length * 2 = 1 by omega]; rfl
/-- Steps under way. -/
structure StSt (B : Nat) (v : Value) (S : List Stp) (w : World) : Prop where
  ex : ∃ xs : List Value, w.ownsRow B 38 5 v S.length xs ∧ ∀ i, i < S.length → ∃ ai ci, xs[i * 5]? = some (.int .i64 (S.getD i st0).1) ∧ xs[i * 5 + 1]? = some (.string (mkL (S.getD i st0).2.1)) ∧ xs[i * 5 + 2]? = some (.int .i64 (S.getD i st0).2.2.1) ∧ xs[i * 5 + 3]? = some (.int .i64 (S.getD i st0).2.2.2.1) ∧ xs[i * 5 + 4]? = some (.slice ai (S.getD i st0).2.2.2.2.length ci) ∧ owS w 0 (.slice ai (S.getD i st0).2.2.2.2.length ci) (S.getD i st0).2.2.2.2
  le : B ≤ w.heap.size
theorem StSt.below {B : Nat} {v : Value} {S : List Stp} {w w' : World} (h : StSt B v S w) (hb : Below w.heap.size w w') : StSt B v S w' := by
  obtain ⟨xs, h1, h2⟩ := h.ex
  exact ⟨⟨xs, own_below h1 hb, fun i hi => by obtain ⟨ai, ci, e1, e2, e3, e4, e5, hx⟩ := h2 i hi; exact ⟨ai, ci, e1, e2, e3, e4, e5, owS_below hx hb⟩⟩, Nat.le_trans h.le hb.size⟩
theorem StSt.set {B : Nat} {v : Value} {S : List Stp} {w : World} (h : StSt B v S w) {b : Nat} {cs : Array Value} {T : TypeId} {fr : Nat × Nat} (hb : w.heap[b]? = some (.cells cs T fr)) (h1 : T ≠ 38) (h2 : T ≠ 9) (i : Nat) (u : Value) : StSt B v S (w.setCell ⟨b, i, none⟩ u) := by
  obtain ⟨xs, h3, h4⟩ := h.ex
  refine ⟨⟨xs, own_set h3 (own_ne_kind h3 hb h1) u, fun j hj => ?_⟩, by have := h.le; simpa [World.setCell] using this⟩
  obtain ⟨ai, ci, e1, e2, e3, e4, e5, hx⟩ := h4 j hj
  exact ⟨ai, ci, e1, e2, e3, e4, e5, own_set hx (own_ne_kind hx hb h2) u⟩
theorem StSt.grown {B : Nat} {v : Value} {S : List Stp} {w w' : World} (h : StSt B v S w) {B' n' s' : Nat} {v' : Value} {T : TypeId} {xs' : List Value} (ho : w.ownsRow B' T s' v' n' xs') (hg : w.grownBy w' v'.ownBlock) (h1 : 38 ≠ T) (h2 : 9 ≠ T) : StSt B v S w' := by
  obtain ⟨xs, h3, h4⟩ := h.ex
  refine ⟨⟨xs, World.ownsRow.kept h3 hg (own_ne_own h3 ho h1), fun j hj => ?_⟩, Nat.le_trans h.le hg.size⟩
  obtain ⟨ai, ci, e1, e2, e3, e4, e5, hx⟩ := h4 j hj
  exact ⟨ai, ci, e1, e2, e3, e4, e5, World.ownsRow.kept hx hg (own_ne_own hx ho h2)⟩
theorem StSt.sps {B : Nat} {v : Value} {S : List Stp} {w : World} (h : StSt B v S w) : ∃ a c, v = .slice a S.length c ∧ SpI w a S := by
  obtain ⟨xs, h1, h2⟩ := h.ex
  rcases h1.2 with ⟨rfl, h0⟩ | ⟨g, cap, cur, rfl, hB, hg, hle, _⟩
  · exact ⟨none, 0, by rw [h0], fun j hj => by omega⟩
  · refine ⟨_, cap, rfl, fun i hi => ?_⟩
    obtain ⟨ai, ci, e1, e2, e3, e4, e5, hx⟩ := h2 i hi
    obtain ⟨a', c', e', _, hs⟩ := owS_at hx
    injection e' with f1 f2 f3
    subst f1; subst f3
    exact ⟨g, 0, ai, ci, rfl, blk_lt hg, by rw [Nat.zero_add, h1.cellAt (i * 5) (by omega)]; exact e1, by rw [Nat.zero_add, h1.cellAt (i * 5 + 1) (by omega)]; exact e2, by rw [Nat.zero_add, h1.cellAt (i * 5 + 2) (by omega)]; exact e3, by rw [Nat.zero_add, h1.cellAt (i * 5 + 3) (by omega)]; exact e4, by rw [Nat.zero_add, h1.cellAt (i * 5 + 4) (by omega)]; exact e5, hs⟩
theorem StSt.next {B : Nat} {v v' : Value} {S : List Stp} {u : Stp} {w w1 : World} {xs : List Value} {a : Option Addr} {n c : Nat} (h2 : ∀ i, i < S.length → ∃ ai ci, xs[i * 5]? = some (.int .i64 (S.getD i st0).1) ∧ xs[i * 5 + 1]? = some (.string (mkL (S.getD i st0).2.1)) ∧ xs[i * 5 + 2]? = some (.int .i64 (S.getD i st0).2.2.1) ∧ xs[i * 5 + 3]? = some (.int .i64 (S.getD i st0).2.2.2.1) ∧ xs[i * 5 + 4]? = some (.slice ai (S.getD i st0).2.2.2.2.length ci) ∧ owS w 0 (.slice ai (S.getD i st0).2.2.2.2.length ci) (S.getD i st0).2.2.2.2) (hn : u.2.2.2.2.length = n)
    (hw : w.ownsRow B 38 5 v S.length xs) (hx : owS w 0 (.slice a n c) u.2.2.2.2) (ho : w1.ownsRow B 38 5 v' (S.length + 1) (xs ++ [.int .i64 u.1, .string (mkL u.2.1), .int .i64 u.2.2.1, .int .i64 u.2.2.2.1, .slice a n c])) (hg : w.grownBy w1 v.ownBlock) (hle : B ≤ w.heap.size) : StSt B v' (S ++ [u]) w1 := by
  have hk : ∀ y M, owS w 0 y M → owS w1 0 y M := fun y M hy => World.ownsRow.kept hy hg (own_ne_own hy hw (by decide))
  have hxl : xs.length = S.length * 5 := hw.1
  subst hn
  refine ⟨⟨_, by rw [List.length_append]; exact ho, fun i hi => ?_⟩, Nat.le_trans hle hg.size⟩
  rw [List.length_append, List.length_singleton] at hi
  by_cases hlt : i < S.length
  · obtain ⟨ai, ci, e1, e2, e3, e4, e5, hy⟩ := h2 i hlt
    have hgd : (S ++ [u]).getD i st0 = S.getD i st0 := by rw [List.getD, List.getElem?_append_left hlt, List.getD]
    rw [hgd]
    exact ⟨ai, ci, by rw [List.getElem?_append_left (by omega)]; exact e1, by rw [List.getElem?_append_left (by omega)]; exact e2, by rw [List.getElem?_append_left (by omega)]; exact e3, by rw [List.getElem?_append_left (by omega)]; exact e4, by rw [List.getElem?_append_left (by omega)]; exact e5, hk _ _ hy⟩
  · obtain rfl : i = S.length := by omega
    have hgd : (S ++ [u]).getD S.length st0 = u := by rw [List.getD, List.getElem?_append_right (Nat.le_refl _), Nat.sub_self]; rfl
    rw [hgd]
    refine ⟨a, c, ?_, ?_, ?_, ?_, ?_, hk _ _ hx⟩
    · rw [List.getElem?_append_right (by omega), hxl, Nat.sub_self]; rfl
    · rw [List.getElem?_append_right (by omega), hxl, show S.length * 5 + 1 - S.length * 5 = 1 by omega]; rfl
    · rw [List.getElem?_append_right (by omega), hxl, show S.length * 5 + 2 - S.length * 5 = 2 by omega]; rfl
    · rw [List.getElem?_append_right (by omega), hxl, show S.length * 5 + 3 - S.length * 5 = 3 by omega]; rfl
    · rw [List.getElem?_append_right (by omega), hxl, show S.length * 5 + 4 - S.length * 5 = 4 by omega]; rfl
end Go.Proofs.YtnpiooaiceegmaaDoor
set_option linter.unusedVariables false
set_option linter.unusedSimpArgs false
namespace Go.Proofs.YtnpiooaiceegmaaDoor
open Go.RowKit
theorem WrS.len {g q r : Nat} {P : List (List UInt8)} {i : Nat} {bad : Bool} {w : World} {M : Nat} (h : WrS g q r P i bad w) (hM : ∀ x ∈ P, x.length ≤ M) : (wA P i).length ≤ M := by
  unfold wA
  by_cases hi : i < P.length
  · exact hM _ (getD_memX [] hi)
  · rw [List.getD, List.getElem?_eq_none (by omega)]; exact Nat.zero_le _
/-- The reading of a word went wrong, or had. -/
def bdN (bad : Bool) (e : Int) : Bool := bad || !(e == 0)
set_option maxHeartbeats 4000000 in
set_option maxRecDepth 100000 in
theorem tnumber_any (g q r : Nat) (P : List (List UInt8)) (i : Nat) (bad : Bool) (w : World) (h : WrS g q r P i bad w) (hM : ∀ x ∈ P, x.length ≤ 300000) : Calls Tryd.prog 117 #[.pointer (some ⟨q, 0, none⟩), rnV r] w fun e w' => e = .returned (.int .i64 (undR (wA P i))) ∧ WrS g q r P (i + 1) (bdN bad (undE (wA P i))) w' ∧ KeepB w.heap.size q w w' := by
  have NX := Lib.hid (tnext_any g q r P i bad w h)
  have hwl := h.len hM
  have HQ := Lib.hid (show q < w.heap.size by obtain ⟨a, h1, _⟩ := h.c; exact blk_lt h1)
  have UD := Lib.hid (fun w => (undec_any (wA P i) w (by omega)).mono fun e w' h => (show e = .returned (.tuple #[.int .i64 (undR (wA P i)), .int .i64 (undE (wA P i))]) ∧ Below w.heap.size w w' from h))
  clear h hM hwl
  obtain ⟨E, hE⟩ : ∃ E, undE (wA P i) = E := ⟨_, rfl⟩
  rw [hE] at UD ⊢
  obtain ⟨R, hR⟩ : ∃ R, Value.int .i64 (undR (wA P i)) = R := ⟨_, rfl⟩
  rw [hR] at UD ⊢
  clear hE hR
  generalize wA P i = wd at *
  go_enter Tryd.func117, Tryd.ntmps117
  go_upto_region 2 with (first
    | (go_at_call 166; refine NX.out.mono ?_; rintro e w2 ⟨rfl, hw2, hk2⟩)
    | (go_at_call 167; refine (UD.out _).mono ?_; rintro e w3 ⟨rfl, hb3⟩))
  have h3 := hw2.below hb3
  have K3 : Hid (KeepB w.heap.size q w w3) := Lib.hid (hk2.trans (KeepB.below hb3 hk2.size))
  obtain ⟨a, hq, ha⟩ := h3.c
  have d1 := cell_of_row _ _ 1 _ _ _ hq
  dsimp at d1
  have fz : w3.frozen? ⟨q, 1, none⟩ = false := frozen_of_row _ q 1 _ _ hq
  have HS : ∀ b, Hid (WrS g q r P (i + 1) b (w3.setCell ⟨q, 1, none⟩ (.bool b))) := fun b => Lib.hid (h3.set (j := i + 1) (a := a) (by simp [World.setCell]) (fun k _ hk => Below.heap_setCell w3 ⟨q, 1, none⟩ _ k hk) (blk_set hq 1 (.bool b)) ha)
  have KS : ∀ b, Hid (KeepB w.heap.size q w (w3.setCell ⟨q, 1, none⟩ (.bool b))) := fun b => Lib.hid (K3.out.trans ((KeepB.set w3 q 1 _).mono (by exact K3.out.size)))
  replace HS := Lib.hid HS
  replace KS := Lib.hid KS
  clear h3 hq ha hw2 hk2 hb3
  cases bad with
  | true =>
    go_wp2
    go_ret
    exact ⟨rfl, (HS.out true).out, (KS.out true).out⟩
  | false =>
    by_cases h0 : E = 0
    · subst h0
      go_wp2
      go_ret
      exact ⟨rfl, (HS.out false).out, (KS.out false).out⟩
    · have g0 := beqF h0
      go_wp2
      go_ret
      exact ⟨rfl, (HS.out (E != 0)).out, (KS.out (E != 0)).out⟩
set_option maxHeartbeats 4000000 in
set_option maxRecDepth 100000 in
theorem ttxt_any (g q r : Nat) (P : List (List UInt8)) (i : Nat) (bad : Bool) (w : World) (h : WrS g q r P i bad w) (hM : ∀ x ∈ P, x.length ≤ 300000) : Calls Tryd.prog 118 #[.pointer (some ⟨q, 0, none⟩), rnV r] w fun e w' => e = .returned (.string (mkL (uwS (wA P i)))) ∧ WrS g q r P (i + 1) (bdN bad (uwE (wA P i))) w' ∧ KeepB w.heap.size q w w' := by
  have NX := Lib.hid (tnext_any g q r P i bad w h)
  have hwl := h.len hM
  have HQ := Lib.hid (show q < w.heap.size by obtain ⟨a, h1, _⟩ := h.c; exact blk_lt h1)
  have UD := Lib.hid (fun w => (tunword_any (wA P i) w hwl).mono fun e w' h => (show e = .returned (.tuple #[.string (mkL (uwS (wA P i))), .int .i64 (uwE (wA P i))]) ∧ Below w.heap.size w w' from ⟨uw_of h.1, h.2⟩))
  clear h hM hwl
  obtain ⟨E, hE⟩ : ∃ E, uwE (wA P i) = E := ⟨_, rfl⟩
  rw [hE] at UD ⊢
  obtain ⟨R, hR⟩ : ∃ R, Value.string (mkL (uwS (wA P i))) = R := ⟨_, rfl⟩
  rw [hR] at UD ⊢
  clear hE hR
  generalize wA P i = wd at *
  go_enter Tryd.func118, Tryd.ntmps118
  go_upto_region 2 with (first
    | (go_at_call 166; refine NX.out.mono ?_; rintro e w2 ⟨rfl, hw2, hk2⟩)
    | (go_at_call 45; refine (UD.out _).mono ?_; rintro e w3 ⟨rfl, hb3⟩))
  have h3 := hw2.below hb3
  have K3 : Hid (KeepB w.heap.size q w w3) := Lib.hid (hk2.trans (KeepB.below hb3 hk2.size))
  obtain ⟨a, hq, ha⟩ := h3.c
  have d1 := cell_of_row _ _ 1 _ _ _ hq
  dsimp at d1
  have fz : w3.frozen? ⟨q, 1, none⟩ = false := frozen_of_row _ q 1 _ _ hq
  have HS : ∀ b, Hid (WrS g q r P (i + 1) b (w3.setCell ⟨q, 1, none⟩ (.bool b))) := fun b => Lib.hid (h3.set (j := i + 1) (a := a) (by simp [World.setCell]) (fun k _ hk => Below.heap_setCell w3 ⟨q, 1, none⟩ _ k hk) (blk_set hq 1 (.bool b)) ha)
  have KS : ∀ b, Hid (KeepB w.heap.size q w (w3.setCell ⟨q, 1, none⟩ (.bool b))) := fun b => Lib.hid (K3.out.trans ((KeepB.set w3 q 1 _).mono (by exact K3.out.size)))
  replace HS := Lib.hid HS
  replace KS := Lib.hid KS
  clear h3 hq ha hw2 hk2 hb3
  cases bad with
  | true =>
    go_wp2
    go_ret
    exact ⟨rfl, (HS.out true).out, (KS.out true).out⟩
  | false =>
    by_cases h0 : E = 0
    · subst h0
      go_wp2
      go_ret
      exact ⟨rfl, (HS.out false).out, (KS.out false).out⟩
    · have g0 := beqF h0
      go_wp2
      go_ret
      exact ⟨rfl, (HS.out (E != 0)).out, (KS.out (E != 0)).out⟩
set_option maxHeartbeats 4000000 in
set_option maxRecDepth 100000 in
theorem tdone_any (g q r : Nat) (P : List (List UInt8)) (i : Nat) (bad : Bool) (w : World) (h : WrS g q r P i bad w) : Calls Tryd.prog 119 #[.pointer (some ⟨q, 0, none⟩)] w fun e w' => e = .returned (.bool (!bad && decide (P.length ≤ i))) ∧ w = w' := by
  obtain ⟨a, hq, ha⟩ := h.c
  have d0 := cell_of_row _ _ 0 _ _ _ hq
  have d1 := cell_of_row _ _ 1 _ _ _ hq
  dsimp at d0 d1
  clear h ha hq
  cases bad with
  | true =>
    go_enter Tryd.func119, Tryd.ntmps119
    go_wp2
    go_ret
    exact ⟨rfl, rfl⟩
  | false =>
    by_cases hi : P.length ≤ i
    · have e : P.length - i = 0 := by omega
      rw [e] at d0
      rw [decide_eq_true hi]
      clear e hi
      go_enter Tryd.func119, Tryd.ntmps119
      go_wp2
      go_ret
      exact ⟨rfl, rfl⟩
    · have g0 : (((P.length - i : Nat) : Int) == 0) = false := beqF (by omega)
      rw [decide_eq_false hi]
      clear hi
      generalize P.length - i = n at *
      go_enter Tryd.func119, Tryd.ntmps119
      go_wp2
      go_ret
      exact ⟨rfl, rfl⟩
end Go.Proofs.YtnpiooaiceegmaaDoor
set_option linter.unusedVariables false
set_option linter.unusedSimpArgs false
namespace Go.Proofs.YtnpiooaiceegmaaDoor
open Go.RowKit
/-- A line is read, the result's box lies at T. -/
structure RlS (w0 : World) (T : Nat) (o : Obj) (g q r : Nat) (P : List (List UInt8)) (i : Nat) (bad : Bool) (w : World) : Prop where
  rd : WrS g q r P i bad w
  res : w.heap[T]? = some o
  lt : w0.heap.size ≤ T ∧ T < g
  bl : Below w0.heap.size w0 w
section
variable {w0 : World} {T : Nat} {o : Obj} {g q r : Nat} {P : List (List UInt8)} {i j : Nat} {bad b2 : Bool} {w w' : World}
theorem RlS.qlt (h : RlS w0 T o g q r P i bad w) : q < w.heap.size ∧ T < q ∧ q < r ∧ r < w.heap.size := by
  obtain ⟨a, h1, _⟩ := h.rd.c
  have := h.rd.lt; have := h.lt
  exact ⟨blk_lt h1, by omega, by omega, blk_lt h.rd.p⟩
theorem RlS.step (h : RlS w0 T o g q r P i bad w) (h1 : WrS g q r P j b2 w') (hk : KeepB w.heap.size q w w') : RlS w0 T o g q r P j b2 w' := by
  have hq := h.qlt
  have hl := h.lt
  exact ⟨h1, (hk.block T (blk_lt h.res) (by omega)).trans h.res, hl, ⟨hk.os.trans h.bl.os, hk.tape.trans h.bl.tape, hk.output.trans h.bl.output, Nat.le_trans h.bl.size hk.size, fun k hk1 => (hk.block k (Nat.lt_of_lt_of_le hk1 h.bl.size) (by omega)).trans (h.bl.block k hk1)⟩⟩
theorem RlS.below (h : RlS w0 T o g q r P i bad w) (hb : Below w.heap.size w w') : RlS w0 T o g q r P i bad w' :=
  ⟨h.rd.below hb, (hb.block T (blk_lt h.res)).trans h.res, h.lt, seqB h.bl hb⟩
/-- A block of the call's own, but not of the reader's, is written. -/
theorem RlS.set (h : RlS w0 T o g q r P i bad w) {X : Nat} (hX : r < X) (n : Nat) (v : Value) : RlS w0 T o g q r P i bad (w.setCell ⟨X, n, none⟩ v) := by
  have hq := h.qlt
  have hg := h.rd.lt
  have hl := h.lt
  have hk : ∀ k, k ≠ X → (w.setCell ⟨X, n, none⟩ v).heap[k]? = w.heap[k]? := fun k hk => Below.heap_setCell w ⟨X, n, none⟩ v k hk
  have hs : w.heap.size ≤ (w.setCell ⟨X, n, none⟩ v).heap.size := by simp [World.setCell]
  exact ⟨h.rd.kept hs (fun k hkk => hk k (by omega)), (hk T (by omega)).trans h.res, h.lt, h.bl.setCell (p := ⟨X, n, none⟩) (by show w0.heap.size ≤ X; omega) v⟩
theorem RlS.drew (h : RlS w0 T o g q r P i bad w) : RlS w0 T o g q r P i bad w.drew := ⟨h.rd.kept (Nat.le_refl _) (fun _ _ => rfl), h.res, h.lt, h.bl.drew⟩
/-- Another block of the call's own stays. -/
theorem kb_blk {X : Nat} {ob : Obj} (hX : w.heap[X]? = some ob) (hne : X ≠ q) (hk : KeepB w.heap.size q w w') : w'.heap[X]? = some ob := (hk.block X (blk_lt hX) hne).trans hX
end
theorem rlS_new {w w1 w2 : World} {o : Obj} {g q r : Nat} {P : List (List UInt8)} (h1 : w1.heap[w.heap.size]? = some o) (hb1 : Below w.heap.size w w1) (h2 : WrS g q r P 0 false w2) (hg : w1.heap.size ≤ g) (hb : Below w1.heap.size w1 w2) : RlS w w.heap.size o g q r P 0 false w2 :=
  ⟨h2, (hb.block _ (blk_lt h1)).trans h1, ⟨Nat.le_refl _, Nat.lt_of_lt_of_le (blk_lt h1) hg⟩, seqB hb1 hb⟩
/-- A text as bytes. -/
theorem conv_text (s : List UInt8) : ∃ (cp : World → Nat) (CW : World → World), (∀ w, (convert 9 95 (.string (mkL s))).run Tryd.prog w = .ok (.slice (some ⟨w.heap.size, 0, none⟩) s.length (cp w)) (CW w)) ∧ ∀ w, KpU (CW w) (some ⟨w.heap.size, 0, none⟩) s ∧ Below w.heap.size w (CW w) := by
  refine ⟨fun w => grownCap w (mkL s).size 0 5, fun w => w.drew.alloc (.cells (bytesRow (mkL s) (grownCap w (mkL s).size 0 5)) 5 ((bytesRow (mkL s) (grownCap w (mkL s).size 0 5)).size, (bytesRow (mkL s) (grownCap w (mkL s).size 0 5)).size + 1)), fun w => ?_, fun w => ⟨?_, ?_⟩⟩
  · have h := run_bytes_of_string (P := Tryd.prog) w 9 95 5 (mkL s) Tryd.underlying9 Tryd.underlying95 Tryd.underlying5
    rw [mkL_size] at h ⊢
    exact h
  · refine .inr ⟨w.heap.size, _, _, rfl, heap_alloc_new w.drew _, fun j hj => ?_⟩
    unfold bytesRow
    rw [Array.getElem?_append_left (by rw [Array.size_map]; show j < s.toArray.size; simpa using hj), Array.getElem?_map]
    show Option.map _ (s.toArray[j]?) = _
    rw [List.getElem?_toArray, List.getElem?_eq_getElem hj]
    rfl
  · exact seqB (Below.refl _ _).drew (below_alloc w.drew _)
/-- What is answered of a line. -/
def CoPost (o : Option Crs) (w : World) (e : Ending) (w' : World) : Prop := (∃ x a n c, e = .returned (.tuple #[.agg #[.int .i64 x, .slice a n c], .bool o.isSome]) ∧ ∀ cr, o = some cr → x = cr.1 ∧ n = cr.2.length ∧ KpU w' a cr.2) ∧ Below w.heap.size w w'
theorem pcB_le {l : List UInt8} (h : l.length ≤ 300000) : ∀ x ∈ pcB 32 l, x.length ≤ 300000 := fun x hx => Nat.le_trans (pcB_mem 32 l x hx) h
theorem teq_no {a b : List UInt8} (h : a ≠ b) : ((mkL a).toList == (mkL b).toList) = false ∧ ((mkL a).toList != (mkL b).toList) = true ∧ ¬ (mkL a).toList = (mkL b).toList ∧ ¬ mkL a = mkL b ∧ ((mkL a).toList == b) = false ∧ ((mkL a).toList != b) = true ∧ ¬ (mkL a).toList = b := by
  have h1 : ¬ (mkL a).toList = (mkL b).toList := by rw [mkL_toList, mkL_toList]; exact h
  have h2 : ¬ (mkL a).toList = b := by rw [mkL_toList]; exact h
  exact ⟨beq_eq_false_iff_ne.2 h1, bne_iff_ne.2 h1, h1, mkL_ne h, beq_eq_false_iff_ne.2 h2, bne_iff_ne.2 h2, h2⟩
theorem copost_no {o : Option Crs} {w w' : World} {x : Int} {a : Option Addr} {n c : Nat} (h : o = none) (hb : Below w.heap.size w w') : CoPost o w (.returned (.tuple #[.agg #[.int .i64 x, .slice a n c], .bool false])) w' := by
  subst h; exact ⟨⟨x, a, n, c, rfl, fun cr h => (by cases h)⟩, hb⟩
theorem rdC_not {W : List (List UInt8)} (h : wA W 0 ≠ crW) : rdC W = none := by unfold rdC; rw [if_neg (fun e => h e.1)]
theorem rdC_is {W : List (List UInt8)} (h : wA W 0 = crW) : rdC W = if undE (wA W 1) = 0 ∧ uwE (wA W 2) = 0 ∧ W.length ≤ 3 then some (undR (wA W 1), uwS (wA W 2)) else none := by
  unfold rdC
  by_cases h2 : undE (wA W 1) = 0 ∧ uwE (wA W 2) = 0 ∧ W.length ≤ 3
  · rw [if_pos ⟨h, h2⟩, if_pos h2]
  · rw [if_neg (fun e => h2 e.2), if_neg h2]
set_option maxRecDepth 100000 in
set_option maxHeartbeats 8000000 in
theorem tcrashof_any (l : List UInt8) (w : World) (hl : l.length ≤ 300000) : Calls Tryd.prog 68 #[.string (mkL l)] w (CoPost (rdC (pcB 32 l)) w) := by
  have b0 := below_alloc w (.cells #[.int .i64 0, .slice none 0 0] 97)
  have r0 := heap_alloc_new w (.cells #[.int .i64 0, .slice none 0 0] 97)
  obtain ⟨W0, hW0⟩ : ∃ W0, w.alloc (.cells #[.int .i64 0, .slice none 0 0] 97) = W0 := ⟨_, rfl⟩
  rw [hW0] at b0 r0
  have RD := Lib.hid (treader_any l W0 hl)
  have hM := Lib.hid (pcB_le hl)
  generalize pcB 32 l = P at *
  have B0 := Lib.hid b0
  have R0 := Lib.hid r0
  clear b0 r0 hl
  obtain ⟨T, hT⟩ : ∃ T, w.heap.size = T := ⟨_, rfl⟩
  have HT := Lib.hid hT
  by_cases h0 : wA P 0 = crW
  · have HC := Lib.hid (rdC_is h0)
    obtain ⟨cp, CW, hconv, hcw⟩ := conv_text (uwS (wA P 2))
    have HCW := Lib.hid hcw
    have H0 := Lib.hid h0
    clear h0 hcw
    go_enter Tryd.func68, Tryd.ntmps68
    go_upto_region 2 with (go_at_call 116; refine RD.out.mono ?_; rintro e w1 ⟨g, q, r, rfl, hw1, hg1, hb1⟩)
    have X1 := rlS_new R0.out B0.out hw1 hg1 hb1
    rw [hT] at X1
    have NX0 := tnext_any g q r P 0 false w1 X1.rd
    rw [H0.out] at NX0
    have NX : Hid (Calls Tryd.prog 166 #[.pointer (some ⟨r, 0, none⟩)] w1 fun e w' => e = .returned (.string ⟨#[99, 114, 97, 115, 104]⟩) ∧ WrS g q r P (0 + 1) false w' ∧ KeepB w1.heap.size q w1 w') := Lib.hid NX0
    have HX1 := Lib.hid X1
    clear hw1 hg1 hb1 X1 NX0 hW0
    go_upto_region 4 with (go_at_call 166; refine NX.out.mono ?_; rintro e w2 ⟨rfl, hw2, hk2⟩)
    have X2 := HX1.out.step hw2 hk2
    have NB := Lib.hid (tnumber_any g q r P 1 false w2 X2.rd hM.out)
    have HX2 := Lib.hid X2
    clear hw2 hk2 X2 NX HX1
    obtain ⟨x, hx⟩ : ∃ x, undR (wA P 1) = x := ⟨_, rfl⟩
    rw [hx] at NB HC
    clear hx
    go_upto_region 5 with (go_at_call 117; refine NB.out.mono ?_; rintro e w3 ⟨rfl, hw3, hk3⟩)
    have X3 := HX2.out.step hw3 hk3
    have b4 := below_alloc w3 (.cells #[.int .i64 x, .slice none 0 0] 97)
    have r4 := heap_alloc_new w3 (.cells #[.int .i64 x, .slice none 0 0] 97)
    obtain ⟨W4, hW4⟩ : ∃ W4, w3.alloc (.cells #[.int .i64 x, .slice none 0 0] 97) = W4 := ⟨_, rfl⟩
    obtain ⟨X, hX⟩ : ∃ X, w3.heap.size = X := ⟨_, rfl⟩
    have hrX : r < X := by rw [← hX]; exact X3.qlt.2.2.2
    have hqX : X ≠ q := by have := X3.qlt; omega
    rw [hW4] at b4 r4 ⊢
    have X4 := X3.below b4
    rw [hX] at r4 ⊢
    have TXT := Lib.hid (ttxt_any g q r P 2 (bdN false (undE (wA P 1))) W4 X4.rd hM.out)
    have HX4 := Lib.hid X4
    have R4 := Lib.hid r4
    have HrX := Lib.hid hrX
    have HqX := Lib.hid hqX
    clear hw3 hk3 X3 X4 b4 r4 NB HX2 hW4 hX hrX hqX
    have HOK : Hid ((rdC P).isSome = (!bdN (bdN false (undE (wA P 1))) (uwE (wA P 2)) && decide (P.length ≤ 3))) := Lib.hid (by
      rw [HC.out]
      unfold bdN
      by_cases e1 : undE (wA P 1) = 0
      · by_cases e2 : uwE (wA P 2) = 0
        · by_cases e3 : P.length ≤ 3
          · rw [if_pos ⟨e1, e2, e3⟩, e1, e2, decide_eq_true e3]; try rfl
          · rw [if_neg (fun e => e3 e.2.2), e1, e2, decide_eq_false e3]; try rfl
        · rw [if_neg (fun e => e2 e.2.1), e1, beqF e2]; try rfl
      · rw [if_neg (fun e => e1 e.1), beqF e1]; try rfl)
    have HCV : Hid (∀ cr, rdC P = some cr → x = cr.1 ∧ uwS (wA P 2) = cr.2) := Lib.hid (fun cr h => by
      rw [HC.out] at h
      split at h
      · obtain rfl := Option.some.inj h; exact ⟨rfl, rfl⟩
      · cases h)
    obtain ⟨bd, hbd⟩ : ∃ bd, bdN (bdN false (undE (wA P 1))) (uwE (wA P 2)) = bd := ⟨_, rfl⟩
    rw [hbd] at HOK TXT
    clear HC hbd
    generalize uwS (wA P 2) = tx at *
    go_upto_region 6 with (go_at_call 118; refine TXT.out.mono ?_; rintro e w5 ⟨rfl, hw5, hk5⟩; have R5 := Lib.hid (kb_blk R4.out HqX.out hk5); have X5 := Lib.hid (HX4.out.step hw5 hk5); have U6 := Lib.hid (HCW.out w5); have R6 := Lib.hid (blk_below R5.out U6.out.2); have y1 := cell_of_row _ _ 1 _ _ _ R6.out; have z1 := frozen_of_row _ X 1 _ _ R6.out; dsimp at y1; clear hw5 hk5)
    have X7 := (X5.out.below U6.out.2).set HrX.out 1 (.slice (some ⟨w5.heap.size, 0, none⟩) tx.length (cp w5))
    have R7 := blk_set R6.out 1 (.slice (some ⟨w5.heap.size, 0, none⟩) tx.length (cp w5))
    have U7 : KpU ((CW w5).setCell ⟨X, 1, none⟩ (.slice (some ⟨w5.heap.size, 0, none⟩) tx.length (cp w5))) (some ⟨w5.heap.size, 0, none⟩) tx := U6.out.1.kept fun gg cs fr hg => Below.heap_setCell _ _ _ gg fun e => by
      have h6 := R6.out
      subst e
      rw [hg] at h6; simp at h6
    obtain ⟨W7, hW7⟩ : ∃ W7, (CW w5).setCell ⟨X, 1, none⟩ (.slice (some ⟨w5.heap.size, 0, none⟩) tx.length (cp w5)) = W7 := ⟨_, rfl⟩
    rw [hW7] at X7 R7 U7 ⊢
    obtain ⟨ka, hka⟩ : ∃ ka, (some ⟨w5.heap.size, 0, none⟩ : Option Addr) = ka := ⟨_, rfl⟩
    obtain ⟨kc, hkc⟩ : ∃ kc, cp w5 = kc := ⟨_, rfl⟩
    rw [hka, hkc] at R7
    rw [hka] at U7
    have k0 := cell_of_row _ _ 0 _ _ _ R7
    have k1 := cell_of_row _ _ 1 _ _ _ R7
    simp at k0 k1
    have hres := X7.res
    have t0 := cell_of_row _ _ 0 _ _ _ hres
    have t1 := cell_of_row _ _ 1 _ _ _ hres
    have z0 := frozen_of_row _ T 0 _ _ hres
    have z1 := frozen_of_row _ T 1 _ _ hres
    dsimp at t0 t1
    have hle : w.heap.size ≤ T := X7.lt.1
    have DN := Lib.hid (tdone_any g q r P 3 bd W7.drew X7.drew.rd)
    rw [← HOK.out] at DN
    have BF := Lib.hid (((X7.bl.setCell (p := ⟨T, 0, none⟩) hle (.int .i64 x)).setCell (p := ⟨T, 1, none⟩) hle (.slice ka tx.length kc)).drew)
    have jj := cell_of_row _ _ 0 _ _ _ (blk_set hres 0 (.int .i64 x))
    have RF := blk_set (blk_set hres 0 (.int .i64 x)) 1 (.slice ka tx.length kc)
    have j0 := cell_of_row _ _ 0 _ _ _ RF
    have j1 := cell_of_row _ _ 1 _ _ _ RF
    simp at j0 j1 jj
    have UF : Hid (KpU (((W7.setCell ⟨T, 0, none⟩ (.int .i64 x)).setCell ⟨T, 1, none⟩ (.slice ka tx.length kc)).drew) ka tx) := Lib.hid (by
      have hne : ∀ (gg : Nat) (cs : Array Value) (fr : Nat × Nat), W7.heap[gg]? = some (Obj.cells cs 5 fr) → gg ≠ T := fun gg cs fr hg e => by
        have h6 := hres
        subst e
        rw [hg] at h6; simp at h6
      exact U7.kept fun gg cs fr hg => (Below.heap_setCell _ _ _ gg (hne gg cs fr hg)).trans (Below.heap_setCell _ _ _ gg (hne gg cs fr hg)))
    have J := Lib.hid (And.intro j0 (And.intro j1 jj))
    clear X5 U6 R5 R6 y1 X7 R7 U7 hres hle RF j0 j1 jj hW7 hconv HCW TXT HX4 R4
    go_region_with (go_at_call 119; refine DN.out.mono ?_; rintro e w8 ⟨rfl, rfl⟩)
    all_goals
      go_wp2
      obtain ⟨j0, j1, jj⟩ := J.out
      refine bodyPost_ret (v := .tuple #[.agg #[.int .i64 x, .slice ka tx.length kc], .bool (rdC P).isSome]) (by simp [results, Tryd.results68, go_sem, j0, j1, jj]) rfl ?_
      exact ⟨⟨x, ka, tx.length, kc, rfl, fun cr h => ⟨(HCV.out cr h).1, by rw [(HCV.out cr h).2], (HCV.out cr h).2 ▸ UF.out⟩⟩, BF.out⟩
  · have HC := Lib.hid (rdC_not h0)
    obtain ⟨n1, n2, n3, n4, n5, n6, n7⟩ := teq_no h0
    clear h0
    obtain ⟨s0, hs0⟩ : ∃ s0, mkL (wA P 0) = s0 := ⟨_, rfl⟩
    rw [hs0] at n1 n2 n3 n4 n5 n6 n7
    replace n5 : (s0.toList == [99, 114, 97, 115, 104]) = false := n5
    clear n1 n2 n3 n6 n7
    go_enter Tryd.func68, Tryd.ntmps68
    go_upto_region 2 with (go_at_call 116; refine RD.out.mono ?_; rintro e w1 ⟨g, q, r, rfl, hw1, hg1, hb1⟩)
    have X1 := rlS_new R0.out B0.out hw1 hg1 hb1
    rw [hT] at X1
    have NX0 := tnext_any g q r P 0 false w1 X1.rd
    rw [hs0] at NX0
    have NX := Lib.hid NX0
    have HX1 := Lib.hid X1
    clear hw1 hg1 hb1 X1 NX0 hW0 hs0
    go_upto_region 3 with (go_at_call 166; refine NX.out.mono ?_; rintro e w2 ⟨rfl, hw2, hk2⟩)
    have X2 := HX1.out.step hw2 hk2
    have hres := X2.res
    have y0 := cell_of_row _ _ 0 _ _ _ hres
    have y1 := cell_of_row _ _ 1 _ _ _ hres
    have z0 := frozen_of_row _ T 0 _ _ hres
    have z1 := frozen_of_row _ T 1 _ _ hres
    dsimp at y0 y1
    have hle : w.heap.size ≤ T := X2.lt.1
    have BF := Lib.hid ((X2.bl.setCell (p := ⟨T, 0, none⟩) hle (.int .i64 0)).setCell (p := ⟨T, 1, none⟩) hle (.slice none 0 0))
    have RF := blk_set (blk_set hres 0 (.int .i64 0)) 1 (.slice none 0 0)
    have k0 := cell_of_row _ _ 0 _ _ _ RF
    have k1 := cell_of_row _ _ 1 _ _ _ RF
    simp at k0 k1
    have K0 := Lib.hid (And.intro k0 k1)
    clear hw2 hk2 X2 HX1 NX hres hle RF k0 k1
    go_wp2
    obtain ⟨k0, k1⟩ := K0.out
    refine bodyPost_ret (v := .tuple #[.agg #[.int .i64 0, .slice none 0 0], .bool false]) (by simp [results, Tryd.results68, go_sem, k0, k1]) rfl ?_
    exact copost_no HC.out BF.out
end Go.Proofs.YtnpiooaiceegmaaDoor
set_option linter.unusedVariables false
set_option linter.unusedSimpArgs false
namespace Go.Proofs.YtnpiooaiceegmaaDoor
open Go.RowKit
/-- The numbers so far: one was none. -/
def bdC (P : List (List UInt8)) : Nat → Bool
  | 0 => false
  | k + 1 => bdN (bdC P k) (undE (wA P (k + 1)))
theorem bdC_no (P : List (List UInt8)) : ∀ k, bdC P k = false ↔ ∀ i, i < k → undE (wA P (i + 1)) = 0
  | 0 => ⟨fun _ i hi => absurd hi (Nat.not_lt_zero i), fun _ => rfl⟩
  | k + 1 => by
    have ih := bdC_no P k
    unfold bdC bdN
    rw [Bool.or_eq_false_iff, ih]
    constructor
    · rintro ⟨h1, h2⟩ i hi
      rcases Nat.lt_succ_iff_lt_or_eq.1 hi with h | rfl
      · exact h1 i h
      · simpa using h2
    · intro h
      exact ⟨fun i hi => h i (by omega), by simpa using h k (by omega)⟩
/-- The conf under way. -/
def cfX (N : Nat → Int) (k : Nat) : Array Value := #[.int .i64 (if 0 < k then N 0 else 0), .int .i64 (if 1 < k then N 1 else 0), .int .i64 (if 2 < k then N 2 else 0), .int .i64 (if 3 < k then N 3 else 0), .int .i64 (if 4 < k then N 4 else 0), .int .i64 (if 5 < k then N 5 else 0), .int .i64 (if 6 < k then N 6 else 0), .int .i64 (if 7 < k then N 7 else 0), .bool false, .string ⟨#[]⟩]
theorem cfX_at (N : Nat → Int) (k : Nat) (h : k < 8) : (cfX N k)[k]? = some (.int .i64 0) := by
  match k, h with
  | 0, _ => rfl
  | 1, _ => rfl
  | 2, _ => rfl
  | 3, _ => rfl
  | 4, _ => rfl
  | 5, _ => rfl
  | 6, _ => rfl
  | 7, _ => rfl
  | k + 8, h => omega
theorem cfX_set (N : Nat → Int) (k : Nat) (h : k < 8) : (cfX N k).setIfInBounds k (.int .i64 (N k)) = cfX N (k + 1) := by
  match k, h with
  | 0, _ => rfl
  | 1, _ => rfl
  | 2, _ => rfl
  | 3, _ => rfl
  | 4, _ => rfl
  | 5, _ => rfl
  | 6, _ => rfl
  | 7, _ => rfl
  | k + 8, h => omega
def cfY (X : Nat) : Array Value := #[.pointer (some ⟨X, 0, none⟩), .pointer (some ⟨X, 1, none⟩), .pointer (some ⟨X, 2, none⟩), .pointer (some ⟨X, 3, none⟩), .pointer (some ⟨X, 4, none⟩), .pointer (some ⟨X, 5, none⟩), .pointer (some ⟨X, 6, none⟩), .pointer (some ⟨X, 7, none⟩)]
theorem cfY_at (X : Nat) (k : Nat) (h : k < 8) : (cfY X)[k]? = some (.pointer (some ⟨X, k, none⟩)) := by
  match k, h with
  | 0, _ => rfl
  | 1, _ => rfl
  | 2, _ => rfl
  | 3, _ => rfl
  | 4, _ => rfl
  | 5, _ => rfl
  | 6, _ => rfl
  | 7, _ => rfl
  | k + 8, h => omega
theorem rdF_not {W : List (List UInt8)} (h : wA W 0 ≠ cfW) : rdF W = none := by unfold rdF; rw [if_neg (fun e => h e.1)]
/-- What is answered of a line. -/
def CnPost (o : Option Cf) (w : World) (e : Ending) (w' : World) : Prop := (∃ (n0 n1 n2 n3 n4 n5 n6 n7 : Int) (b : Bool) (p : List UInt8), e = .returned (.tuple #[.agg #[.int .i64 n0, .int .i64 n1, .int .i64 n2, .int .i64 n3, .int .i64 n4, .int .i64 n5, .int .i64 n6, .int .i64 n7, .bool b, .string (mkL p)], .bool o.isSome]) ∧ ∀ f, o = some f → f = ([n0, n1, n2, n3, n4, n5, n6, n7], b, p)) ∧ Below w.heap.size w w'
abbrev cfZ : Array Value := #[.int .i64 0, .int .i64 0, .int .i64 0, .int .i64 0, .int .i64 0, .int .i64 0, .int .i64 0, .int .i64 0, .bool false, .string ⟨#[]⟩]
theorem cnpost_no {o : Option Cf} {w w' : World} (h : o = none) (hb : Below w.heap.size w w') : CnPost o w (.returned (.tuple #[.agg #[.int .i64 0, .int .i64 0, .int .i64 0, .int .i64 0, .int .i64 0, .int .i64 0, .int .i64 0, .int .i64 0, .bool false, .string ⟨#[]⟩], .bool false])) w' := by
  subst h; exact ⟨⟨0, 0, 0, 0, 0, 0, 0, 0, false, [], rfl, fun cr h => (by cases h)⟩, hb⟩
/-- A box of ten cells is written anew. -/
def set10 (w : World) (T : Nat) (v0 v1 v2 v3 v4 v5 v6 v7 v8 v9 : Value) : World := (((((((((w.setCell ⟨T, 0, none⟩ v0).setCell ⟨T, 1, none⟩ v1).setCell ⟨T, 2, none⟩ v2).setCell ⟨T, 3, none⟩ v3).setCell ⟨T, 4, none⟩ v4).setCell ⟨T, 5, none⟩ v5).setCell ⟨T, 6, none⟩ v6).setCell ⟨T, 7, none⟩ v7).setCell ⟨T, 8, none⟩ v8).setCell ⟨T, 9, none⟩ v9
theorem set10_res {w : World} {T : Nat} {a0 a1 a2 a3 a4 a5 a6 a7 a8 a9 : Value} {Ty : TypeId} {fr : Nat × Nat} (h : w.heap[T]? = some (.cells #[a0, a1, a2, a3, a4, a5, a6, a7, a8, a9] Ty fr)) (v0 v1 v2 v3 v4 v5 v6 v7 v8 v9 : Value) : (set10 w T v0 v1 v2 v3 v4 v5 v6 v7 v8 v9).heap[T]? = some (.cells #[v0, v1, v2, v3, v4, v5, v6, v7, v8, v9] Ty fr) := by
  have h0 : (w.setCell ⟨T, 0, none⟩ v0).heap[T]? = some (.cells #[v0, a1, a2, a3, a4, a5, a6, a7, a8, a9] Ty fr) := blk_set h 0 v0
  have h1 : ((w.setCell ⟨T, 0, none⟩ v0).setCell ⟨T, 1, none⟩ v1).heap[T]? = some (.cells #[v0, v1, a2, a3, a4, a5, a6, a7, a8, a9] Ty fr) := blk_set h0 1 v1
  have h2 : (((w.setCell ⟨T, 0, none⟩ v0).setCell ⟨T, 1, none⟩ v1).setCell ⟨T, 2, none⟩ v2).heap[T]? = some (.cells #[v0, v1, v2, a3, a4, a5, a6, a7, a8, a9] Ty fr) := blk_set h1 2 v2
  have h3 : ((((w.setCell ⟨T, 0, none⟩ v0).setCell ⟨T, 1, none⟩ v1).setCell ⟨T, 2, none⟩ v2).setCell ⟨T, 3, none⟩ v3).heap[T]? = some (.cells #[v0, v1, v2, v3, a4, a5, a6, a7, a8, a9] Ty fr) := blk_set h2 3 v3
  have h4 : (((((w.setCell ⟨T, 0, none⟩ v0).setCell ⟨T, 1, none⟩ v1).setCell ⟨T, 2, none⟩ v2).setCell ⟨T, 3, none⟩ v3).setCell ⟨T, 4, none⟩ v4).heap[T]? = some (.cells #[v0, v1, v2, v3, v4, a5, a6, a7, a8, a9] Ty fr) := blk_set h3 4 v4
  have h5 : ((((((w.setCell ⟨T, 0, none⟩ v0).setCell ⟨T, 1, none⟩ v1).setCell ⟨T, 2, none⟩ v2).setCell ⟨T, 3, none⟩ v3).setCell ⟨T, 4, none⟩ v4).setCell ⟨T, 5, none⟩ v5).heap[T]? = some (.cells #[v0, v1, v2, v3, v4, v5, a6, a7, a8, a9] Ty fr) := blk_set h4 5 v5
  have h6 : (((((((w.setCell ⟨T, 0, none⟩ v0).setCell ⟨T, 1, none⟩ v1).setCell ⟨T, 2, none⟩ v2).setCell ⟨T, 3, none⟩ v3).setCell ⟨T, 4, none⟩ v4).setCell ⟨T, 5, none⟩ v5).setCell ⟨T, 6, none⟩ v6).heap[T]? = some (.cells #[v0, v1, v2, v3, v4, v5, v6, a7, a8, a9] Ty fr) := blk_set h5 6 v6
  have h7 : ((((((((w.setCell ⟨T, 0, none⟩ v0).setCell ⟨T, 1, none⟩ v1).setCell ⟨T, 2, none⟩ v2).setCell ⟨T, 3, none⟩ v3).setCell ⟨T, 4, none⟩ v4).setCell ⟨T, 5, none⟩ v5).setCell ⟨T, 6, none⟩ v6).setCell ⟨T, 7, none⟩ v7).heap[T]? = some (.cells #[v0, v1, v2, v3, v4, v5, v6, v7, a8, a9] Ty fr) := blk_set h6 7 v7
  have h8 : (((((((((w.setCell ⟨T, 0, none⟩ v0).setCell ⟨T, 1, none⟩ v1).setCell ⟨T, 2, none⟩ v2).setCell ⟨T, 3, none⟩ v3).setCell ⟨T, 4, none⟩ v4).setCell ⟨T, 5, none⟩ v5).setCell ⟨T, 6, none⟩ v6).setCell ⟨T, 7, none⟩ v7).setCell ⟨T, 8, none⟩ v8).heap[T]? = some (.cells #[v0, v1, v2, v3, v4, v5, v6, v7, v8, a9] Ty fr) := blk_set h7 8 v8
  have h9 : ((((((((((w.setCell ⟨T, 0, none⟩ v0).setCell ⟨T, 1, none⟩ v1).setCell ⟨T, 2, none⟩ v2).setCell ⟨T, 3, none⟩ v3).setCell ⟨T, 4, none⟩ v4).setCell ⟨T, 5, none⟩ v5).setCell ⟨T, 6, none⟩ v6).setCell ⟨T, 7, none⟩ v7).setCell ⟨T, 8, none⟩ v8).setCell ⟨T, 9, none⟩ v9).heap[T]? = some (.cells #[v0, v1, v2, v3, v4, v5, v6, v7, v8, v9] Ty fr) := blk_set h8 9 v9
  exact h9
theorem set10_below {w0 w : World} {T B : Nat} (h : Below B w0 w) (hT : B ≤ T) (v0 v1 v2 v3 v4 v5 v6 v7 v8 v9 : Value) : Below B w0 (set10 w T v0 v1 v2 v3 v4 v5 v6 v7 v8 v9) :=
  (((((((((h.setCell (p := ⟨T, 0, none⟩) hT v0).setCell (p := ⟨T, 1, none⟩) hT v1).setCell (p := ⟨T, 2, none⟩) hT v2).setCell (p := ⟨T, 3, none⟩) hT v3).setCell (p := ⟨T, 4, none⟩) hT v4).setCell (p := ⟨T, 5, none⟩) hT v5).setCell (p := ⟨T, 6, none⟩) hT v6).setCell (p := ⟨T, 7, none⟩) hT v7).setCell (p := ⟨T, 8, none⟩) hT v8).setCell (p := ⟨T, 9, none⟩) hT v9
set_option maxRecDepth 100000 in
set_option maxHeartbeats 8000000 in
theorem tconfof_no (l : List UInt8) (w : World) (hl : l.length ≤ 300000) (h0 : wA (pcB 32 l) 0 ≠ cfW) : Calls Tryd.prog 67 #[.string (mkL l)] w (CnPost (rdF (pcB 32 l)) w) := by
  have b0 := below_alloc w (.cells cfZ 23)
  have r0 := heap_alloc_new w (.cells cfZ 23)
  obtain ⟨W0, hW0⟩ : ∃ W0, w.alloc (.cells #[.int .i64 0, .int .i64 0, .int .i64 0, .int .i64 0, .int .i64 0, .int .i64 0, .int .i64 0, .int .i64 0, .bool false, .string ⟨#[]⟩] 23) = W0 := ⟨_, rfl⟩
  unfold cfZ at b0 r0
  rw [hW0] at b0 r0
  have RD := Lib.hid (treader_any l W0 hl)
  generalize pcB 32 l = P at *
  have B0 := Lib.hid b0
  have R0 := Lib.hid r0
  clear b0 r0 hl
  obtain ⟨T, hT⟩ : ∃ T, w.heap.size = T := ⟨_, rfl⟩
  have HC := Lib.hid (rdF_not h0)
  obtain ⟨n1, n2, n3, n4, n5, n6, n7⟩ := teq_no h0
  clear h0
  obtain ⟨s0, hs0⟩ : ∃ s0, mkL (wA P 0) = s0 := ⟨_, rfl⟩
  rw [hs0] at n1 n2 n3 n4 n5 n6 n7
  replace n5 : (s0.toList == [99, 111, 110, 102]) = false := n5
  clear n1 n2 n3 n6 n7
  go_enter Tryd.func67, Tryd.ntmps67
  go_upto_region 2 with (go_at_call 116; refine RD.out.mono ?_; rintro e w1 ⟨g, q, r, rfl, hw1, hg1, hb1⟩)
  have X1 := rlS_new R0.out B0.out hw1 hg1 hb1
  rw [hT] at X1
  have NX0 := tnext_any g q r P 0 false w1 X1.rd
  rw [hs0] at NX0
  have NX := Lib.hid NX0
  have HX1 := Lib.hid X1
  clear hw1 hg1 hb1 X1 NX0 hW0 hs0
  go_upto_region 3 with (go_at_call 166; refine NX.out.mono ?_; rintro e w2 ⟨rfl, hw2, hk2⟩)
  have X2 := HX1.out.step hw2 hk2
  have hres := X2.res
  have yy := fun i => cell_of_row _ _ i _ _ _ hres
  have y0 := yy 0; have y1 := yy 1; have y2 := yy 2; have y3 := yy 3; have y4 := yy 4; have y5 := yy 5; have y6 := yy 6; have y7 := yy 7; have y8 := yy 8; have y9 := yy 9
  have zf := fun i => frozen_of_row _ T i _ _ hres
  dsimp at y0 y1 y2 y3 y4 y5 y6 y7 y8 y9
  have BF := Lib.hid (set10_below X2.bl X2.lt.1 (.int .i64 0) (.int .i64 0) (.int .i64 0) (.int .i64 0) (.int .i64 0) (.int .i64 0) (.int .i64 0) (.int .i64 0) (.bool false) (.string ⟨#[]⟩))
  have RF := Lib.hid (set10_res hres (.int .i64 0) (.int .i64 0) (.int .i64 0) (.int .i64 0) (.int .i64 0) (.int .i64 0) (.int .i64 0) (.int .i64 0) (.bool false) (.string ⟨#[]⟩))
  clear hw2 hk2 X2 HX1 NX hres yy
  go_wp2
  have RF' := RF.out
  have BF' := BF.out
  unfold set10 at RF' BF'
  generalize World.setCell _ _ _ = WF at *
  have kk := fun i => cell_of_row _ _ i _ _ _ RF'
  have k0 := kk 0; have k1 := kk 1; have k2 := kk 2; have k3 := kk 3; have k4 := kk 4; have k5 := kk 5; have k6 := kk 6; have k7 := kk 7; have k8 := kk 8; have k9 := kk 9
  dsimp at k0 k1 k2 k3 k4 k5 k6 k7 k8 k9
  refine bodyPost_ret (v := .tuple #[.agg #[.int .i64 0, .int .i64 0, .int .i64 0, .int .i64 0, .int .i64 0, .int .i64 0, .int .i64 0, .int .i64 0, .bool false, .string ⟨#[]⟩], .bool false]) (by simp [results, Tryd.results67, go_sem, k0, k1, k2, k3, k4, k5, k6, k7, k8, k9]) rfl ?_
  exact cnpost_no HC.out BF'
end Go.Proofs.YtnpiooaiceegmaaDoor
