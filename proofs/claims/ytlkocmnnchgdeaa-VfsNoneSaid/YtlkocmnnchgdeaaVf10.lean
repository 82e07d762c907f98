/-
  vfs: operations that are cut.
-/
import Derived.Test.YtlkocmnnchgdeaaVf9
set_option linter.unusedVariables false
set_option linter.unusedSimpArgs false
namespace Go.Proofs.Ytlkocmnnchgdeaa
set_option maxRecDepth 100000
open Go.RowKit
theorem typ_rc : 30 ≠ 47 := by decide
theorem typ_dr2 : 42 ≠ 30 := by decide
/-- A change more waits. -/
def VD.add (D : VD) (v : Value) (q : ChR) : VD := { D with wv := v, W := D.W ++ [q] }
/-- A crash has cut all that waited. -/
def VD.off (D : VD) (k b : Nat) (v : Value) : VD := { D.cut k D.W.length with b2 := b, f2 := (D.cut k D.W.length).f1, n2 := (D.cut k D.W.length).n1, wv := v, W := [] }
section
variable {B P : Nat} {D : VD} {ops : Int} {down : Bool} {g2 g3 : Value} {w w' : World}
set_option maxHeartbeats 4000000 in
theorem vop_cut1 {k qb : Nat} {F : Value} {nm tn tx : ByteArray} {kd : Int} (h : DkS B P D 3 false w) (hl : D.W.length ≤ 5)
    (hb : w.heap[qb]? = some (.cells #[.int .i64 kd, .string nm, .string tn, .string tx] 47 (0, 0))) (hn : D.n1 ≤ 100)
    (hmod : ∀ i, i < D.W.length + 1 → 0 < D.kn → i % D.kn = 0) (hk : (k : Int) = if D.kn = 0 then 0 else D.K.getD 0 0) (hkr : k < 256) (hok : CutOk k (D.W ++ [(kd, nm, tn, tx)])) :
    Calls Try.prog 19 #[.pointer (some ⟨P, 0, none⟩), F, .slice (some ⟨qb, 0, none⟩) 1 1] w fun e w' => e = .returned (.int .i64 9) ∧ (∃ b v u, DkS B P ((D.add u (kd, nm, tn, tx)).off k b v) 4 true w') ∧ Below B w w' := by
  have CR := Lib.hid (vcrash_yes h)
  have H := Lib.hid h
  have HL := Lib.hid (Nat.le_trans hl (by decide : 5 ≤ 1000))
  have HQ := Lib.hid hb; have HN := Lib.hid hn
  have HLL := Lib.hid hl; have HM := Lib.hid hmod; have HOK := Lib.hid hok
  clear h hl hb hn hmod hok
  go_enter Try.func19, Try.ntmps19
  go_wp2_with (first
    | (go_at_call 27
       refine CR.out.mono ?_
       rintro e w1 ⟨rfl, hb1⟩
       have BW := Lib.hid (seqB hb1 (below_alloc w1 (.cells #[.int .i64 3, .slice D.ka D.kn D.kc] 30)))
       have H2 := Lib.hid (H.out.below BW.out)
       have X1 := heap_alloc_new w1 (.cells #[.int .i64 3, .slice D.ka D.kn D.kc] 30)
       have P2 := Lib.hid (H2.out.put 4 (.int .i64 4) (ops' := 4) (down' := false) (g2' := .map (some D.b2)) (g3' := D.wv) rfl)
       have Q2 := Lib.hid (row_put (i := 4) H2.out.blk (vbelow HQ.out BW.out) typ_dc (.int .i64 4))
       have X2 := Lib.hid (row_put (i := 4) H2.out.blk X1 typ_dr2 (.int .i64 4))
       obtain ⟨_, _, y2, _, y4, _, yf⟩ := H2.out.cells
       clear hb1 X1)
    | (at_builtin
       refine wpList_app_ch rfl _ _ rfl B D.wv rfl D.W P2.out.1.wr qb 1 (kd, nm, tn, tx) rfl Q2.out HL.out P2.out.1.hB ?_
       intro a4 c4 w4 o4 g4
       have P4 := Lib.hid (P2.out.1.wait o4 g4)
       have P5 := Lib.hid (P4.out.1.put 2 (.slice a4 (D.W.length + 1) c4) (ops' := 4) (down' := false) (g2' := .map (some D.b2)) (g3' := .slice a4 (D.W.length + 1) c4) rfl)
       have X4 := Lib.hid (row_grown X2.out g4 (rows_typ P2.out.1.wr X2.out typ_rc))
       have X5 := Lib.hid (row_put (i := 2) P4.out.1.blk X4.out typ_dr2 (.slice a4 (D.W.length + 1) c4))
       have x51 := cell_of_row _ _ 1 _ _ _ X5.out
       dsimp at x51
       obtain ⟨_, _, z2, _, _, _, zf⟩ := P4.out.1.cells
       have CH := Lib.hid (vcut_any (k := k) (D := D.add (.slice a4 (D.W.length + 1) c4) (kd, nm, tn, tx)) P5.out.1 (by unfold VD.add; simp) (by have := HLL.out; unfold VD.add; simp; omega) HN.out (by unfold VD.add; simpa using HM.out) hk hkr HOK.out)
       clear o4 g4)
    | (go_at_call 28; refine CH.out.mono ?_; rintro e w6 ⟨rfl, ⟨b, v, hD⟩, hB6⟩; have D6 := Lib.hid hD; have B6 := Lib.hid hB6; clear hD hB6))
  go_ret
  exact ⟨rfl, ⟨b, v, _, D6.out⟩, (((BW.out.mono H.out.hB).trans P2.out.2).trans P4.out.2).trans (P5.out.2.trans B6.out)⟩
set_option maxHeartbeats 4000000 in
theorem vop_cut0 {k : Nat} {F : Value} (h : DkS B P D 3 false w) (hne : D.W ≠ []) (hl : D.W.length ≤ 5) (hn : D.n1 ≤ 100)
    (hmod : ∀ i, i < D.W.length → 0 < D.kn → i % D.kn = 0) (hk : (k : Int) = if D.kn = 0 then 0 else D.K.getD 0 0) (hkr : k < 256) (hok : CutOk k D.W) :
    Calls Try.prog 19 #[.pointer (some ⟨P, 0, none⟩), F, .slice none 0 0] w fun e w' => e = .returned (.int .i64 9) ∧ (∃ b v, DkS B P (D.off k b v) 4 true w') ∧ Below B w w' := by
  have CR := Lib.hid (vcrash_yes h)
  have H := Lib.hid h
  obtain ⟨n, hn0⟩ : ∃ n, D.W.length = n := ⟨_, rfl⟩
  obtain ⟨a, c, hv⟩ := h.wr.form hn0
  have HV := Lib.hid hv; have HN0 := Lib.hid hn0
  have HN := Lib.hid hn; have HNE := Lib.hid hne
  have HLL := Lib.hid hl; have HM := Lib.hid hmod; have HOK := Lib.hid hok
  clear h hl hn hmod hok hne hv hn0
  go_enter Try.func19, Try.ntmps19
  go_wp2_with (first
    | (go_at_call 27
       refine CR.out.mono ?_
       rintro e w1 ⟨rfl, hb1⟩
       have BW := Lib.hid (seqB hb1 (below_alloc w1 (.cells #[.int .i64 3, .slice D.ka D.kn D.kc] 30)))
       have H2 := Lib.hid (H.out.below BW.out)
       have X1 := heap_alloc_new w1 (.cells #[.int .i64 3, .slice D.ka D.kn D.kc] 30)
       have P2 := Lib.hid (H2.out.put 4 (.int .i64 4) (ops' := 4) (down' := false) (g2' := .map (some D.b2)) (g3' := D.wv) rfl)
       have X2 := Lib.hid (row_put (i := 4) H2.out.blk X1 typ_dr2 (.int .i64 4))
       obtain ⟨_, _, y2, _, y4, _, yf⟩ := H2.out.cells
       rw [HV.out] at y2
       have P5 := Lib.hid (P2.out.1.put 2 (.slice a n c) (ops' := 4) (down' := false) (g2' := .map (some D.b2)) (g3' := D.wv) (by rw [HV.out]; rfl))
       have X5 := Lib.hid (row_put (i := 2) P2.out.1.blk X2.out typ_dr2 (.slice a n c))
       have x51 := cell_of_row _ _ 1 _ _ _ X5.out
       dsimp at x51
       have CH := Lib.hid (vcut_any (k := k) P5.out.1 HNE.out (by have := HLL.out; omega) HN.out HM.out hk hkr HOK.out)
       clear hb1 X1)
    | (at_builtin; refine wpList_app_chn rfl _ _ rfl B (.slice a n c) rfl D.W (HV.out ▸ P2.out.1.wr) rfl ?_)
    | (go_at_call 28; refine CH.out.mono ?_; rintro e w6 ⟨rfl, ⟨b, v, hD⟩, hB6⟩; have D6 := Lib.hid hD; have B6 := Lib.hid hB6; clear hD hB6))
  go_ret
  exact ⟨rfl, ⟨b, v, D6.out⟩, ((BW.out.mono H.out.hB).trans P2.out.2).trans (P5.out.2.trans B6.out)⟩
end
end Go.Proofs.Ytlkocmnnchgdeaa
