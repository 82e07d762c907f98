/-
  vfs: operations that end: a change, Sync.
-/
import Derived.Test.YtlkocmnnchgdeaaVf6
set_option linter.unusedVariables false
set_option linter.unusedSimpArgs false
namespace Go.Proofs.Ytlkocmnnchgdeaa
set_option maxRecDepth 100000
open Go.RowKit
/-- An append of one change. -/
theorem wpList_app_ch {w : World} {ops : Array Oper} {rest : List Oper} {o : Oper} {a : Act} {Q : Exit → Act → World → Prop} (hgd : Region.wanted o (yielded ops a.tmps) = true) (s x : Operand)
    (ho : o.op = .call { callee := .builtin .append, args := #[s, x], argTypes := #[39, 39] }) (base : Nat)
    (v : Value) (hs : a.eval s = v) (L : List ChR) (hown : OwW w base v L) (g c : Nat) (q : ChR) (hx : a.eval x = .slice (some ⟨g, 0, none⟩) 1 c) {f : Nat × Nat} (hg : w.heap[g]? = some (.cells (vA q) 47 f))
    (hlen : L.length ≤ 1000) (hbase : base ≤ w.heap.size)
    (h : ∀ ad' c' w', OwW w' base (.slice ad' (L.length + 1) c') (L ++ [q]) → w.grownBy w' v.ownBlock → wpList Try.prog ops Q rest (a.put o.dst (.slice ad' (L.length + 1) c')) w') : wpList Try.prog ops Q (o :: rest) a w := by
  obtain ⟨bb, hbb, hb1, hb2⟩ := bytesCh
  obtain ⟨i0, hi, hz0, hz1, hz2⟩ := info_parts hbb
  refine wpList_step fun K hK => ?_
  rw [if_pos hgd]
  refine wp_append_own w s x 39 ho base 47 i0 _ 4 bb Try.underlying39 hi hz0 hz1 hz2 rfl (by decide) v L.length _ hs hown ⟨g, 0, none⟩ 1 c (vC [q]) hx (vC_len [q]) (vC_news hg) (vC_one [q]) (by unfold maxLen; omega) (Nat.le_trans (Nat.mul_le_mul (show L.length + 1 ≤ 1000000 by omega) hb2) (by decide)) hbase (fun v' w' a1 a2 _ => ?_)
  have hO : OwW w' base v' (L ++ [q]) := by unfold OwW; rw [List.length_append, vC_app]; exact a1
  obtain ⟨a, d, rfl⟩ := hO.form (n := L.length + 1) (by rw [List.length_append]; rfl)
  exact hK _ _ (h a d w' hO a2)
section
variable {B P : Nat} {D : VD} {ops : Int} {down : Bool} {g2 g3 : Value} {w w' : World}
theorem Dk.drew (h : Dk B P D ops down g2 g3 w) : Dk B P D ops down g2 g3 w.drew := h.below (Below.refl _ w).drew
set_option maxHeartbeats 2000000 in
theorem vchange1_any {qc qd : Nat} {nm tn tx : ByteArray} (h : Dk B P D ops down (.map (some D.b2)) g3 w) (hc : w.heap[qc]? = some (.cells #[.int .i64 0, .string nm, .string tn, .string tx] 47 (0, 0))) (hd : w.cell? ⟨qd, 0, none⟩ = some (.pointer (some ⟨P, 0, none⟩))) (ht : nm.size ≤ maxLen) (hn : D.n2 ≤ 1000) :
    Calls Try.prog 26 #[.pointer (some ⟨qc, 0, none⟩), .pointer (some ⟨qd, 0, none⟩)] w fun e w' => e = .returned (.tuple #[]) ∧ Dk B P { D with f2 := fput D.f2 nm.data.toList tx, n2 := vcnt D.f2 D.n2 nm.data.toList } ops down (.map (some D.b2)) g3 w' ∧ Below B w w' := by
  have h1 := h.drew
  have DO := Lib.hid (vdo_write h1.m2 nm tn tx ht hn)
  obtain ⟨_, y1, _⟩ := h.cells
  have c0 := cell_of_row _ _ 0 _ _ _ hc
  have c1 := cell_of_row _ _ 1 _ _ _ hc
  have c2 := cell_of_row _ _ 2 _ _ _ hc
  have c3 := cell_of_row _ _ 3 _ _ _ hc
  dsimp at c0 c1 c2 c3
  have H := Lib.hid h1
  clear h1 h hc ht hn
  go_enter Try.func26, Try.ntmps26
  go_region_law (go_simp; go_at_call 21; refine DO.out.mono ?_; rintro e w2 ⟨rfl, hM, hG⟩; have R := Lib.hid (H.out.put2 hM hG); clear hM hG)
  all_goals
    go_wp2
    first | refine bodyPost_end (results_none rfl _ _ _) rfl ?_ | refine bodyPost_ret (results_none rfl _ _ _) rfl ?_
    exact ⟨rfl, R.out.1, (Below.refl B w).drew.trans R.out.2⟩
theorem fls_keep {w w' : World} {b m : Nat} {f : Fls} {o : Option Nat} (h : FlM w b f m) {k : Nat} {cs : Array Value} {t : TypeId} {fr : Nat × Nat} (hk : w.heap[k]? = some (.cells cs t fr)) (hg : w.grownBy w' (some b)) : w'.heap[k]? = some (.cells cs t fr) :=
  (hg.block k (vlt hk) (fun e => h.ne hk (Option.some.inj e))).trans hk
set_option maxHeartbeats 4000000 in
theorem vsync1_any {qd : Nat} {nm tn tx : ByteArray} (h : DkS B P D ops down w) (hW : D.W = [(0, nm, tn, tx)]) (hd : w.heap[qd]? = some (.cells #[.pointer (some ⟨P, 0, none⟩)] 24 (0, 0))) (ht : nm.size ≤ maxLen) (hn : D.n1 ≤ 1000) :
    Calls Try.prog 20 #[.pointer (some ⟨qd, 0, none⟩)] w fun e w' => e = .returned (.tuple #[]) ∧ (∃ v, DkS B P { D with f1 := fput D.f1 nm.data.toList tx, n1 := vcnt D.f1 D.n1 nm.data.toList, wv := v, W := [] } ops down w') ∧ Below B w w' := by
  have hl : D.W.length = 1 := by rw [hW]; rfl
  obtain ⟨a, c, hv⟩ := h.wr.form hl
  obtain ⟨g, ha, hg, x0, x1, x2, x3⟩ := OwW.cell (hv ▸ h.wr) hl 0 (by decide)
  rw [hW] at x0 x1 x2 x3
  replace x0 : w.cell? ⟨g, 0, none⟩ = some (.int .i64 0) := x0
  replace x1 : w.cell? ⟨g, 1, none⟩ = some (.string nm) := x1
  replace x2 : w.cell? ⟨g, 2, none⟩ = some (.string tn) := x2
  replace x3 : w.cell? ⟨g, 3, none⟩ = some (.string tx) := x3
  subst ha
  obtain ⟨y0, _, y2, _⟩ := h.cells
  rw [hv] at y2
  have q0 := cell_of_row _ _ 0 _ _ _ hd
  dsimp at q0
  have bX := below_alloc w (.cells #[.int .i64 0, .string nm, .string tn, .string tx] 47)
  have h5 := (h.below bX).drew
  have hd5 : (w.alloc (.cells #[.int .i64 0, .string nm, .string tn, .string tx] 47)).drew.heap[qd]? = _ := vbelow hd bX.drew
  have DO := Lib.hid (vdo_write h5.m1 nm tn tx ht hn)
  have Q0 := cell_of_row _ _ 0 _ _ _ hd5
  have Y0 := (h5.cells).1
  dsimp at Q0
  have H5 := Lib.hid h5
  have HD5 := Lib.hid hd5
  have BX := Lib.hid (bX.drew.mono h.hB)
  have HWn : Hid (D.W ≠ []) := Lib.hid (by rw [hW]; intro e; cases e)
  clear h hl hW hv hg bX h5 hd5 hd ht hn
  go_enter Try.func20, Try.ntmps20
  go_upto_region 1 with fail
  go_loopw [8] (fun iv wr => (iv = .int .i64 0 ∧ w = wr) ∨ (iv = .int .i64 1 ∧ Hid (DkS B P { D with f1 := fput D.f1 nm.data.toList tx, n1 := vcnt D.f1 D.n1 nm.data.toList } ops down wr) ∧ wr.cell? ⟨qd, 0, none⟩ = some (.pointer (some ⟨P, 0, none⟩)) ∧ Hid (Below B w wr))) (fun iv _ => 1 - (intOf iv).toNat)
  case atStart => exact Or.inl ⟨rfl, rfl⟩
  case round =>
    rcases hrel with ⟨rfl, rfl⟩ | ⟨rfl, HD, hq, HBl⟩
    · go_upto_region 3 with fail
      go_region_law (go_simp; go_at_call 21; refine DO.out.mono ?_; rintro e w2 ⟨rfl, hM, hG⟩; have R := Lib.hid (H5.out.put1 hM hG); have Z := cell_of_row _ _ 0 _ _ _ (fls_keep (o := none) H5.out.m1 HD5.out hG); dsimp at Z; clear hM hG)
      all_goals
        go_wp2
        go_roundw
        case rel => exact Or.inr ⟨rfl, Lib.hid R.out.1, Z, Lib.hid (BX.out.trans R.out.2)⟩
        case measure => (simp [intOf]; try omega)
    · have CL := Lib.hid (vclear_any HD.out HWn.out)
      go_wp2_with (go_at_call 22; refine CL.out.mono ?_; rintro e w3 ⟨rfl, ⟨v, hv⟩, hb3⟩; have H3 := Lib.hid hv; have B3 := Lib.hid hb3; clear hv hb3)
      first | refine bodyPost_end (results_none rfl _ _ _) rfl ?_ | refine bodyPost_ret (results_none rfl _ _ _) rfl ?_
      exact ⟨rfl, ⟨v, H3.out⟩, HBl.out.trans B3.out⟩
end
end Go.Proofs.Ytlkocmnnchgdeaa
