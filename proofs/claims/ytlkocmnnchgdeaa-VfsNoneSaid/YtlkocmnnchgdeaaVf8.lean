/-
  vfs: operations that end.
-/
import Derived.Test.YtlkocmnnchgdeaaVf7
set_option linter.unusedVariables false
set_option linter.unusedSimpArgs false
namespace Go.Proofs.Ytlkocmnnchgdeaa
set_option maxRecDepth 100000
open Go.RowKit
theorem wpList_app_chn {w : World} {ops : Array Oper} {rest : List Oper} {o : Oper} {a : Act} {Q : Exit → Act → World → Prop} (hgd : o.guard = none) (s x : Operand)
    (ho : o.op = .call { callee := .builtin .append, args := #[s, x], argTypes := #[39, 39] }) (base : Nat)
    (v : Value) (hs : a.eval s = v) (L : List ChR) (hown : OwW w base v L) (hx : a.eval x = .slice none 0 0)
    (h : wpList Try.prog ops Q rest (a.put o.dst v) w) : wpList Try.prog ops Q (o :: rest) a w := by
  obtain ⟨bb, hbb, hb1, hb2⟩ := bytesCh
  obtain ⟨i0, hi, hz0, hz1, hz2⟩ := info_parts hbb
  exact wpList_append_own_none hgd s x 39 ho base 47 i0 4 Try.underlying39 hi v L.length _ hs hown hx h
section
variable {B P : Nat} {D : VD} {ops : Int} {down : Bool} {g2 g3 : Value} {w w' : World}
theorem vcrash_not (h : Dk B P D ops down g2 g3 w) (hne : ops ≠ 3) : Calls Try.prog 27 #[.pointer (some ⟨P, 0, none⟩)] w fun e w' => e = .returned (.tuple #[.agg #[.int .i64 0, .slice none 0 0], .bool false]) ∧ Below w.heap.size w w' := by
  refine (vcrash_any h).mono ?_
  rintro e w' ⟨he, hb⟩
  rw [if_neg hne, decide_eq_false hne] at he
  exact ⟨he, hb⟩
theorem vcrash_yes (h : Dk B P D 3 down g2 g3 w) : Calls Try.prog 27 #[.pointer (some ⟨P, 0, none⟩)] w fun e w' => e = .returned (.tuple #[.agg #[.int .i64 3, .slice D.ka D.kn D.kc], .bool true]) ∧ Below w.heap.size w w' := vcrash_any h
theorem wrap_ops {ops : Int} (h0 : 0 ≤ ops) (h9 : ops ≤ 100) : IntKind.i64.wrap (ops + 1) = ops + 1 := by rw [IntKind.wrap_i64]; omega
/-- A cell's row of another type stays, as a field of the disk is written. -/
theorem row_put {P i k : Nat} {w : World} {ds cs : Array Value} {s t : TypeId} {f f' : Nat × Nat} (hP : w.heap[P]? = some (.cells ds s f)) (hk : w.heap[k]? = some (.cells cs t f')) (hst : s ≠ t) (u : Value) : (w.setCell ⟨P, i, none⟩ u).heap[k]? = some (.cells cs t f') :=
  (Below.heap_setCell w ⟨P, i, none⟩ u k (fun e => by
    have e : k = P := e
    subst e
    rw [hP] at hk
    injection hk with hk
    injection hk with _ e3 _
    exact hst e3)).trans hk
theorem row_grown {w w' : World} {o : Option Nat} {k : Nat} {ob : Obj} (hk : w.heap[k]? = some ob) (hg : w.grownBy w' o) (hne : o ≠ some k) : w'.heap[k]? = some ob := (hg.block k (vlt hk) (fun e => hne e.symm)).trans hk
theorem typ_dp : 42 ≠ 24 := by decide
theorem typ_pc : 24 ≠ 47 := by decide
set_option maxHeartbeats 4000000 in
theorem vop_change {qc qd qb : Nat} {nm tn tx : ByteArray} (h : DkS B P D ops false w) (hne : ops ≠ 3) (h0 : 0 ≤ ops) (h9 : ops ≤ 100) (hl : D.W.length ≤ 100)
    (hc : w.heap[qc]? = some (.cells #[.int .i64 0, .string nm, .string tn, .string tx] 47 (0, 0))) (hd : w.heap[qd]? = some (.cells #[.pointer (some ⟨P, 0, none⟩)] 24 (0, 0)))
    (hb : w.heap[qb]? = some (.cells #[.int .i64 0, .string nm, .string tn, .string tx] 47 (0, 0))) (hcn : D.wv.ownBlock ≠ some qc) (ht : nm.size ≤ maxLen) (hn : D.n2 ≤ 1000) :
    Calls Try.prog 19 #[.pointer (some ⟨P, 0, none⟩), .func (.func 26) #[] #[.pointer (some ⟨qc, 0, none⟩), .pointer (some ⟨qd, 0, none⟩)], .slice (some ⟨qb, 0, none⟩) 1 1] w fun e w' => e = .returned (.int .i64 0) ∧ (∃ v, DkS B P { D with f2 := fput D.f2 nm.data.toList tx, n2 := vcnt D.f2 D.n2 nm.data.toList, wv := v, W := D.W ++ [(0, nm, tn, tx)] } (ops + 1) false w') ∧ Below B w w' := by
  have CR := Lib.hid (vcrash_not h hne)
  have hwr := wrap_ops h0 h9
  have H := Lib.hid h
  have HL := Lib.hid (Nat.le_trans hl (by decide : 100 ≤ 1000))
  have HC := Lib.hid hc; have HD := Lib.hid hd; have HQ := Lib.hid hb; have HN := Lib.hid hn; have HCN := Lib.hid hcn
  clear h hne h0 h9 hl hc hd hb hn hcn
  go_enter Try.func19, Try.ntmps19
  go_wp2_with (first
    | (go_at_call 27
       refine CR.out.mono ?_
       rintro e w1 ⟨rfl, hb1⟩
       have BW := Lib.hid (seqB hb1 (below_alloc w1 (.cells #[.int .i64 0, .slice none 0 0] 30)))
       have H2 := Lib.hid (H.out.below BW.out)
       have P2 := Lib.hid (H2.out.put 4 (.int .i64 (ops + 1)) (ops' := ops + 1) (down' := false) (g2' := .map (some D.b2)) (g3' := D.wv) rfl)
       have C2 := Lib.hid (row_put (i := 4) H2.out.blk (vbelow HC.out BW.out) typ_dc (.int .i64 (ops + 1)))
       have Q2 := Lib.hid (row_put (i := 4) H2.out.blk (vbelow HQ.out BW.out) typ_dc (.int .i64 (ops + 1)))
       have D2 := Lib.hid (row_put (i := 4) H2.out.blk (vbelow HD.out BW.out) typ_dp (.int .i64 (ops + 1)))
       obtain ⟨_, _, y2, _, y4, _, yf⟩ := H2.out.cells
       clear hb1)
    | (at_builtin
       refine wpList_app_ch rfl _ _ rfl B D.wv rfl D.W P2.out.1.wr qb 1 (0, nm, tn, tx) rfl Q2.out HL.out P2.out.1.hB ?_
       intro a4 c4 w4 o4 g4
       have P4 := Lib.hid (P2.out.1.wait o4 g4)
       have P5 := Lib.hid (P4.out.1.put 2 (.slice a4 (D.W.length + 1) c4) (ops' := ops + 1) (down' := false) (g2' := .map (some D.b2)) (g3' := .slice a4 (D.W.length + 1) c4) rfl)
       have C4 := Lib.hid (row_grown C2.out g4 HCN.out)
       have D4 := Lib.hid (row_grown D2.out g4 (rows_typ P2.out.1.wr D2.out typ_pc))
       have C5 := Lib.hid (row_put (i := 2) P4.out.1.blk C4.out typ_dc (.slice a4 (D.W.length + 1) c4))
       have D5 := Lib.hid (cell_of_row _ _ 0 _ _ _ (row_put (i := 2) P4.out.1.blk D4.out typ_dp (.slice a4 (D.W.length + 1) c4)))
       obtain ⟨_, _, z2, _, _, _, zf⟩ := P4.out.1.cells
       have CH := Lib.hid (vchange1_any P5.out.1 C5.out D5.out ht HN.out)
       clear o4 g4)
    | (go_at_call 26; refine CH.out.mono ?_; rintro e w6 ⟨rfl, hD, hB6⟩; have D6 := Lib.hid hD; have B6 := Lib.hid hB6; clear hD hB6))
  go_ret
  exact ⟨rfl, ⟨_, D6.out⟩, (((BW.out.mono H.out.hB).trans P2.out.2).trans P4.out.2).trans (P5.out.2.trans B6.out)⟩
set_option maxHeartbeats 4000000 in
theorem vop_sync {qd : Nat} {nm tn tx : ByteArray} (h : DkS B P D ops false w) (hne : ops ≠ 3) (h0 : 0 ≤ ops) (h9 : ops ≤ 100) (hW : D.W = [(0, nm, tn, tx)])
    (hd : w.heap[qd]? = some (.cells #[.pointer (some ⟨P, 0, none⟩)] 24 (0, 0))) (ht : nm.size ≤ maxLen) (hn : D.n1 ≤ 1000) :
    Calls Try.prog 19 #[.pointer (some ⟨P, 0, none⟩), .func (.func 20) #[] #[.pointer (some ⟨qd, 0, none⟩)], .slice none 0 0] w fun e w' => e = .returned (.int .i64 0) ∧ (∃ v, DkS B P { D with f1 := fput D.f1 nm.data.toList tx, n1 := vcnt D.f1 D.n1 nm.data.toList, wv := v, W := [] } (ops + 1) false w') ∧ Below B w w' := by
  have CR := Lib.hid (vcrash_not h hne)
  have hwr := wrap_ops h0 h9
  have H := Lib.hid h
  have HW := Lib.hid hW
  obtain ⟨a, c, hv⟩ := h.wr.form (n := 1) (by rw [hW]; rfl)
  have HV := Lib.hid hv
  have HD := Lib.hid hd; have HN := Lib.hid hn
  clear h hne h0 h9 hW hd hn hv
  go_enter Try.func19, Try.ntmps19
  go_wp2_with (first
    | (go_at_call 27
       refine CR.out.mono ?_
       rintro e w1 ⟨rfl, hb1⟩
       have BW := Lib.hid (seqB hb1 (below_alloc w1 (.cells #[.int .i64 0, .slice none 0 0] 30)))
       have H2 := Lib.hid (H.out.below BW.out)
       have P2 := Lib.hid (H2.out.put 4 (.int .i64 (ops + 1)) (ops' := ops + 1) (down' := false) (g2' := .map (some D.b2)) (g3' := D.wv) rfl)
       have D2 := Lib.hid (row_put (i := 4) H2.out.blk (vbelow HD.out BW.out) typ_dp (.int .i64 (ops + 1)))
       obtain ⟨_, _, y2, _, y4, _, yf⟩ := H2.out.cells
       rw [HV.out] at y2
       have P5 := Lib.hid (P2.out.1.put 2 (.slice a 1 c) (ops' := ops + 1) (down' := false) (g2' := .map (some D.b2)) (g3' := D.wv) (by rw [HV.out]; rfl))
       have D5 := Lib.hid (row_put (i := 2) P2.out.1.blk D2.out typ_dp (.slice a 1 c))
       have CH := Lib.hid (vsync1_any P5.out.1 HW.out D5.out ht HN.out)
       clear hb1)
    | (at_builtin; refine wpList_app_chn rfl _ _ rfl B (.slice a 1 c) rfl D.W (HV.out ▸ P2.out.1.wr) rfl ?_)
    | (go_at_call 20; refine CH.out.mono ?_; rintro e w6 ⟨rfl, ⟨v, hD⟩, hB6⟩; have D6 := Lib.hid hD; have B6 := Lib.hid hB6; clear hD hB6))
  go_ret
  exact ⟨rfl, ⟨_, D6.out⟩, ((BW.out.mono H.out.hB).trans P2.out.2).trans (P5.out.2.trans B6.out)⟩
end
end Go.Proofs.Ytlkocmnnchgdeaa
