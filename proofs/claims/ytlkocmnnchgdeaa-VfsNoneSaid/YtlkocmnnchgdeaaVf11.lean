/-
  vfs: Write, Sync, Rename.
-/
import Derived.Test.YtlkocmnnchgdeaaVf10
set_option linter.unusedVariables false
set_option linter.unusedSimpArgs false
namespace Go.Proofs.Ytlkocmnnchgdeaa
set_option maxRecDepth 100000
open Go.RowKit
section
variable {B P : Nat} {D : VD} {ops : Int} {down : Bool} {g2 g3 : Value} {w w' : World}
/-- What change lays: the disk's box, the change's, the row. -/
theorem ch_boxes {pv : Value} {C : Obj} {W : World} (hW : ((w.alloc (.cells #[pv] 24)).alloc C).alloc C = W) :
    Below w.heap.size w W ∧ W.heap[w.heap.size]? = some (.cells #[pv] 24 (0, 0)) ∧ W.heap[w.heap.size + 1]? = some C ∧ W.heap[w.heap.size + 1 + 1]? = some C := by
  subst hW
  have b1 := below_alloc w (.cells #[pv] 24)
  have b2 := below_alloc (w.alloc (.cells #[pv] 24)) C
  have b3 := below_alloc ((w.alloc (.cells #[pv] 24)).alloc C) C
  have r1 := heap_alloc_new w (.cells #[pv] 24)
  have r2 := heap_alloc_new (w.alloc (.cells #[pv] 24)) C
  have r3 := heap_alloc_new ((w.alloc (.cells #[pv] 24)).alloc C) C
  have s1 : (w.alloc (.cells #[pv] 24)).heap.size = w.heap.size + 1 := by simp
  have s2 : ((w.alloc (.cells #[pv] 24)).alloc C).heap.size = w.heap.size + 1 + 1 := by simp
  refine ⟨seqB (seqB b1 b2) b3, vbelow (vbelow r1 b2) b3, ?_, ?_⟩
  · rw [← s1]; exact vbelow r2 b3
  · rw [← s2]; exact r3
set_option maxHeartbeats 2000000 in
theorem vchange_ok {nm tn tx : ByteArray} (h : DkS B P D ops false w) (hne : ops ≠ 3) (h0 : 0 ≤ ops) (h9 : ops ≤ 100) (hl : D.W.length ≤ 100) (ht : nm.size ≤ maxLen) (hn : D.n2 ≤ 1000) :
    Calls Try.prog 18 #[.pointer (some ⟨P, 0, none⟩), .agg #[.int .i64 0, .string nm, .string tn, .string tx]] w fun e w' => e = .returned (.int .i64 0) ∧ (∃ v, DkS B P { D with f2 := fput D.f2 nm.data.toList tx, n2 := vcnt D.f2 D.n2 nm.data.toList, wv := v, W := D.W ++ [(0, nm, tn, tx)] } (ops + 1) false w') ∧ Below B w w' := by
  have hmf : ∀ (fn : Fn) (first cap : Array Value) (w : World), (Instr.makeFunc fn first cap).run Try.prog w = .ok (.func fn first cap) w := fun _ _ _ _ => rfl
  obtain ⟨W, hW⟩ : ∃ W, ((w.alloc (.cells #[.pointer (some ⟨P, 0, none⟩)] 24)).alloc (.cells #[.int .i64 0, .string nm, .string tn, .string tx] 47)).alloc (.cells #[.int .i64 0, .string nm, .string tn, .string tx] 47) = W := ⟨_, rfl⟩
  obtain ⟨bW, r1, r2, r3⟩ := ch_boxes hW
  have OP := Lib.hid (vop_change (h.below bW) hne h0 h9 hl r2 r1 r3 (fun e => by have := (World.ownsRow.lt h.wr _ e).2; omega) ht hn)
  have BW := Lib.hid (bW.mono h.hB)
  clear h hne h0 h9 hl ht hn bW r1 r2 r3
  go_enter Try.func18, Try.ntmps18
  go_wp2_with (go_at_call 19; (try rw [hW]); refine OP.out.mono ?_; rintro e w6 ⟨rfl, hD, hB6⟩; have D6 := Lib.hid hD; have B6 := Lib.hid hB6; clear hD hB6)
  go_ret
  exact ⟨rfl, D6.out, BW.out.trans B6.out⟩
set_option maxHeartbeats 2000000 in
theorem vchange_cut {k : Nat} {nm tn tx : ByteArray} {kd : Int} (h : DkS B P D 3 false w) (hl : D.W.length ≤ 5) (hn : D.n1 ≤ 100)
    (hmod : ∀ i, i < D.W.length + 1 → 0 < D.kn → i % D.kn = 0) (hk : (k : Int) = if D.kn = 0 then 0 else D.K.getD 0 0) (hkr : k < 256) (hok : CutOk k (D.W ++ [(kd, nm, tn, tx)])) :
    Calls Try.prog 18 #[.pointer (some ⟨P, 0, none⟩), .agg #[.int .i64 kd, .string nm, .string tn, .string tx]] w fun e w' => e = .returned (.int .i64 9) ∧ (∃ b v u, DkS B P ((D.add u (kd, nm, tn, tx)).off k b v) 4 true w') ∧ Below B w w' := by
  have hmf : ∀ (fn : Fn) (first cap : Array Value) (w : World), (Instr.makeFunc fn first cap).run Try.prog w = .ok (.func fn first cap) w := fun _ _ _ _ => rfl
  obtain ⟨W, hW⟩ : ∃ W, ((w.alloc (.cells #[.pointer (some ⟨P, 0, none⟩)] 24)).alloc (.cells #[.int .i64 kd, .string nm, .string tn, .string tx] 47)).alloc (.cells #[.int .i64 kd, .string nm, .string tn, .string tx] 47) = W := ⟨_, rfl⟩
  obtain ⟨bW, r1, r2, r3⟩ := ch_boxes hW
  have OP := Lib.hid (fun F => vop_cut1 (F := F) (h.below bW) hl r3 hn hmod hk hkr hok)
  have BW := Lib.hid (bW.mono h.hB)
  clear h hl hn hmod hk hok bW r1 r2 r3
  go_enter Try.func18, Try.ntmps18
  go_wp2_with (go_at_call 19; (try rw [hW]); refine (OP.out _).mono ?_; rintro e w6 ⟨rfl, hD, hB6⟩; have D6 := Lib.hid hD; have B6 := Lib.hid hB6; clear hD hB6)
  go_ret
  exact ⟨rfl, D6.out, BW.out.trans B6.out⟩
theorem vwrite_ok {nm tx : ByteArray} (h : DkS B P D ops false w) (hne : ops ≠ 3) (h0 : 0 ≤ ops) (h9 : ops ≤ 100) (hl : D.W.length ≤ 100) (ht : nm.size ≤ maxLen) (ht0 : nm.toList.isEmpty = false) (hx : tx.size ≤ 1048576) (hn : D.n2 ≤ 1000) :
    Calls Try.prog 8 #[.pointer (some ⟨P, 0, none⟩), .string nm, .string tx] w fun e w' => e = .returned (.int .i64 0) ∧ (∃ v, DkS B P { D with f2 := fput D.f2 nm.data.toList tx, n2 := vcnt D.f2 D.n2 nm.data.toList, wv := v, W := D.W ++ [(0, nm, ⟨#[]⟩, tx)] } (ops + 1) false w') ∧ Below B w w' := by
  have UP := Lib.hid (vup_ok h)
  have CH := Lib.hid (vchange_ok (nm := nm) (tn := ⟨#[]⟩) (tx := tx) h hne h0 h9 hl ht hn)
  have hx2 : ¬ (1048576 : Int) < (tx.size : Int) := by omega
  clear h hne h0 h9 hl ht hn
  go_enter Try.func8, Try.ntmps8
  go_wp2_with (first
    | (go_at_call 15; refine UP.out.mono ?_; rintro e w1 ⟨rfl, h1⟩; subst h1)
    | (go_at_call 18; refine CH.out.mono ?_; rintro e w6 ⟨rfl, hD, hB6⟩; have D6 := Lib.hid hD; have B6 := Lib.hid hB6; clear hD hB6))
  go_ret
  exact ⟨rfl, D6.out, B6.out⟩
theorem vrename_cut {k : Nat} {nm tn s : ByteArray} (h : DkS B P D 3 false w) (hl : D.W.length ≤ 5) (hn : D.n1 ≤ 100)
    (hmod : ∀ i, i < D.W.length + 1 → 0 < D.kn → i % D.kn = 0) (hk : (k : Int) = if D.kn = 0 then 0 else D.K.getD 0 0) (hkr : k < 256) (hok : CutOk k (D.W ++ [(1, nm, tn, ⟨#[]⟩)]))
    (ht : nm.size ≤ maxLen) (ht0 : nm.toList.isEmpty = false) (ht1 : tn.toList.isEmpty = false) (hne : (nm.toList == tn.toList) = false) (hf : D.f2 nm.data.toList = some s) :
    Calls Try.prog 10 #[.pointer (some ⟨P, 0, none⟩), .string nm, .string tn] w fun e w' => e = .returned (.int .i64 9) ∧ (∃ b v u, DkS B P ((D.add u (1, nm, tn, ⟨#[]⟩)).off k b v) 4 true w') ∧ Below B w w' := by
  have H := Lib.hid h
  have UP := Lib.hid (vup_ok h)
  have CH := Lib.hid (fun (w2 : World) (h2 : DkS B P D 3 false w2) => vchange_cut (kd := 1) (nm := nm) (tn := tn) (tx := ⟨#[]⟩) h2 hl hn hmod hk hkr hok)
  have HT := Lib.hid ht; have HF := Lib.hid hf
  clear h hl hn hmod hk hkr hok ht hf
  go_enter Try.func10, Try.ntmps10
  go_wp2_with (first
    | (go_at_call 15; refine UP.out.mono ?_; rintro e w1 ⟨rfl, h1⟩; subst h1)
    | (go_at_call 16; refine (vlooker_any _ _).mono ?_; rintro e w2 ⟨q, rfl, hq, hb2⟩; have B2 := Lib.hid hb2; have H2 := Lib.hid (H.out.below hb2); have HQ := Lib.hid hq; clear hb2 hq)
    | (go_at_call 25; refine (vlook_yes H2.out HQ.out HT.out HF.out).mono ?_; rintro e w3 ⟨rfl, hb3⟩; have B3 := Lib.hid (seqB B2.out hb3); have H3 := Lib.hid (H2.out.below hb3); clear hb3)
    | (go_at_call 18; refine (CH.out _ H3.out).mono ?_; rintro e w6 ⟨rfl, hD, hB6⟩; have D6 := Lib.hid hD; have B6 := Lib.hid hB6; clear hD hB6))
  go_ret
  exact ⟨rfl, D6.out, (B3.out.mono H.out.hB).trans B6.out⟩
theorem vsync_ok {nm tn tx : ByteArray} (h : DkS B P D ops false w) (hne : ops ≠ 3) (h0 : 0 ≤ ops) (h9 : ops ≤ 100) (hW : D.W = [(0, nm, tn, tx)]) (ht : nm.size ≤ maxLen) (hn : D.n1 ≤ 1000) :
    Calls Try.prog 9 #[.pointer (some ⟨P, 0, none⟩)] w fun e w' => e = .returned (.int .i64 0) ∧ (∃ v, DkS B P { D with f1 := fput D.f1 nm.data.toList tx, n1 := vcnt D.f1 D.n1 nm.data.toList, wv := v, W := [] } (ops + 1) false w') ∧ Below B w w' := by
  have hmf : ∀ (fn : Fn) (first cap : Array Value) (w : World), (Instr.makeFunc fn first cap).run Try.prog w = .ok (.func fn first cap) w := fun _ _ _ _ => rfl
  have bW := below_alloc w (.cells #[.pointer (some ⟨P, 0, none⟩)] 24)
  have r := heap_alloc_new w (.cells #[.pointer (some ⟨P, 0, none⟩)] 24)
  have UP := Lib.hid (vup_ok (h.below bW))
  have OP := Lib.hid (vop_sync (h.below bW) hne h0 h9 hW r ht hn)
  have BW := Lib.hid (bW.mono h.hB)
  clear h hne h0 h9 hW ht hn bW r
  go_enter Try.func9, Try.ntmps9
  go_wp2_with (first
    | (go_at_call 15; refine UP.out.mono ?_; rintro e w1 ⟨rfl, h1⟩; subst h1)
    | (go_at_call 19; refine OP.out.mono ?_; rintro e w6 ⟨rfl, hD, hB6⟩; have D6 := Lib.hid hD; have B6 := Lib.hid hB6; clear hD hB6))
  go_ret
  exact ⟨rfl, D6.out, BW.out.trans B6.out⟩
theorem vsync_cut {k : Nat} (h : DkS B P D 3 false w) (hne : D.W ≠ []) (hl : D.W.length ≤ 5) (hn : D.n1 ≤ 100)
    (hmod : ∀ i, i < D.W.length → 0 < D.kn → i % D.kn = 0) (hk : (k : Int) = if D.kn = 0 then 0 else D.K.getD 0 0) (hkr : k < 256) (hok : CutOk k D.W) :
    Calls Try.prog 9 #[.pointer (some ⟨P, 0, none⟩)] w fun e w' => e = .returned (.int .i64 9) ∧ (∃ b v, DkS B P (D.off k b v) 4 true w') ∧ Below B w w' := by
  have hmf : ∀ (fn : Fn) (first cap : Array Value) (w : World), (Instr.makeFunc fn first cap).run Try.prog w = .ok (.func fn first cap) w := fun _ _ _ _ => rfl
  have bW := below_alloc w (.cells #[.pointer (some ⟨P, 0, none⟩)] 24)
  have UP := Lib.hid (vup_ok (h.below bW))
  have OP := Lib.hid (fun F => vop_cut0 (F := F) (h.below bW) hne hl hn hmod hk hkr hok)
  have BW := Lib.hid (bW.mono h.hB)
  have r := cell_of_row _ _ 0 _ _ _ (heap_alloc_new w (.cells #[.pointer (some ⟨P, 0, none⟩)] 24))
  dsimp at r
  clear h hne hl hn hmod hk hkr hok bW
  go_enter Try.func9, Try.ntmps9
  go_wp2_with (first
    | (go_at_call 15; refine UP.out.mono ?_; rintro e w1 ⟨rfl, h1⟩; subst h1)
    | (go_at_call 19; refine (OP.out _).mono ?_; rintro e w6 ⟨rfl, hD, hB6⟩; have D6 := Lib.hid hD; have B6 := Lib.hid hB6; clear hD hB6))
  go_ret
  exact ⟨rfl, D6.out, BW.out.trans B6.out⟩
end
end Go.Proofs.Ytlkocmnnchgdeaa
