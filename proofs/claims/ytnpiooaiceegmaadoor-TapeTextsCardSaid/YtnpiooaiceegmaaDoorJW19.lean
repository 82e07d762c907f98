/-
  Joined: Tp35 Tp36 Tp37 Tp38 Tp39.
-/
import Derived.Test.YtnpiooaiceegmaaDoorJW13
import Derived.Test.YtnpiooaiceegmaaDoorJW16
import Derived.Test.YtnpiooaiceegmaaDoorJW18
import Derived.Deep.Cut
import Derived.BigQuiet
set_option linter.unusedVariables false
set_option linter.unusedSimpArgs false
set_option maxRecDepth 100000
set_option linter.unusedVariables false
set_option linter.unusedSimpArgs false
namespace Go.Proofs.YtnpiooaiceegmaaDoor
open Go.RowKit
/-- What has been read of a script behind k lines. -/
def PsK (P : List (List UInt8)) (k : Nat) (n0 n1 n2 n3 n4 n5 n6 n7 : Int) (b : Bool) (q : List UInt8) (C : List Crs) (S : List Stp) : Prop := (k = 0 ∧ C = [] ∧ S = []) ∨ (1 ≤ k ∧ rdF (pcB 32 (P.getD 0 [])) = some ([n0, n1, n2, n3, n4, n5, n6, n7], b, q) ∧ prL P.tail [] [] = prL (P.drop k) C S)
theorem drop_at (P : List (List UInt8)) (k : Nat) (h : k < P.length) : P.drop k = P.getD k [] :: P.drop (k + 1) := by
  rw [List.drop_eq_getElem_cons h, List.getD, List.getElem?_eq_getElem h]; rfl
theorem psk_conf {P : List (List UInt8)} {n0 n1 n2 n3 n4 n5 n6 n7 : Int} {b : Bool} {q : List UInt8} (hf : rdF (pcB 32 (P.getD 0 [])) = some ([n0, n1, n2, n3, n4, n5, n6, n7], b, q)) : PsK P 1 n0 n1 n2 n3 n4 n5 n6 n7 b q [] [] := by
  refine .inr ⟨Nat.le_refl _, hf, ?_⟩
  rw [List.drop_one]
section
variable {P : List (List UInt8)} {k : Nat} {n0 n1 n2 n3 n4 n5 n6 n7 : Int} {b : Bool} {q : List UInt8} {C : List Crs} {S : List Stp}
theorem psk_crash (h : PsK P k n0 n1 n2 n3 n4 n5 n6 n7 b q C S) (h1 : 1 ≤ k) (hk : k < P.length) {cr : Crs} (hs : S = []) (hc : rdC (pcB 32 (P.getD k [])) = some cr) : PsK P (k + 1) n0 n1 n2 n3 n4 n5 n6 n7 b q (C ++ [cr]) S := by
  rcases h with h | ⟨_, h2, h3⟩
  · omega
  · refine .inr ⟨by omega, h2, ?_⟩
    rw [h3, drop_at P k hk]
    subst hs
    conv => lhs; unfold prL
    rw [if_pos rfl, hc]
theorem psk_step (h : PsK P k n0 n1 n2 n3 n4 n5 n6 n7 b q C S) (h1 : 1 ≤ k) (hk : k < P.length) {x : Stp} (hn : (if S = [] then rdC (pcB 32 (P.getD k [])) else none) = none) (hx : rdS (pcB 32 (P.getD k [])) = some x) : PsK P (k + 1) n0 n1 n2 n3 n4 n5 n6 n7 b q C (S ++ [x]) := by
  rcases h with h | ⟨_, h2, h3⟩
  · omega
  · refine .inr ⟨by omega, h2, ?_⟩
    rw [h3, drop_at P k hk]
    conv => lhs; unfold prL
    rw [hn]
    dsimp only
    rw [hx]
theorem psk_fail (h : PsK P k n0 n1 n2 n3 n4 n5 n6 n7 b q C S) (h1 : 1 ≤ k) (hk : k < P.length) (hn : (if S = [] then rdC (pcB 32 (P.getD k [])) else none) = none) (hx : rdS (pcB 32 (P.getD k [])) = none) : prA P = none := by
  rcases h with h | ⟨_, h2, h3⟩
  · omega
  · rw [drop_at P k hk] at h3
    have h4 : prL P.tail [] [] = none := by
      rw [h3]
      conv => lhs; unfold prL
      rw [hn]
      dsimp only
      rw [hx]
    cases P with
    | nil => rfl
    | cons l r =>
      show (match rdF (pcB 32 l) with
        | none => none
        | some f => match prL r [] [] with
          | none => none
          | some q => some (f, q)) = none
      rw [show rdF (pcB 32 l) = _ from h2, show prL r [] [] = none from h4]
theorem psk_no (hk : 0 < P.length) (hf : rdF (pcB 32 (P.getD 0 [])) = none) : prA P = none := by
  cases P with
  | nil => rfl
  | cons l r =>
    show (match rdF (pcB 32 l) with
        | none => none
        | some f => match prL r [] [] with
          | none => none
          | some q => some (f, q)) = none
    rw [show rdF (pcB 32 l) = none from hf]
theorem psk_end (h : PsK P k n0 n1 n2 n3 n4 n5 n6 n7 b q C S) (h1 : 1 ≤ k) (hk : k = P.length) : prA P = some (([n0, n1, n2, n3, n4, n5, n6, n7], b, q), C, S) := by
  rcases h with h | ⟨_, h2, h3⟩
  · omega
  · cases P with
    | nil => simp at hk; omega
    | cons l r =>
      rw [hk, List.drop_length] at h3
      show (match rdF (pcB 32 l) with
        | none => none
        | some f => match prL r [] [] with
          | none => none
          | some q => some (f, q)) = _
      rw [show rdF (pcB 32 l) = _ from h2, show prL r [] [] = some (C, S) from h3]
end
structure PsI (T X g B : Nat) (P : List (List UInt8)) (k : Nat) (n0 n1 n2 n3 n4 n5 n6 n7 : Int) (b : Bool) (q : List UInt8) (C : List Crs) (S : List Stp) (cv sv : Value) (w0 w : World) : Prop where
  res : w.heap[T]? = some (.cells #[.int .i64 0, .int .i64 0, .int .i64 0, .int .i64 0, .int .i64 0, .int .i64 0, .int .i64 0, .int .i64 0, .bool false, .string ⟨#[]⟩, .slice none 0 0, .slice none 0 0] 27 (0, 0))
  box : w.heap[X]? = some (.cells (scC n0 n1 n2 n3 n4 n5 n6 n7 b (mkL q) cv sv) 27 (0, 0))
  row : PcI w g P
  cr : CrSt B cv C w
  st : StSt B sv S w
  bl : Below w0.heap.size w0 w
  lt : w0.heap.size ≤ T ∧ T < X ∧ X < g ∧ g < B
  k : PsK P k n0 n1 n2 n3 n4 n5 n6 n7 b q C S
section
variable {T X g B : Nat} {P : List (List UInt8)} {k : Nat} {n0 n1 n2 n3 n4 n5 n6 n7 : Int} {b : Bool} {q : List UInt8} {C : List Crs} {S : List Stp} {cv sv : Value} {w0 w w' : World}
theorem PsI.below (h : PsI T X g B P k n0 n1 n2 n3 n4 n5 n6 n7 b q C S cv sv w0 w) (hb : Below w.heap.size w w') : PsI T X g B P k n0 n1 n2 n3 n4 n5 n6 n7 b q C S cv sv w0 w' :=
  ⟨(hb.block T (blk_lt h.res)).trans h.res, (hb.block X (blk_lt h.box)).trans h.box, h.row.below hb, h.cr.below hb, h.st.below hb, seqB h.bl hb, h.lt, h.k⟩
theorem PsI.crash {cr : Crs} {w1 : World} {xs : List Value} {a : Option Addr} {m c : Nat} {v' : Value} (h : PsI T X g B P k n0 n1 n2 n3 n4 n5 n6 n7 b q C S cv sv w0 w) (hK : PsK P (k + 1) n0 n1 n2 n3 n4 n5 n6 n7 b q (C ++ [cr]) S) (h2 : ∀ i, i < C.length → ∃ ai ci, xs[i * 2]? = some (.int .i64 (C.getD i (0, [])).1) ∧ xs[i * 2 + 1]? = some (.slice ai (C.getD i (0, [])).2.length ci) ∧ KpU w ai (C.getD i (0, [])).2) (hn : cr.2.length = m) (hw : w.ownsRow B 97 2 cv C.length xs) (hx : KpU w a cr.2) (ho : w1.ownsRow B 97 2 v' (C.length + 1) (xs ++ [.int .i64 cr.1, .slice a m c])) (hg : w.grownBy w1 cv.ownBlock) : PsI T X g B P (k + 1) n0 n1 n2 n3 n4 n5 n6 n7 b q (C ++ [cr]) S v' sv w0 (w1.setCell ⟨X, 10, none⟩ v') := by
  have hlt := h.lt
  have hB := h.cr.le
  have kb : ∀ j, j < B → w1.heap[j]? = w.heap[j]? := fun j hj => hg.block j (by omega) (fun e => by have := (hw.lt j e.symm).1; omega)
  have C1 := CrSt.next h2 hn hw hx ho hg hB
  have S1 := h.st.grown hw hg (by decide) (by decide)
  have b1 : w1.heap[X]? = _ := (kb X (by omega)).trans h.box
  have hne : ∀ j, j ≠ X → (w1.setCell ⟨X, 10, none⟩ v').heap[j]? = w1.heap[j]? := fun j hj => Below.heap_setCell w1 ⟨X, 10, none⟩ v' j hj
  refine ⟨(hne T (by omega)).trans ((kb T (by omega)).trans h.res), blk_set b1 10 v', ⟨?_, fun i hi => ?_⟩, C1.set b1 (by decide) (by decide) 10 v', S1.set b1 (by decide) (by decide) 10 v', ?_, hlt, hK⟩
  · have := h.row.1; have := hg.size; simp [World.setCell]; omega
  · exact (cell_blk ((hne g (by omega)).trans (kb g (by omega))) i).trans (h.row.2 i hi)
  · exact (Below.mk (hg.os.trans h.bl.os) (hg.tape.trans h.bl.tape) (hg.output.trans h.bl.output) (Nat.le_trans h.bl.size hg.size) (fun j hj => (kb j (by omega)).trans (h.bl.block j hj))).setCell (p := ⟨X, 10, none⟩) (by show _ ≤ X; omega) v'
theorem PsI.step {x : Stp} {w1 : World} {xs : List Value} {a : Option Addr} {m c : Nat} {v' : Value} (h : PsI T X g B P k n0 n1 n2 n3 n4 n5 n6 n7 b q C S cv sv w0 w) (hK : PsK P (k + 1) n0 n1 n2 n3 n4 n5 n6 n7 b q C (S ++ [x])) (h2 : ∀ i, i < S.length → ∃ ai ci, xs[i * 5]? = some (.int .i64 (S.getD i st0).1) ∧ xs[i * 5 + 1]? = some (.string (mkL (S.getD i st0).2.1)) ∧ xs[i * 5 + 2]? = some (.int .i64 (S.getD i st0).2.2.1) ∧ xs[i * 5 + 3]? = some (.int .i64 (S.getD i st0).2.2.2.1) ∧ xs[i * 5 + 4]? = some (.slice ai (S.getD i st0).2.2.2.2.length ci) ∧ owS w 0 (.slice ai (S.getD i st0).2.2.2.2.length ci) (S.getD i st0).2.2.2.2) (hn : x.2.2.2.2.length = m) (hw : w.ownsRow B 38 5 sv S.length xs) (hx : owS w 0 (.slice a m c) x.2.2.2.2) (ho : w1.ownsRow B 38 5 v' (S.length + 1) (xs ++ [.int .i64 x.1, .string (mkL x.2.1), .int .i64 x.2.2.1, .int .i64 x.2.2.2.1, .slice a m c])) (hg : w.grownBy w1 sv.ownBlock) : PsI T X g B P (k + 1) n0 n1 n2 n3 n4 n5 n6 n7 b q C (S ++ [x]) cv v' w0 (w1.setCell ⟨X, 11, none⟩ v') := by
  have hlt := h.lt
  have hB := h.cr.le
  have kb : ∀ j, j < B → w1.heap[j]? = w.heap[j]? := fun j hj => hg.block j (by omega) (fun e => by have := (hw.lt j e.symm).1; omega)
  have S1 := StSt.next h2 hn hw hx ho hg hB
  have C1 := h.cr.grown hw hg (by decide) (by decide)
  have b1 : w1.heap[X]? = _ := (kb X (by omega)).trans h.box
  have hne : ∀ j, j ≠ X → (w1.setCell ⟨X, 11, none⟩ v').heap[j]? = w1.heap[j]? := fun j hj => Below.heap_setCell w1 ⟨X, 11, none⟩ v' j hj
  refine ⟨(hne T (by omega)).trans ((kb T (by omega)).trans h.res), blk_set b1 11 v', ⟨?_, fun i hi => ?_⟩, C1.set b1 (by decide) (by decide) 11 v', S1.set b1 (by decide) (by decide) 11 v', ?_, hlt, hK⟩
  · have := h.row.1; have := hg.size; simp [World.setCell]; omega
  · exact (cell_blk ((hne g (by omega)).trans (kb g (by omega))) i).trans (h.row.2 i hi)
  · exact (Below.mk (hg.os.trans h.bl.os) (hg.tape.trans h.bl.tape) (hg.output.trans h.bl.output) (Nat.le_trans h.bl.size hg.size) (fun j hj => (kb j (by omega)).trans (h.bl.block j hj))).setCell (p := ⟨X, 11, none⟩) (by show _ ≤ X; omega) v'
theorem PsI.conf {m0 m1 m2 m3 m4 m5 m6 m7 : Int} {b2 : Bool} {q2 : List UInt8} (h : PsI T X g B P k n0 n1 n2 n3 n4 n5 n6 n7 b q [] [] (.slice none 0 0) (.slice none 0 0) w0 w) (hK : PsK P (k + 1) m0 m1 m2 m3 m4 m5 m6 m7 b2 q2 [] []) : PsI T X g B P (k + 1) m0 m1 m2 m3 m4 m5 m6 m7 b2 q2 [] [] (.slice none 0 0) (.slice none 0 0) w0 (sxt w X (.int .i64 m0) (.int .i64 m1) (.int .i64 m2) (.int .i64 m3) (.int .i64 m4) (.int .i64 m5) (.int .i64 m6) (.int .i64 m7) (.bool b2) (.string (mkL q2))) := by
  have hlt := h.lt
  have hB := h.cr.le
  refine ⟨(sxt_blk _ _ _ _ _ _ _ _ _ _ _ _ (by omega)).trans h.res, sxt_res h.box _ _ _ _ _ _ _ _ _ _, ⟨?_, fun i hi => ?_⟩, ⟨⟨[], World.ownsRow_nil _ _ _ _, fun i hi => absurd hi (Nat.not_lt_zero i)⟩, ?_⟩, ⟨⟨[], World.ownsRow_nil _ _ _ _, fun i hi => absurd hi (Nat.not_lt_zero i)⟩, ?_⟩, sxt_below h.bl (by omega) _ _ _ _ _ _ _ _ _ _, hlt, hK⟩
  · rw [sxt_size]; exact h.row.1
  · exact (cell_blk (sxt_blk _ _ _ _ _ _ _ _ _ _ _ _ (by omega)) i).trans (h.row.2 i hi)
  · rw [sxt_size]; exact hB
  · rw [sxt_size]; exact hB
end
set_option maxRecDepth 100000 in
set_option maxHeartbeats 16000000 in
theorem tparse_ten (r : List UInt8) (w : World) (hl : r.length ≤ 200000) : Calls Tryd.prog 17 #[.string (mkL (r ++ [10]))] w (PsPost (prA (pcB 10 r)) 10 w) := by
  have SF := Lib.hid fun w => Tryd.strings_HasSuffix (mkL (r ++ [10])) ⟨#[10]⟩ w (by rw [mkL_size, List.length_append, List.length_singleton]; omega)
  rw [show Lib.hasSuffix (mkL (r ++ [10])).data.toList (⟨#[10]⟩ : ByteArray).data.toList = true from (tsuf_yes r).1] at SF
  have TF := Lib.hid fun w => Tryd.strings_TrimSuffix (mkL (r ++ [10])) ⟨#[10]⟩ w (by rw [mkL_size, List.length_append, List.length_singleton]; omega)
  rw [show (⟨(Lib.trimSuffix (mkL (r ++ [10])).data.toList (⟨#[10]⟩ : ByteArray).data.toList).toArray⟩ : ByteArray) = mkL r from congrArg mkL (tsuf_yes r).2] at TF
  have SP := Lib.hid fun w => splitb_any 10 r w (by omega)
  have hpl := pcB_len 10 r
  have HP := Lib.hid (show ∀ x ∈ pcB 10 r, x.length ≤ 300000 from fun x hx => by have := pcB_mem 10 r x hx; omega)
  have HP0 := Lib.hid (show 1 ≤ (pcB 10 r).length by unfold pcB; simp)
  generalize mkL (r ++ [10]) = S0 at *
  generalize mkL r = R at *
  generalize pcB 10 r = P at *
  obtain ⟨n, hn⟩ : ∃ n, P.length = n := ⟨_, rfl⟩
  rw [hn] at SP hpl HP0
  have hn9 : n ≤ 200001 := by omega
  have HN := Lib.hid hn
  clear hn hpl
  have b0 := below_alloc w (.cells #[.int .i64 0, .int .i64 0, .int .i64 0, .int .i64 0, .int .i64 0, .int .i64 0, .int .i64 0, .int .i64 0, .bool false, .string ⟨#[]⟩, .slice none 0 0, .slice none 0 0] 27)
  have r0 := heap_alloc_new w (.cells #[.int .i64 0, .int .i64 0, .int .i64 0, .int .i64 0, .int .i64 0, .int .i64 0, .int .i64 0, .int .i64 0, .bool false, .string ⟨#[]⟩, .slice none 0 0, .slice none 0 0] 27)
  obtain ⟨W0, hW0⟩ : ∃ W0, w.alloc (.cells #[.int .i64 0, .int .i64 0, .int .i64 0, .int .i64 0, .int .i64 0, .int .i64 0, .int .i64 0, .int .i64 0, .bool false, .string ⟨#[]⟩, .slice none 0 0, .slice none 0 0] 27) = W0 := ⟨_, rfl⟩
  rw [hW0] at b0 r0
  have B0 := Lib.hid b0
  have R0 := Lib.hid r0
  clear b0 r0
  obtain ⟨T, hT⟩ : ∃ T, w.heap.size = T := ⟨_, rfl⟩
  go_enter Tryd.func17, Tryd.ntmps17
  go_wp2
  go_step3
  go_upto_region 4 with (go_at_call 64; refine (SF.out _).mono ?_; rintro e w1 ⟨rfl, hw⟩; replace hw := hw.symm; subst hw)
  have b1 := below_alloc W0 (.cells #[.int .i64 0, .int .i64 0, .int .i64 0, .int .i64 0, .int .i64 0, .int .i64 0, .int .i64 0, .int .i64 0, .bool false, .string ⟨#[]⟩, .slice none 0 0, .slice none 0 0] 27)
  have r1 := heap_alloc_new W0 (.cells #[.int .i64 0, .int .i64 0, .int .i64 0, .int .i64 0, .int .i64 0, .int .i64 0, .int .i64 0, .int .i64 0, .bool false, .string ⟨#[]⟩, .slice none 0 0, .slice none 0 0] 27)
  obtain ⟨X, hX⟩ : ∃ X, W0.heap.size = X := ⟨_, rfl⟩
  obtain ⟨W1, hW1⟩ : ∃ W1, W0.alloc (.cells #[.int .i64 0, .int .i64 0, .int .i64 0, .int .i64 0, .int .i64 0, .int .i64 0, .int .i64 0, .int .i64 0, .bool false, .string ⟨#[]⟩, .slice none 0 0, .slice none 0 0] 27) = W1 := ⟨_, rfl⟩
  rw [hW1] at b1 r1 ⊢
  rw [hX] at r1 ⊢
  have hTX := Lib.hid (show T < X by rw [← hX, ← hT]; exact blk_lt R0.out)
  have R1 := Lib.hid (blk_below R0.out b1)
  have B1 := Lib.hid (seqB B0.out b1)
  have X1 := Lib.hid r1
  have hXW := Lib.hid (blk_lt r1)
  clear b1 r1 hX hW1 hW0 R0 B0
  go_wp2
  go_step3
  go_upto_region 6 with (first
    | (go_at_call 66; refine (TF.out _).mono ?_; rintro e w1 ⟨rfl, hw⟩; replace hw := hw.symm; subst hw)
    | (go_at_call 65; refine (SP.out _).mono ?_; rintro e w2 ⟨rfl, hpc, hb2⟩; have PC := Lib.hid hpc; have B2 := Lib.hid hb2; clear hpc hb2))
  obtain ⟨B, hB⟩ : ∃ B, w2.heap.size = B := ⟨_, rfl⟩
  obtain ⟨g, hg⟩ : ∃ g, W1.heap.size = g := ⟨_, rfl⟩
  have HB0 := Lib.hid (show B ≤ w2.heap.size by omega)
  have hXg : X < g := by rw [← hg]; exact hXW.out
  have hgB : g < B := by rw [← hB, ← hg]; exact PC.out.1
  rw [hg] at PC ⊢
  have I0 : Hid (PsI T X g B P 0 0 0 0 0 0 0 0 0 false [] [] [] (.slice none 0 0) (.slice none 0 0) w w2) := Lib.hid ⟨by rw [← hT]; exact blk_below R1.out B2.out, blk_below X1.out B2.out, PC.out, ⟨⟨[], World.ownsRow_nil _ _ _ _, fun i hi => absurd hi (Nat.not_lt_zero i)⟩, HB0.out⟩, ⟨⟨[], World.ownsRow_nil _ _ _ _, fun i hi => absurd hi (Nat.not_lt_zero i)⟩, HB0.out⟩, seqB B1.out B2.out, ⟨by omega, hTX.out, hXg, hgB⟩, .inl ⟨rfl, rfl, rfl⟩⟩
  obtain ⟨i0, hi, hv0, hv1, hv2⟩ := info_parts infoCrE
  obtain ⟨j0, hj, hy0, hy1, hy2⟩ := info_parts infoStE
  clear SF TF SP B1 B2 R1 X1 PC HB0 hXg hgB hg hB hTX hXW
  go_loopw [5, 23] (fun ev iv wr => ∃ (k : Nat) (n0 n1 n2 n3 n4 n5 n6 n7 : Int) (b : Bool) (q : List UInt8) (C : List Crs) (S : List Stp) (cv sv : Value), k ≤ n ∧ ev = .int .i64 0 ∧ iv = .int .i64 (k : Int) ∧ Hid (PsI T X g B P k n0 n1 n2 n3 n4 n5 n6 n7 b q C S cv sv w wr) ∧ Hid (C.length + S.length ≤ k) ∧ Hid (k = 0 → cv = .slice none 0 0 ∧ sv = .slice none 0 0)) (fun _ iv _ => n - (intOf iv).toNat)
  case atStart => exact ⟨0, 0, 0, 0, 0, 0, 0, 0, 0, false, [], [], [], _, _, Nat.zero_le _, rfl, rfl, I0, Lib.hid (Nat.le_refl 0), Lib.hid (fun _ => ⟨rfl, rfl⟩)⟩
  case round =>
    obtain ⟨k, n0, n1, n2, n3, n4, n5, n6, n7, b, q, C, S, cv, sv, hk, rfl, rfl, HI, HL, HZ⟩ := hrel
    clear I0
    by_cases hlt : k < n
    · have hk1 : (k : Int) < (n : Int) := by omega
      have hk0 : (0 : Int) ≤ (k : Int) := by omega
      have hlt' : k < P.length := by rw [HN.out]; exact hlt
      have HLT := Lib.hid hlt'
      have ccl := HI.out.row.2 k hlt'
      have hpm := HP.out _ (getD_memX [] hlt')
      by_cases hz : k = 0
      · subst hz
        obtain ⟨hcv, hsv⟩ := HZ.out rfl
        obtain ⟨rfl, rfl⟩ : C = [] ∧ S = [] := by
          rcases HI.out.k with ⟨_, h1, h2⟩ | ⟨h1, _⟩
          · exact ⟨h1, h2⟩
          · omega
        subst hcv; subst hsv
        have CN0 := tconfof_any (P.getD 0 []) wr hpm
        clear HL HZ hpm hk hlt
        cases hF : rdF (pcB 32 (P.getD 0 [])) with
        | none =>
          have PF : Hid (∀ w', Below w.heap.size w w' → PsPost (prA P) 10 w (.returned (.tuple #[.agg #[.int .i64 0, .int .i64 0, .int .i64 0, .int .i64 0, .int .i64 0, .int .i64 0, .int .i64 0, .int .i64 0, .bool false, .string ⟨#[]⟩, .slice none 0 0, .slice none 0 0], .int .i64 10])) w') := Lib.hid (fun w' hb => by rw [psk_no hlt' hF]; exact ⟨rfl, hb⟩)
          rw [hF] at CN0
          have CN := Lib.hid CN0
          clear CN0 hF hlt'
          generalize mkL (P.getD 0 []) = ls at *
          go_upto_region 10 with (go_at_call 67; refine CN.out.mono ?_; rintro e w3 ⟨⟨m0, m1, m2, m3, m4, m5, m6, m7, b2, q2, rfl, hF2⟩, hb3⟩)
          have I3 := Lib.hid ((HI.out.below hb3).below (below_alloc w3 (.cells #[.int .i64 m0, .int .i64 m1, .int .i64 m2, .int .i64 m3, .int .i64 m4, .int .i64 m5, .int .i64 m6, .int .i64 m7, .bool b2, .string (mkL q2)] 23)))
          obtain ⟨W3, hW3⟩ : ∃ W3, w3.alloc (.cells #[.int .i64 m0, .int .i64 m1, .int .i64 m2, .int .i64 m3, .int .i64 m4, .int .i64 m5, .int .i64 m6, .int .i64 m7, .bool b2, .string (mkL q2)] 23) = W3 := ⟨_, rfl⟩
          rw [hW3] at I3 ⊢
          clear hW3 hF2 hb3 CN ccl
          have hres := I3.out.res
          have tt := fun i => cell_of_row _ _ i _ _ _ hres
          have t0 := tt 0; have t1 := tt 1; have t2 := tt 2; have t3 := tt 3; have t4 := tt 4; have t5 := tt 5; have t6 := tt 6; have t7 := tt 7; have t8 := tt 8; have t9 := tt 9; have t10 := tt 10; have t11 := tt 11
          dsimp at t0 t1 t2 t3 t4 t5 t6 t7 t8 t9 t10 t11
          have zf := fun i => frozen_of_row _ T i _ _ hres
          have BF := Lib.hid (set12_below I3.out.bl I3.out.lt.1 (.int .i64 0) (.int .i64 0) (.int .i64 0) (.int .i64 0) (.int .i64 0) (.int .i64 0) (.int .i64 0) (.int .i64 0) (.bool false) (.string ⟨#[]⟩) (.slice none 0 0) (.slice none 0 0))
          have RF := Lib.hid (set12_res hres (.int .i64 0) (.int .i64 0) (.int .i64 0) (.int .i64 0) (.int .i64 0) (.int .i64 0) (.int .i64 0) (.int .i64 0) (.bool false) (.string ⟨#[]⟩) (.slice none 0 0) (.slice none 0 0))
          clear hres tt I3 HI HP HN HP0
          go_wp2
          try rw [Exit.noGoto_ret]
          have RF' := RF.out
          have BF' := BF.out
          unfold set12 at RF' BF'
          generalize World.setCell _ _ _ = WF at *
          have kk := fun i => cell_of_row _ _ i _ _ _ RF'
          have k0 := kk 0; have k1 := kk 1; have k2 := kk 2; have k3 := kk 3; have k4 := kk 4; have k5 := kk 5; have k6 := kk 6; have k7 := kk 7; have k8 := kk 8; have k9 := kk 9; have k10 := kk 10; have k11 := kk 11
          dsimp at k0 k1 k2 k3 k4 k5 k6 k7 k8 k9 k10 k11
          refine bodyPost_ret (v := .tuple #[.agg #[.int .i64 0, .int .i64 0, .int .i64 0, .int .i64 0, .int .i64 0, .int .i64 0, .int .i64 0, .int .i64 0, .bool false, .string ⟨#[]⟩, .slice none 0 0, .slice none 0 0], .int .i64 10]) (by simp [results, Tryd.results17, go_sem, k0, k1, k2, k3, k4, k5, k6, k7, k8, k9, k10, k11]) rfl ?_
          exact PF.out _ BF'
        | some f =>
          rw [hF] at CN0
          have CN := Lib.hid CN0
          have HF := Lib.hid hF
          clear CN0 hF hlt'
          generalize hls : mkL (P.getD 0 []) = ls at *
          clear hls
          go_upto_region 10 with (go_at_call 67; refine CN.out.mono ?_; rintro e w3 ⟨⟨m0, m1, m2, m3, m4, m5, m6, m7, b2, q2, rfl, hF2⟩, hb3⟩)
          have hF3 := HF.out
          rw [hF2 f rfl] at hF3
          have I3a := (HI.out.below hb3).below (below_alloc w3 (.cells #[.int .i64 m0, .int .i64 m1, .int .i64 m2, .int .i64 m3, .int .i64 m4, .int .i64 m5, .int .i64 m6, .int .i64 m7, .bool b2, .string (mkL q2)] 23))
          have r3 := heap_alloc_new w3 (.cells #[.int .i64 m0, .int .i64 m1, .int .i64 m2, .int .i64 m3, .int .i64 m4, .int .i64 m5, .int .i64 m6, .int .i64 m7, .bool b2, .string (mkL q2)] 23)
          obtain ⟨Y, hY⟩ : ∃ Y, w3.heap.size = Y := ⟨_, rfl⟩
          obtain ⟨W3, hW3⟩ : ∃ W3, w3.alloc (.cells #[.int .i64 m0, .int .i64 m1, .int .i64 m2, .int .i64 m3, .int .i64 m4, .int .i64 m5, .int .i64 m6, .int .i64 m7, .bool b2, .string (mkL q2)] 23) = W3 := ⟨_, rfl⟩
          rw [hW3] at I3a r3 ⊢
          rw [hY] at r3 ⊢
          have HYX : ∀ (v : Value) (i : Nat) (W : World) (j : Nat), W.cell? ⟨Y, j, none⟩ = W.cell? ⟨Y, j, none⟩ := fun _ _ _ _ => rfl
          have I4 := Lib.hid (I3a.conf (psk_conf hF3))
          have hb : W3.heap[X]? = some (.cells #[.int .i64 n0, .int .i64 n1, .int .i64 n2, .int .i64 n3, .int .i64 n4, .int .i64 n5, .int .i64 n6, .int .i64 n7, .bool b, .string (mkL q), .slice none 0 0, .slice none 0 0] 27 (0, 0)) := I3a.box
          have xx := fun i => cell_of_row _ _ i _ _ _ hb
          have x0 := xx 0; have x1 := xx 1; have x2 := xx 2; have x3 := xx 3; have x4 := xx 4; have x5 := xx 5; have x6 := xx 6; have x7 := xx 7; have x8 := xx 8; have x9 := xx 9
          dsimp at x0 x1 x2 x3 x4 x5 x6 x7 x8 x9
          have zf := fun i => frozen_of_row _ X i _ _ hb
          have ff := fun i => cell_of_row _ _ i _ _ _ r3
          have f0 := ff 0; have f1 := ff 1; have f2 := ff 2; have f3 := ff 3; have f4 := ff 4; have f5 := ff 5; have f6 := ff 6; have f7 := ff 7; have f8 := ff 8; have f9 := ff 9
          dsimp at f0 f1 f2 f3 f4 f5 f6 f7 f8 f9
          have hYX : Y ≠ X := fun e => by
            have := I3a.lt
            have := I3a.cr.le
            subst e
            have h1 := blk_lt HI.out.box
            have h2 := hb3.size
            omega
          clear hW3 hY hF2 hF3 HF hb3 CN ccl HYX hb xx ff r3 I3a HI
          go_wp2
          go_roundw
          case rel => exact ⟨1, m0, m1, m2, m3, m4, m5, m6, m7, b2, q2, [], [], _, _, by omega, rfl, by go_num, I4, Lib.hid (Nat.zero_le _), Lib.hid (fun h => by cases h)⟩
          case measure => (simp [intOf]; try omega)
      · have hz1 : ((k : Int) == 0) = false := beqF (by omega)
        have h1k := Lib.hid (show 1 ≤ k by omega)
        obtain ⟨ca, cq, hcv, _⟩ := HI.out.cr.crs
        obtain ⟨sa, sc, hsv, _⟩ := HI.out.st.sps
        obtain ⟨cc, hcc'⟩ : ∃ cc : Nat, cq = cc := ⟨_, rfl⟩
        rw [hcc'] at hcv
        clear hcc'
        subst hcv; subst hsv
        obtain ⟨nc, hnc⟩ : ∃ nc, C.length = nc := ⟨_, rfl⟩
        obtain ⟨ns, hns⟩ : ∃ ns, S.length = ns := ⟨_, rfl⟩
        rw [hnc, hns] at HI
        have hln := HL.out
        rw [hnc, hns] at hln
        have HNC := Lib.hid hnc
        have HNS := Lib.hid hns
        have CO0 := tcrashof_any (P.getD k []) wr hpm
        have SO0 := fun w' => tstepof_any (P.getD k []) w' hpm
        clear HZ hpm hlt' hz
        obtain ⟨rc, hrc⟩ : ∃ rc, rdC (pcB 32 (P.getD k [])) = rc := ⟨_, rfl⟩
        obtain ⟨rs, hrs⟩ : ∃ rs, rdS (pcB 32 (P.getD k [])) = rs := ⟨_, rfl⟩
        rw [hrc] at CO0
        rw [hrs] at SO0
        have HRC := Lib.hid hrc
        have HRS := Lib.hid hrs
        clear hrc hrs
        generalize mkL (P.getD k []) = ls at *
        have k9 : k ≤ 200001 := by omega
        rcases rc with _ | cr
        · have HNO : Hid ((if S = [] then rdC (pcB 32 (P.getD k [])) else none) = none) := Lib.hid (by rw [HRC.out]; split <;> rfl)
          clear hnc hns
          rcases rs with _ | xs
          · skip
            have CO := Lib.hid CO0
            have SO := Lib.hid SO0
            go_upto_region 14 with (go_at_call 68; refine CO.out.mono ?_; rintro e w3 ⟨⟨x, a2, m2, c2, rfl, hcr0⟩, hb3⟩; have hcr := Lib.hid hcr0; clear hcr0)
            have b3 := below_alloc w3 (.cells #[.int .i64 x, .slice a2 m2 c2] 97)
            have I3 := Lib.hid ((HI.out.below hb3).below b3)
            have r3 := heap_alloc_new w3 (.cells #[.int .i64 x, .slice a2 m2 c2] 97)
            obtain ⟨Y, hY⟩ : ∃ Y, w3.heap.size = Y := ⟨_, rfl⟩
            obtain ⟨W3, hW3⟩ : ∃ W3, w3.alloc (.cells #[.int .i64 x, .slice a2 m2 c2] 97) = W3 := ⟨_, rfl⟩
            rw [hW3] at I3 ⊢
            clear hcr
            have hbx : W3.heap[X]? = some (.cells #[.int .i64 n0, .int .i64 n1, .int .i64 n2, .int .i64 n3, .int .i64 n4, .int .i64 n5, .int .i64 n6, .int .i64 n7, .bool b, .string (mkL q), .slice ca nc cc, .slice sa ns sc] 27 (0, 0)) := I3.out.box
            have xx := fun i => cell_of_row _ _ i _ _ _ hbx
            have x10 := xx 10; have x11 := xx 11
            dsimp at x10 x11
            clear hbx xx
            clear hW3 hY b3 hb3 CO r3 CO0 SO0 ccl
            go_upto_region 17 with (go_at_call 69; refine (SO.out _).mono ?_; rintro e w4 ⟨⟨sk, st, sn, sm, a4, l4, c4, rfl, hst0⟩, hb4⟩; have hst := Lib.hid hst0; clear hst0)
            have b5 := below_alloc w4 (.cells #[.int .i64 sk, .string (mkL st), .int .i64 sn, .int .i64 sm, .slice a4 l4 c4] 38)
            have I5 := Lib.hid ((I3.out.below hb4).below b5)
            have PF : Hid (∀ w', Below w.heap.size w w' → PsPost (prA P) 10 w (.returned (.tuple #[.agg #[.int .i64 0, .int .i64 0, .int .i64 0, .int .i64 0, .int .i64 0, .int .i64 0, .int .i64 0, .int .i64 0, .bool false, .string ⟨#[]⟩, .slice none 0 0, .slice none 0 0], .int .i64 10])) w') := Lib.hid (fun w' hb => by rw [psk_fail I3.out.k h1k.out HLT.out HNO.out HRS.out]; exact ⟨rfl, hb⟩)
            obtain ⟨W5, hW5⟩ : ∃ W5, w4.alloc (.cells #[.int .i64 sk, .string (mkL st), .int .i64 sn, .int .i64 sm, .slice a4 l4 c4] 38) = W5 := ⟨_, rfl⟩
            rw [hW5] at I5 ⊢
            clear hW5 b5 hb4 hst SO x10 x11 I3
            have hres := I5.out.res
            have tt := fun i => cell_of_row _ _ i _ _ _ hres
            have t0 := tt 0; have t1 := tt 1; have t2 := tt 2; have t3 := tt 3; have t4 := tt 4; have t5 := tt 5; have t6 := tt 6; have t7 := tt 7; have t8 := tt 8; have t9 := tt 9; have t10 := tt 10; have t11 := tt 11
            dsimp at t0 t1 t2 t3 t4 t5 t6 t7 t8 t9 t10 t11
            have zf := fun i => frozen_of_row _ T i _ _ hres
            have BF := Lib.hid (set12_below I5.out.bl I5.out.lt.1 (.int .i64 0) (.int .i64 0) (.int .i64 0) (.int .i64 0) (.int .i64 0) (.int .i64 0) (.int .i64 0) (.int .i64 0) (.bool false) (.string ⟨#[]⟩) (.slice none 0 0) (.slice none 0 0))
            have RF := Lib.hid (set12_res hres (.int .i64 0) (.int .i64 0) (.int .i64 0) (.int .i64 0) (.int .i64 0) (.int .i64 0) (.int .i64 0) (.int .i64 0) (.bool false) (.string ⟨#[]⟩) (.slice none 0 0) (.slice none 0 0))
            clear hres tt I5 HI HP HN HP0 HL HNC HNS
            go_wp2
            try rw [Exit.noGoto_ret]
            have RF' := RF.out
            have BF' := BF.out
            unfold set12 at RF' BF'
            generalize World.setCell _ _ _ = WF at *
            have kk := fun i => cell_of_row _ _ i _ _ _ RF'
            have k0 := kk 0; have k1 := kk 1; have k2 := kk 2; have k3 := kk 3; have k4 := kk 4; have k5 := kk 5; have k6 := kk 6; have k7 := kk 7; have k8 := kk 8; have k9 := kk 9; have k10 := kk 10; have k11 := kk 11
            dsimp at k0 k1 k2 k3 k4 k5 k6 k7 k8 k9 k10 k11
            refine bodyPost_ret (v := .tuple #[.agg #[.int .i64 0, .int .i64 0, .int .i64 0, .int .i64 0, .int .i64 0, .int .i64 0, .int .i64 0, .int .i64 0, .bool false, .string ⟨#[]⟩, .slice none 0 0, .slice none 0 0], .int .i64 10]) (by simp [results, Tryd.results17, go_sem, k0, k1, k2, k3, k4, k5, k6, k7, k8, k9, k10, k11]) rfl ?_
            exact PF.out _ BF'
          · skip
            have CO := Lib.hid CO0
            have SO := Lib.hid SO0
            go_upto_region 14 with (go_at_call 68; refine CO.out.mono ?_; rintro e w3 ⟨⟨x, a2, m2, c2, rfl, hcr0⟩, hb3⟩; have hcr := Lib.hid hcr0; clear hcr0)
            have b3 := below_alloc w3 (.cells #[.int .i64 x, .slice a2 m2 c2] 97)
            have I3 := Lib.hid ((HI.out.below hb3).below b3)
            have r3 := heap_alloc_new w3 (.cells #[.int .i64 x, .slice a2 m2 c2] 97)
            obtain ⟨Y, hY⟩ : ∃ Y, w3.heap.size = Y := ⟨_, rfl⟩
            obtain ⟨W3, hW3⟩ : ∃ W3, w3.alloc (.cells #[.int .i64 x, .slice a2 m2 c2] 97) = W3 := ⟨_, rfl⟩
            rw [hW3] at I3 ⊢
            clear hcr
            have hbx : W3.heap[X]? = some (.cells #[.int .i64 n0, .int .i64 n1, .int .i64 n2, .int .i64 n3, .int .i64 n4, .int .i64 n5, .int .i64 n6, .int .i64 n7, .bool b, .string (mkL q), .slice ca nc cc, .slice sa ns sc] 27 (0, 0)) := I3.out.box
            have xx := fun i => cell_of_row _ _ i _ _ _ hbx
            have x10 := xx 10; have x11 := xx 11
            dsimp at x10 x11
            clear hbx xx
            clear hW3 hY b3 hb3 CO r3 CO0 SO0 ccl
            go_upto_region 17 with (go_at_call 69; refine (SO.out _).mono ?_; rintro e w4 ⟨⟨sk, st, sn, sm, a4, l4, c4, rfl, hst0⟩, hb4⟩; have hst := Lib.hid hst0; clear hst0)
            have b5 := below_alloc w4 (.cells #[.int .i64 sk, .string (mkL st), .int .i64 sn, .int .i64 sm, .slice a4 l4 c4] 38)
            have I5 := Lib.hid ((I3.out.below hb4).below b5)
            obtain ⟨rfl, rfl, rfl, rfl, hl4, hos⟩ := hst.out xs rfl
            have r5 := heap_alloc_new w4 (.cells #[.int .i64 xs.1, .string (mkL xs.2.1), .int .i64 xs.2.2.1, .int .i64 xs.2.2.2.1, .slice a4 l4 c4] 38)
            have O5 := Lib.hid (owS_below hos b5)
            obtain ⟨Y5, hY5⟩ : ∃ Y5, w4.heap.size = Y5 := ⟨_, rfl⟩
            obtain ⟨W5, hW5⟩ : ∃ W5, w4.alloc (.cells #[.int .i64 xs.1, .string (mkL xs.2.1), .int .i64 xs.2.2.1, .int .i64 xs.2.2.2.1, .slice a4 l4 c4] 38) = W5 := ⟨_, rfl⟩
            rw [hW5] at I5 r5 O5 ⊢
            rw [hY5] at r5 ⊢
            have ss := fun i => cell_of_row _ _ i _ _ _ r5
            have s0 := ss 0; have s1 := ss 1; have s2 := ss 2; have s3 := ss 3; have s4 := ss 4
            dsimp at s0 s1 s2 s3 s4
            have HL4 := Lib.hid hl4
            clear x10 x11
            have hbx : W5.heap[X]? = some (.cells #[.int .i64 n0, .int .i64 n1, .int .i64 n2, .int .i64 n3, .int .i64 n4, .int .i64 n5, .int .i64 n6, .int .i64 n7, .bool b, .string (mkL q), .slice ca nc cc, .slice sa ns sc] 27 (0, 0)) := I5.out.box
            have xx := fun i => cell_of_row _ _ i _ _ _ hbx
            have x10 := xx 10; have x11 := xx 11
            dsimp at x10 x11
            clear hbx xx
            clear hW5 hY5 b5 hb4 hst SO r5 ss hos hl4
            go_upto_region 19 with fail
            have BA := below_alloc W5 (.cells #[.int .i64 xs.1, .string (mkL xs.2.1), .int .i64 xs.2.2.1, .int .i64 xs.2.2.2.1, .slice a4 l4 c4] 38)
            have I6 := Lib.hid (I5.out.below BA)
            have O6 := Lib.hid (owS_below O5.out BA)
            have hnew : ∀ j x, ([Value.int .i64 xs.1, Value.string (mkL xs.2.1), Value.int .i64 xs.2.2.1, Value.int .i64 xs.2.2.2.1, Value.slice a4 l4 c4] : List Value)[j]? = some x → (W5.alloc (.cells #[.int .i64 xs.1, .string (mkL xs.2.1), .int .i64 xs.2.2.1, .int .i64 xs.2.2.2.1, .slice a4 l4 c4] 38)).cell? ((⟨W5.heap.size, 0, none⟩ : Addr).add j) = some x := (fun j x hj => app_cells (by simp) hj)
            obtain ⟨es, hew, hes⟩ := I6.out.st.ex
            rw [HNS.out] at hew
            clear BA
            go_wp2_with (at_builtin; refine wpList_append_own _ rfl _ _ 25 rfl B 38 j0 _ 5 64 Tryd.underlying25 hj hy0 hy1 hy2 rfl (by decide) _ ns es rfl hew ⟨_, 0, none⟩ 1 1 [.int .i64 xs.1, .string (mkL xs.2.1), .int .i64 xs.2.2.1, .int .i64 xs.2.2.2.1, .slice a4 l4 c4] rfl rfl hnew (by intro x hx; simp at hx; rcases hx with rfl | rfl | rfl | rfl | rfl <;> rfl) ?g3 ?g4 I6.out.st.le ?_)
            case g3 => unfold maxLen; omega
            case g4 => omega
            intro v' w7 hown hgrow _
            rw [← HNS.out] at hown
            have I7 := Lib.hid (PsI.step I6.out (psk_step I6.out.k h1k.out HLT.out HNO.out HRS.out) hes HL4.out (by rw [HNS.out]; exact hew) O6.out hown hgrow)
            have hbx : w7.heap[X]? = some (.cells #[.int .i64 n0, .int .i64 n1, .int .i64 n2, .int .i64 n3, .int .i64 n4, .int .i64 n5, .int .i64 n6, .int .i64 n7, .bool b, .string (mkL q), .slice ca nc cc, .slice sa ns sc] 27 (0, 0)) := (hgrow.block X (blk_lt I6.out.box) (fun e => own_ne_kind hew I6.out.box (by decide) e.symm)).trans I6.out.box
            have x11 := cell_of_row _ _ 11 _ _ _ hbx
            have z11 := frozen_of_row _ X 11 _ _ hbx
            dsimp at x11
            obtain ⟨ao, no, co, rfl⟩ : ∃ ao no co, v' = .slice ao no co := by
              obtain ⟨ao, co, e, _⟩ := (StSt.sps (B := B) (v := v') (S := S ++ [xs]) (w := w7.setCell ⟨X, 11, none⟩ v') I7.out.st)
              exact ⟨_, _, _, e⟩
            clear hown hgrow hew hes hbx O5 O6 I3 I5 I6
            go_wp2
            go_roundw
            case rel => exact ⟨k + 1, n0, n1, n2, n3, n4, n5, n6, n7, b, q, C, S ++ [xs], _, _, by omega, rfl, by go_num, I7, Lib.hid (by have := HL.out; rw [List.length_append, List.length_singleton]; omega), Lib.hid (fun h => absurd h (by omega))⟩
            case measure => (simp [intOf]; try omega)
        · by_cases hS : S = []
          · subst hS
            obtain rfl : ns = 0 := hns.symm
            clear hnc hns
            skip
            have CO := Lib.hid CO0
            go_upto_region 14 with (go_at_call 68; refine CO.out.mono ?_; rintro e w3 ⟨⟨x, a2, m2, c2, rfl, hcr0⟩, hb3⟩; have hcr := Lib.hid hcr0; clear hcr0)
            have b3 := below_alloc w3 (.cells #[.int .i64 x, .slice a2 m2 c2] 97)
            have I3 := Lib.hid ((HI.out.below hb3).below b3)
            have r3 := heap_alloc_new w3 (.cells #[.int .i64 x, .slice a2 m2 c2] 97)
            obtain ⟨Y, hY⟩ : ∃ Y, w3.heap.size = Y := ⟨_, rfl⟩
            obtain ⟨W3, hW3⟩ : ∃ W3, w3.alloc (.cells #[.int .i64 x, .slice a2 m2 c2] 97) = W3 := ⟨_, rfl⟩
            obtain ⟨rfl, hm2, hku⟩ := hcr.out cr rfl
            have U3 := Lib.hid (hku.below b3)
            rw [hW3] at I3 r3 U3 ⊢
            rw [hY] at r3 ⊢
            have c0 := cell_of_row _ _ 0 _ _ _ r3
            have c1 := cell_of_row _ _ 1 _ _ _ r3
            dsimp at c0 c1
            have hbx : W3.heap[X]? = some (.cells #[.int .i64 n0, .int .i64 n1, .int .i64 n2, .int .i64 n3, .int .i64 n4, .int .i64 n5, .int .i64 n6, .int .i64 n7, .bool b, .string (mkL q), .slice ca nc cc, .slice sa 0 sc] 27 (0, 0)) := I3.out.box
            have xx := fun i => cell_of_row _ _ i _ _ _ hbx
            have x10 := xx 10; have x11 := xx 11
            dsimp at x10 x11
            clear hbx xx
            clear hW3 hY b3 hb3 hcr hku CO r3 CO0 SO0 ccl
            go_upto_region 15 with fail
            have BA := below_alloc W3 (.cells #[.int .i64 cr.1, .slice a2 m2 c2] 97)
            have I4 := Lib.hid (I3.out.below BA)
            have U4 := Lib.hid (U3.out.below BA)
            have hnew : ∀ j x, ([Value.int .i64 cr.1, Value.slice a2 m2 c2] : List Value)[j]? = some x → (W3.alloc (.cells #[.int .i64 cr.1, .slice a2 m2 c2] 97)).cell? ((⟨W3.heap.size, 0, none⟩ : Addr).add j) = some x := (fun j x hj => app_cells (by simp) hj)
            obtain ⟨es, hew, hes⟩ := I4.out.cr.ex
            rw [HNC.out] at hew
            have HM2 := Lib.hid hm2
            clear BA hm2
            go_wp2_with (at_builtin; refine wpList_append_own _ rfl _ _ 24 rfl B 97 i0 _ 2 32 Tryd.underlying24 hi hv0 hv1 hv2 rfl (by decide) _ nc es rfl hew ⟨_, 0, none⟩ 1 1 [.int .i64 cr.1, .slice a2 m2 c2] rfl rfl hnew (by intro x hx; simp at hx; rcases hx with rfl | rfl <;> rfl) ?g3 ?g4 I4.out.cr.le ?_)
            case g3 => unfold maxLen; omega
            case g4 => omega
            intro v' w5 hown hgrow _
            rw [← HNC.out] at hown
            have I5 := Lib.hid (PsI.crash I4.out (psk_crash I4.out.k h1k.out HLT.out rfl HRC.out) hes HM2.out.symm (by rw [HNC.out]; exact hew) U4.out hown hgrow)
            have hbx : w5.heap[X]? = some (.cells #[.int .i64 n0, .int .i64 n1, .int .i64 n2, .int .i64 n3, .int .i64 n4, .int .i64 n5, .int .i64 n6, .int .i64 n7, .bool b, .string (mkL q), .slice ca nc cc, .slice sa 0 sc] 27 (0, 0)) := (hgrow.block X (blk_lt I4.out.box) (fun e => own_ne_kind hew I4.out.box (by decide) e.symm)).trans I4.out.box
            have x10 := cell_of_row _ _ 10 _ _ _ hbx
            have z10 := frozen_of_row _ X 10 _ _ hbx
            dsimp at x10
            obtain ⟨ao, no, co, rfl⟩ : ∃ ao no co, v' = .slice ao no co := by
              obtain ⟨ao, co, e, _⟩ := (CrSt.crs (B := B) (v := v') (C := C ++ [cr]) (w := w5.setCell ⟨X, 10, none⟩ v') I5.out.cr)
              exact ⟨_, _, _, e⟩
            clear hown hgrow hew hes hbx U3 U4 I3 I4
            go_wp2
            go_roundw
            case rel => exact ⟨k + 1, n0, n1, n2, n3, n4, n5, n6, n7, b, q, C ++ [cr], [], _, _, by omega, rfl, by go_num, I5, Lib.hid (by have := HL.out; rw [List.length_append, List.length_singleton]; omega), Lib.hid (fun h => absurd h (by omega))⟩
            case measure => (simp [intOf]; try omega)
          · have hns0 : ((ns : Int) == 0) = false := beqF (by
              have : S.length ≠ 0 := fun e => hS (List.length_eq_zero_iff.1 e)
              omega)
            have HNO : Hid ((if S = [] then rdC (pcB 32 (P.getD k [])) else none) = none) := Lib.hid (by rw [if_neg hS])
            clear hnc hns hS
            rcases rs with _ | xs
            · skip
              have CO := Lib.hid CO0
              have SO := Lib.hid SO0
              go_upto_region 14 with (go_at_call 68; refine CO.out.mono ?_; rintro e w3 ⟨⟨x, a2, m2, c2, rfl, hcr0⟩, hb3⟩; have hcr := Lib.hid hcr0; clear hcr0)
              have b3 := below_alloc w3 (.cells #[.int .i64 x, .slice a2 m2 c2] 97)
              have I3 := Lib.hid ((HI.out.below hb3).below b3)
              have r3 := heap_alloc_new w3 (.cells #[.int .i64 x, .slice a2 m2 c2] 97)
              obtain ⟨Y, hY⟩ : ∃ Y, w3.heap.size = Y := ⟨_, rfl⟩
              obtain ⟨W3, hW3⟩ : ∃ W3, w3.alloc (.cells #[.int .i64 x, .slice a2 m2 c2] 97) = W3 := ⟨_, rfl⟩
              rw [hW3] at I3 ⊢
              clear hcr
              have hbx : W3.heap[X]? = some (.cells #[.int .i64 n0, .int .i64 n1, .int .i64 n2, .int .i64 n3, .int .i64 n4, .int .i64 n5, .int .i64 n6, .int .i64 n7, .bool b, .string (mkL q), .slice ca nc cc, .slice sa ns sc] 27 (0, 0)) := I3.out.box
              have xx := fun i => cell_of_row _ _ i _ _ _ hbx
              have x10 := xx 10; have x11 := xx 11
              dsimp at x10 x11
              clear hbx xx
              clear hW3 hY b3 hb3 CO r3 CO0 SO0 ccl
              go_upto_region 17 with (go_at_call 69; refine (SO.out _).mono ?_; rintro e w4 ⟨⟨sk, st, sn, sm, a4, l4, c4, rfl, hst0⟩, hb4⟩; have hst := Lib.hid hst0; clear hst0)
              have b5 := below_alloc w4 (.cells #[.int .i64 sk, .string (mkL st), .int .i64 sn, .int .i64 sm, .slice a4 l4 c4] 38)
              have I5 := Lib.hid ((I3.out.below hb4).below b5)
              have PF : Hid (∀ w', Below w.heap.size w w' → PsPost (prA P) 10 w (.returned (.tuple #[.agg #[.int .i64 0, .int .i64 0, .int .i64 0, .int .i64 0, .int .i64 0, .int .i64 0, .int .i64 0, .int .i64 0, .bool false, .string ⟨#[]⟩, .slice none 0 0, .slice none 0 0], .int .i64 10])) w') := Lib.hid (fun w' hb => by rw [psk_fail I3.out.k h1k.out HLT.out HNO.out HRS.out]; exact ⟨rfl, hb⟩)
              obtain ⟨W5, hW5⟩ : ∃ W5, w4.alloc (.cells #[.int .i64 sk, .string (mkL st), .int .i64 sn, .int .i64 sm, .slice a4 l4 c4] 38) = W5 := ⟨_, rfl⟩
              rw [hW5] at I5 ⊢
              clear hW5 b5 hb4 hst SO x10 x11 I3
              have hres := I5.out.res
              have tt := fun i => cell_of_row _ _ i _ _ _ hres
              have t0 := tt 0; have t1 := tt 1; have t2 := tt 2; have t3 := tt 3; have t4 := tt 4; have t5 := tt 5; have t6 := tt 6; have t7 := tt 7; have t8 := tt 8; have t9 := tt 9; have t10 := tt 10; have t11 := tt 11
              dsimp at t0 t1 t2 t3 t4 t5 t6 t7 t8 t9 t10 t11
              have zf := fun i => frozen_of_row _ T i _ _ hres
              have BF := Lib.hid (set12_below I5.out.bl I5.out.lt.1 (.int .i64 0) (.int .i64 0) (.int .i64 0) (.int .i64 0) (.int .i64 0) (.int .i64 0) (.int .i64 0) (.int .i64 0) (.bool false) (.string ⟨#[]⟩) (.slice none 0 0) (.slice none 0 0))
              have RF := Lib.hid (set12_res hres (.int .i64 0) (.int .i64 0) (.int .i64 0) (.int .i64 0) (.int .i64 0) (.int .i64 0) (.int .i64 0) (.int .i64 0) (.bool false) (.string ⟨#[]⟩) (.slice none 0 0) (.slice none 0 0))
              clear hres tt I5 HI HP HN HP0 HL HNC HNS
              go_wp2
              try rw [Exit.noGoto_ret]
              have RF' := RF.out
              have BF' := BF.out
              unfold set12 at RF' BF'
              generalize World.setCell _ _ _ = WF at *
              have kk := fun i => cell_of_row _ _ i _ _ _ RF'
              have k0 := kk 0; have k1 := kk 1; have k2 := kk 2; have k3 := kk 3; have k4 := kk 4; have k5 := kk 5; have k6 := kk 6; have k7 := kk 7; have k8 := kk 8; have k9 := kk 9; have k10 := kk 10; have k11 := kk 11
              dsimp at k0 k1 k2 k3 k4 k5 k6 k7 k8 k9 k10 k11
              refine bodyPost_ret (v := .tuple #[.agg #[.int .i64 0, .int .i64 0, .int .i64 0, .int .i64 0, .int .i64 0, .int .i64 0, .int .i64 0, .int .i64 0, .bool false, .string ⟨#[]⟩, .slice none 0 0, .slice none 0 0], .int .i64 10]) (by simp [results, Tryd.results17, go_sem, k0, k1, k2, k3, k4, k5, k6, k7, k8, k9, k10, k11]) rfl ?_
              exact PF.out _ BF'
            · skip
              have CO := Lib.hid CO0
              have SO := Lib.hid SO0
              go_upto_region 14 with (go_at_call 68; refine CO.out.mono ?_; rintro e w3 ⟨⟨x, a2, m2, c2, rfl, hcr0⟩, hb3⟩; have hcr := Lib.hid hcr0; clear hcr0)
              have b3 := below_alloc w3 (.cells #[.int .i64 x, .slice a2 m2 c2] 97)
              have I3 := Lib.hid ((HI.out.below hb3).below b3)
              have r3 := heap_alloc_new w3 (.cells #[.int .i64 x, .slice a2 m2 c2] 97)
              obtain ⟨Y, hY⟩ : ∃ Y, w3.heap.size = Y := ⟨_, rfl⟩
              obtain ⟨W3, hW3⟩ : ∃ W3, w3.alloc (.cells #[.int .i64 x, .slice a2 m2 c2] 97) = W3 := ⟨_, rfl⟩
              rw [hW3] at I3 ⊢
              clear hcr
              have hbx : W3.heap[X]? = some (.cells #[.int .i64 n0, .int .i64 n1, .int .i64 n2, .int .i64 n3, .int .i64 n4, .int .i64 n5, .int .i64 n6, .int .i64 n7, .bool b, .string (mkL q), .slice ca nc cc, .slice sa ns sc] 27 (0, 0)) := I3.out.box
              have xx := fun i => cell_of_row _ _ i _ _ _ hbx
              have x10 := xx 10; have x11 := xx 11
              dsimp at x10 x11
              clear hbx xx
              clear hW3 hY b3 hb3 CO r3 CO0 SO0 ccl
              go_upto_region 17 with (go_at_call 69; refine (SO.out _).mono ?_; rintro e w4 ⟨⟨sk, st, sn, sm, a4, l4, c4, rfl, hst0⟩, hb4⟩; have hst := Lib.hid hst0; clear hst0)
              have b5 := below_alloc w4 (.cells #[.int .i64 sk, .string (mkL st), .int .i64 sn, .int .i64 sm, .slice a4 l4 c4] 38)
              have I5 := Lib.hid ((I3.out.below hb4).below b5)
              obtain ⟨rfl, rfl, rfl, rfl, hl4, hos⟩ := hst.out xs rfl
              have r5 := heap_alloc_new w4 (.cells #[.int .i64 xs.1, .string (mkL xs.2.1), .int .i64 xs.2.2.1, .int .i64 xs.2.2.2.1, .slice a4 l4 c4] 38)
              have O5 := Lib.hid (owS_below hos b5)
              obtain ⟨Y5, hY5⟩ : ∃ Y5, w4.heap.size = Y5 := ⟨_, rfl⟩
              obtain ⟨W5, hW5⟩ : ∃ W5, w4.alloc (.cells #[.int .i64 xs.1, .string (mkL xs.2.1), .int .i64 xs.2.2.1, .int .i64 xs.2.2.2.1, .slice a4 l4 c4] 38) = W5 := ⟨_, rfl⟩
              rw [hW5] at I5 r5 O5 ⊢
              rw [hY5] at r5 ⊢
              have ss := fun i => cell_of_row _ _ i _ _ _ r5
              have s0 := ss 0; have s1 := ss 1; have s2 := ss 2; have s3 := ss 3; have s4 := ss 4
              dsimp at s0 s1 s2 s3 s4
              have HL4 := Lib.hid hl4
              clear x10 x11
              have hbx : W5.heap[X]? = some (.cells #[.int .i64 n0, .int .i64 n1, .int .i64 n2, .int .i64 n3, .int .i64 n4, .int .i64 n5, .int .i64 n6, .int .i64 n7, .bool b, .string (mkL q), .slice ca nc cc, .slice sa ns sc] 27 (0, 0)) := I5.out.box
              have xx := fun i => cell_of_row _ _ i _ _ _ hbx
              have x10 := xx 10; have x11 := xx 11
              dsimp at x10 x11
              clear hbx xx
              clear hW5 hY5 b5 hb4 hst SO r5 ss hos hl4
              go_upto_region 19 with fail
              have BA := below_alloc W5 (.cells #[.int .i64 xs.1, .string (mkL xs.2.1), .int .i64 xs.2.2.1, .int .i64 xs.2.2.2.1, .slice a4 l4 c4] 38)
              have I6 := Lib.hid (I5.out.below BA)
              have O6 := Lib.hid (owS_below O5.out BA)
              have hnew : ∀ j x, ([Value.int .i64 xs.1, Value.string (mkL xs.2.1), Value.int .i64 xs.2.2.1, Value.int .i64 xs.2.2.2.1, Value.slice a4 l4 c4] : List Value)[j]? = some x → (W5.alloc (.cells #[.int .i64 xs.1, .string (mkL xs.2.1), .int .i64 xs.2.2.1, .int .i64 xs.2.2.2.1, .slice a4 l4 c4] 38)).cell? ((⟨W5.heap.size, 0, none⟩ : Addr).add j) = some x := (fun j x hj => app_cells (by simp) hj)
              obtain ⟨es, hew, hes⟩ := I6.out.st.ex
              rw [HNS.out] at hew
              clear BA
              go_wp2_with (at_builtin; refine wpList_append_own _ rfl _ _ 25 rfl B 38 j0 _ 5 64 Tryd.underlying25 hj hy0 hy1 hy2 rfl (by decide) _ ns es rfl hew ⟨_, 0, none⟩ 1 1 [.int .i64 xs.1, .string (mkL xs.2.1), .int .i64 xs.2.2.1, .int .i64 xs.2.2.2.1, .slice a4 l4 c4] rfl rfl hnew (by intro x hx; simp at hx; rcases hx with rfl | rfl | rfl | rfl | rfl <;> rfl) ?g3 ?g4 I6.out.st.le ?_)
              case g3 => unfold maxLen; omega
              case g4 => omega
              intro v' w7 hown hgrow _
              rw [← HNS.out] at hown
              have I7 := Lib.hid (PsI.step I6.out (psk_step I6.out.k h1k.out HLT.out HNO.out HRS.out) hes HL4.out (by rw [HNS.out]; exact hew) O6.out hown hgrow)
              have hbx : w7.heap[X]? = some (.cells #[.int .i64 n0, .int .i64 n1, .int .i64 n2, .int .i64 n3, .int .i64 n4, .int .i64 n5, .int .i64 n6, .int .i64 n7, .bool b, .string (mkL q), .slice ca nc cc, .slice sa ns sc] 27 (0, 0)) := (hgrow.block X (blk_lt I6.out.box) (fun e => own_ne_kind hew I6.out.box (by decide) e.symm)).trans I6.out.box
              have x11 := cell_of_row _ _ 11 _ _ _ hbx
              have z11 := frozen_of_row _ X 11 _ _ hbx
              dsimp at x11
              obtain ⟨ao, no, co, rfl⟩ : ∃ ao no co, v' = .slice ao no co := by
                obtain ⟨ao, co, e, _⟩ := (StSt.sps (B := B) (v := v') (S := S ++ [xs]) (w := w7.setCell ⟨X, 11, none⟩ v') I7.out.st)
                exact ⟨_, _, _, e⟩
              clear hown hgrow hew hes hbx O5 O6 I3 I5 I6
              go_wp2
              go_roundw
              case rel => exact ⟨k + 1, n0, n1, n2, n3, n4, n5, n6, n7, b, q, C, S ++ [xs], _, _, by omega, rfl, by go_num, I7, Lib.hid (by have := HL.out; rw [List.length_append, List.length_singleton]; omega), Lib.hid (fun h => absurd h (by omega))⟩
              case measure => (simp [intOf]; try omega)
    · obtain rfl : k = n := by omega
      have hmm : ¬ (k : Int) < (k : Int) := by omega
      obtain ⟨ca, cc, hcv, _⟩ := HI.out.cr.crs
      obtain ⟨sa, sc, hsv, _⟩ := HI.out.st.sps
      subst hcv; subst hsv
      obtain ⟨nc, hnc⟩ : ∃ nc, C.length = nc := ⟨_, rfl⟩
      obtain ⟨ns, hns⟩ : ∃ ns, S.length = ns := ⟨_, rfl⟩
      rw [hnc, hns] at HI
      have HNC := Lib.hid hnc
      have HNS := Lib.hid hns
      have hE := psk_end HI.out.k HP0.out HN.out.symm
      have hres := HI.out.res
      have hb : wr.heap[X]? = some (.cells #[.int .i64 n0, .int .i64 n1, .int .i64 n2, .int .i64 n3, .int .i64 n4, .int .i64 n5, .int .i64 n6, .int .i64 n7, .bool b, .string (mkL q), .slice ca nc cc, .slice sa ns sc] 27 (0, 0)) := HI.out.box
      have BF := Lib.hid (set12_below HI.out.bl HI.out.lt.1 (.int .i64 n0) (.int .i64 n1) (.int .i64 n2) (.int .i64 n3) (.int .i64 n4) (.int .i64 n5) (.int .i64 n6) (.int .i64 n7) (.bool b) (.string (mkL q)) (.slice ca nc cc) (.slice sa ns sc))
      have RF := Lib.hid (set12_res hres (.int .i64 n0) (.int .i64 n1) (.int .i64 n2) (.int .i64 n3) (.int .i64 n4) (.int .i64 n5) (.int .i64 n6) (.int .i64 n7) (.bool b) (.string (mkL q)) (.slice ca nc cc) (.slice sa ns sc))
      obtain ⟨ca', cc', e1, CF⟩ := (crst_set12 HI.out.cr hres (.int .i64 n0) (.int .i64 n1) (.int .i64 n2) (.int .i64 n3) (.int .i64 n4) (.int .i64 n5) (.int .i64 n6) (.int .i64 n7) (.bool b) (.string (mkL q)) (.slice ca nc cc) (.slice sa ns sc)).crs
      obtain ⟨sa', sc', e2, UF⟩ := (stst_set12 HI.out.st hres (.int .i64 n0) (.int .i64 n1) (.int .i64 n2) (.int .i64 n3) (.int .i64 n4) (.int .i64 n5) (.int .i64 n6) (.int .i64 n7) (.bool b) (.string (mkL q)) (.slice ca nc cc) (.slice sa ns sc)).sps
      have PF : Hid (PsPost (prA P) 10 w (.returned (.tuple #[.agg #[.int .i64 n0, .int .i64 n1, .int .i64 n2, .int .i64 n3, .int .i64 n4, .int .i64 n5, .int .i64 n6, .int .i64 n7, .bool b, .string (mkL q), .slice ca nc cc, .slice sa ns sc], .int .i64 0])) (set12 wr T (.int .i64 n0) (.int .i64 n1) (.int .i64 n2) (.int .i64 n3) (.int .i64 n4) (.int .i64 n5) (.int .i64 n6) (.int .i64 n7) (.bool b) (.string (mkL q)) (.slice ca nc cc) (.slice sa ns sc))) := Lib.hid (by
        rw [hnc] at e1
        rw [hns] at e2
        injection e1 with e1 _ e3
        injection e2 with e2 _ e4
        subst e1; subst e2; subst e3; subst e4
        rw [hE]
        subst hnc; subst hns
        exact ⟨⟨n0, n1, n2, n3, n4, n5, n6, n7, b, q, ca, sa, cc, sc, rfl, rfl, CF, UF⟩, BF.out⟩)
      have tt := fun i => cell_of_row _ _ i _ _ _ hres
      have t0 := tt 0; have t1 := tt 1; have t2 := tt 2; have t3 := tt 3; have t4 := tt 4; have t5 := tt 5; have t6 := tt 6; have t7 := tt 7; have t8 := tt 8; have t9 := tt 9; have t10 := tt 10; have t11 := tt 11
      dsimp at t0 t1 t2 t3 t4 t5 t6 t7 t8 t9 t10 t11
      have zf := fun i => frozen_of_row _ T i _ _ hres
      have xx := fun i => cell_of_row _ _ i _ _ _ hb
      have x0 := xx 0; have x1 := xx 1; have x2 := xx 2; have x3 := xx 3; have x4 := xx 4; have x5 := xx 5; have x6 := xx 6; have x7 := xx 7; have x8 := xx 8; have x9 := xx 9; have x10 := xx 10; have x11 := xx 11
      dsimp at x0 x1 x2 x3 x4 x5 x6 x7 x8 x9 x10 x11
      clear hE hres hb CF UF e1 e2 tt xx HI HL HZ HP HN HP0 hnc hns HNC HNS BF
      go_wp2
      try rw [Exit.noGoto_ret]
      have RF' := RF.out
      have PF' := PF.out
      unfold set12 at RF' PF'
      generalize World.setCell _ _ _ = WF at *
      have kk := fun i => cell_of_row _ _ i _ _ _ RF'
      have k0 := kk 0; have k1 := kk 1; have k2 := kk 2; have k3 := kk 3; have k4 := kk 4; have k5 := kk 5; have k6 := kk 6; have k7 := kk 7; have k8 := kk 8; have k9 := kk 9; have k10 := kk 10; have k11 := kk 11
      dsimp at k0 k1 k2 k3 k4 k5 k6 k7 k8 k9 k10 k11
      refine bodyPost_ret (v := .tuple #[.agg #[.int .i64 n0, .int .i64 n1, .int .i64 n2, .int .i64 n3, .int .i64 n4, .int .i64 n5, .int .i64 n6, .int .i64 n7, .bool b, .string (mkL q), .slice ca nc cc, .slice sa ns sc], .int .i64 0]) (by simp [results, Tryd.results17, go_sem, k0, k1, k2, k3, k4, k5, k6, k7, k8, k9, k10, k11]) rfl ?_
      exact PF'
end Go.Proofs.YtnpiooaiceegmaaDoor
set_option linter.unusedVariables false
set_option linter.unusedSimpArgs false
namespace Go.Proofs.YtnpiooaiceegmaaDoor
open Go.RowKit
set_option maxRecDepth 100000 in
set_option maxHeartbeats 4000000 in
theorem tbeq_any (l m : List UInt8) (a b : Option Addr) (n k c d : Nat) (w : World) (ha : Cvt w a n c l) (hb : Cvt w b k d m) : Calls Tryd.prog 56 #[.slice a n c, .slice b k d] w fun e w' => e = .returned (.bool (decide (l = m))) ∧ w = w' := by
  have ca := ha w (Below.refl _ _) 9 Tryd.underlying9
  have cb := hb w (Below.refl _ _) 9 Tryd.underlying9
  clear ha hb
  by_cases h : l = m
  · subst h
    rw [decide_eq_true rfl]
    generalize mkL l = s at *
    go_enter Tryd.func56, Tryd.ntmps56
    go_wp2
    go_ret
    exact ⟨rfl, rfl⟩
  · obtain ⟨n1, _, n3, n4, _⟩ := teq_no h
    rw [decide_eq_false h]
    generalize mkL l = s at *
    generalize mkL m = t at *
    clear h
    go_enter Tryd.func56, Tryd.ntmps56
    go_wp2
    go_ret
    exact ⟨rfl, rfl⟩
set_option maxRecDepth 100000 in
set_option maxHeartbeats 4000000 in
theorem tsc_any (x y : Crs) (a b : Option Addr) (c d : Nat) (w : World) (ha : Cvt w a x.2.length c x.2) (hb : Cvt w b y.2.length d y.2) : Calls Tryd.prog 55 #[.agg #[.int .i64 x.1, .slice a x.2.length c], .agg #[.int .i64 y.1, .slice b y.2.length d]] w fun e w' => e = .returned (.bool (decide (x = y))) ∧ Below w.heap.size w w' := by
  obtain ⟨i, l⟩ := x
  obtain ⟨j, m⟩ := y
  dsimp only at ha hb ⊢
  obtain ⟨n, hn⟩ : ∃ n, l.length = n := ⟨_, rfl⟩
  obtain ⟨k, hk⟩ : ∃ k, m.length = k := ⟨_, rfl⟩
  rw [hn] at ha ⊢
  rw [hk] at hb ⊢
  have B0 := below_alloc w (.cells #[.int .i64 i, .slice a n c] 97)
  have q0 := heap_alloc_new w (.cells #[.int .i64 i, .slice a n c] 97)
  obtain ⟨W0, hW0⟩ : ∃ W0, w.alloc (.cells #[.int .i64 i, .slice a n c] 97) = W0 := ⟨_, rfl⟩
  rw [hW0] at B0 q0
  have B1 := below_alloc W0 (.cells #[.int .i64 j, .slice b k d] 97)
  have r1 := heap_alloc_new W0 (.cells #[.int .i64 j, .slice b k d] 97)
  obtain ⟨W1, hW1⟩ : ∃ W1, W0.alloc (.cells #[.int .i64 j, .slice b k d] 97) = W1 := ⟨_, rfl⟩
  rw [hW1] at B1 r1
  have NB := Lib.hid (seqB B0 B1)
  have q1 := blk_below q0 B1
  have y := fun i => cell_of_row _ _ i _ _ _ q1
  have z := fun i => cell_of_row _ _ i _ _ _ r1
  have y0 := y 0; have y1 := y 1
  have z0 := z 0; have z1 := z 1
  dsimp at y0 y1 z0 z1
  have BE := Lib.hid (tbeq_any l m a b n k c d W1 ((ha.below B0).below B1) ((hb.below B0).below B1))
  clear y z q0 q1 r1 B0 B1 ha hb hn hk
  by_cases h1 : i = j
  · subst h1
    have HE : Hid (decide ((i, l) = (i, m)) = decide (l = m)) := Lib.hid (decide_eq_decide.2 ⟨fun e => by injection e, fun e => by rw [e]⟩)
    rw [HE.out]
    generalize decide (l = m) = r at *
    clear HE
    go_enter Tryd.func55, Tryd.ntmps55
    go_wp2_with (go_at_call 56; refine BE.out.mono ?_; rintro e w3 ⟨rfl, rfl⟩)
    go_ret
    exact ⟨rfl, NB.out⟩
  · have HE : Hid (decide ((i, l) = (j, m)) = false) := Lib.hid (decide_eq_false fun e => h1 (by injection e))
    rw [HE.out]
    have g1 := beqF h1
    clear HE
    go_enter Tryd.func55, Tryd.ntmps55
    go_wp2
    go_ret
    exact ⟨rfl, NB.out⟩
theorem list_eqD {α : Type} (d : α) {x y : List α} (hl : x.length = y.length) (h : ∀ j, j < x.length → x.getD j d = y.getD j d) : x = y := by
  apply List.ext_getElem hl
  intro i h1 h2
  have := h i h1
  rwa [List.getD, List.getD, List.getElem?_eq_getElem h1, List.getElem?_eq_getElem h2] at this
set_option maxRecDepth 100000 in
set_option maxHeartbeats 4000000 in
theorem tec_any (V U : List Crs) (a b : Option Addr) (c d : Nat) (w : World) (hV : V.length ≤ 1000000) (hU : U.length ≤ 1000000) (ha : CrI w a V) (hb : CrI w b U) :
    Calls Tryd.prog 57 #[.slice a V.length c, .slice b U.length d, .func (.func 55) #[] #[]] w fun e w' => e = .returned (.bool (decide (V = U))) ∧ Below w.heap.size w w' := by
  have HA := Lib.hid ha; have HB := Lib.hid hb
  clear ha hb
  obtain ⟨R, hR⟩ : ∃ R, decide (V = U) = R := ⟨_, rfl⟩
  rw [hR]
  have HR := Lib.hid hR
  clear hR
  obtain ⟨n, hn⟩ : ∃ n, V.length = n := ⟨_, rfl⟩
  obtain ⟨m, hm⟩ : ∃ m, U.length = m := ⟨_, rfl⟩
  rw [hn] at hV ⊢
  rw [hm] at hU ⊢
  have HN := Lib.hid hn; have HM := Lib.hid hm
  by_cases hl : n = m
  · subst hl
    clear hn hm
    go_enter Tryd.func57, Tryd.ntmps57
    go_wp2
    go_loopw [17] (fun iv wr => ∃ k : Nat, k ≤ n ∧ iv = .int .i64 (k : Int) ∧ Hid (∀ j, j < k → V.getD j (0, []) = U.getD j (0, [])) ∧ Hid (Below w.heap.size w wr)) (fun iv _ => n - (intOf iv).toNat)
    case atStart => exact ⟨0, Nat.zero_le _, rfl, Lib.hid (fun j hj => absurd hj (by omega)), Lib.hid (Below.refl _ _)⟩
    case round =>
      obtain ⟨k, hk, rfl, hall, hbl⟩ := hrel
      by_cases hlt : k < n
      · obtain ⟨b1, o1, a1, e1, rfl, hb1, c0, c1, hs1⟩ := (HA.out.below hbl.out) k (by rw [HN.out]; exact hlt)
        obtain ⟨b2, o2, a2, e2, rfl, hb2, d0, d1, hs2⟩ := (HB.out.below hbl.out) k (by rw [HM.out]; exact hlt)
        have hk1 : (k : Int) < n := by omega
        have hk0 : (0 : Int) ≤ k := by omega
        obtain ⟨v, hv⟩ : ∃ v, V.getD k (0, []) = v := ⟨_, rfl⟩
        obtain ⟨u, hu⟩ : ∃ u, U.getD k (0, []) = u := ⟨_, rfl⟩
        have HV := Lib.hid hv; have HU2 := Lib.hid hu
        rw [hv] at c0 c1 hs1
        rw [hu] at d0 d1 hs2
        obtain ⟨vi, vl⟩ := v
        obtain ⟨ui, ul⟩ := u
        dsimp only at c0 c1 hs1 d0 d1 hs2
        have BA := below_alloc wr (.cells #[.int .i64 vi, .slice a1 vl.length e1] 97)
        have r0 := heap_alloc_new wr (.cells #[.int .i64 vi, .slice a1 vl.length e1] 97)
        obtain ⟨W, hW⟩ : ∃ W, wr.alloc (.cells #[.int .i64 vi, .slice a1 vl.length e1] 97) = W := ⟨_, rfl⟩
        rw [hW] at BA r0
        have BB := below_alloc W (.cells #[.int .i64 ui, .slice a2 ul.length e2] 97)
        have r1 := heap_alloc_new W (.cells #[.int .i64 ui, .slice a2 ul.length e2] 97)
        obtain ⟨W1, hW1⟩ : ∃ W1, W.alloc (.cells #[.int .i64 ui, .slice a2 ul.length e2] 97) = W1 := ⟨_, rfl⟩
        rw [hW1] at BB r1
        have TS := tsc_any (vi, vl) (ui, ul) a1 a2 e1 e2 W1 ((hs1.below BA).below BB) ((hs2.below BA).below BB)
        dsimp only at TS
        have HS := Lib.hid TS
        have N1 := Lib.hid (seqB (seqB hbl.out BA) BB)
        have f0 := (BA.cell (p := ⟨b2, o2 + k * 2, none⟩) hb2).trans d0
        have f1 := (BA.cell (p := ⟨b2, o2 + k * 2 + 1, none⟩) hb2).trans d1
        have yy := fun i => cell_of_row _ _ i _ _ _ (blk_below r0 BB)
        have zz := fun i => cell_of_row _ _ i _ _ _ r1
        have g0 := yy 0; have g1 := yy 1; have h0 := zz 0; have h1 := zz 1
        dsimp at g0 g1 h0 h1
        clear yy zz r0 r1 BA BB hs1 hs2 TS hv hu
        generalize vl.length = vn at *
        generalize ul.length = un at *
        by_cases he : ((vi, vl) : Crs) = (ui, ul)
        · rw [decide_eq_true he] at HS
          have HALL : Hid (∀ j, j < k + 1 → V.getD j (0, []) = U.getD j (0, [])) := Lib.hid (fun j hj => by
            rcases Nat.lt_succ_iff_lt_or_eq.1 hj with h | rfl
            · exact hall.out j h
            · rw [HV.out, HU2.out, he])
          clear he
          go_wp2_with (go_at_call 55; refine HS.out.mono ?_; rintro e w3 ⟨rfl, hb3⟩; have N3 := Lib.hid (seqB N1.out hb3); clear hb3)
          go_roundw
          case rel => exact ⟨k + 1, by omega, by go_num, HALL, N3⟩
          case measure => (simp [intOf]; try omega)
        · rw [decide_eq_false he] at HS
          have HF : Hid (R = false) := Lib.hid (by rw [← HR.out]; exact decide_eq_false fun e => he (by rw [← HV.out, ← HU2.out, e]))
          clear he
          go_wp2_with (go_at_call 55; refine HS.out.mono ?_; rintro e w3 ⟨rfl, hb3⟩; have N3 := Lib.hid (seqB N1.out hb3); clear hb3)
          go_ret
          rw [HF.out]
          exact ⟨rfl, N3.out⟩
      · obtain rfl : k = n := by omega
        have hmm : ¬ (k : Int) < (k : Int) := by omega
        have HF : Hid (R = true) := Lib.hid (by rw [← HR.out]; exact decide_eq_true (list_eqD (0, []) (by rw [HN.out, HM.out]) (by rw [HN.out]; exact hall.out)))
        go_wp2
        go_ret
        rw [HF.out]
        exact ⟨rfl, hbl.out⟩
  · have HF : Hid (R = false) := Lib.hid (by rw [← HR.out]; exact decide_eq_false fun e => hl (by rw [← hn, ← hm, e]))
    have hne : ¬ ((n : Int) = (m : Int)) := by omega
    have hne2 := beqF hne
    clear hn hm hl
    go_enter Tryd.func57, Tryd.ntmps57
    go_wp2
    go_ret
    rw [HF.out]
    exact ⟨rfl, Below.refl _ _⟩
end Go.Proofs.YtnpiooaiceegmaaDoor
set_option linter.unusedVariables false
set_option linter.unusedSimpArgs false
namespace Go.Proofs.YtnpiooaiceegmaaDoor
open Go.RowKit
set_option maxRecDepth 100000 in
set_option maxHeartbeats 4000000 in
theorem tes_any (V U : List Stp) (a b : Option Addr) (c d : Nat) (w : World) (hV : V.length ≤ 1000000) (hU : U.length ≤ 1000000) (hVL : ∀ x ∈ V, x.2.2.2.2.length ≤ 1000000) (hUL : ∀ x ∈ U, x.2.2.2.2.length ≤ 1000000) (ha : SpI w a V) (hb : SpI w b U) :
    Calls Tryd.prog 58 #[.slice a V.length c, .slice b U.length d, .func (.func 59) #[] #[]] w fun e w' => e = .returned (.bool (decide (V = U))) ∧ Below w.heap.size w w' := by
  have HA := Lib.hid ha; have HB := Lib.hid hb
  have HVL := Lib.hid hVL; have HUL := Lib.hid hUL
  clear ha hb hVL hUL
  obtain ⟨R, hR⟩ : ∃ R, decide (V = U) = R := ⟨_, rfl⟩
  rw [hR]
  have HR := Lib.hid hR
  clear hR
  obtain ⟨n, hn⟩ : ∃ n, V.length = n := ⟨_, rfl⟩
  obtain ⟨m, hm⟩ : ∃ m, U.length = m := ⟨_, rfl⟩
  rw [hn] at hV ⊢
  rw [hm] at hU ⊢
  have HN := Lib.hid hn; have HM := Lib.hid hm
  by_cases hl : n = m
  · subst hl
    clear hn hm
    go_enter Tryd.func58, Tryd.ntmps58
    go_wp2
    go_loopw [17] (fun iv wr => ∃ k : Nat, k ≤ n ∧ iv = .int .i64 (k : Int) ∧ Hid (∀ j, j < k → V.getD j st0 = U.getD j st0) ∧ Hid (Below w.heap.size w wr)) (fun iv _ => n - (intOf iv).toNat)
    case atStart => exact ⟨0, Nat.zero_le _, rfl, Lib.hid (fun j hj => absurd hj (by omega)), Lib.hid (Below.refl _ _)⟩
    case round =>
      obtain ⟨k, hk, rfl, hall, hbl⟩ := hrel
      by_cases hlt : k < n
      · obtain ⟨b1, o1, a1, e1, rfl, hb1, c0, c1, c2, c3, c4, hs1⟩ := (HA.out.below hbl.out) k (by rw [HN.out]; exact hlt)
        obtain ⟨b2, o2, a2, e2, rfl, hb2, d0, d1, d2, d3, d4, hs2⟩ := (HB.out.below hbl.out) k (by rw [HM.out]; exact hlt)
        have hk1 : (k : Int) < n := by omega
        have hk0 : (0 : Int) ≤ k := by omega
        obtain ⟨v, hv⟩ : ∃ v, V.getD k st0 = v := ⟨_, rfl⟩
        obtain ⟨u, hu⟩ : ∃ u, U.getD k st0 = u := ⟨_, rfl⟩
        have HV := Lib.hid hv; have HU2 := Lib.hid hu
        have hvl := HVL.out _ (getD_memX st0 (by rw [HN.out]; exact hlt))
        have hul := HUL.out _ (getD_memX st0 (by rw [HM.out]; exact hlt))
        rw [hv] at c0 c1 c2 c3 c4 hs1 hvl
        rw [hu] at d0 d1 d2 d3 d4 hs2 hul
        obtain ⟨vk, vt, vn, vm, vl⟩ := v
        obtain ⟨uk, ut, un, um, ul⟩ := u
        dsimp only at c0 c1 c2 c3 c4 hs1 d0 d1 d2 d3 d4 hs2
        have BA := below_alloc wr (.cells #[.int .i64 vk, .string (mkL vt), .int .i64 vn, .int .i64 vm, .slice a1 vl.length e1] 38)
        have r0 := heap_alloc_new wr (.cells #[.int .i64 vk, .string (mkL vt), .int .i64 vn, .int .i64 vm, .slice a1 vl.length e1] 38)
        obtain ⟨W, hW⟩ : ∃ W, wr.alloc (.cells #[.int .i64 vk, .string (mkL vt), .int .i64 vn, .int .i64 vm, .slice a1 vl.length e1] 38) = W := ⟨_, rfl⟩
        rw [hW] at BA r0
        have BB := below_alloc W (.cells #[.int .i64 uk, .string (mkL ut), .int .i64 un, .int .i64 um, .slice a2 ul.length e2] 38)
        have r1 := heap_alloc_new W (.cells #[.int .i64 uk, .string (mkL ut), .int .i64 un, .int .i64 um, .slice a2 ul.length e2] 38)
        obtain ⟨W1, hW1⟩ : ∃ W1, W.alloc (.cells #[.int .i64 uk, .string (mkL ut), .int .i64 un, .int .i64 um, .slice a2 ul.length e2] 38) = W1 := ⟨_, rfl⟩
        rw [hW1] at BB r1
        have TS := tsame_st (vk, vt, vn, vm, vl) (uk, ut, un, um, ul) a1 a2 e1 e2 W1 hvl hul ((hs1.below BA).below BB) ((hs2.below BA).below BB)
        unfold tsV at TS
        dsimp only at TS
        have HS := Lib.hid TS
        have N1 := Lib.hid (seqB (seqB hbl.out BA) BB)
        have f0 := (BA.cell (p := ⟨b2, o2 + k * 5, none⟩) hb2).trans d0
        have f1 := (BA.cell (p := ⟨b2, o2 + k * 5 + 1, none⟩) hb2).trans d1
        have f2 := (BA.cell (p := ⟨b2, o2 + k * 5 + 2, none⟩) hb2).trans d2
        have f3 := (BA.cell (p := ⟨b2, o2 + k * 5 + 3, none⟩) hb2).trans d3
        have f4 := (BA.cell (p := ⟨b2, o2 + k * 5 + 4, none⟩) hb2).trans d4
        have yy := fun i => cell_of_row _ _ i _ _ _ (blk_below r0 BB)
        have zz := fun i => cell_of_row _ _ i _ _ _ r1
        have g0 := yy 0; have g1 := yy 1; have g2 := yy 2; have g3 := yy 3; have g4 := yy 4
        have h0 := zz 0; have h1 := zz 1; have h2 := zz 2; have h3 := zz 3; have h4 := zz 4
        dsimp at g0 g1 g2 g3 g4 h0 h1 h2 h3 h4
        clear yy zz r0 r1 BA BB hs1 hs2 TS hv hu hvl hul
        generalize vl.length = vln at *
        generalize ul.length = uln at *
        generalize mkL vt = mvt at *
        generalize mkL ut = mvu at *
        by_cases he : ((vk, vt, vn, vm, vl) : Stp) = (uk, ut, un, um, ul)
        · rw [decide_eq_true he] at HS
          have HALL : Hid (∀ j, j < k + 1 → V.getD j st0 = U.getD j st0) := Lib.hid (fun j hj => by
            rcases Nat.lt_succ_iff_lt_or_eq.1 hj with h | rfl
            · exact hall.out j h
            · rw [HV.out, HU2.out, he])
          clear he
          go_wp2_with (go_at_call 59; refine HS.out.mono ?_; rintro e w3 ⟨rfl, hb3⟩; have N3 := Lib.hid (seqB N1.out hb3); clear hb3)
          go_roundw
          case rel => exact ⟨k + 1, by omega, by go_num, HALL, N3⟩
          case measure => (simp [intOf]; try omega)
        · rw [decide_eq_false he] at HS
          have HF : Hid (R = false) := Lib.hid (by rw [← HR.out]; exact decide_eq_false fun e => he (by rw [← HV.out, ← HU2.out, e]))
          clear he
          go_wp2_with (go_at_call 59; refine HS.out.mono ?_; rintro e w3 ⟨rfl, hb3⟩; have N3 := Lib.hid (seqB N1.out hb3); clear hb3)
          go_ret
          rw [HF.out]
          exact ⟨rfl, N3.out⟩
      · obtain rfl : k = n := by omega
        have hmm : ¬ (k : Int) < (k : Int) := by omega
        have HF : Hid (R = true) := Lib.hid (by rw [← HR.out]; exact decide_eq_true (list_eqD st0 (by rw [HN.out, HM.out]) (by rw [HN.out]; exact hall.out)))
        go_wp2
        go_ret
        rw [HF.out]
        exact ⟨rfl, hbl.out⟩
  · have HF : Hid (R = false) := Lib.hid (by rw [← HR.out]; exact decide_eq_false fun e => hl (by rw [← hn, ← hm, e]))
    have hne : ¬ ((n : Int) = (m : Int)) := by omega
    have hne2 := beqF hne
    clear hn hm hl
    go_enter Tryd.func58, Tryd.ntmps58
    go_wp2
    go_ret
    rw [HF.out]
    exact ⟨rfl, Below.refl _ _⟩
theorem eqConf (n0 n1 n2 n3 n4 n5 n6 n7 : Int) (b : Bool) (p : ByteArray) (w : World) : (binOp .eql 23 (.agg #[.int .i64 n0, .int .i64 n1, .int .i64 n2, .int .i64 n3, .int .i64 n4, .int .i64 n5, .int .i64 n6, .int .i64 n7, .bool b, .string p]) (.agg #[.int .i64 n0, .int .i64 n1, .int .i64 n2, .int .i64 n3, .int .i64 n4, .int .i64 n5, .int .i64 n6, .int .i64 n7, .bool b, .string p])).run Tryd.prog w = .ok (.bool true) w := by
  simp [go_sem]
set_option maxRecDepth 100000 in
set_option maxHeartbeats 8000000 in
theorem tsm_eq (n0 n1 n2 n3 n4 n5 n6 n7 : Int) (b : Bool) (p : ByteArray) (C D : List Crs) (S U : List Stp) (ca sa cb sb : Option Addr) (cc sc cd sd : Nat) (w : World) (hC : C.length ≤ 1000000) (hD : D.length ≤ 1000000) (hS : S.length ≤ 1000000) (hU : U.length ≤ 1000000) (hSL : ∀ x ∈ S, x.2.2.2.2.length ≤ 1000000) (hUL : ∀ x ∈ U, x.2.2.2.2.length ≤ 1000000)
    (h1 : CrI w ca C) (h2 : SpI w sa S) (h3 : CrI w cb D) (h4 : SpI w sb U) :
    Calls Tryd.prog 13 #[.agg (scC n0 n1 n2 n3 n4 n5 n6 n7 b p (.slice ca C.length cc) (.slice sa S.length sc)), .agg (scC n0 n1 n2 n3 n4 n5 n6 n7 b p (.slice cb D.length cd) (.slice sb U.length sd))] w fun e w' => e = .returned (.bool (decide (C = D) && decide (S = U))) ∧ Below w.heap.size w w' := by
  unfold scC
  have B0 := below_alloc w (.cells #[.int .i64 n0, .int .i64 n1, .int .i64 n2, .int .i64 n3, .int .i64 n4, .int .i64 n5, .int .i64 n6, .int .i64 n7, .bool b, .string p, .slice ca C.length cc, .slice sa S.length sc] 27)
  have q0 := heap_alloc_new w (.cells #[.int .i64 n0, .int .i64 n1, .int .i64 n2, .int .i64 n3, .int .i64 n4, .int .i64 n5, .int .i64 n6, .int .i64 n7, .bool b, .string p, .slice ca C.length cc, .slice sa S.length sc] 27)
  obtain ⟨W0, hW0⟩ : ∃ W0, w.alloc (.cells #[.int .i64 n0, .int .i64 n1, .int .i64 n2, .int .i64 n3, .int .i64 n4, .int .i64 n5, .int .i64 n6, .int .i64 n7, .bool b, .string p, .slice ca C.length cc, .slice sa S.length sc] 27) = W0 := ⟨_, rfl⟩
  rw [hW0] at B0 q0
  have B1 := below_alloc W0 (.cells #[.int .i64 n0, .int .i64 n1, .int .i64 n2, .int .i64 n3, .int .i64 n4, .int .i64 n5, .int .i64 n6, .int .i64 n7, .bool b, .string p, .slice cb D.length cd, .slice sb U.length sd] 27)
  have r1 := heap_alloc_new W0 (.cells #[.int .i64 n0, .int .i64 n1, .int .i64 n2, .int .i64 n3, .int .i64 n4, .int .i64 n5, .int .i64 n6, .int .i64 n7, .bool b, .string p, .slice cb D.length cd, .slice sb U.length sd] 27)
  obtain ⟨W1, hW1⟩ : ∃ W1, W0.alloc (.cells #[.int .i64 n0, .int .i64 n1, .int .i64 n2, .int .i64 n3, .int .i64 n4, .int .i64 n5, .int .i64 n6, .int .i64 n7, .bool b, .string p, .slice cb D.length cd, .slice sb U.length sd] 27) = W1 := ⟨_, rfl⟩
  rw [hW1] at B1 r1
  have NB0 := seqB B0 B1
  have NB := Lib.hid NB0
  have QQ := Lib.hid (blk_below q0 B1)
  have RR := Lib.hid r1
  have yy := fun i => cell_of_row _ _ i _ _ _ QQ.out
  have zz := fun i => cell_of_row _ _ i _ _ _ RR.out
  have y0 := yy 0; have y1 := yy 1; have y2 := yy 2; have y3 := yy 3; have y4 := yy 4; have y5 := yy 5; have y6 := yy 6; have y7 := yy 7; have y8 := yy 8; have y9 := yy 9; have y10 := yy 10; have y11 := yy 11
  have z0 := zz 0; have z1 := zz 1; have z2 := zz 2; have z3 := zz 3; have z4 := zz 4; have z5 := zz 5; have z6 := zz 6; have z7 := zz 7; have z8 := zz 8; have z9 := zz 9; have z10 := zz 10; have z11 := zz 11
  dsimp at y0 y1 y2 y3 y4 y5 y6 y7 y8 y9 y10 y11 z0 z1 z2 z3 z4 z5 z6 z7 z8 z9 z10 z11
  have EC := Lib.hid (tec_any C D ca cb cc cd W1 hC hD (h1.below NB0) (h3.below NB0))
  have ES := Lib.hid (fun (W : World) (hb : Below w.heap.size w W) => tes_any S U sa sb sc sd W hS hU hSL hUL (h2.below hb) (h4.below hb))
  have EQC := fun (W : World) => eqConf n0 n1 n2 n3 n4 n5 n6 n7 b p W
  clear yy zz q0 r1 B0 B1 NB0 h1 h2 h3 h4 hSL hUL
  generalize C.length = lc at *
  generalize D.length = ld at *
  generalize S.length = ls at *
  generalize U.length = lu at *
  generalize decide (S = U) = e2 at *
  by_cases hc : C = D
  · rw [decide_eq_true hc] at EC
    rw [decide_eq_true hc, Bool.true_and]
    clear hc
    go_enter Tryd.func13, Tryd.ntmps13
    go_wp2_with (first
      | (go_at_call 57; refine EC.out.mono ?_; rintro e w3 ⟨rfl, hb3⟩; have N3 := Lib.hid (seqB NB.out hb3); have q3 := blk_below QQ.out hb3; have r3 := blk_below RR.out hb3; have v11 := cell_of_row _ _ 11 _ _ _ q3; have u11 := cell_of_row _ _ 11 _ _ _ r3; dsimp at v11 u11; clear q3 r3 hb3)
      | (go_at_call 58; refine (ES.out _ N3.out).mono ?_; rintro e w4 ⟨rfl, hb4⟩; have N4 := Lib.hid (seqB N3.out hb4)))
    go_ret
    exact ⟨rfl, N4.out⟩
  · rw [decide_eq_false hc] at EC
    rw [decide_eq_false hc, Bool.false_and]
    clear hc
    go_enter Tryd.func13, Tryd.ntmps13
    go_wp2_with (go_at_call 57; refine EC.out.mono ?_; rintro e w3 ⟨rfl, hb3⟩; have N3 := Lib.hid (seqB NB.out hb3); clear hb3)
    go_ret
    exact ⟨rfl, N3.out⟩
end Go.Proofs.YtnpiooaiceegmaaDoor
set_option linter.unusedVariables false
set_option linter.unusedSimpArgs false
namespace Go.Proofs.YtnpiooaiceegmaaDoor
open Go.RowKit
def tR : List UInt8 := [99, 111, 110, 102, 32, 57, 32, 49, 32, 54, 48, 32, 53, 48, 32, 53, 32, 51, 48, 32, 57, 32, 54, 48, 32, 118, 105, 32, 46, 36, 92, 50, 48, 10, 99, 114, 97, 115, 104, 32, 51, 32, 46, 92, 48, 48, 10, 98, 121, 116, 101, 115, 32, 46, 97, 92, 49, 66, 10, 111, 102, 102, 101, 114, 32, 46, 120, 32, 46, 10, 108, 111, 97, 100, 32, 46, 10, 108, 111, 97, 100, 10, 114, 101, 115, 105, 122, 101, 32, 45, 49, 32, 48]
def tC : List Crs := [(3, [0])]
def tS : List Stp := [(0, [97, 27], 0, 0, []), (3, [], 0, 0, [[120], []]), (4, [], 1, 0, []), (4, [], 0, 0, []), (2, [], -1, 0, [])]
def tF : Cf := ([9, 1, 60, 50, 5, 30, 9, 60], true, [36, 32])
theorem tT_sc : scT (tF, tC, tS) = some (tR ++ [10]) := by decide +kernel
theorem in_small (n : Int) (h : -100 ≤ n) (h2 : n ≤ 100) : in64 n := by unfold in64; omega
theorem tF_in : ∀ n ∈ tF.1, in64 n := fun n hn => by
  have : ∀ n ∈ tF.1, -100 ≤ n ∧ n ≤ 100 := by decide
  exact in_small n (this n hn).1 (this n hn).2
theorem tS_in : ∀ x ∈ tS, tsOk x := fun x hx => by
  have : ∀ x ∈ tS, (-100 ≤ x.1 ∧ x.1 ≤ 100) ∧ (-100 ≤ x.2.2.1 ∧ x.2.2.1 ≤ 100) ∧ -100 ≤ x.2.2.2.1 ∧ x.2.2.2.1 ≤ 100 := by decide
  obtain ⟨h1, h2, h3⟩ := this x hx
  exact ⟨in_small _ h1.1 h1.2, in_small _ h2.1 h2.2, in_small _ h3.1 h3.2⟩
theorem tC_in : ∀ c ∈ tC, in64 c.1 := fun c hc => by
  have : ∀ c ∈ tC, -100 ≤ c.1 ∧ c.1 ≤ 100 := by decide
  exact in_small _ (this c hc).1 (this c hc).2
theorem tP_sc : prA (pcB 10 tR) = some (tF, tC, tS) := by
  have h := prT_good tT_sc ⟨⟨rfl, tF_in⟩, tC_in, tS_in⟩
  unfold prT at h
  rw [if_pos (by simp), List.dropLast_concat] at h
  exact h
theorem aw_parse (w : World) : Calls Tryd.prog 17 #[.string ⟨([99, 111, 110, 102, 32, 57, 32, 49, 32, 54, 48, 32, 53, 48, 32, 53, 32, 51, 48, 32, 57, 32, 54, 48, 32, 118, 105, 32, 46, 36, 92, 50, 48, 10, 99, 114, 97, 115, 104, 32, 51, 32, 46, 92, 48, 48, 10].append [98, 121, 116, 101, 115, 32, 46, 97, 92, 49, 66, 10, 111, 102, 102, 101, 114, 32, 46, 120, 32, 46, 10, 108, 111, 97, 100, 32, 46, 10, 108, 111, 97, 100, 10, 114, 101, 115, 105, 122, 101, 32, 45, 49, 32, 48, 10]).toArray⟩] w fun e w' => ∃ ca sa cc sc, e = .returned (.tuple #[.agg #[.int .i64 9, .int .i64 1, .int .i64 60, .int .i64 50, .int .i64 5, .int .i64 30, .int .i64 9, .int .i64 60, .bool true, .string ⟨#[36, 32]⟩, .slice ca 1 cc, .slice sa 5 sc], .int .i64 0]) ∧ CrI w' ca tC ∧ SpI w' sa tS ∧ Below w.heap.size w w' := by
  have h := tparse_ten tR w (by decide)
  rw [tP_sc] at h
  refine Calls.mono h ?_
  rintro e w' ⟨⟨n0, n1, n2, n3, n4, n5, n6, n7, b, p, ca, sa, cc, sc, h1, h2, h3, h4⟩, h5⟩
  refine ⟨ca, sa, cc, sc, ?_, h3, h4, h5⟩
  have h6 : (([9, 1, 60, 50, 5, 30, 9, 60], true, [36, 32]) : Cf) = ([n0, n1, n2, n3, n4, n5, n6, n7], b, p) := h1
  simp only [Prod.mk.injEq, List.cons.injEq, and_true] at h6
  obtain ⟨⟨rfl, rfl, rfl, rfl, rfl, rfl, rfl, rfl⟩, rfl, rfl⟩ := h6
  exact h2
theorem tsc_B : scB tC tS := by
  refine ⟨by decide, by decide, fun c hc => ⟨tC_in c hc, ?_⟩, fun x hx => ⟨?_, ?_, ?_, tS_in x hx⟩⟩
  · exact (by decide : ∀ c ∈ tC, c.2.length ≤ 300000) c hc
  · exact (by decide : ∀ x ∈ tS, x.2.1.length ≤ 300000) x hx
  · exact (by decide : ∀ x ∈ tS, x.2.2.2.2.length ≤ 100000) x hx
  · exact (by decide : ∀ x ∈ tS, ∀ y, y ∈ x.2.2.2.2 → y.length ≤ 300000) x hx
theorem aw_text (ca sa : Option Addr) (cc sc : Nat) (w : World) (hC : CrI w ca tC) (hS : SpI w sa tS) : Calls Tryd.prog 11 #[.agg #[.int .i64 9, .int .i64 1, .int .i64 60, .int .i64 50, .int .i64 5, .int .i64 30, .int .i64 9, .int .i64 60, .bool true, .string ⟨#[36, 32]⟩, .slice ca 1 cc, .slice sa 5 sc]] w fun e w' => e = .returned (.tuple #[.string ⟨([99, 111, 110, 102, 32, 57, 32, 49, 32, 54, 48, 32, 53, 48, 32, 53, 32, 51, 48, 32, 57, 32, 54, 48, 32, 118, 105, 32, 46, 36, 92, 50, 48, 10, 99, 114, 97, 115, 104, 32, 51, 32, 46, 92, 48, 48, 10].append [98, 121, 116, 101, 115, 32, 46, 97, 92, 49, 66, 10, 111, 102, 102, 101, 114, 32, 46, 120, 32, 46, 10, 108, 111, 97, 100, 32, 46, 10, 108, 111, 97, 100, 10, 114, 101, 115, 105, 122, 101, 32, 45, 49, 32, 48, 10]).toArray⟩, .int .i64 0]) ∧ Below w.heap.size w w' := by
  have h := ttext_any 9 1 60 50 5 30 9 60 true [36, 32] tC tS ca sa 1 cc 5 sc w rfl rfl (by decide) tF_in tsc_B hC hS
  refine Calls.mono h ?_
  rintro e w' ⟨h1, h2⟩
  rw [show scT (([9, 1, 60, 50, 5, 30, 9, 60], true, [36, 32]), tC, tS) = some (tR ++ [10]) from tT_sc] at h1
  exact ⟨h1, h2⟩
theorem aw_same (ca sa : Option Addr) (cc sc : Nat) (w : World) (hC : CrI w ca tC) (hS : SpI w sa tS) : Calls Tryd.prog 13 #[.agg #[.int .i64 9, .int .i64 1, .int .i64 60, .int .i64 50, .int .i64 5, .int .i64 30, .int .i64 9, .int .i64 60, .bool true, .string ⟨#[36, 32]⟩, .slice ca 1 cc, .slice sa 5 sc], .agg #[.int .i64 9, .int .i64 1, .int .i64 60, .int .i64 50, .int .i64 5, .int .i64 30, .int .i64 9, .int .i64 60, .bool true, .string ⟨#[36, 32]⟩, .slice ca 1 cc, .slice sa 5 sc]] w fun e w' => e = .returned (.bool true) ∧ Below w.heap.size w w' := by
  have h := tsm_eq 9 1 60 50 5 30 9 60 true ⟨#[36, 32]⟩ tC tC tS tS ca sa ca sa cc sc cc sc w (by decide) (by decide) (by decide) (by decide) (by decide) (by decide) hC hS hC hS
  rw [decide_eq_true rfl, decide_eq_true rfl] at h
  exact h
theorem aw_unw (w : World) : Calls Tryd.prog 45 #[.string ⟨#[46, 92, 53, 67]⟩] w fun e w' => e = .returned (.tuple #[.string ⟨#[92]⟩, .int .i64 0]) ∧ Below w.heap.size w w' := by
  have h := tunword_any [46, 92, 53, 67] w (by decide)
  refine Calls.mono h ?_
  rintro e w' ⟨h1, h2⟩
  have h3 := uw_of h1
  have hw : ([46, 92, 53, 67] : List UInt8) = wdL [92] := by decide
  rw [hw, uwS_wd, uwE_wd] at h3
  exact ⟨h3, h2⟩
theorem aw_step (w : World) : Calls Tryd.prog 15 #[.agg #[.int .i64 1, .string ⟨#[]⟩, .int .i64 0, .int .i64 0, .slice none 0 0]] w fun e w' => e = .returned (.tuple #[.string ⟨#[116, 105, 99, 107]⟩, .int .i64 0]) ∧ Below w.heap.size w w' := by
  have h := tstep_any (1, [], 0, 0, []) none 0 w ⟨by decide, by decide, by decide, in1 1 (by omega) (by omega), in0, in0⟩ (sti_nil w none)
  refine Calls.mono h ?_
  rintro e w' ⟨h1, h2⟩
  exact ⟨h1, h2⟩
theorem aw_word (w : World) : Calls Tryd.prog 46 #[.string ⟨#[]⟩] w fun e w' => e = .returned (.string ⟨#[46]⟩) ∧ Below w.heap.size w w' := tword_any [] w (by decide)
theorem spi_at {w : World} {sa : Option Addr} (h : SpI w sa tS) : ∃ b off, sa = some ⟨b, off, none⟩ ∧ w.cell? ⟨b, off + 1, none⟩ = some (.string ⟨#[97, 27]⟩) ∧ (∃ ai ci, w.cell? ⟨b, off + 5 + 4, none⟩ = some (.slice ai 2 ci)) ∧ w.cell? ⟨b, off + 10 + 2, none⟩ = some (.int .i64 1) := by
  obtain ⟨b, off, a0, c0, rfl, _, _, h1, _⟩ := h 0 (by decide)
  obtain ⟨b1, off1, a1, c1, e1, _, _, _, _, _, h2, _⟩ := h 1 (by decide)
  obtain ⟨b2, off2, a2, c2, e2, _, _, _, h3, _⟩ := h 2 (by decide)
  injection e1 with e1
  injection e1 with e3 e4 _
  subst e3; subst e4
  injection e2 with e2
  injection e2 with e3 e4 _
  subst e3; subst e4
  exact ⟨b, off, rfl, h1, ⟨a1, c1, h2⟩, h3⟩
set_option maxRecDepth 100000 in
set_option maxHeartbeats 8000000 in
theorem tawake_any (w : World) : Calls Tryd.prog 10 #[] w fun e w' => e = .returned (.bool true) ∧ Below w.heap.size w w' := by
  obtain ⟨ts, hts⟩ : ∃ ts : ByteArray, ⟨([99, 111, 110, 102, 32, 57, 32, 49, 32, 54, 48, 32, 53, 48, 32, 53, 32, 51, 48, 32, 57, 32, 54, 48, 32, 118, 105, 32, 46, 36, 92, 50, 48, 10, 99, 114, 97, 115, 104, 32, 51, 32, 46, 92, 48, 48, 10].append [98, 121, 116, 101, 115, 32, 46, 97, 92, 49, 66, 10, 111, 102, 102, 101, 114, 32, 46, 120, 32, 46, 10, 108, 111, 97, 100, 32, 46, 10, 108, 111, 97, 100, 10, 114, 101, 115, 105, 122, 101, 32, 45, 49, 32, 48, 10]).toArray⟩ = ts := ⟨_, rfl⟩
  have PA0 := fun w => aw_parse w
  have TX0 := fun ca sa cc sc w hC hS => aw_text ca sa cc sc w hC hS
  rw [hts] at PA0 TX0
  have PA := Lib.hid PA0
  have TX := Lib.hid TX0
  clear PA0 TX0
  go_enter Tryd.func10, Tryd.ntmps10
  go_upto_region 2 with fail
  rw [hts]
  clear hts
  go_upto_region 3 with (go_at_call 17; refine (PA.out _).mono ?_; rintro e w1 ⟨ca, sa, cc, sc, rfl, hC1, hS1, hb1⟩; have HC1 := Lib.hid hC1; have HS1 := Lib.hid hS1; have HB1 := Lib.hid hb1; clear hC1 hS1 hb1)
  have b2 := below_alloc w1 (.cells #[.int .i64 9, .int .i64 1, .int .i64 60, .int .i64 50, .int .i64 5, .int .i64 30, .int .i64 9, .int .i64 60, .bool true, .string ⟨#[36, 32]⟩, .slice ca 1 cc, .slice sa 5 sc] 27)
  have r2 := heap_alloc_new w1 (.cells #[.int .i64 9, .int .i64 1, .int .i64 60, .int .i64 50, .int .i64 5, .int .i64 30, .int .i64 9, .int .i64 60, .bool true, .string ⟨#[36, 32]⟩, .slice ca 1 cc, .slice sa 5 sc] 27)
  obtain ⟨Y, hY⟩ : ∃ Y, w1.heap.size = Y := ⟨_, rfl⟩
  obtain ⟨W2, hW2⟩ : ∃ W2, w1.alloc (.cells #[.int .i64 9, .int .i64 1, .int .i64 60, .int .i64 50, .int .i64 5, .int .i64 30, .int .i64 9, .int .i64 60, .bool true, .string ⟨#[36, 32]⟩, .slice ca 1 cc, .slice sa 5 sc] 27) = W2 := ⟨_, rfl⟩
  have HC2 := Lib.hid (HC1.out.below b2)
  have HS2 := Lib.hid (HS1.out.below b2)
  have HB2 := Lib.hid (seqB HB1.out b2)
  rw [hW2] at HC2 HS2 HB2 r2 ⊢
  rw [hY] at r2 ⊢
  have R2 := Lib.hid r2
  clear b2 hY hW2 HC1 HS1 HB1 r2
  have kka := fun i => cell_of_row _ _ i _ _ _ R2.out; have a0 := kka 0; have a1 := kka 1; have a2 := kka 2; have a3 := kka 3; have a4 := kka 4; have a5 := kka 5; have a6 := kka 6; have a7 := kka 7; have a8 := kka 8; have a9 := kka 9; have a10 := kka 10; have a11 := kka 11; dsimp at a0 a1 a2 a3 a4 a5 a6 a7 a8 a9 a10 a11; clear kka
  have TX2 := Lib.hid (TX.out ca sa cc sc W2 HC2.out HS2.out)
  go_upto_region 4 with (go_at_call 11; refine TX2.out.mono ?_; rintro e w3 ⟨rfl, hb3⟩; have HB3 := Lib.hid (seqB HB2.out hb3); have R3 := Lib.hid (blk_below R2.out hb3); have HC3 := Lib.hid (HC2.out.below hb3); have HS3 := Lib.hid (HS2.out.below hb3); clear hb3)
  clear a0 a1 a2 a3 a4 a5 a6 a7 a8 a9 a10 a11
  go_upto_region 5 with (go_at_call 45; refine (aw_unw _).mono ?_; rintro e w4 ⟨rfl, hb4⟩; have HB4 := Lib.hid (seqB HB3.out hb4); have R4 := Lib.hid (blk_below R3.out hb4); have HC4 := Lib.hid (HC3.out.below hb4); have HS4 := Lib.hid (HS3.out.below hb4); clear hb4)
  obtain ⟨sb, so, hse, _⟩ := spi_at HS4.out
  subst hse
  go_wp2_with (first
    | (go_at_call 15; refine (aw_step _).mono ?_; rintro e w5 ⟨rfl, hb5⟩; have HB5 := Lib.hid (seqB HB4.out hb5); have R5 := Lib.hid (blk_below R4.out hb5); have HC5 := Lib.hid (HC4.out.below hb5); have HS5 := Lib.hid (HS4.out.below hb5); have kkb := fun i => cell_of_row _ _ i _ _ _ R5.out; have b0 := kkb 0; have b1 := kkb 1; have b2 := kkb 2; have b3 := kkb 3; have b4 := kkb 4; have b5 := kkb 5; have b6 := kkb 6; have b7 := kkb 7; have b8 := kkb 8; have b9 := kkb 9; have b10 := kkb 10; have b11 := kkb 11; dsimp at b0 b1 b2 b3 b4 b5 b6 b7 b8 b9 b10 b11; clear kkb; obtain ⟨sb', so', hse', q1, ⟨la, lc, q2⟩, q3⟩ := spi_at HS5.out; injection hse' with hse'; injection hse' with e1 e2; subst e1; subst e2; clear hb5)
    | (go_at_call 46; refine (aw_word _).mono ?_; rintro e w6 ⟨rfl, hb6⟩; have HB6 := Lib.hid (seqB HB5.out hb6); have R6 := Lib.hid (blk_below R5.out hb6); have HC6 := Lib.hid (HC5.out.below hb6); have HS6 := Lib.hid (HS5.out.below hb6); have kkc := fun i => cell_of_row _ _ i _ _ _ R6.out; have c0 := kkc 0; have c1 := kkc 1; have c2 := kkc 2; have c3 := kkc 3; have c4 := kkc 4; have c5 := kkc 5; have c6 := kkc 6; have c7 := kkc 7; have c8 := kkc 8; have c9 := kkc 9; have c10 := kkc 10; have c11 := kkc 11; dsimp at c0 c1 c2 c3 c4 c5 c6 c7 c8 c9 c10 c11; clear kkc; clear hb6)
    | (go_at_call 13; refine (aw_same ca _ cc sc _ HC6.out HS6.out).mono ?_; rintro e w7 ⟨rfl, hb7⟩; have HB7 := Lib.hid (seqB HB6.out hb7); clear hb7))
  go_ret
  exact ⟨rfl, HB7.out⟩
end Go.Proofs.YtnpiooaiceegmaaDoor
set_option linter.unusedVariables false
set_option linter.unusedSimpArgs false
namespace Go.Proofs.YtnpiooaiceegmaaDoor
open Go.RowKit
theorem mk_of (s : ByteArray) : mkL s.data.toList = s := by
  unfold mkL
  rw [Array.toArray_toList]
end Go.Proofs.YtnpiooaiceegmaaDoor
