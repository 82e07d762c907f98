/-
  Gap buffers: Move.
-/
import Derived.Test.YtfmcgdjjcdlmeaaG9
set_option linter.unusedVariables false
set_option linter.unusedSimpArgs false
namespace Go.Proofs.Ytfmcgdjjcdlmeaa
set_option maxRecDepth 100000
open Go.RowKit
theorem gmove_nil (i : Int) (w : World) : Calls Try.prog 17 #[.pointer none, .int .i64 i] w fun x w' => x = .returned (.tuple #[]) ∧ w = w' := by
  go_enter Try.func17, Try.ntmps17
  go_wp2_with fail
  refine bodyPost_ret (v := .tuple #[]) (by simp [results, Try.results17, go_sem]) rfl ?_
  exact ⟨rfl, rfl⟩
/-- Where a cursor comes to be. -/
def mvT (n : Nat) (i : Int) : Nat := min i.toNat n
/-- What Move leaves: the same signs, the cursor at a place. -/
def MvPost (p : Nat) (M : Int) (v : Value) (R : List Sn) (a e t : Nat) (w : World) (x : Ending) (w' : World) : Prop :=
  x = .returned (.tuple #[]) ∧ ∃ R' e', GapAt p M v R' t e' w' ∧ gsL R' t e' = gsL R a e ∧ R'.length = R.length ∧ Kept p v w w'
theorem mv_left (R : List Sn) (a e t : Nat) (h1 : a ≤ e) (h2 : e ≤ R.length) (ht : t ≤ a) : gsL (cpL R (e - (a - t)) ((R.drop t).take (a - t))) t (e - (a - t)) = gsL R a e := by
  have hl : ((R.drop t).take (a - t)).length = a - t := by rw [List.length_take, List.length_drop]; omega
  have hla : (R.take (e - (a - t))).length = e - (a - t) := by rw [List.length_take]; omega
  unfold gsL cpL
  rw [hl, show e - (a - t) + (a - t) = e by omega, List.append_assoc]
  rw [List.take_append_of_le_length (by omega), List.take_take, Nat.min_eq_left (by omega)]
  rw [List.drop_append, hla, Nat.sub_self, List.drop_zero, List.drop_of_length_le (by omega), List.nil_append, ← List.append_assoc]
  congr 1
  rw [← List.drop_take]
  have := List.take_append_drop t (R.take a)
  rw [List.take_take, Nat.min_eq_left ht] at this
  exact this
theorem mv_right (R : List Sn) (a e t : Nat) (h1 : a ≤ e) (h2 : e ≤ R.length) (ht : a ≤ t) (ht2 : e + (t - a) ≤ R.length) : gsL (cpL R a ((R.drop e).take (t - a))) t (e + (t - a)) = gsL R a e := by
  obtain ⟨X, hX⟩ : ∃ X, (R.drop e).take (t - a) = X := ⟨_, rfl⟩
  have hl : X.length = t - a := by rw [← hX, List.length_take, List.length_drop]; omega
  have hla : (R.take a).length = a := by rw [List.length_take]; omega
  have hlx : (R.take a ++ X).length = t := by rw [List.length_append, hla, hl]; omega
  have e1 : (cpL R a X).take t = R.take a ++ X := by
    unfold cpL
    rw [List.take_append_of_le_length (by omega), List.take_of_length_le (by omega)]
  have e2 : (cpL R a X).drop (e + (t - a)) = R.drop (e + (t - a)) := by
    unfold cpL
    rw [List.drop_append, hlx, List.drop_of_length_le (l := R.take a ++ X) (by omega), List.nil_append, List.drop_drop, hl, show a + (t - a) + (e + (t - a) - t) = e + (t - a) by omega]
  rw [hX]
  unfold gsL
  rw [e1, e2, List.append_assoc]
  congr 1
  rw [← hX, ← List.drop_drop]
  exact List.take_append_drop _ _
/-- The buffer's block behind a copy within its room. -/
theorem mv_cells {p r : Nat} {M : Int} {R : List Sn} {a e : Nat} {W : World} (R' : List Sn) (h : GapAt p M (.slice (some ⟨r, 0, none⟩) R.length R.length) R a e W) :
    (W.setRow r (sRow R')).heap[p]? = some (.cells #[.int .i64 M, .slice (some ⟨r, 0, none⟩) R.length R.length, .int .i64 (a : Int), .int .i64 (e : Int)] 56 (0, 0)) := by
  rcases h.room with ⟨hv, _⟩ | ⟨r', hv, hrp, hr⟩
  · cases hv
  · cases hv
    exact (setRow_other W r p _ (Ne.symm hrp)).trans h.blk
theorem mv_done {p r : Nat} {M : Int} {R R' : List Sn} {a e t e' : Nat} {w W : World} (h : GapAt p M (.slice (some ⟨r, 0, none⟩) R.length R.length) R a e W) (hk : Kept p (.slice (some ⟨r, 0, none⟩) R.length R.length) w W) (hl : R'.length = R.length) (h1 : t ≤ e') (h2 : e' ≤ R.length) (hg : gsL R' t e' = gsL R a e) :
    MvPost p M (.slice (some ⟨r, 0, none⟩) R.length R.length) R a e t w (.returned (.tuple #[])) (((W.setRow r (sRow R')).setCell ⟨p, 2, none⟩ (.int .i64 (t : Int))).setCell ⟨p, 3, none⟩ (.int .i64 (e' : Int))) := by
  rcases h.room with ⟨hv, _⟩ | ⟨r', hv, hrp, hr⟩
  · cases hv
  · cases hv
    have hsr := setRow_heap W r _ (sRow R') 43 (0, 0) hr
    refine ⟨rfl, R', e', ⟨?_, Or.inr ⟨r, by rw [hl], hrp, ?_⟩, h1, by omega, by rw [hl]; exact h.big, h.m1, h.m2⟩, hg, hl, ?_⟩
    · have hb : (W.setRow r (sRow R')).heap[p]? = _ := (setRow_other W r p _ (Ne.symm hrp)).trans h.blk
      exact blk_set (blk_set hb 2 (.int .i64 (t : Int))) 3 (.int .i64 (e' : Int))
    · exact (Below.heap_setCell _ _ _ _ (by show r ≠ p; exact hrp)).trans ((Below.heap_setCell _ _ _ _ (by show r ≠ p; exact hrp)).trans hsr)
    · have hk1 : Kept p (.slice (some ⟨r, 0, none⟩) R.length R.length) w (W.setRow r (sRow R')) :=
        ⟨hk.os, hk.tape, hk.output, by have := hk.size; simpa [World.setRow] using this, fun k hk2 hkp hkr => (setRow_other W r k _ (fun e => hkr (by rw [e]; rfl))).trans (hk.block k hk2 hkp hkr)⟩
      exact (hk1.set 2 _).set 3 _
set_option maxHeartbeats 8000000 in
theorem gmove_left (p r : Nat) (M : Int) (R : List Sn) (a e t : Nat) (i : Int) (w : World) (h : GapAt p M (.slice (some ⟨r, 0, none⟩) R.length R.length) R a e w) (hta : t < a) (ht : mvT (gsL R a e).length i = t) : Calls Try.prog 17 #[.pointer (some ⟨p, 0, none⟩), .int .i64 i] w (MvPost p M (.slice (some ⟨r, 0, none⟩) R.length R.length) R a e t w) := by
  have LN := glen_any p M _ R a e w h
  have h1 := h.le1; have h2 := h.le2; have h3 := h.big
  have hlen := gsL_len R a e h1 h2
  obtain ⟨n, hn⟩ : ∃ n, (gsL R a e).length = n := ⟨_, rfl⟩
  rw [hn] at LN ht hlen
  have hna : a ≤ n := by omega
  have hcl : (if i < 0 then 0 else i) = (t : Int) := by
    unfold mvT at ht; split <;> omega
  have hcl2 : ¬ (n : Int) < (t : Int) := by omega
  have htai : (t : Int) < a := by omega
  have hte1 : (a : Int) - t ≤ e := by omega
  obtain ⟨q, hq⟩ : ∃ q, e - (a - t) = q := ⟨_, rfl⟩
  have hqi : (e : Int) - ((a : Int) - (t : Int)) = (q : Int) := by omega
  have hqe : ¬ e = q := by omega
  have hta2 : ¬ a = t := by omega
  have hqe2 : (q : Int) ≤ (e : Int) := by omega
  have hml := Lib.hid (mv_left R a e t h1 h2 (by omega))
  rw [hq] at hml
  have hqq := Lib.hid hq
  clear hq
  replace hlen := Lib.hid hlen; replace ht := Lib.hid ht
  replace LN := Lib.hid LN
  have HG := Lib.hid h
  clear h hn
  go_enter Try.func17, Try.ntmps17
  go_upto_region 4 with (go_at_call 20; refine LN.out.mono ?_; rintro x w1 ⟨rfl, hb1⟩; obtain ⟨c0, c1, c2, c3⟩ := (HG.out.below hb1).cells)
  have G1 := Lib.hid (HG.out.below (hb1.drew))
  have r1 : Hid (w1.drew.heap[r]? = some (.cells (sRow R) 43 (0, 0))) := by
    rcases G1.out.room with ⟨hv, _⟩ | ⟨r', hv, _, hr⟩
    · cases hv
    · cases hv; exact Lib.hid hr
  have cp : (Builtin.copy_ #[28, 28] 3 #[.slice (some ⟨r, q * 2, none⟩) (e - q) (R.length - q), .slice (some ⟨r, t * 2, none⟩) (a - t) (R.length - t)]).run Try.prog w1.drew = .ok (goInt ((a - t : Nat) : Int)) (w1.drew.setRow r (sRow (cpL R q ((R.drop t).take (a - t))))) :=
    copy_room (w := w1.drew) 3 (g := r) (r := r) (D := R) (S := R) (o := q) (x := t) (dl := e - q) (dc := R.length - q) (n := a - t) (sc := R.length - t) r1.out r1.out (by omega) (by omega) (by have := hqq.out; omega)
  go_region
  have hbp := mv_cells (cpL R q ((R.drop t).take (a - t))) G1.out
  have DN := mv_done (w := w) (W := w1.drew) (R' := cpL R q ((R.drop t).take (a - t))) (t := t) (e' := q) G1.out (Kept.of hb1.drew) (cpL_len R q _ (by rw [List.length_take, List.length_drop]; have := hqq.out; omega)) (by have := hqq.out; omega) (by omega) hml.out
  have zf := fun i => frozen_of_row _ p i _ _ hbp
  have zz := fun i => cell_of_row _ _ i _ _ _ hbp
  clear cp c0 c1 c2 c3 hb1 hml
  have c0 := zz 0; have c1 := zz 1; have c2 := zz 2; have c3 := zz 3
  dsimp at c0 c1 c2 c3
  clear zz hbp
  replace DN := Lib.hid DN
  generalize hW1 : World.setRow _ _ _ = W1
  rw [hW1] at DN c0 c1 c2 c3 zf
  clear hW1
  go_wp2
  refine bodyPost_ret (v := .tuple #[]) (by simp [results, Try.results17, go_sem]) rfl ?_
  exact DN.out
theorem cpL_nil (R : List Sn) (a : Nat) : cpL R a [] = R := by
  unfold cpL; simp
/-- The copy to the cursor, be it nothing. -/
theorem mv_cp {W : World} {r : Nat} {R : List Sn} (a e q : Nat) (hr : W.heap[r]? = some (.cells (sRow R) 43 (0, 0))) (h1 : e ≤ q) (h2 : q ≤ R.length) (h3 : a + (q - e) ≤ R.length) :
    (Builtin.copy_ #[28, 28] 3 #[.slice (if R.length = a then some ⟨r, 0, none⟩ else some ⟨r, a * 2, none⟩) (R.length - a) (R.length - a), .slice (if R.length = e then some ⟨r, 0, none⟩ else some ⟨r, e * 2, none⟩) (q - e) (R.length - e)]).run Try.prog W = .ok (goInt ((q - e : Nat) : Int)) (W.setRow r (sRow (cpL R a ((R.drop e).take (q - e))))) := by
  by_cases hn : q - e = 0
  · rw [hn, List.take_zero, cpL_nil]
    have k := fun o x (ho : o ≤ R.length) (hx : x ≤ R.length) (hd : o + (R.length - a) ≤ R.length) => copy_room (w := W) 3 (g := r) (r := r) (D := R) (S := R) (o := o) (x := x) (dl := R.length - a) (dc := R.length - a) (n := 0) (sc := R.length - e) hr hr hd (by omega) (by omega)
    by_cases ha : R.length = a <;> by_cases he : R.length = e
    · have := k 0 0 (by omega) (by omega) (by omega)
      rw [if_pos ha, if_pos he]; rw [List.take_zero, cpL_nil] at this; exact this
    · have := k 0 e (by omega) (by omega) (by omega)
      rw [if_pos ha, if_neg he]; rw [List.take_zero, cpL_nil] at this; exact this
    · have := k a 0 (by omega) (by omega) (by omega)
      rw [if_neg ha, if_pos he]; rw [List.take_zero, cpL_nil] at this; exact this
    · have := k a e (by omega) (by omega) (by omega)
      rw [if_neg ha, if_neg he]; rw [List.take_zero, cpL_nil] at this; exact this
  · rw [if_neg (by omega), if_neg (by omega)]
    exact copy_room (w := W) 3 (g := r) (r := r) (D := R) (S := R) (o := a) (x := e) (dl := R.length - a) (dc := R.length - a) (n := q - e) (sc := R.length - e) hr hr (by omega) (by omega) (by omega)
set_option maxHeartbeats 8000000 in
theorem gmove_right (p r : Nat) (M : Int) (R : List Sn) (a e t : Nat) (i : Int) (w : World) (h : GapAt p M (.slice (some ⟨r, 0, none⟩) R.length R.length) R a e w) (hta : a ≤ t) (hi : i ≤ 9223372036854775807) (ht : mvT (gsL R a e).length i = t) : Calls Try.prog 17 #[.pointer (some ⟨p, 0, none⟩), .int .i64 i] w (MvPost p M (.slice (some ⟨r, 0, none⟩) R.length R.length) R a e t w) := by
  have LN := glen_any p M _ R a e w h
  have h1 := h.le1; have h2 := h.le2; have h3 := h.big
  have hlen := gsL_len R a e h1 h2
  obtain ⟨n, hn⟩ : ∃ n, (gsL R a e).length = n := ⟨_, rfl⟩
  rw [hn] at LN ht hlen
  have htn : t ≤ n := by unfold mvT at ht; omega
  obtain ⟨x, hx⟩ : ∃ x : Nat, i.toNat = x := ⟨_, rfl⟩
  have hcl : (if i < 0 then 0 else i) = (x : Int) := by split <;> omega
  have hcl2 : (if n < x then (n : Int) else (x : Int)) = (t : Int) := by
    unfold mvT at ht; split <;> omega
  have htai : ¬ (0 : Int) < (a : Int) - (t : Int) := by omega
  have htai2 : ¬ (t : Int) < (a : Int) := by omega
  obtain ⟨q, hq⟩ : ∃ q, e + (t - a) = q := ⟨_, rfl⟩
  have hqi : (e : Int) + (t : Int) - (a : Int) = (q : Int) := by omega
  have hqR : q ≤ R.length := by omega
  have heq : e ≤ q := by omega
  have hqR2 : (q : Int) ≤ (R.length : Int) := by omega
  have heq2 : (e : Int) ≤ (q : Int) := by omega
  have hmr := Lib.hid (mv_right R a e t h1 h2 hta (by omega))
  have hqq := Lib.hid hq
  have HG := Lib.hid h
  rw [hq, show t - a = q - e by omega] at hmr
  have haR : a ≤ R.length := by omega
  have hsum : (e : Int) + ((q - e : Nat) : Int) = (q : Int) := by omega
  clear hq
  replace hlen := Lib.hid hlen; replace ht := Lib.hid ht
  replace LN := Lib.hid LN
  clear h hn hx
  go_enter Try.func17, Try.ntmps17
  go_upto_region 6 with (go_at_call 20; refine LN.out.mono ?_; rintro x w1 ⟨rfl, hb1⟩; obtain ⟨c0, c1, c2, c3⟩ := (HG.out.below hb1).cells)
  have G1 := Lib.hid (HG.out.below (hb1.drew))
  have r1 : Hid (w1.drew.heap[r]? = some (.cells (sRow R) 43 (0, 0))) := by
    rcases G1.out.room with ⟨hv, _⟩ | ⟨r', hv, _, hr⟩
    · cases hv
    · cases hv; exact Lib.hid hr
  have cp := mv_cp a e q r1.out heq hqR (by have := hqq.out; omega)
  go_region
  have hbp := mv_cells (cpL R a ((R.drop e).take (q - e))) G1.out
  have DN := mv_done (w := w) (W := w1.drew) (R' := cpL R a ((R.drop e).take (q - e))) (t := t) (e' := q) G1.out (Kept.of hb1.drew) (cpL_len R a _ (by rw [List.length_take, List.length_drop]; have := hqq.out; omega)) (by have := hqq.out; omega) (by omega) hmr.out
  have zf := fun i => frozen_of_row _ p i _ _ hbp
  have zz := fun i => cell_of_row _ _ i _ _ _ hbp
  clear cp c0 c1 c2 c3 hb1 hmr
  have c0 := zz 0; have c1 := zz 1; have c2 := zz 2; have c3 := zz 3
  dsimp at c0 c1 c2 c3
  clear zz hbp
  replace DN := Lib.hid DN
  generalize hW1 : World.setRow _ _ _ = W1
  rw [hW1] at DN c0 c1 c2 c3 zf
  clear hW1
  obtain ⟨BA, hBA⟩ : ∃ x : Option Addr, (if R.length = a then some ⟨r, 0, none⟩ else some ⟨r, a * 2, none⟩) = x := ⟨_, rfl⟩
  obtain ⟨BE, hBE⟩ : ∃ x : Option Addr, (if R.length = e then some ⟨r, 0, none⟩ else some ⟨r, e * 2, none⟩) = x := ⟨_, rfl⟩
  simp only [hBA, hBE]
  clear hBA hBE
  go_wp2
  refine bodyPost_end (v := .tuple #[]) (by simp [results, Try.results17, go_sem]) rfl ?_
  exact DN.out
set_option maxHeartbeats 4000000 in
theorem gmove_none (p : Nat) (M : Int) (i : Int) (w : World) (h : GapAt p M (.slice none 0 0) [] 0 0 w) : Calls Try.prog 17 #[.pointer (some ⟨p, 0, none⟩), .int .i64 i] w (MvPost p M (.slice none 0 0) [] 0 0 0 w) := by
  have LN := glen_any p M _ [] 0 0 w h
  rw [show (gsL [] 0 0).length = 0 from rfl] at LN
  replace LN := Lib.hid LN
  have HG := Lib.hid h
  obtain ⟨x, hx⟩ : ∃ x : Nat, i.toNat = x := ⟨_, rfl⟩
  have hcl : (if i < 0 then 0 else i) = (x : Int) := by split <;> omega
  have hcl2 : (if 0 < x then (0 : Int) else (x : Int)) = 0 := by split <;> omega
  have CZ := fun W d s dl dc sc => run_copy_zero (P := Try.prog) W 28 28 3 43 d s dl dc sc Try.underlying28 (by rw [infoSz]; rfl)
  clear h hx
  go_enter Try.func17, Try.ntmps17
  go_upto_region 6 with (go_at_call 20; refine LN.out.mono ?_; rintro x w1 ⟨rfl, hb1⟩; obtain ⟨c0, c1, c2, c3⟩ := (HG.out.below hb1).cells; have zf := fun i => frozen_of_row _ p i _ _ (HG.out.below hb1).blk)
  go_region
  have G1 := (HG.out.below (hb1.drew))
  have D1 := cut_at G1 0 (Nat.le_refl _)
  have DN := Lib.hid (cut_end D1 0 (Nat.le_refl _) (Nat.zero_le _))
  have KN := Lib.hid (((Kept.of (p := p) (v := .slice none 0 0) hb1.drew).set 2 (.int .i64 ((0 : Nat) : Int))).set 3 (.int .i64 ((0 : Nat) : Int)))
  clear G1 D1
  go_wp2
  refine bodyPost_end (v := .tuple #[]) (by simp [results, Try.results17, go_sem]) rfl ?_
  exact ⟨rfl, [], 0, DN.out, rfl, rfl, KN.out⟩
/-- Move, whatever the room. -/
theorem gmove_any (p : Nat) (M : Int) (v : Value) (R : List Sn) (a e : Nat) (i : Int) (w : World) (h : GapAt p M v R a e w) (hi : i ≤ 9223372036854775807) : Calls Try.prog 17 #[.pointer (some ⟨p, 0, none⟩), .int .i64 i] w (MvPost p M v R a e (mvT (gsL R a e).length i) w) := by
  have h1 := h.le1; have h2 := h.le2
  rcases h.room with ⟨hv, hR⟩ | ⟨r, hv, hrp, hr⟩
  · subst hv; subst hR
    have ha0 : a = 0 := by simp at h2; omega
    have he0 : e = 0 := by simp at h2; omega
    subst ha0; subst he0
    rw [show mvT (gsL [] 0 0).length i = 0 by simp [mvT, gsL]]
    exact gmove_none p M i w h
  · subst hv
    by_cases ht : mvT (gsL R a e).length i < a
    · exact gmove_left p r M R a e _ i w h ht rfl
    · exact gmove_right p r M R a e _ i w h (by omega) hi rfl
end Go.Proofs.Ytfmcgdjjcdlmeaa
