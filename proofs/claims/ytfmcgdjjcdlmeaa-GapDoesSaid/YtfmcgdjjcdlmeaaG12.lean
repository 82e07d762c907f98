/-
  Gap buffers: a buffer that a call made, by its signs and its cursor.
-/
import Derived.Test.YtfmcgdjjcdlmeaaG11
import Derived.Test.YtfmcgdjjcdlmeaaG8
set_option linter.unusedVariables false
set_option linter.unusedSimpArgs false
namespace Go.Proofs.Ytfmcgdjjcdlmeaa
set_option maxRecDepth 100000
open Go.RowKit
/-- Since a world w0 only what is new has changed, and a buffer lies there: new, older than N. -/
def GapIs (w0 : World) (N p : Nat) (M : Int) (L : List Sn) (a : Nat) (w : World) : Prop :=
  Below w0.heap.size w0 w ∧ w0.heap.size ≤ p ∧ p < N ∧ ∃ v R e, GapAt p M v R a e w ∧ gsL R a e = L ∧ ∀ r, v.ownBlock = some r → w0.heap.size ≤ r ∧ r < N
theorem GapIs.bel {w0 : World} {N p : Nat} {M : Int} {L : List Sn} {a : Nat} {w : World} (h : GapIs w0 N p M L a w) : Below w0.heap.size w0 w := h.1
theorem GapIs.below {w0 : World} {N p : Nat} {M : Int} {L : List Sn} {a : Nat} {w w' : World} (h : GapIs w0 N p M L a w) (hb : Below w.heap.size w w') : GapIs w0 N p M L a w' := by
  obtain ⟨h1, h2, h3, v, R, e, h4, h5, h6⟩ := h
  exact ⟨seqB h1 hb, h2, h3, v, R, e, h4.below hb, h5, h6⟩
theorem GapIs.nums {w0 : World} {N p : Nat} {M : Int} {L : List Sn} {a : Nat} {w : World} (h : GapIs w0 N p M L a w) : a ≤ L.length ∧ L.length ≤ 65536 ∧ 1 ≤ M ∧ M ≤ 65536 := by
  obtain ⟨h1, h2, h3, v, R, e, h4, h5, h6⟩ := h
  have := gsL_len R a e h4.le1 h4.le2
  rw [h5] at this
  have k1 := h4.le1; have k2 := h4.le2; have k3 := h4.big
  exact ⟨by omega, by omega, h4.m1, h4.m2⟩
/-- What is new since N is not of the buffer. -/
theorem GapIs.setCell {w0 : World} {N p : Nat} {M : Int} {L : List Sn} {a : Nat} {w : World} (h : GapIs w0 N p M L a w) (q i : Nat) (u : Value) (hq : N ≤ q) : GapIs w0 N p M L a (w.setCell ⟨q, i, none⟩ u) := by
  obtain ⟨h1, h2, h3, v, R, e, h4, h5, h6⟩ := h
  refine ⟨h1.setCell (p := ⟨q, i, none⟩) (by show w0.heap.size ≤ q; omega) u, h2, h3, v, R, e, ⟨?_, h4.room.keep fun r hr => ?_, h4.le1, h4.le2, h4.big, h4.m1, h4.m2⟩, h5, h6⟩
  · exact (Below.heap_setCell _ _ _ _ (by show p ≠ q; omega)).trans h4.blk
  · exact Below.heap_setCell _ _ _ _ (by have := h6 r hr; show r ≠ q; omega)
theorem GapIs.new {w0 w w' : World} {m : Int} (hb : Below w0.heap.size w0 w) (h1 : 1 ≤ m) (h2 : m ≤ 65536) (h : w.alloc (.cells #[.int .i64 m, .slice none 0 0, .int .i64 0, .int .i64 0] 56) = w') : GapIs w0 w'.heap.size w.heap.size m [] 0 w' := by
  subst h
  have hb2 := heap_alloc_new w (.cells #[.int .i64 m, .slice none 0 0, .int .i64 0, .int .i64 0] 56)
  refine ⟨seqB hb (below_alloc _ _), hb.size, blk_lt hb2, .slice none 0 0, [], 0, ⟨hb2, Or.inl ⟨rfl, rfl⟩, Nat.le_refl _, Nat.le_refl _, Nat.zero_le _, h1, h2⟩, rfl, fun r hr => by cases hr⟩
/-- A call of the buffer that leaves it so. -/
theorem GapIs.kept {w0 : World} {N p : Nat} {M : Int} {v v' : Value} {R' : List Sn} {a' e' : Nat} {L' : List Sn} {w w' : World} (h1 : Below w0.heap.size w0 w) (h2 : w0.heap.size ≤ p) (h3 : p < N) (h6 : ∀ r, v.ownBlock = some r → w0.heap.size ≤ r ∧ r < N) (g : GapAt p M v' R' a' e' w') (gl : gsL R' a' e' = L') (k : Kept p v w w') (hv : v' = v ∨ ∀ r, v'.ownBlock = some r → w.heap.size ≤ r) : GapIs w0 w'.heap.size p M L' a' w' := by
  refine ⟨k.below h1 h1.size h2 (fun r hr => (h6 r hr).1), h2, blk_lt g.blk, v', R', e', g, gl, fun r hr => ⟨?_, g.room.lt r hr⟩⟩
  rcases hv with rfl | hv
  · exact (h6 r hr).1
  · exact Nat.le_trans h1.size (hv r hr)
theorem is_len {w0 : World} {N p : Nat} {M : Int} {L : List Sn} {a : Nat} {w : World} (h : GapIs w0 N p M L a w) : Calls Try.prog 20 #[.pointer (some ⟨p, 0, none⟩)] w fun x w' => x = .returned (.int .i64 (L.length : Int)) ∧ Below w.heap.size w w' := by
  obtain ⟨h1, h2, h3, v, R, e, h4, h5, h6⟩ := h
  subst h5
  exact glen_any p M v R a e w h4
theorem is_at {w0 : World} {N p : Nat} {M : Int} {L : List Sn} {a : Nat} {w : World} (h : GapIs w0 N p M L a w) : Calls Try.prog 21 #[.pointer (some ⟨p, 0, none⟩)] w fun x w' => x = .returned (.int .i64 (a : Int)) ∧ w = w' := by
  obtain ⟨h1, h2, h3, v, R, e, h4, h5, h6⟩ := h
  exact gat_any p M v R a e w h4
theorem is_get {w0 : World} {N p : Nat} {M : Int} {L : List Sn} {a : Nat} {w : World} (i : Int) (h : GapIs w0 N p M L a w) : Calls Try.prog 19 #[.pointer (some ⟨p, 0, none⟩), .int .i64 i] w fun x w' => x = .returned (.tuple #[.agg #[.int .i64 (gtV L i).1, .int .i64 (gtV L i).2], .bool (gtB L i)]) ∧ Below w.heap.size w w' := by
  obtain ⟨h1, h2, h3, v, R, e, h4, h5, h6⟩ := h
  subst h5
  exact gget_any p M v R a e i w h4
theorem is_all {w0 : World} {N p : Nat} {M : Int} {L : List Sn} {a : Nat} {w : World} (h : GapIs w0 N p M L a w) : Calls Try.prog 22 #[.pointer (some ⟨p, 0, none⟩)] w fun x w' => ∃ ad, x = .returned (.slice ad L.length L.length) ∧ OwnSn w.heap.size (.slice ad L.length L.length) L w' ∧ Below w.heap.size w w' := by
  obtain ⟨h1, h2, h3, v, R, e, h4, h5, h6⟩ := h
  subst h5
  refine (gall_any p M v R a e w h4).mono ?_
  rintro x w' ⟨u, rfl, hu, hb⟩
  obtain ⟨ad, rfl, _⟩ := hu.signs
  exact ⟨ad, rfl, hu, hb⟩
theorem is_line {w0 : World} {N p : Nat} {M : Int} {L : List Sn} {a : Nat} {w : World} (h : GapIs w0 N p M L a w) : Calls Try.prog 24 #[.pointer (some ⟨p, 0, none⟩)] w fun x w' => ∃ ad, x = .returned (.agg #[.slice ad L.length L.length, .int .i64 (a : Int)]) ∧ OwnSn w.heap.size (.slice ad L.length L.length) L w' ∧ Below w.heap.size w w' := by
  obtain ⟨h1, h2, h3, v, R, e, h4, h5, h6⟩ := h
  subst h5
  refine (gline_any p M v R a e w h4).mono ?_
  rintro x w' ⟨u, rfl, hu, hb⟩
  obtain ⟨ad, rfl, _⟩ := hu.signs
  exact ⟨ad, rfl, hu, hb⟩
theorem is_insert {w0 : World} {N p : Nat} {M : Int} {L : List Sn} {a : Nat} {w : World} {b : Option Addr} {l : List Sn} (c : Nat) (h : GapIs w0 N p M L a w) (hs : Signs w b l) (hb : l ≠ [] → ∀ ad, b = some ad → ad.block < w0.heap.size ∨ N ≤ ad.block) (hok : sgC l = true) (hM : (l.length : Int) + (L.length : Int) ≤ M) :
    Calls Try.prog 9 #[.pointer (some ⟨p, 0, none⟩), .slice b l.length c] w fun x w' => x = .returned (.int .i64 0) ∧ GapIs w0 w'.heap.size p M (L.take a ++ l ++ L.drop a) (a + l.length) w' := by
  obtain ⟨h1, h2, h3, v, R, e, h4, h5, h6⟩ := h
  subst h5
  refine (gin_any p M v R a e l b c w h4 hs (fun hl ad he => ?_) hok hM).mono ?_
  · have := hb hl ad he
    refine ⟨by omega, fun hh => ?_⟩
    have := h6 _ hh.symm
    omega
  · rintro x w' ⟨rfl, v', R', e', g1, g2, g3, g4⟩
    exact ⟨rfl, GapIs.kept h1 h2 h3 h6 g1 g2 g3 g4⟩
theorem is_insert_err {w0 : World} {N p : Nat} {M : Int} {L : List Sn} {a : Nat} {w : World} {b : Option Addr} {l : List Sn} (c : Nat) (er : Int) (h : GapIs w0 N p M L a w) (hs : Signs w b l) (hl : l.length ≤ 9223372036854775807) (her : gmE l M (L.length : Int) = er) (hne : er ≠ 0) :
    Calls Try.prog 9 #[.pointer (some ⟨p, 0, none⟩), .slice b l.length c] w fun x w' => x = .returned (.int .i64 er) ∧ Below w.heap.size w w' := by
  obtain ⟨h1, h2, h3, v, R, e, h4, h5, h6⟩ := h
  subst h5
  exact gin_err p M v R a e l b c w h4 hl hs er her hne
theorem is_set {w0 : World} {N p : Nat} {M : Int} {L : List Sn} {a : Nat} {w : World} {b : Option Addr} {l : List Sn} (c : Nat) (i : Int) (h : GapIs w0 N p M L a w) (hs : Signs w b l) (hb : l ≠ [] → ∀ ad, b = some ad → ad.block < w0.heap.size ∨ N ≤ ad.block) (hok : sgC l = true) (hM : (l.length : Int) ≤ M) (hi : i ≤ 9223372036854775807) :
    Calls Try.prog 18 #[.pointer (some ⟨p, 0, none⟩), .slice b l.length c, .int .i64 i] w fun x w' => x = .returned (.int .i64 0) ∧ GapIs w0 w'.heap.size p M l (mvT l.length i) w' := by
  obtain ⟨h1, h2, h3, v, R, e, h4, h5, h6⟩ := h
  subst h5
  refine (gset_any p M v R a e l b c i w h4 hs (fun hl ad he => ?_) hok hM hi).mono ?_
  · have := hb hl ad he
    refine ⟨by omega, fun hh => ?_⟩
    have := h6 _ hh.symm
    omega
  · rintro x w' ⟨rfl, v', R', e', g1, g2, g3, g4⟩
    exact ⟨rfl, GapIs.kept h1 h2 h3 h6 g1 g2 g3 g4⟩
theorem is_set_err {w0 : World} {N p : Nat} {M : Int} {L : List Sn} {a : Nat} {w : World} {b : Option Addr} {l : List Sn} (c : Nat) (i : Int) (er : Int) (h : GapIs w0 N p M L a w) (hs : Signs w b l) (hl : l.length ≤ 9223372036854775807) (her : gmE l M 0 = er) (hne : er ≠ 0) :
    Calls Try.prog 18 #[.pointer (some ⟨p, 0, none⟩), .slice b l.length c, .int .i64 i] w fun x w' => x = .returned (.int .i64 er) ∧ Below w.heap.size w w' := by
  obtain ⟨h1, h2, h3, v, R, e, h4, h5, h6⟩ := h
  exact gset_err p M v R a e l b c i w h4 hl hs er her hne
theorem is_move {w0 : World} {N p : Nat} {M : Int} {L : List Sn} {a : Nat} {w : World} (i : Int) (h : GapIs w0 N p M L a w) (hi : i ≤ 9223372036854775807) :
    Calls Try.prog 17 #[.pointer (some ⟨p, 0, none⟩), .int .i64 i] w fun x w' => x = .returned (.tuple #[]) ∧ GapIs w0 w'.heap.size p M L (mvT L.length i) w' := by
  obtain ⟨h1, h2, h3, v, R, e, h4, h5, h6⟩ := h
  subst h5
  refine (gmove_any p M v R a e i w h4 hi).mono ?_
  rintro x w' ⟨rfl, R', e', g1, g2, _, g3⟩
  exact ⟨rfl, GapIs.kept h1 h2 h3 h6 g1 g2 g3 (Or.inl rfl)⟩
/-- From where, and to where, Cut makes signs go. -/
def cutF (a : Nat) (n : Int) : Nat := if n < 0 then ((a : Int) + n).toNat else a
def cutT (len a : Nat) (n : Int) : Nat := if n < 0 then a else a + min n.toNat (len - a)
theorem is_cut {w0 : World} {N p : Nat} {M : Int} {L : List Sn} {a : Nat} {w : World} (n : Int) (h : GapIs w0 N p M L a w) (hn1 : -9223372036854775808 ≤ n) (hn2 : n ≤ 9223372036854775807) (f t : Nat) (hf : cutF a n = f) (ht : cutT L.length a n = t) :
    Calls Try.prog 15 #[.pointer (some ⟨p, 0, none⟩), .int .i64 n] w fun x w' => ∃ ad, x = .returned (.slice ad (t - f) (t - f)) ∧ OwnSn w.heap.size (.slice ad (t - f) (t - f)) ((L.drop f).take (t - f)) w' ∧ ((L.drop f).take (t - f)).length = t - f ∧ GapIs w0 w'.heap.size p M (L.take f ++ L.drop t) f w' := by
  have hnn := h.nums
  obtain ⟨h1, h2, h3, v, R, e, h4, h5, h6⟩ := h
  subst h5
  have hlen := gsL_len R a e h4.le1 h4.le2
  have k1 := h4.le1; have k2 := h4.le2
  have hfl : f ≤ t ∧ t ≤ (gsL R a e).length := by
    subst hf; subst ht; unfold cutF cutT; split <;> omega
  have hG : (((gsL R a e).drop f).take (t - f)).length = t - f := by rw [List.length_take, List.length_drop]; omega
  by_cases hn : n < 0
  · have hf0 : (if (a : Int) + n < 0 then 0 else (a : Int) + n) = (f : Int) := by subst hf; unfold cutF; rw [if_pos hn]; split <;> omega
    have ht0 : t = a := by subst ht; unfold cutT; rw [if_pos hn]
    subst ht0
    obtain ⟨e1, e2⟩ := cut_neg_gs R t e f k1 k2 hfl.1
    refine (gcut_neg p M v R t e f n w h4 hn hn1 hf0).mono ?_
    rintro x w' ⟨u, rfl, hu, g1, g2⟩
    rw [e2] at hu
    obtain ⟨ad, hu2, _⟩ := hu.signs
    rw [hG] at hu2
    subst hu2
    exact ⟨ad, rfl, hu, hG, GapIs.kept h1 h2 h3 h6 g1 e1 g2.weaken (Or.inl rfl)⟩
  · have hf0 : f = a := by subst hf; unfold cutF; rw [if_neg hn]
    subst hf0
    have ht0 : e + (t - f) = e + min n.toNat (R.length - e) := by subst ht; unfold cutT; rw [if_neg hn]; omega
    obtain ⟨e1, e2⟩ := cut_pos_gs R f e (e + (t - f)) k1 k2 (by omega) (by omega)
    rw [show e + (t - f) - e = t - f by omega] at e1 e2
    rw [show f + (t - f) = t by omega] at e1
    have c := gcut_pos p M v R f e (e + (t - f)) n w h4 hn hn2 ht0
    rw [show e + (t - f) - e = t - f by omega] at c
    refine c.mono ?_
    rintro x w' ⟨u, rfl, hu, g1, g2⟩
    rw [e2] at hu
    obtain ⟨ad, hu2, _⟩ := hu.signs
    rw [hG] at hu2
    subst hu2
    exact ⟨ad, rfl, hu, hG, GapIs.kept h1 h2 h3 h6 g1 e1 g2.weaken (Or.inl rfl)⟩
end Go.Proofs.Ytfmcgdjjcdlmeaa
