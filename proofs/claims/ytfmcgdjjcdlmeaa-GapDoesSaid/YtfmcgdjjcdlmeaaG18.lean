/-
  Gap buffers beside blocks that stay: the other calls; the document's places.
-/
import Derived.Test.YtfmcgdjjcdlmeaaG17
set_option linter.unusedVariables false
set_option linter.unusedSimpArgs false
namespace Go.Proofs.Ytfmcgdjjcdlmeaa
set_option maxRecDepth 100000
open Go.RowKit
theorem GapSt.nums {S : Nat → Prop} {p : Nat} {M : Int} {L : List Sn} {a : Nat} {w : World} (h : GapSt S p M L a w) : a ≤ L.length ∧ L.length ≤ 65536 ∧ 1 ≤ M ∧ M ≤ 65536 := by
  obtain ⟨v, R, e, h4, h5, h6⟩ := h
  have := gsL_len R a e h4.le1 h4.le2
  rw [h5] at this
  have k1 := h4.le1; have k2 := h4.le2; have k3 := h4.big
  exact ⟨by omega, by omega, h4.m1, h4.m2⟩
theorem st_len {S : Nat → Prop} {p : Nat} {M : Int} {L : List Sn} {a : Nat} {w : World} (h : GapSt S p M L a w) : Calls Try.prog 20 #[.pointer (some ⟨p, 0, none⟩)] w fun x w' => x = .returned (.int .i64 (L.length : Int)) ∧ Below w.heap.size w w' := by
  obtain ⟨v, R, e, h4, h5, h6⟩ := h
  subst h5
  exact glen_any p M v R a e w h4
theorem st_at {S : Nat → Prop} {p : Nat} {M : Int} {L : List Sn} {a : Nat} {w : World} (h : GapSt S p M L a w) : Calls Try.prog 21 #[.pointer (some ⟨p, 0, none⟩)] w fun x w' => x = .returned (.int .i64 (a : Int)) ∧ w = w' := by
  obtain ⟨v, R, e, h4, h5, h6⟩ := h
  exact gat_any p M v R a e w h4
theorem st_get {S : Nat → Prop} {p : Nat} {M : Int} {L : List Sn} {a : Nat} {w : World} (i : Int) (h : GapSt S p M L a w) : Calls Try.prog 19 #[.pointer (some ⟨p, 0, none⟩), .int .i64 i] w fun x w' => x = .returned (.tuple #[.agg #[.int .i64 (gtV L i).1, .int .i64 (gtV L i).2], .bool (gtB L i)]) ∧ Below w.heap.size w w' := by
  obtain ⟨v, R, e, h4, h5, h6⟩ := h
  subst h5
  exact gget_any p M v R a e i w h4
theorem st_all {S : Nat → Prop} {p : Nat} {M : Int} {L : List Sn} {a : Nat} {w : World} (h : GapSt S p M L a w) : Calls Try.prog 22 #[.pointer (some ⟨p, 0, none⟩)] w fun x w' => ∃ ad, x = .returned (.slice ad L.length L.length) ∧ OwnSn w.heap.size (.slice ad L.length L.length) L w' ∧ Below w.heap.size w w' := by
  obtain ⟨v, R, e, h4, h5, h6⟩ := h
  subst h5
  refine (gall_any p M v R a e w h4).mono ?_
  rintro x w' ⟨u, rfl, hu, hb⟩
  obtain ⟨ad, rfl, _⟩ := hu.signs
  exact ⟨ad, rfl, hu, hb⟩
theorem st_line {S : Nat → Prop} {p : Nat} {M : Int} {L : List Sn} {a : Nat} {w : World} (h : GapSt S p M L a w) : Calls Try.prog 24 #[.pointer (some ⟨p, 0, none⟩)] w fun x w' => ∃ ad, x = .returned (.agg #[.slice ad L.length L.length, .int .i64 (a : Int)]) ∧ OwnSn w.heap.size (.slice ad L.length L.length) L w' ∧ Below w.heap.size w w' := by
  obtain ⟨v, R, e, h4, h5, h6⟩ := h
  subst h5
  refine (gline_any p M v R a e w h4).mono ?_
  rintro x w' ⟨u, rfl, hu, hb⟩
  obtain ⟨ad, rfl, _⟩ := hu.signs
  exact ⟨ad, rfl, hu, hb⟩
theorem st_insert_err {S : Nat → Prop} {p : Nat} {M : Int} {L : List Sn} {a : Nat} {w : World} {b : Option Addr} {l : List Sn} (c : Nat) (er : Int) (h : GapSt S p M L a w) (hs : Signs w b l) (hl : l.length ≤ 9223372036854775807) (her : gmE l M (L.length : Int) = er) (hne : er ≠ 0) :
    Calls Try.prog 9 #[.pointer (some ⟨p, 0, none⟩), .slice b l.length c] w fun x w' => x = .returned (.int .i64 er) ∧ Below w.heap.size w w' := by
  obtain ⟨v, R, e, h4, h5, h6⟩ := h
  subst h5
  exact gin_err p M v R a e l b c w h4 hl hs er her hne
theorem st_set_err {S : Nat → Prop} {p : Nat} {M : Int} {L : List Sn} {a : Nat} {w : World} {b : Option Addr} {l : List Sn} (c : Nat) (i : Int) (er : Int) (h : GapSt S p M L a w) (hs : Signs w b l) (hl : l.length ≤ 9223372036854775807) (her : gmE l M 0 = er) (hne : er ≠ 0) :
    Calls Try.prog 18 #[.pointer (some ⟨p, 0, none⟩), .slice b l.length c, .int .i64 i] w fun x w' => x = .returned (.int .i64 er) ∧ Below w.heap.size w w' := by
  obtain ⟨v, R, e, h4, h5, h6⟩ := h
  exact gset_err p M v R a e l b c i w h4 hl hs er her hne
theorem st_cut {S : Nat → Prop} {p : Nat} {M : Int} {L : List Sn} {a : Nat} {w : World} (n : Int) (h : GapSt S p M L a w) (hn1 : -9223372036854775808 ≤ n) (hn2 : n ≤ 9223372036854775807) (f t : Nat) (hf : cutF a n = f) (ht : cutT L.length a n = t) :
    Calls Try.prog 15 #[.pointer (some ⟨p, 0, none⟩), .int .i64 n] w fun x w' => ∃ ad, x = .returned (.slice ad (t - f) (t - f)) ∧ OwnSn w.heap.size (.slice ad (t - f) (t - f)) ((L.drop f).take (t - f)) w' ∧ ((L.drop f).take (t - f)).length = t - f ∧ GapSt S p M (L.take f ++ L.drop t) f w' ∧ KeptS S w w' := by
  have hnn := h.nums
  obtain ⟨v, R, e, h4, h5, h6⟩ := h
  subst h5
  have hlen := gsL_len R a e h4.le1 h4.le2
  have k1 := h4.le1; have k2 := h4.le2
  have hfl : f ≤ t ∧ t ≤ (gsL R a e).length := by
    subst hf; subst ht; unfold cutF cutT; split <;> omega
  have hG : (((gsL R a e).drop f).take (t - f)).length = t - f := by rw [List.length_take, List.length_drop]; omega
  by_cases hn : n < 0
  · have hf0 : (if (a : Int) + n < 0 then 0 else (a : Int) + n) = (f : Int) := by subst hf; unfold cutF; rw [if_pos hn]; split <;> omega
    have ht0 : t = a := by subst ht; unfold cutT; rw [if_pos hn]
    subst ht0
    obtain ⟨e1, e2⟩ := cut_neg_gs R t e f k1 k2 hfl.1
    refine (gcut_neg p M v R t e f n w h4 hn hn1 hf0).mono ?_
    rintro x w' ⟨u, rfl, hu, g1, g2⟩
    rw [e2] at hu
    obtain ⟨ad, hu2, _⟩ := hu.signs
    rw [hG] at hu2
    subst hu2
    exact ⟨ad, rfl, hu, hG, GapSt.kept h6 g1 e1 g2.weaken (Or.inl rfl)⟩
  · have hf0 : f = a := by subst hf; unfold cutF; rw [if_neg hn]
    subst hf0
    have ht0 : e + (t - f) = e + min n.toNat (R.length - e) := by subst ht; unfold cutT; rw [if_neg hn]; omega
    obtain ⟨e1, e2⟩ := cut_pos_gs R f e (e + (t - f)) k1 k2 (by omega) (by omega)
    rw [show e + (t - f) - e = t - f by omega] at e1 e2
    rw [show f + (t - f) = t by omega] at e1
    have c := gcut_pos p M v R f e (e + (t - f)) n w h4 hn hn2 ht0
    rw [show e + (t - f) - e = t - f by omega] at c
    refine c.mono ?_
    rintro x w' ⟨u, rfl, hu, g1, g2⟩
    rw [e2] at hu
    obtain ⟨ad, hu2, _⟩ := hu.signs
    rw [hG] at hu2
    subst hu2
    exact ⟨ad, rfl, hu, hG, GapSt.kept h6 g1 e1 g2.weaken (Or.inl rfl)⟩
theorem low_ref (a b : Int) (w : World) : Calls Try.prog 12 #[.int .i64 a, .int .i64 b] w fun x w' => x = .returned (.int .i64 (if a < b then a else b)) ∧ w = w' := by
  by_cases h : a < b
  · rw [if_pos h]
    go_enter Try.func12, Try.ntmps12
    go_wp2_with fail
    go_ret
    exact ⟨rfl, rfl⟩
  · rw [if_neg h]
    go_enter Try.func12, Try.ntmps12
    go_wp2_with fail
    go_ret
    exact ⟨rfl, rfl⟩
theorem high_ref (a b : Int) (w : World) : Calls Try.prog 13 #[.int .i64 a, .int .i64 b] w fun x w' => x = .returned (.int .i64 (if b < a then a else b)) ∧ w = w' := by
  by_cases h : b < a
  · rw [if_pos h]
    go_enter Try.func13, Try.ntmps13
    go_wp2_with fail
    go_ret
    exact ⟨rfl, rfl⟩
  · rw [if_neg h]
    go_enter Try.func13, Try.ntmps13
    go_wp2_with fail
    go_ret
    exact ⟨rfl, rfl⟩
theorem place_ref (n : Nat) (i : Int) (w : World) : Calls Try.prog 11 #[.int .i64 (n : Int), .int .i64 i] w fun x w' => x = .returned (.int .i64 ((mvT n i : Nat) : Int)) ∧ w = w' := by
  have HI := high_ref i 0
  obtain ⟨j, hj⟩ : ∃ j : Int, (if (0 : Int) < i then i else 0) = j := ⟨_, rfl⟩
  rw [hj] at HI
  have LO := low_ref j n
  rw [show (if j < (n : Int) then j else (n : Int)) = ((mvT n i : Nat) : Int) by unfold mvT; rw [← hj]; split <;> split at * <;> omega] at LO
  replace HI := Lib.hid HI; replace LO := Lib.hid LO
  clear hj
  go_enter Try.func11, Try.ntmps11
  go_wp2_with (first
    | (go_at_call 13; refine (HI.out _).mono ?_; rintro x w1 ⟨rfl, h1⟩; subst h1)
    | (go_at_call 12; refine (LO.out _).mono ?_; rintro x w2 ⟨rfl, h2⟩; subst h2))
  go_ret
  exact ⟨rfl, rfl⟩
end Go.Proofs.Ytfmcgdjjcdlmeaa
