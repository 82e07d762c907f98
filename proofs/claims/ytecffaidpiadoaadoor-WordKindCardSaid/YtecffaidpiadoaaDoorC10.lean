import Derived.Test.YtecffaidpiadoaaDoorC9
set_option linter.unusedVariables false
set_option linter.unusedSimpArgs false
namespace Go.Proofs.YtecffaidpiadoaaDoor
open Go.RowKit Go.Sort
/-- A slice of numbers that came in. -/
structure Ints (w : World) (a : Option Addr) (l : List Int) : Prop where
  some : ∀ i, i < l.length → ∃ b off, a = Option.some ⟨b, off, none⟩ ∧ b < w.heap.size
  cell : ∀ i b off, i < l.length → a = Option.some ⟨b, off, none⟩ → w.cell? ⟨b, off + i, none⟩ = Option.some (.int .i64 (l.getD i 0))
theorem Ints.below {w w' : World} {a : Option Addr} {l : List Int} (h : Ints w a l) (hb : Below w.heap.size w w') : Ints w' a l :=
  ⟨fun i hi => by obtain ⟨b, off, e, hlt⟩ := h.some i hi; exact ⟨b, off, e, Nat.lt_of_lt_of_le hlt hb.size⟩, fun i b off hi e => by
    obtain ⟨b', off', e', hlt⟩ := h.some i hi
    have : b = b' ∧ off = off' := by rw [e] at e'; simpa using e'
    rw [hb.cell (p := ⟨b, off + i, none⟩) (by rw [this.1]; exact hlt)]; exact h.cell i b off hi e⟩
/-- Do they look alike? -/
def alk (x y : List Int) : Bool := x.length == y.length && (List.range x.length).all fun i => skel (x.getD i 0) == skel (y.getD i 0)
theorem alk_no {x y : List Int} {k : Nat} (hk : k < x.length) (h : (skel (x.getD k 0) != skel (y.getD k 0)) = true) : alk x y = false := by
  unfold alk
  have : ((List.range x.length).all fun i => skel (x.getD i 0) == skel (y.getD i 0)) = false := by
    rw [List.all_eq_false]; exact ⟨k, by simpa using hk, by simpa using h⟩
  rw [this, Bool.and_false]
theorem alk_yes {x y : List Int} (hl : x.length = y.length) (h : ∀ j, j < x.length → (skel (x.getD j 0) != skel (y.getD j 0)) = false) : alk x y = true := by
  unfold alk
  rw [Bool.and_eq_true]
  refine ⟨by simpa using hl, ?_⟩
  rw [List.all_eq_true]
  intro j hj
  have := h j (by simpa using hj)
  simpa using this
set_option maxRecDepth 100000 in
set_option maxHeartbeats 2000000 in
theorem alike_any (x y : List Int) (a b : Option Addr) (c d : Nat) (w : World) (hT : Tabs w) (hx : x.length ≤ 9223372036854775807) (hy : y.length ≤ 9223372036854775807) (ha : Ints w a x) (hb : Ints w b y) :
    Calls Tryd.prog 33 #[.slice a x.length c, .slice b y.length d] w fun e w' => e = .returned (.bool (alk x y)) ∧ Below w.heap.size w w' := by
  have HT := Lib.hid hT; have Ha := Lib.hid ha; have Hb := Lib.hid hb; clear hT ha hb
  by_cases hl : x.length = y.length
  · have hln : ((x.length : Int) != (y.length : Int)) = false := by rw [hl]; simp
    have hll : y.length = y.length := rfl
    have Hl := Lib.hid hl; clear hl hll
    have hyl : y.length ≤ x.length ∧ x.length ≤ y.length := by have := Hl.out; omega
    go_enter Tryd.func33, Tryd.ntmps33
    go_wp2
    go_loopw [14] (fun i wr => ∃ k : Nat, k ≤ x.length ∧ i = .int .i64 (k : Int) ∧ Hid (∀ j, j < k → (skel (x.getD j 0) != skel (y.getD j 0)) = false) ∧ Below w.heap.size w wr) (fun i _ => x.length - (intOf i).toNat)
    case atStart => exact ⟨0, Nat.zero_le _, rfl, Lib.hid (by intro j hj; omega), Below.refl _ _⟩
    case round =>
      obtain ⟨k, hk, rfl, hno, hbr⟩ := hrel
      by_cases hlt : k < x.length
      · have hA := Ha.out.below hbr
        have hB := Hb.out.below hbr
        obtain ⟨b1, o1, e1, hb1⟩ := hA.some k hlt
        obtain ⟨b2, o2, e2, hb2⟩ := hB.some k (by omega)
        subst e1; subst e2
        have c1 := hA.cell k b1 o1 hlt rfl
        have c2 := hB.cell k b2 o2 (by omega) rfl
        have c2' := fun d os => cell_regrown c2 d os
        have hT2 := HT.out.below hbr
        have S1 := Lib.hid fun d os => Calls.regrown_of (skel_any (x.getD k 0) (grow (redrawn wr d) os) (hT2.below (below_regrown wr d os)))
        have S2 := Lib.hid fun d os => Calls.regrown_of (skel_any (y.getD k 0) (grow (redrawn wr d) os) (hT2.below (below_regrown wr d os)))
        have Hno2 : Hid ((skel (x.getD k 0) != skel (y.getD k 0)) = true → alk x y = false) := Lib.hid (alk_no hlt)
        have hstep : Hid ((skel (x.getD k 0) != skel (y.getD k 0)) = false → ∀ j, j < k + 1 → (skel (x.getD j 0) != skel (y.getD j 0)) = false) := Lib.hid (by
          intro h j hj; rcases Nat.lt_succ_iff_lt_or_eq.1 hj with h' | rfl; exact hno.out j h'; exact h)
        clear hA hB hT2
        generalize skel (x.getD k 0) = s at *
        generalize skel (y.getD k 0) = t at *
        generalize x.getD k 0 = u at *
        generalize y.getD k 0 = v at *
        have hk1 : (k : Int) < y.length := by omega
        have hk0 : (0 : Int) ≤ k := by omega
        cases hst : (s != t)
        · have Hs2 := Lib.hid (hstep.out hst)
          clear hstep Hno2
          go_wp2
          refine wp_region_quiet_below (by kernel_rfl) (by kernel_rfl) ?_
          repeat (any_goals (go_big_quiet_step ((go_at_call 25; first | (with_reducible exact S1.out _ _) | (with_reducible exact S2.out _ _)))))
          refine wpQuiet_nil ?_
          intro _ hw'
          obtain ⟨⟨dq, osq⟩, hw''⟩ := hw'
          subst hw''
          go_wp2
          go_roundw
          case rel => exact ⟨k + 1, by omega, by go_num, Hs2, hbr.trans ((below_regrown wr dq osq).mono hbr.size)⟩
          case measure => simp [intOf]; omega
        · have Hn := Lib.hid (Hno2.out hst)
          go_wp2
          refine wp_region_quiet_below (by kernel_rfl) (by kernel_rfl) ?_
          repeat (any_goals (go_big_quiet_step ((go_at_call 25; first | (with_reducible exact S1.out _ _) | (with_reducible exact S2.out _ _)))))
          refine wpQuiet_nil ?_
          intro _ hw'
          obtain ⟨⟨dq, osq⟩, hw''⟩ := hw'
          subst hw''
          go_wp2
          go_ret
          rw [Hn.out]
          exact ⟨rfl, hbr.trans ((below_regrown wr dq osq).mono hbr.size)⟩
      · obtain rfl : k = x.length := by omega
        have Hn := Lib.hid (alk_yes Hl.out hno.out)
        clear hlt
        go_wp2
        go_ret
        rw [Hn.out]
        exact ⟨rfl, hbr⟩
  · have hln : ((x.length : Int) != (y.length : Int)) = true := by rw [bne_iff_ne]; omega
    have Hn : Hid (alk x y = false) := Lib.hid (by unfold alk; rw [show (x.length == y.length) = false by simpa using hl]; rfl)
    clear hl
    go_enter Tryd.func33, Tryd.ntmps33
    go_wp2
    go_ret
    rw [Hn.out]
    exact ⟨rfl, Below.refl _ _⟩
end Go.Proofs.YtecffaidpiadoaaDoor
