import Derived.Test.YtecffaidpiadoaaDoorC13
set_option linter.unusedVariables false
set_option linter.unusedSimpArgs false
namespace Go.Proofs.YtecffaidpiadoaaDoor
open Go.RowKit Go.Sort
/-- The law's own counts at block B. -/
structure WantInv (w : World) (L : List Int) (wr : World) : Prop where
  n : wr.heap[w.heap.size]? = some (.cells (iRow L) 36 (0, 0))
  b : Below w.heap.size w wr
  s : w.heap.size + 1 ≤ wr.heap.size
theorem want_start (w : World) : WantInv w zer (w.alloc (.cells (iRow zer) 36)) :=
  ⟨heap_alloc_new _ _, below_alloc _ _, by simp⟩
theorem want_below {w wr w1 : World} {L : List Int} (h : WantInv w L wr) (hb : Below wr.heap.size wr w1) : WantInv w L w1 :=
  ⟨(hb.block _ (by have := h.s; omega)).trans h.n, h.b.trans (hb.mono (by have := h.s; omega)), Nat.le_trans h.s hb.size⟩
theorem want_store {w wr : World} {L : List Int} (h : WantInv w L wr) (i : Nat) (x : Int) : WantInv w (L.set i x) (wr.setCell ⟨w.heap.size, i, none⟩ (.int .i64 x)) :=
  ⟨by rw [← iRow_set]; simp [World.setCell, Array.getElem?_modify, h.n], h.b.setCell (by simp) _, by simpa [World.setCell] using h.s⟩
def likK (x y : List Int) (k : Nat) : Bool := x.length == y.length && (List.range k).all fun i => skel (x.getD i 0) == skel (y.getD i 0)
theorem lik_len (x y : List Int) : likK x y x.length = alk x y := rfl
theorem lik_step {x y : List Int} {k : Nat} (h : likK x y k = true) : likK x y (k + 1) = (skel (x.getD k 0) == skel (y.getD k 0)) := by
  unfold likK at h ⊢
  rw [Bool.and_eq_true] at h
  rw [h.1, List.range_succ, List.all_append, h.2]; simp
theorem lik_no {x y : List Int} {k : Nat} (hk : k ≤ x.length) (h : likK x y k = false) : alk x y = false := by
  unfold likK at h
  unfold alk
  rw [Bool.and_eq_false_iff] at h ⊢
  rcases h with h | h
  · exact Or.inl h
  · right
    rw [List.all_eq_false] at h ⊢
    obtain ⟨j, hj, hp⟩ := h
    exact ⟨j, by simp at hj ⊢; omega, hp⟩
theorem lik_eq {x y : List Int} {k : Nat} (h : likK x y k = true) : x.length = y.length := by
  unfold likK at h
  rw [Bool.and_eq_true] at h
  simpa using h.1
theorem alk_comm (x y : List Int) : alk y x = alk x y := by
  unfold alk
  by_cases h : x.length = y.length
  · rw [h]
    have : (fun i => skel (y.getD i 0) == skel (x.getD i 0)) = (fun i => skel (x.getD i 0) == skel (y.getD i 0)) := funext fun i => by
      rw [Bool.eq_iff_iff, beq_iff_eq, beq_iff_eq]; exact ⟨fun h => h.symm, fun h => h.symm⟩
    rw [this]
  · have h1 : (x.length == y.length) = false := by simpa using h
    have h2 : (y.length == x.length) = false := by simpa using fun e => h e.symm
    rw [h1, h2]; rfl
theorem len13 {L : List Int} (h : L.length = 13) : ∃ x0 x1 x2 x3 x4 x5 x6 x7 x8 x9 x10 x11 x12 : Int, L = [x0, x1, x2, x3, x4, x5, x6, x7, x8, x9, x10, x11, x12] := by
  match L, h with
  | [x0, x1, x2, x3, x4, x5, x6, x7, x8, x9, x10, x11, x12], _ => exact ⟨x0, x1, x2, x3, x4, x5, x6, x7, x8, x9, x10, x11, x12, rfl⟩
theorem eqI (w : World) (L : List Int) (h : L.length = 13) : (Op.equalIn 10000 36 (.agg (iRow L)) (.agg (iRow L))).run Tryd.prog w = .ok true w := by
  obtain ⟨x0, x1, x2, x3, x4, x5, x6, x7, x8, x9, x10, x11, x12, rfl⟩ := len13 h
  exact eq13 _ _ _ _ _ _ _ _ _ _ _ _ _ w
theorem eqB (w : World) (L : List Int) (h : L.length = 13) : (binOp .eql 36 (.agg (iRow L)) (.agg (iRow L))).run Tryd.prog w = .ok (.bool true) w := by
  rw [run_eql_struct, eqI w L h]; rfl
set_option maxRecDepth 100000 in
set_option maxHeartbeats 4000000 in
theorem classcounts_any (x y : List Int) (a b : Option Addr) (c d : Nat) (w : World) (hT : Tabs w) (hx : x.length ≤ 9223372036854775807) (hy : y.length ≤ 9223372036854775807) (ha : Ints w a x) (hb : Ints w b y) :
    Calls Tryd.prog 8 #[.slice a x.length c, .slice b y.length d] w fun e w' => e = .returned (.bool true) ∧ Below w.heap.size w w' := by
  have AW := Lib.hid fun w hT => awake_any w hT
  have HT := Lib.hid hT; have Ha := Lib.hid ha; have Hb := Lib.hid hb
  clear hT ha hb
  by_cases h1 : 100 < x.length
  · have h1' : (100 : Int) < x.length := by omega
    go_enter Tryd.func8, Tryd.ntmps8
    go_wp2_with (go_at_call 26; refine (AW.out _ HT.out).mono ?_; rintro e w1 ⟨rfl, hb1⟩)
    go_ret
    exact ⟨rfl, hb1⟩
  by_cases h2 : 100 < y.length
  · have h1' : ¬ (100 : Int) < x.length := by omega
    have h2' : (100 : Int) < y.length := by omega
    go_enter Tryd.func8, Tryd.ntmps8
    go_wp2_with (go_at_call 26; refine (AW.out _ HT.out).mono ?_; rintro e w1 ⟨rfl, hb1⟩)
    go_ret
    exact ⟨rfl, hb1⟩
  have h1' : ¬ (100 : Int) < x.length := by omega
  have h2' : ¬ (100 : Int) < y.length := by omega
  have H0 := Lib.hid (want_start w)
  rw [iRow_zer] at H0
  go_enter Tryd.func8, Tryd.ntmps8
  go_wp2
  generalize hW : w.alloc _ = W0 at *
  clear hW
  go_loopw [6] (fun i wr => ∃ k : Nat, k ≤ x.length ∧ i = .int .i64 (k : Int) ∧ WantInv w (cnts cls (x.take k)) wr) (fun i _ => x.length - (intOf i).toNat)
  case atStart => exact ⟨0, Nat.zero_le _, rfl, H0.out⟩
  case round =>
    obtain ⟨k, hk, rfl, hinv⟩ := hrel
    by_cases hlt : k < x.length
    · have hA := Ha.out.below hinv.b
      obtain ⟨b1, off, rfl, hbw⟩ := hA.some k hlt
      have hcell := hA.cell k b1 off hlt rfl
      have hle := cnts_le cls x k hk
      have hstep := cnts_take cls x k hlt
      have hcl := cls_rng (x.getD k 0)
      unfold bump at hstep
      have hof := of_ref (x.getD k 0) wr
      rw [← cls_eq] at hof
      generalize x.getD k 0 = v at *
      obtain ⟨cc, hc⟩ := Int.eq_ofNat_of_zero_le hcl.1
      rw [hc] at hof hstep
      rw [Int.toNat_natCast] at hstep
      have hc13 : cc ≤ 12 := by omega
      generalize cnts cls (x.take k) = L at *
      have hxx := hle.2 cc
      have hlen := hle.1
      generalize hxe : L.getD cc 0 = z at *
      have Hxe := Lib.hid hxe; have Hstep := Lib.hid hstep; have Hof := Lib.hid hof; have Hlen := Lib.hid hlen
      clear hle hcl hc hxe hstep hof hlen hA
      go_wp2_with (go_at_call 24; refine Hof.out.mono ?_; rintro e w1 ⟨rfl, hb1⟩; have hi1 := want_below hinv hb1; have hc1 : w1.cell? ⟨w.heap.size, cc, none⟩ = some (.int .i64 z) := (by rw [cell_of_row _ _ _ _ _ _ hi1.n, iRow_at _ _ (by rw [Hlen.out]; omega), Hxe.out]); have hf1 : w1.frozen? ⟨w.heap.size, cc, none⟩ = false := frozen_of_row _ _ _ _ _ hi1.n)
      go_roundw
      case rel => exact ⟨k + 1, by omega, by go_num, by rw [Hstep.out]; exact want_store hi1 _ _⟩
      case measure => simp [intOf]; omega
    · obtain rfl : k = x.length := by omega
      have hta : x.take x.length = x := List.take_length
      rw [hta] at hinv
      clear hlt hta
      have hlen : (cnts cls x).length = 13 := by
        have := (cnts_le cls x x.length (Nat.le_refl _)).1
        rwa [List.take_length] at this
      have C := Lib.hid fun w1 (hT : Tabs w1) (ha : Ints w1 a x) => count_any x a c w1 hT (by omega) ha.some ha.cell
      have L1 := Lib.hid fun w1 (hT : Tabs w1) (ha : Ints w1 a x) (hb : Ints w1 b y) => alike_any x y a b c d w1 hT hx hy ha hb
      have L2 := fun w1 (hT : Tabs w1) (ha : Ints w1 a x) (hb : Ints w1 b y) => alike_any y x b a d c w1 hT hy hx hb ha
      rw [alk_comm] at L2
      replace L2 := Lib.hid L2
      generalize hL : cnts cls x = L at *
      have Hlen := Lib.hid hlen
      clear hL hlen
      have Hin := Lib.hid hinv
      have hbA := hinv.b
      clear hinv
      have hle0 : ((x.length : Int) == (y.length : Int)) = (x.length == y.length) := by
        rw [Bool.eq_iff_iff]; simp; omega
      have Hle0 := Lib.hid hle0; clear hle0
      obtain ⟨q, hq⟩ : ∃ q, ((x.length : Int) == (y.length : Int)) = q := ⟨_, rfl⟩
      have Hq : Hid (q = (x.length == y.length)) := Lib.hid (by rw [← hq, Hle0.out])
      clear Hle0
      go_wp2
      clear hq
      obtain ⟨wq, rfl⟩ : ∃ wq : World, wq = wr := ⟨_, rfl⟩
      go_loopw [7, 8] (fun tv iv ws => ∃ (t : Bool) (k : Nat), k ≤ x.length ∧ tv = .bool t ∧ iv = .int .i64 (k : Int) ∧ Hid (t = likK x y k) ∧ Below wq.heap.size wq ws) (fun _ iv _ => x.length - (intOf iv).toNat)
      case atStart => exact ⟨q, 0, Nat.zero_le _, rfl, rfl, Lib.hid (by rw [Hq.out]; unfold likK; simp), Below.refl _ _⟩
      case round =>
        obtain ⟨t, k, hk, rfl, rfl, ht, hbl⟩ := hrel
        have hbw := hbA.trans (hbl.mono hbA.size)
        by_cases hgo : k < x.length ∧ t = true
        · obtain ⟨hlt, rfl⟩ := hgo
          have hlen := lik_eq ht.out.symm
          have hlt2 : (k : Int) < x.length := by omega
          have hlt3 : (k : Int) < y.length := by omega
          have hk0 : (0 : Int) ≤ k := by omega
          have hst := lik_step ht.out.symm
          have hA := Ha.out.below hbw
          have hB := Hb.out.below hbw
          obtain ⟨b1, o1, e1, hb1⟩ := hA.some k hlt
          obtain ⟨b2, o2, e2, hb2⟩ := hB.some k (by omega)
          subst e1; subst e2
          have c1 := hA.cell k b1 o1 hlt rfl
          have c2 := hB.cell k b2 o2 (by omega) rfl
          have c1' := fun d os => cell_regrown c1 d os
          have c2' := fun d os => cell_regrown c2 d os
          have S1 := fun d os => Calls.regrown_of (skel_ref (x.getD k 0) (grow (redrawn wr d) os))
          have S2 := fun d os => Calls.regrown_of (skel_ref (y.getD k 0) (grow (redrawn wr d) os))
          rw [skel_eq] at S1 S2
          generalize skel (x.getD k 0) = s1 at *
          generalize skel (y.getD k 0) = s2 at *
          generalize x.getD k 0 = u at *
          generalize y.getD k 0 = v at *
          obtain ⟨r, hr⟩ : ∃ r, (s1 == s2) = r := ⟨_, rfl⟩
          rw [hr] at hst
          have Hst := Lib.hid hst.symm
          replace S1 := Lib.hid S1; replace S2 := Lib.hid S2
          clear hst hA hB hlen
          go_wp2
          refine wp_region_quiet_below (by kernel_rfl) (by kernel_rfl) ?_
          repeat (any_goals (go_big_quiet_step ((go_at_call 31; first | (with_reducible exact S1.out _ _) | (with_reducible exact S2.out _ _)))))
          refine wpQuiet_nil ?_
          intro _ hw'
          obtain ⟨⟨dq, osq⟩, hw''⟩ := hw'
          subst hw''
          clear hr
          go_wp2
          go_roundw
          case rel => exact ⟨r, k + 1, by omega, rfl, by go_num, Hst, hbl.trans ((below_regrown wr dq osq).mono hbl.size)⟩
          case measure => simp [intOf]; omega
        · have hta : t = alk x y := by
            cases t
            · exact (lik_no hk ht.out.symm).symm
            · have : k = x.length := by
                rcases Nat.lt_or_ge k x.length with h | h
                · exact absurd ⟨h, rfl⟩ hgo
                · omega
              rw [ht.out, this, lik_len]
          have Hta := Lib.hid hta
          clear ht hta
          have hkk : (t = false ∧ k < x.length) ∨ (t = false ∧ ¬ k < x.length) ∨ (t = true ∧ ¬ k < x.length) := by
            rcases Bool.eq_false_or_eq_true t with h | h
            · exact Or.inr (Or.inr ⟨h, fun h2 => hgo ⟨h2, h⟩⟩)
            · rcases Nat.lt_or_ge k x.length with h2 | h2
              · exact Or.inl ⟨h, h2⟩
              · exact Or.inr (Or.inl ⟨h, by omega⟩)
          clear hgo
          rcases hkk with ⟨rfl, hkl⟩ | ⟨rfl, hkl⟩ | ⟨rfl, hkl⟩
          all_goals
            have hin := (want_below Hin.out hbl).n
            obtain ⟨x0, x1, x2, x3, x4, x5, x6, x7, x8, x9, x10, x11, x12, hLe⟩ := len13 Hlen.out
            subst hLe
            have k0 := fun d os => cell_regrown (show wr.cell? ⟨w.heap.size, 0, none⟩ = some (.int .i64 x0) by rw [cell_of_row _ _ _ _ _ _ hin]; rfl) d os
            have k1 := fun d os => cell_regrown (show wr.cell? ⟨w.heap.size, 1, none⟩ = some (.int .i64 x1) by rw [cell_of_row _ _ _ _ _ _ hin]; rfl) d os
            have k2 := fun d os => cell_regrown (show wr.cell? ⟨w.heap.size, 2, none⟩ = some (.int .i64 x2) by rw [cell_of_row _ _ _ _ _ _ hin]; rfl) d os
            have k3 := fun d os => cell_regrown (show wr.cell? ⟨w.heap.size, 3, none⟩ = some (.int .i64 x3) by rw [cell_of_row _ _ _ _ _ _ hin]; rfl) d os
            have k4 := fun d os => cell_regrown (show wr.cell? ⟨w.heap.size, 4, none⟩ = some (.int .i64 x4) by rw [cell_of_row _ _ _ _ _ _ hin]; rfl) d os
            have k5 := fun d os => cell_regrown (show wr.cell? ⟨w.heap.size, 5, none⟩ = some (.int .i64 x5) by rw [cell_of_row _ _ _ _ _ _ hin]; rfl) d os
            have k6 := fun d os => cell_regrown (show wr.cell? ⟨w.heap.size, 6, none⟩ = some (.int .i64 x6) by rw [cell_of_row _ _ _ _ _ _ hin]; rfl) d os
            have k7 := fun d os => cell_regrown (show wr.cell? ⟨w.heap.size, 7, none⟩ = some (.int .i64 x7) by rw [cell_of_row _ _ _ _ _ _ hin]; rfl) d os
            have k8 := fun d os => cell_regrown (show wr.cell? ⟨w.heap.size, 8, none⟩ = some (.int .i64 x8) by rw [cell_of_row _ _ _ _ _ _ hin]; rfl) d os
            have k9 := fun d os => cell_regrown (show wr.cell? ⟨w.heap.size, 9, none⟩ = some (.int .i64 x9) by rw [cell_of_row _ _ _ _ _ _ hin]; rfl) d os
            have k10 := fun d os => cell_regrown (show wr.cell? ⟨w.heap.size, 10, none⟩ = some (.int .i64 x10) by rw [cell_of_row _ _ _ _ _ _ hin]; rfl) d os
            have k11 := fun d os => cell_regrown (show wr.cell? ⟨w.heap.size, 11, none⟩ = some (.int .i64 x11) by rw [cell_of_row _ _ _ _ _ _ hin]; rfl) d os
            have k12 := fun d os => cell_regrown (show wr.cell? ⟨w.heap.size, 12, none⟩ = some (.int .i64 x12) by rw [cell_of_row _ _ _ _ _ _ hin]; rfl) d os
            have A1 := Lib.hid fun d os => Calls.regrown_of (AW.out (grow (redrawn wr d) os) ((HT.out.below hbw).below (below_regrown wr d os)))
            have C1 := Lib.hid fun d os => Calls.regrown_of (C.out (grow (redrawn wr d) os) ((HT.out.below hbw).below (below_regrown wr d os)) ((Ha.out.below hbw).below (below_regrown wr d os)))
            have L3 := fun d os => Calls.regrown_of (L1.out (grow (redrawn wr d) os) ((HT.out.below hbw).below (below_regrown wr d os)) ((Ha.out.below hbw).below (below_regrown wr d os)) ((Hb.out.below hbw).below (below_regrown wr d os)))
            have L4 := fun d os => Calls.regrown_of (L2.out (grow (redrawn wr d) os) ((HT.out.below hbw).below (below_regrown wr d os)) ((Ha.out.below hbw).below (below_regrown wr d os)) ((Hb.out.below hbw).below (below_regrown wr d os)))
            rw [← Hta.out] at L3 L4
            replace L3 := Lib.hid L3; replace L4 := Lib.hid L4
            have E1 := fun W => eqB W [x0, x1, x2, x3, x4, x5, x6, x7, x8, x9, x10, x11, x12] rfl
            simp only [iRow, List.map_cons, List.map_nil] at E1 C1
            go_wp2
            refine wp_region_quiet_below (by kernel_rfl) (by kernel_rfl) ?_
            repeat (any_goals (go_big_quiet_step ((first | (go_at_call 26; exact A1.out _ _) | (go_at_call 32; exact C1.out _ _) | (go_at_call 33; first | (with_reducible exact L3.out _ _) | (with_reducible exact L4.out _ _))))))
            refine wpQuiet_nil ?_
            intro _ hw'
            obtain ⟨⟨dq, osq⟩, hw''⟩ := hw'
            subst hw''
            go_wp2
            go_ret
            exact ⟨rfl, hbw.trans ((below_regrown wr dq osq).mono hbw.size)⟩
end Go.Proofs.YtecffaidpiadoaaDoor
