/-
  Joined: ArgI2 In33.
-/
import Derived.Test.YtdafcjjlkjngmaaDoorJI10
import Derived.Test.YtdafcjjlkjngmaaDoorJI14
import Derived.Test.YtdafcjjlkjngmaaDoorJI15
set_option linter.unusedVariables false
set_option linter.unusedSimpArgs false
set_option maxRecDepth 100000
set_option linter.unusedVariables false
set_option linter.unusedSimpArgs false
namespace Go.Proofs.YtdafcjjlkjngmaaDoor
open Go.ChangeShapes Go.WideShapes Go.ChangeAt Go.RowKit Go.Deep Go.Joins
section
variable {H : Type} {enc : TypeId × Value → H} {W : World}
theorem arg_items2 {base : Nat} {v0 : Value} {d0 : DataW H} {p : List MemPlace} (hv : Value.okWide Tryd.prog W .any base 22 v0) (h : DataW.Trod enc Tryd.prog W 0 (fun _ => true) true 22 v0 d0 p) :
    ∃ (l : List (Bool × UInt8)) (a : Option Addr) (c : Nat), v0 = .slice a l.length c ∧ ItsIn W a l ∧ l.length ≤ c := by
  obtain ⟨l, a, c, rfl, h1, _⟩ := arg_items hv h
  refine ⟨l, a, c, rfl, h1, ?_⟩
  obtain ⟨fuel, hf⟩ := h
  rcases open_slice Tryd.underlying22 hf with ⟨hcs, _⟩ | ⟨a', len', cap', m, n, D, Pl, hcs, _, hl, _⟩
  · simp [Value.cells] at hcs
    obtain ⟨_, h2, h3⟩ := hcs
    rw [h2]; simp
  · simp [Value.cells] at hcs
    obtain ⟨_, h2, h3⟩ := hcs
    omega
end
end Go.Proofs.YtdafcjjlkjngmaaDoor
set_option linter.unusedVariables false
set_option linter.unusedSimpArgs false
namespace Go.Proofs.YtdafcjjlkjngmaaDoor
open Go.RowKit
theorem elemIt : Tryd.prog.elem 22 = 35 := by kernel_rfl
theorem sizeIt (w : World) : (sizeOf 35).run Tryd.prog w = .ok 2 w := by kernel_rfl
theorem run_icutL (w : World) (a : Option Addr) (n c f : Nat) (h : f ≤ n) : (Instr.slice 22 (.slice a n c) (some (.int .i64 (f : Int))) none none).run Tryd.prog w = .ok (.slice (if c = f then a else a.map (·.add (f * 2))) (n - f) (c - f)) w := by
  rw [run_slice_l (P := Tryd.prog) w 22 a n c (by kernel_rfl) .i64 (f : Int) (by omega) (by omega), elemIt, sizeIt]
  rfl
theorem run_icutLH (w : World) (a : Option Addr) (n c f t : Nat) (h : f ≤ t) (h2 : t ≤ c) : (Instr.slice 22 (.slice a n c) (some (.int .i64 (f : Int))) (some (.int .i64 (t : Int))) none).run Tryd.prog w = .ok (.slice (if c = f then a else a.map (·.add (f * 2))) (t - f) (c - f)) w := by
  rw [run_slice_lh (P := Tryd.prog) w 22 a n c (by kernel_rfl) .i64 .i64 (f : Int) (t : Int) (by omega) (by omega) (by omega), elemIt, sizeIt]
  rfl
theorem its_sub {S : Nat → Prop} {w : World} {a : Option Addr} {l : List It} (h : ItemsIn S w a l) (c f t : Nat) (hft : f ≤ t) (ht : t ≤ l.length) (hc : l.length ≤ c) :
    ItemsIn S w (if c = f then a else a.map (·.add (f * 2))) ((l.drop f).take (t - f)) ∧ ((l.drop f).take (t - f)).length = t - f := by
  have hl : ((l.drop f).take (t - f)).length = t - f := by rw [List.length_take, List.length_drop]; omega
  refine ⟨fun i hi => ?_, hl⟩
  rw [hl] at hi
  obtain ⟨b, off, e, hS, h1, h2⟩ := h (f + i) (by omega)
  have hg : ((l.drop f).take (t - f)).getD i (false, 0) = l.getD (f + i) (false, 0) := by
    rw [List.getD, List.getElem?_take, if_pos hi, List.getElem?_drop]; rfl
  rw [hg, if_neg (by omega), e]
  refine ⟨b, off + f * 2, ?_, hS, ?_, ?_⟩
  · show some ((⟨b, off, none⟩ : Addr).add (f * 2)) = _
    rw [addQ_none]
  · rw [show off + f * 2 + i * 2 = off + (f + i) * 2 by omega]; exact h1
  · rw [show off + f * 2 + i * 2 = off + (f + i) * 2 by omega]; exact h2
theorem doR_app (s : IS) (a b : List It) : doR s (a ++ b) = ((doR (doR s a).1 b).1, (doR s a).2 ++ (doR (doR s a).1 b).2) := by
  induction a generalizing s with
  | nil => simp [doR]
  | cons x a ih => rw [List.cons_append, doR, ih, doR]; simp
section
variable {S : Nat → Prop} {p : Nat} {s : IS} {w w' : World}
theorem innew2_any (m : Int) (w : World) (hm : 1 ≤ m ∧ m ≤ 65536) :
    Calls Tryd.prog 11 #[.int .i64 m] w fun e w' => e = .returned (.tuple #[.pointer (some ⟨w.heap.size, 0, none⟩), .int .i64 0]) ∧ w'.heap[w.heap.size]? = some (.cells (inC (in0 m) (.slice none 0 0)) 73 (0, 0)) ∧ Below w.heap.size w w' := by
  have B1 := below_alloc w (.cells (inC (in0 m) (.slice none 0 0)) 73)
  have HO := Lib.hid (heap_alloc_new w (.cells (inC (in0 m) (.slice none 0 0)) 73))
  have HB := Lib.hid B1
  obtain ⟨h1, h2⟩ := hm
  clear B1
  go_enter Tryd.func11, Tryd.ntmps11
  go_wp2
  go_ret2
  exact ⟨rfl, HO.out, HB.out⟩
/-- A new input in a later world: the blocks S are none of its own but its own one. -/
theorem InO.fresh {m : Int} (h : w.heap[p]? = some (.cells (inC (in0 m) (.slice none 0 0)) 73 (0, 0))) (hS : ∀ k, S k → k < w.heap.size ∧ k ≠ p) : InO S p (in0 m) w :=
  ⟨.slice none 0 0, h, owu_nil _, fun k hk => ⟨(hS k hk).1, (hS k hk).2, by simp [Value.ownBlock]⟩⟩
/-- What another one does leaves an input as it is. -/
theorem InO.apart {T : Nat → Prop} {Q : Nat} (h : InO S p s w) (hQ : S Q) (k : KeptM T w w') (hT : ∀ j, j < w.heap.size → j ≠ Q → T j) : InO (fun _ => False) p s w' := by
  obtain ⟨bv, h1, h2, h3⟩ := h.ex
  have hq := h3 Q hQ
  refine ⟨bv, (k.block p (hT p (blk_lt h1) (Ne.symm hq.2.1))).trans h1, ?_, fun _ hk => hk.elim⟩
  unfold OwU at h2 ⊢
  refine ⟨h2.1, ?_⟩
  rcases h2.2 with h' | ⟨g, cap, cur, e, hB, hg, r⟩
  · exact .inl h'
  · refine .inr ⟨g, cap, cur, e, hB, (k.block g (hT g (blk_lt hg) (fun e2 => ?_))).trans hg, r⟩
    refine hq.2.2 ?_
    rw [e, ← e2]; rfl
/-- A row of keys grows: the input stays. -/
theorem InO.grown {v : Value} {K : List Ky} {B : Nat} (h : InO S p s w) (hv : ∀ k, v.ownBlock = some k → S k) (g : w.grownBy w' v.ownBlock) {T : Nat → Prop} (hT : ∀ k, T k → S k ∨ (w.heap.size ≤ k ∧ k < w'.heap.size)) : InO T p s w' := by
  obtain ⟨bv, h1, h2, h3⟩ := h.ex
  have hp : v.ownBlock ≠ some p := fun e => (h3 p (hv p e)).2.1 rfl
  refine ⟨bv, (g.block p (blk_lt h1) (fun e => hp e.symm)).trans h1, ?_, fun k hk => ?_⟩
  · unfold OwU at h2 ⊢
    refine ⟨h2.1, ?_⟩
    rcases h2.2 with h' | ⟨g2, cap, cur, e, hB, hg, r⟩
    · exact .inl h'
    · refine .inr ⟨g2, cap, cur, e, hB, (g.block g2 (blk_lt hg) (fun e2 => ?_)).trans hg, r⟩
      exact (h3 g2 (hv g2 e2.symm)).2.2 (by rw [e]; rfl)
  · rcases hT k hk with hk | ⟨hk1, hk2⟩
    · have := h3 k hk
      exact ⟨Nat.lt_of_lt_of_le this.1 g.size, this.2⟩
    · refine ⟨hk2, fun e => ?_, fun e => ?_⟩
      · have := blk_lt h1; omega
      · have := (h2.lt k e).2; omega
end
set_option maxHeartbeats 8000000 in
theorem inputchunks_any (l : List It) (u : List Int) (a b : Option Addr) (c d : Nat) (W : World) (hT : UT W) (hK : KT W) (hlc : l.length ≤ c) (hmax : u.length ≤ 9223372036854775807) (hR : ItsIn W a l) (hS : U8sIn W b u) :
    Calls Tryd.prog 4 #[.slice a l.length c, .slice b u.length d] W fun e w' => e = .returned (.bool true) ∧ Below W.heap.size W w' := by
  obtain ⟨n, hn⟩ : ∃ n, l.length = n := ⟨_, rfl⟩
  obtain ⟨nu, hnu⟩ : ∃ nu, u.length = nu := ⟨_, rfl⟩
  rw [hn, hnu]
  rw [hn] at hlc
  have AW := Lib.hid (fun w h1 h2 => inawake_any w h1 h2)
  have HT := Lib.hid hT
  have HK := Lib.hid hK
  have HR := Lib.hid hR
  have HS := Lib.hid hS
  have HN := Lib.hid hn
  have HNU := Lib.hid hnu
  have HLC := Lib.hid hlc
  have HMX := Lib.hid hmax
  by_cases h400 : 400 < n
  · have h4 : (400 : Int) < (n : Int) := by omega
    clear hT hK hR hS hn hnu hmax hlc
    go_enter Tryd.func4, Tryd.ntmps4
    go_wp2_with (go_at_call 10; refine (AW.out _ HT.out HK.out).mono ?_; rintro e w1 ⟨rfl, hb⟩)
    go_ret
    exact ⟨rfl, hb⟩
  have h4 : ¬ (400 : Int) < (n : Int) := by omega
  have hn4 : Hid (n ≤ 400) := Lib.hid (by omega)
  clear hT hK hR hS hn hnu hmax h400 hlc
  go_enter Tryd.func4, Tryd.ntmps4
  go_upto_region 3 with (go_at_call 10; refine (AW.out _ HT.out HK.out).mono ?_; rintro e w1 ⟨rfl, hb⟩; have B1 := Lib.hid hb; clear hb)
  go_upto_region 4 with (go_at_call 11; refine (innew_any (S := fun j => j < W.heap.size) 9 w1 (by omega) (fun j hj => Nat.lt_of_lt_of_le hj B1.out.size)).mono ?_; rintro e w2 ⟨rfl, h2, b2⟩; have H2 := Lib.hid h2; have D2 := Lib.hid (B1.out.trans (b2.mono B1.out.size)); clear h2 b2)
  go_upto_region 5 with (go_at_call 11
                         refine (innew2_any 9 w2 (by omega)).mono ?_
                         rintro e w3 ⟨rfl, r3, b3⟩
                         have R3 := Lib.hid r3
                         have H3 := Lib.hid (H2.out.kept b3 (T := fun j => j < W.heap.size ∨ j = w2.heap.size) (fun j hj => by
                           rcases hj with hj | hj
                           · exact Or.inl hj
                           · exact Or.inr ⟨by omega, by rw [hj]; exact blk_lt r3⟩))
                         have D3 := Lib.hid (D2.out.trans (b3.mono D2.out.size))
                         have hQW := Lib.hid D2.out.size
                         clear r3 b3)
  generalize w1.heap.size = Pb at *
  generalize w2.heap.size = Qb at *
  have U3 : Hid (US (fun j => j < W.heap.size ∨ j = Qb) w3) := Lib.hid ⟨HT.out.below D3.out, Or.inl HT.out.2.1, Or.inl HT.out.2.2⟩
  have I3 : Hid (ItemsIn (fun j => j < W.heap.size ∨ j = Qb) w3 a l) := Lib.hid (fun i hi => by
    obtain ⟨b, off, e, hS, h1⟩ := its_below HR.out D3.out i hi
    exact ⟨b, off, e, Or.inl hS, h1⟩)
  have hG := gs_do (gs_in0 (m := 9) (by omega)) l
  have hKl := doK_len (gs_in0 (m := 9) (by omega)) l
  rw [HN.out] at hKl
  obtain ⟨nk, hnk⟩ : ∃ nk, (doR (in0 9) l).2.length = nk := ⟨_, rfl⟩
  have HNK := Lib.hid hnk
  have hk4 : Hid (nk ≤ 4000) := Lib.hid (by have := hn4.out; omega)
  clear hG hKl hnk
  go_upto_region 6 with (go_at_call 14
                         refine (do_any (N := 0) l a n c H3.out U3.out I3.out HN.out (by have := hn4.out; omega) (gs_in0 (m := 9) (by omega)) (by have := hn4.out; omega)).mono ?_
                         rintro e w4 ⟨v4, rfl, o4, h4', k4⟩
                         obtain ⟨a4, c4, rfl⟩ := o4.form HNK.out
                         have H4 := Lib.hid (h4'.mono (T := fun j => j = Qb) (fun j hj => Or.inl (Or.inr hj)))
                         have R4 := Lib.hid ((k4.block Qb (Or.inr rfl)).trans R3.out)
                         have D4 := Lib.hid (D3.out.trans (k4.below W.heap.size (fun j hj => Or.inl hj)))
                         have hv4 : Hid ((Value.slice a4 nk c4).ownBlock ≠ some Qb) := Lib.hid (fun e => by have := (o4.lt Qb e).1; have := blk_lt R3.out; omega)
                         have O4 := Lib.hid o4
                         clear o4 h4' k4)
  have Q4 : Hid (InO (fun j => j < w4.heap.size ∧ j ≠ Qb) Qb (in0 9) w4) := Lib.hid (InO.fresh R4.out (fun j hj => hj))
  have hWQ : Hid (∀ j, j < W.heap.size → j < w4.heap.size ∧ j ≠ Qb) := Lib.hid (fun j hj => ⟨Nat.lt_of_lt_of_le hj D4.out.size, by have := hQW.out; omega⟩)
  clear H2 D2 H3 D3 U3 I3 R3
  go_upto_region 9 with fail
  go_loopw [10, 11, 12] (fun sv av iv wr => ∃ (i f : Nat), i ≤ nu ∧ f ≤ n ∧ av = .int .i64 (f : Int) ∧ iv = .int .i64 (i : Int) ∧ Hid (OwK wr w4.heap.size sv (doR (in0 9) (l.take f)).2) ∧ Hid (InO (fun j => (j < w4.heap.size ∧ j ≠ Qb) ∨ sv.ownBlock = some j) Qb (doR (in0 9) (l.take f)).1 wr) ∧ Hid (KeptM (fun j => j < w4.heap.size ∧ j ≠ Qb) w4 wr)) (fun _ _ iv _ => nu - (intOf iv).toNat)
  case atStart => exact ⟨0, 0, Nat.zero_le _, Nat.zero_le _, rfl, rfl, Lib.hid (owk_nil _ _), Lib.hid (Q4.out.mono (fun j hj => by
    rcases hj with hj | hj
    · exact hj
    · simp [Value.ownBlock] at hj)), Lib.hid (KeptM.refl _ _)⟩
  case round =>
    clear Q4
    obtain ⟨i, f, hi, hf, rfl, rfl, HO, HQ, HR4⟩ := hrel
    obtain ⟨np, hnp⟩ : ∃ np, (doR (in0 9) (l.take f)).2.length = np := ⟨_, rfl⟩
    have HNP := Lib.hid hnp
    have hnp4 : Hid (np ≤ 4000) := Lib.hid (by
      have h1 := doK_len (gs_in0 (m := 9) (by omega)) (l.take f)
      rw [hnp, List.length_take] at h1
      have := hn4.out; omega)
    have GSf := Lib.hid ((gs_do (gs_in0 (m := 9) (by omega)) (l.take f)).mono (M := 400) (by rw [List.length_take]; have := hn4.out; omega))
    obtain ⟨ad, cp, rfl⟩ := HO.out.form hnp
    clear hnp
    have DW := Lib.hid (D4.out.trans (HR4.out.below W.heap.size hWQ.out))
    have UQ : Hid (US (fun j => (j < w4.heap.size ∧ j ≠ Qb) ∨ (Value.slice ad np cp).ownBlock = some j) wr) := Lib.hid ⟨HT.out.below DW.out, Or.inl (hWQ.out _ HT.out.2.1), Or.inl (hWQ.out _ HT.out.2.2)⟩
    have IQ : Hid (ItemsIn (fun j => (j < w4.heap.size ∧ j ≠ Qb) ∨ (Value.slice ad np cp).ownBlock = some j) wr a l) := Lib.hid (fun i hi => by
      obtain ⟨b, off, e, hS, h1⟩ := its_below HR.out DW.out i hi
      exact ⟨b, off, e, Or.inl (hWQ.out b hS), h1⟩)
    -- what an append to the row leaves
    have AP : Hid (∀ (s6 : IS) (K K6 : List Ky) (a6 : Option Addr) (n6 c6 : Nat) (w6 w7 : World) (a7 : Option Addr) (c7 : Nat), InO (fun j => ((j < w4.heap.size ∧ j ≠ Qb) ∨ (Value.slice ad np cp).ownBlock = some j) ∨ (Value.slice a6 n6 c6).ownBlock = some j) Qb s6 w6 → KeptM (fun j => (j < w4.heap.size ∧ j ≠ Qb) ∨ (Value.slice ad np cp).ownBlock = some j) wr w6 → OwK w6 w4.heap.size (.slice ad np cp) K → w6.grownBy w7 (Value.slice ad np cp).ownBlock → OwK w7 w4.heap.size (.slice a7 (np + n6) c7) (K ++ K6) → (∀ k, (Value.slice a7 (np + n6) c7).ownBlock = some k → (Value.slice ad np cp).ownBlock = some k ∨ w6.heap.size ≤ k) →
        InO (fun j => (j < w4.heap.size ∧ j ≠ Qb) ∨ (Value.slice a7 (np + n6) c7).ownBlock = some j) Qb s6 w7 ∧ KeptM (fun j => j < w4.heap.size ∧ j ≠ Qb) w4 w7) := Lib.hid (fun s6 K K6 a6 n6 c6 w6 w7 a7 c7 h6 k6 o6 g7 o7 p7 => by
      refine ⟨InO.grown (K := K) (B := 0) h6 (fun k e => Or.inl (Or.inr e)) g7 (fun k hk => ?_), HR4.out.trans ((k6.mono (fun j hj => Or.inl hj)).trans ⟨g7.os, g7.tape, g7.output, g7.size, fun j hj => g7.block j ?_ (fun e => ?_)⟩)⟩
      · rcases hk with hk | hk
        · exact Or.inl (Or.inl (Or.inl hk))
        · rcases p7 k hk with e | e
          · exact Or.inl (Or.inl (Or.inr e))
          · exact Or.inr ⟨e, (o7.lt k hk).2⟩
      · exact Nat.lt_of_lt_of_le hj.1 (Nat.le_trans HR4.out.size k6.size)
      · have := (o6.lt j e.symm).1; have := hj.1; omega)
    by_cases hgo : i < nu ∧ f < n
    · obtain ⟨hi2, hf2⟩ := hgo
      obtain ⟨bu, ou, rfl, hul, uc, u0, u9⟩ := HS.out.at DW.out i (by rw [HNU.out]; exact hi2)
      have i1 : (i : Int) < nu := by omega
      have i9 : i < 9223372036854775807 := by have := HMX.out; have := HNU.out; omega
      have i0 : (0 : Int) ≤ i := by omega
      have f1 : (f : Int) < n := by omega
      generalize u.getD i 0 = x at *
      obtain ⟨k9, hk9⟩ : ∃ k9 : Nat, x % 9 = (k9 : Int) := ⟨(x % 9).toNat, by omega⟩
      have hk99 : k9 < 9 := by omega
      obtain ⟨t2, ht2⟩ : ∃ t2 : Nat, (if (f : Int) + (k9 : Int) < (n : Int) then (f : Int) + (k9 : Int) else (n : Int)) = (t2 : Int) := by
        by_cases h : (f : Int) + (k9 : Int) < (n : Int)
        · exact ⟨f + k9, by rw [if_pos h]; omega⟩
        · exact ⟨n, if_neg h⟩
      have hft : f ≤ t2 ∧ t2 ≤ n := by
        by_cases h : (f : Int) + (k9 : Int) < (n : Int)
        · rw [if_pos h] at ht2; omega
        · rw [if_neg h] at ht2; omega
      have hf400 : f ≤ 400 := by have := hn4.out; omega
      have hw : (f : Int) + (k9 : Int) = wrap64 ((f : Int) + wrap64 (x.tmod 9)) := by
        rw [Int.tmod_eq_emod_of_nonneg u0, hk9]
        simp (disch := omega) only [IntWalk.wrap64_in]
      have LW := fun w => rlow_ref ((f : Int) + (k9 : Int)) (n : Int) (t2 : Int) ht2 w
      rw [hw] at LW
      have LW := Lib.hid LW
      obtain ⟨hft1, hft2⟩ := hft
      obtain ⟨isub, ilen⟩ := its_sub IQ.out c f t2 hft1 (by rw [HN.out]; exact hft2) (by rw [HN.out]; exact HLC.out)
      have hcut := fun w => run_icutLH w a n c f t2 hft1 (Nat.le_trans hft2 HLC.out)
      obtain ⟨A1, hA1⟩ : ∃ A1, (if c = f then a else a.map (·.add (f * 2))) = A1 := ⟨_, rfl⟩
      rw [hA1] at isub
      simp only [hA1] at hcut
      have DO := Lib.hid (do_any (N := 400) ((l.drop f).take (t2 - f)) A1 (t2 - f) (c - f) HQ.out UQ.out isub ilen (by have := hn4.out; omega) GSf.out (by have := hn4.out; omega))
      have hK6 := doK_len GSf.out ((l.drop f).take (t2 - f))
      rw [ilen] at hK6
      have TK : Hid (l.take t2 = l.take f ++ (l.drop f).take (t2 - f)) := Lib.hid (by rw [← List.take_add]; congr 1; omega)
      have DA : Hid (doR (in0 9) (l.take t2) = ((doR (doR (in0 9) (l.take f)).1 ((l.drop f).take (t2 - f))).1, (doR (in0 9) (l.take f)).2 ++ (doR (doR (in0 9) (l.take f)).1 ((l.drop f).take (t2 - f))).2)) := Lib.hid (by rw [TK.out, doR_app])
      clear isub ilen hA1 ht2 u0 u9 TK hw hk9 hk99
      generalize doR (doR (in0 9) (l.take f)).1 ((l.drop f).take (t2 - f)) = r6 at *
      generalize (doR (in0 9) (l.take f)).2 = K at *
      obtain ⟨s6, K6⟩ := r6
      dsimp only at DO DA hK6
      obtain ⟨n6, hn6⟩ : ∃ n6, K6.length = n6 := ⟨_, rfl⟩
      have HN6 := Lib.hid hn6
      have hn64 : Hid (n6 ≤ 4000) := Lib.hid (by have := hn4.out; omega)
      clear hn6 hK6
      go_wp2_with (first
        | (go_at_call 17; refine (LW.out _).mono ?_; rintro e wx ⟨rfl, rfl⟩)
        | (go_at_call 14
           rename_i hKK
           refine DO.out.mono ?_
           rintro e w6 ⟨v6, rfl, o6, h6, k6⟩
           obtain ⟨a6, c6, e6, s6'⟩ := o6.sl
           rw [HN6.out] at e6
           subst e6
           have H6 := Lib.hid h6
           have K6' := Lib.hid k6
           have S6 := Lib.hid s6'
           have O6 := Lib.hid (HO.out.keptM k6 (fun j e => Or.inr e))
           have Z6 := Lib.hid (Nat.le_trans HR4.out.size k6.size)
           clear o6 h6 k6 s6'
           refine hKK _ _ ?_
           refine wpList_app_keys rfl _ _ rfl w4.heap.size _ np K rfl HNP.out O6.out a6 n6 c6 K6 rfl HN6.out S6.out.s S6.out.nl (by have := hnp4.out; have := hn64.out; omega) Z6.out ?_
           intro a7 c7 w7 o7 g7 p7
           have A7 := Lib.hid (AP.out s6 K K6 a6 n6 c6 w6 w7 a7 c7 H6.out K6'.out O6.out g7 o7 p7)
           have O7 := Lib.hid o7
           clear o7 g7 p7))
      go_roundw
      case rel => exact ⟨i + 1, t2, by omega, hft2, rfl, by go_num, Lib.hid (by rw [DA.out]; exact O7.out), Lib.hid (by rw [DA.out]; exact A7.out.1), Lib.hid A7.out.2⟩
      case measure => (simp [intOf]; try omega)
    · have hno : ¬ i < nu ∨ (i < nu ∧ ¬ f < n) := by omega
      have hf400 : f ≤ 400 := by have := hn4.out; omega
      obtain ⟨isub, ilen⟩ := its_sub IQ.out c f n hf (by rw [HN.out]; exact Nat.le_refl _) (by rw [HN.out]; exact HLC.out)
      rw [show (l.drop f).take (n - f) = l.drop f by rw [List.take_of_length_le (by rw [List.length_drop, HN.out]; exact Nat.le_refl _)]] at isub ilen
      have hcut := fun w => run_icutL w a n c f hf
      obtain ⟨A1, hA1⟩ : ∃ A1, (if c = f then a else a.map (·.add (f * 2))) = A1 := ⟨_, rfl⟩
      rw [hA1] at isub
      simp only [hA1] at hcut
      have DO := Lib.hid (do_any (N := 400) (l.drop f) A1 (n - f) (c - f) HQ.out UQ.out isub ilen (by have := hn4.out; omega) GSf.out (by have := hn4.out; omega))
      have hK6 := doK_len GSf.out (l.drop f)
      rw [ilen] at hK6
      have DA : Hid (doR (in0 9) l = ((doR (doR (in0 9) (l.take f)).1 (l.drop f)).1, (doR (in0 9) (l.take f)).2 ++ (doR (doR (in0 9) (l.take f)).1 (l.drop f)).2)) := Lib.hid (by rw [← doR_app, List.take_append_drop])
      clear isub ilen hA1
      generalize doR (doR (in0 9) (l.take f)).1 (l.drop f) = r6 at *
      generalize (doR (in0 9) (l.take f)).2 = K at *
      obtain ⟨s6, K6⟩ := r6
      dsimp only at DO DA hK6
      obtain ⟨n6, hn6⟩ : ∃ n6, K6.length = n6 := ⟨_, rfl⟩
      have HN6 := Lib.hid hn6
      have hn64 : Hid (n6 ≤ 4000) := Lib.hid (by have := hn4.out; omega)
      have hnk6 : Hid (nk = np + n6) := Lib.hid (by rw [← HNK.out, DA.out, List.length_append, HNP.out, HN6.out])
      clear hn6 hK6 hgo
      rw [DA.out] at H4 O4 HNK
      dsimp only at H4 O4 HNK
      obtain ⟨wv, hwv⟩ : ∃ wv, (decide (s6.wait ≠ []) || s6.pas) = wv := ⟨_, rfl⟩
      have HWV := Lib.hid hwv
      clear hwv
      have hcase : ((i : Int) < (nu : Int) ∧ ¬ (f : Int) < (n : Int)) ∨ ¬ (i : Int) < (nu : Int) := by omega
      clear hno
      have IN := Lib.hid indo_nil
      have WN := Lib.hid inwaits_nil
      have PN := Lib.hid inpas_nil
      rcases hcase with ⟨i1, i2⟩ | i1
      all_goals
        go_wp2_with (first
          | (go_at_call 14
             with_reducible refine (IN.out _ _ _ _).mono ?_
             rintro e wn ⟨rfl, rfl⟩)
          | (go_at_call 14
             rename_i hKK
             refine DO.out.mono ?_
             rintro e w6 ⟨v6, rfl, o6, h6, k6⟩
             obtain ⟨a6, c6, e6, s6'⟩ := o6.sl
             rw [HN6.out] at e6
             subst e6
             have H6 := Lib.hid h6
             have K6' := Lib.hid k6
             have S6 := Lib.hid s6'
             have O6 := Lib.hid (HO.out.keptM k6 (fun j e => Or.inr e))
             have Z6 := Lib.hid (Nat.le_trans HR4.out.size k6.size)
             clear o6 h6 k6 s6'
             refine hKK _ _ ?_
             refine wpList_app_keys rfl _ _ rfl w4.heap.size _ np K rfl HNP.out O6.out a6 n6 c6 K6 rfl HN6.out S6.out.s S6.out.nl (by have := hnp4.out; have := hn64.out; omega) Z6.out ?_
             intro a7 c7 w7 o7 g7 p7
             obtain ⟨h7, k7⟩ := AP.out s6 K K6 a6 n6 c6 w6 w7 a7 c7 H6.out K6'.out O6.out g7 o7 p7
             have H7 := Lib.hid h7
             have D7 := Lib.hid (D4.out.trans (k7.below W.heap.size hWQ.out))
             have P7 := Lib.hid (H4.out.apart rfl k7 (fun j hj1 hj2 => ⟨hj1, hj2⟩))
             obtain ⟨_, _, e71, s71⟩ := (O4.out.keptM k7 (fun j e => ⟨(O4.out.lt j e).2, fun e2 => hv4.out (by rw [e, e2])⟩)).sl
             rw [HNK.out] at e71
             cases e71
             obtain ⟨_, _, e72, s72⟩ := o7.sl
             rw [List.length_append, HNP.out, HN6.out] at e72
             cases e72
             have SM := ksame_ref (K ++ K6) a4 a7 (np + n6) c4 c7 w7 (by rw [List.length_append, HNP.out, HN6.out]) (by have := hnp4.out; have := hn64.out; omega) s71.s s72.s
             rw [← hnk6.out] at SM ⊢
             have SM := Lib.hid SM
             clear o7 g7 p7 h7 k7 s71 s72 H6 K6' S6 O6)
          | (go_at_call 13
             refine SM.out.mono ?_
             rintro e w8 ⟨rfl, hb⟩
             have D8 := Lib.hid (seqB D7.out hb)
             have WP : Hid (Calls Tryd.prog 16 #[.pointer (some ⟨Pb, 0, none⟩)] w8 fun e w' => e = .returned (.bool wv) ∧ w8 = w') := Lib.hid (by
               have := inwaits_any (P7.out.kept hb (T := fun _ => False) (fun j hj => hj.elim))
               rw [HWV.out] at this
               exact this)
             have WQ : Hid (Calls Tryd.prog 16 #[.pointer (some ⟨Qb, 0, none⟩)] w8 fun e w' => e = .returned (.bool wv) ∧ w8 = w') := Lib.hid (by
               have := inwaits_any (H7.out.kept hb (T := fun _ => False) (fun j hj => hj.elim))
               rw [HWV.out] at this
               exact this)
             clear hb)
          | (go_at_call 16; with_reducible refine WP.out.mono ?_; rintro e wn ⟨rfl, rfl⟩)
          | (go_at_call 16; with_reducible refine WQ.out.mono ?_; rintro e wn ⟨rfl, rfl⟩)
          | (go_at_call 16; with_reducible refine (WN.out _).mono ?_; rintro e wn ⟨rfl, rfl⟩)
          | (go_at_call 15; with_reducible refine (PN.out _).mono ?_; rintro e wn ⟨rfl, rfl⟩))
        go_ret
        exact ⟨rfl, D8.out⟩
end Go.Proofs.YtdafcjjlkjngmaaDoor
