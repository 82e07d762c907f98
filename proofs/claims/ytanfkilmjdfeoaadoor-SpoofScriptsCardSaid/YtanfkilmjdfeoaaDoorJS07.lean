/-
  Joined: Sp4 Sp5 Sp6 Sp7 Sp8 Sp9 Sp10 Sp11.
-/
import Derived.Test.YtanfkilmjdfeoaaDoorJS03
import Derived.Test.YtanfkilmjdfeoaaDoorJS04
import Derived.Test.YtanfkilmjdfeoaaDoorJS06
import Derived.Test.YtanfkilmjdfeoaaDoorShelf
import Derived.Lib.UnsafeStr
import Derived.Deep.WholeRow
set_option linter.unusedVariables false
set_option linter.unusedSimpArgs false
set_option maxRecDepth 100000
set_option linter.unusedVariables false
set_option linter.unusedSimpArgs false
namespace Go.Proofs.YtanfkilmjdfeoaaDoor
open Go.RowKit
/-- The tables that are read. -/
structure SpT (w : World) : Prop where
  c : Tabs w
  u : UT w
theorem SpT.below {w w' : World} (h : SpT w) (hb : Below w.heap.size w w') : SpT w' := ⟨h.c.below hb, h.u.below hb⟩
theorem blS_below {B b : Nat} {bs : List Value} {w w' : World} (h : IsBld B b bs w) (hb : Below w.heap.size w w') : IsBld B b bs w' := by
  rcases h with ⟨hB, v, h1, h2, h3⟩ | ⟨hB, v, h1, h2, h3⟩
  · exact Or.inl ⟨hB, v, blk_below h1 hb, own_below h2 hb, h3⟩
  · exact Or.inr ⟨hB, v, blk_below h1 hb, own_below h2 hb, h3⟩
theorem blS_new (w : World) : IsBld w.heap.size w.heap.size [] (w.alloc (.cells #[.pointer none, .slice none 0 0] 86)) :=
  Or.inl ⟨Nat.le_refl _, _, heap_alloc_new w _, World.ownsRow_nil _ _ _ _, by simp [Value.ownBlock]⟩
/-- A builder whose row's block is not another one. -/
theorem blS_iter {B b : Nat} {bs : List Value} {w : World} {R : Nat} {s : ByteArray} {i : Nat} (h : IsBld B b bs w) (hb : w.heap[R]? = some (.stringIter s i)) (j : Nat) : IsBld B b bs (w.iterAt R s j) := by
  have hne : ∀ v p, w.heap[b]? = some (.cells #[p, v] 86 (0, 0)) → b ≠ R := fun v p h1 e => by rw [e, hb] at h1; cases h1
  rcases h with ⟨hB, v, h1, h2, h3⟩ | ⟨hB, v, h1, h2, h3⟩
  · exact Or.inl ⟨hB, v, (Lib.iterAt_other w R b s j (hne _ _ h1)).trans h1, own_iter h2 hb j, h3⟩
  · exact Or.inr ⟨hB, v, (Lib.iterAt_other w R b s j (hne _ _ h1)).trans h1, own_iter h2 hb j, h3⟩
theorem bldAt_apart {B b : Nat} {p : Value} {bs : List Value} {w : World} {R : Nat} {s : ByteArray} {i : Nat} (h : BldAt B b p bs w) (hb : w.heap[R]? = some (.stringIter s i)) : b ≠ R := by
  obtain ⟨hB, v, h1, h2, h3⟩ := h
  intro e; rw [e, hb] at h1; cases h1
/-- What a function tells of a value. -/
structure Tells (f : Int → List UInt8) (F : FuncId) : Prop where
  cf : ∀ (x : Int) (w : World), (callFunc F #[.int .i64 x]).run Tryd.prog w = .ok (.enter F #[.int .i64 x]) w
  run : ∀ v w, Tabs w → Calls Tryd.prog F #[.int .i64 v] w fun e w' => e = .returned (.string (mkL (f v))) ∧ Below w.heap.size w w'
theorem tells_st : Tells stF 54 := ⟨fun _ _ => by kernel_rfl, fun v w h => harm_any v w h⟩
theorem tells_fo : Tells foF 56 := ⟨fun _ _ => by kernel_rfl, fun v w h => fold_any v w h⟩
theorem tells_sh : Tells shF 55 := ⟨fun _ _ => by kernel_rfl, fun v w h => by
  have := shtext_any v w h
  rw [show shT v = mkL (shF v) from rfl] at this
  exact this⟩
theorem spteller_any (s : ByteArray) (w : World) : Calls Tryd.prog 53 #[.string s] w fun e w' => e = .returned (.func (.func 83) #[] #[.pointer (some ⟨w.heap.size, 0, none⟩)]) ∧ w.alloc (.cells #[.string s] 9) = w' := by
  have hmf : ∀ (fn : Fn) (first cap : Array Value) (w : World), (Instr.makeFunc fn first cap).run Tryd.prog w = .ok (.func fn first cap) w := fun _ _ _ _ => rfl
  go_enter Tryd.func53, Tryd.ntmps53
  go_wp2
  go_ret
  exact ⟨rfl, rfl⟩
theorem bcheck_iter (B b : Nat) (bs : List Value) (w : World) (h : IsBld B b bs w) :
    Calls Tryd.prog 94 #[.pointer (some ⟨b, 0, none⟩)] w fun e w' => e = .returned (.tuple #[]) ∧ BldAt B b (.pointer (some ⟨b, 0, none⟩)) bs w' ∧ Below B w w' ∧ ∀ R, R ≠ b → w'.heap[R]? = w.heap[R]? := by
  rcases h with h | h
  · refine (bcheck_fresh b w h.cell0 h.shape h.frozen0).mono ?_
    rintro e w' ⟨rfl, rfl⟩
    exact ⟨rfl, h.used _, (Below.refl B w).setCell (p := ⟨b, 0, none⟩) h.1 _, fun R hR => Below.heap_setCell _ _ _ _ hR⟩
  · refine (bcheck_used b w h.cell0).mono ?_
    rintro e w' ⟨rfl, rfl⟩
    exact ⟨rfl, h, Below.refl B _, fun _ _ => rfl⟩
set_option maxHeartbeats 2000000 in
set_option maxRecDepth 100000 in
/-- A text comes behind what a builder has; an iterator stays. -/
theorem bwrite_iter (B b : Nat) (bs : List Value) (s : ByteArray) (w : World) (h : IsBld B b bs w) (R : Nat) (t : ByteArray) (i : Nat) (hR : w.heap[R]? = some (.stringIter t i)) (hlen : bs.length + s.size ≤ 140737488355328) (hBw : B ≤ w.heap.size) :
    Calls Tryd.prog 65 #[.pointer (some ⟨b, 0, none⟩), .string s] w fun e w' => e = .returned (.tuple #[.int .i64 s.size, .nilIface]) ∧ IsBld B b (bs ++ Lib.strCells s) w' ∧ Below B w w' ∧ w'.heap[R]? = some (.stringIter t i) := by
  obtain ⟨i0, hi, hz0, hz1, hz2⟩ := info_parts infoU8
  have C := Lib.hid (bcheck_iter B b bs w h)
  have hRb : R ≠ b := fun e => by
    rcases h with ⟨_, v, h1, _⟩ | ⟨_, v, h1, _⟩
    · rw [← e, hR] at h1; cases h1
    · rw [← e, hR] at h1; cases h1
  have HR := Lib.hid hR
  have hRl := blk_lt hR
  clear h hR
  go_enter Tryd.func65, Tryd.ntmps65
  go_wp2_with (go_at_call 94; refine C.out.mono ?_)
  rintro e w1 ⟨rfl, hB1, hb1, hk1⟩
  obtain ⟨hB, v, hbk, hown, hne⟩ := hB1
  have hR1 := (hk1 R hRb).trans HR.out
  have c0 := Lib.cell_of_heap hbk 0; have c1 := Lib.cell_of_heap hbk 1
  dsimp at c0 c1
  have HR1 := Lib.hid hR1
  have hap := Lib.hid (own_apart hown hR1)
  clear hR1 hk1
  go_wp2_with (at_builtin; refine Lib.wpList_append_own_string _ rfl _ _ 84 9 rfl B 5 i0 Tryd.underlying84 Tryd.underlying9 hi hz0 hz1 hz2 _ _ _ rfl hown s rfl ?g3 ?g4 ?g5 ?_)
  case g3 => unfold maxLen; omega
  case g4 => omega
  case g5 => have := hb1.size; omega
  intro v' w2 hown' hgrow _
  have hlt := blk_lt hbk
  have hb2 : w2.heap[b]? = some (.cells #[.pointer (some ⟨b, 0, none⟩), v] 86 (0, 0)) := (hgrow.block b hlt (fun e => hne e.symm)).trans hbk
  have hR2 : Hid (w2.heap[R]? = some (.stringIter t i)) := Lib.hid ((hgrow.block R (blk_lt HR1.out) (fun e => hap.out e.symm)).trans HR1.out)
  have d0 := Lib.cell_of_heap hb2 0
  have d1 := Lib.cell_of_heap hb2 1
  have f1 : w2.frozen? ⟨b, 1, none⟩ = false := Lib.frozen_of_heap hb2 1
  dsimp at d0 d1
  obtain ⟨ao, n', cap, rfl⟩ : ∃ ao n' cap, v' = .slice ao n' cap := by
    rcases hown'.2 with ⟨hv, _⟩ | ⟨g, cap, cur, hv, _⟩
    · exact ⟨_, _, _, hv⟩
    · exact ⟨_, _, _, hv⟩
  go_wp2
  go_ret2
  refine ⟨rfl, Or.inr ?_, ?_, (Below.heap_setCell _ _ _ _ hRb).trans hR2.out⟩
  · exact Lib.BuilderAt.put (T := 86) (e := 5) hB hb2 (bs' := bs ++ Lib.strCells s) (by simpa [Lib.strCells_length] using hown') (by decide)
  · exact (hb1.grown hgrow (by have := hb1.size; omega) (fun k hk => (hown.lt k hk).1)).setCell (p := ⟨b, 1, none⟩) hB _
end Go.Proofs.YtanfkilmjdfeoaaDoor
set_option linter.unusedVariables false
set_option linter.unusedSimpArgs false
namespace Go.Proofs.YtanfkilmjdfeoaaDoor
open Go.RowKit
structure SpInv (f : Int → List UInt8) (s : ByteArray) (w : World) (R : Nat) (i n : Nat) (acc : List Int) (wr : World) : Prop where
  b : IsBld w.heap.size w.heap.size (Lib.byteCells (tellL f acc)) wr
  it : wr.heap[R]? = some (.stringIter s i)
  bel : Below w.heap.size w wr
  ac : acc ++ valsF s n i = valsS s
  le : i ≤ s.size
  fu : s.size ≤ i + n
  al : acc.length ≤ i
theorem one_at (s : ByteArray) (i : Nat) (w : World) (hT : UT w) (hs : s.size ≤ 100000) (hi : i < s.size) : Calls Tryd.prog 84 #[.string (s.extract i s.size)] w fun e w' => e = .returned (.tuple #[.int .i64 ((vAt s i).1 : Int), .int .i64 ((vAt s i).2 : Int)]) ∧ Below w.heap.size w w' := by
  have h := one_any (s.extract i s.size) w hT (by rw [ext_size]; omega)
  have e : oneS (s.extract i s.size) = vAt s i := by
    unfold oneS; rw [if_neg (by rw [ext_size]; omega), vAt_tail s i 0 (by omega)]; rfl
  rw [e] at h
  exact h
set_option maxRecDepth 100000 in
set_option maxHeartbeats 4000000 in
theorem sptold_any (f : Int → List UInt8) (F : FuncId) (hF : Tells f F) (hn : ∀ v, (f v).length ≤ 30) (s : ByteArray) (q : Nat) (w : World) (hT : SpT w) (hs : s.size ≤ 100000) (hq : w.cell? ⟨q, 0, none⟩ = some (.string s)) :
    Calls Tryd.prog 83 #[.func (.func F) #[] #[], .pointer (some ⟨q, 0, none⟩)] w fun e w' => e = .returned (.string (tellS f s)) ∧ Below w.heap.size w w' := by
  have HT := Lib.hid hT
  have HF := Lib.hid hF.run
  have hcf := hF.cf
  have hql : q < w.heap.size := block_lt_of_cell hq
  have B0 := below_alloc w (.cells #[.pointer none, .slice none 0 0] 86)
  have I0 := blS_new w
  obtain ⟨W0, hW0⟩ : ∃ W0, w.alloc (.cells #[.pointer none, .slice none 0 0] 86) = W0 := ⟨_, rfl⟩
  rw [hW0] at B0 I0
  have hsz : W0.heap.size = w.heap.size + 1 := by rw [← hW0]; simp
  have hq0 := (B0.cell (p := ⟨q, 0, none⟩) hql).trans hq
  have B1 : Below W0.heap.size W0 (W0.iter s 0) := below_alloc _ _
  have S0 : Hid (SpInv f s w W0.heap.size 0 s.size [] (W0.iter s 0)) := Lib.hid ⟨blS_below I0 B1, World.iter_heap _ _ _, seqB B0 B1, rfl, Nat.zero_le _, by omega, Nat.le_refl _⟩
  have hqc := Lib.hid hq
  obtain ⟨R, hR⟩ : ∃ R, W0.heap.size = R := ⟨_, rfl⟩
  have hRw : w.heap.size ≤ R := by omega
  rw [hR] at S0
  clear hT hF I0 B1 hq hsz
  go_enter Tryd.func83, Tryd.ntmps83
  go_wp2
  go_loopw [5] (fun _ wr => ∃ i n acc, Hid (SpInv f s w R i n acc wr)) (fun _ wr => s.size - wr.iterPos R)
  case atStart => exact ⟨0, s.size, [], S0⟩
  case round =>
    clear hW0 hR
    obtain ⟨i, n, acc, HI⟩ := hrel
    have hRl : R < wr.heap.size := blk_lt HI.out.it
    have hip : wr.iterPos R = i := by simp [World.iterPos, HI.out.it]
    by_cases hlt : i < s.size
    · obtain ⟨n', rfl⟩ : ∃ n', n = n' + 1 := ⟨n - 1, by have := HI.out.fu; omega⟩
      have hp := dec_pos s i hlt
      have hnx : ∀ ty, (Instr.next (.pointer (some ⟨R, 0, none⟩)) true ty).run Tryd.prog wr = _ := fun ty => Lib.run_next_any_at wr R s i ty HI.out.it hlt
      have bel1 : Below w.heap.size w (wr.iterAt R s (i + (Utf8.decode s i).2)) := Lib.below_iterAt HI.out.bel (by omega) s _
      have b1 := blS_iter HI.out.b HI.out.it (i + (Utf8.decode s i).2)
      have it1 := Lib.iterAt_heap wr R s i (i + (Utf8.decode s i).2) HI.out.it
      have hac := HI.out.ac
      rw [valsF_step s n' i hlt] at hac
      have hal := HI.out.al; have hfu := HI.out.fu
      have hs1 : (wr.iterAt R s (i + (Utf8.decode s i).2)).heap.size = wr.heap.size := Lib.iterAt_size _ _ _ _
      have ON := one_at s i (wr.iterAt R s (i + (Utf8.decode s i).2)) ((HT.out.below bel1).u) hs hlt
      have hla := tellF_len f 30 hn acc
      have hlv := hn ((vAt s i).1 : Int)
      have htl : tellL f (acc ++ [((vAt s i).1 : Int)]) = tellL f acc ++ f ((vAt s i).1 : Int) := by rw [tellF_app]; unfold tellL; rw [List.flatMap_cons, List.flatMap_nil, List.append_nil]
      clear HI S0 hq0 B0
      generalize wr.iterAt R s (i + (Utf8.decode s i).2) = W1 at *
      generalize ((vAt s i).1 : Int) = x at *
      generalize ((vAt s i).2 : Int) = y at *
      generalize hn2 : (Utf8.decode s i).2 = m at *
      have Hip := Lib.hid hip; have Hac := Lib.hid hac; have Htl := Lib.hid htl
      have HON := Lib.hid ON
      have Hb1 := Lib.hid b1; have Hit1 := Lib.hid it1; have Hbel1 := Lib.hid bel1
      have hq1 := (bel1.cell (p := ⟨q, 0, none⟩) hql).trans hqc.out
      have hln : (Lib.byteCells (tellL f acc)).length + (mkL (f x)).size ≤ 140737488355328 := by
        rw [Lib.byteCells_length]
        have : (mkL (f x)).size = (f x).length := size_list _
        omega
      have WR := Lib.hid fun (w3 : World) h hR hB => bwrite_iter w.heap.size w.heap.size (Lib.byteCells (tellL f acc)) (mkL (f x)) w3 h R s (i + m) hR hln hB
      clear hip hac htl ON b1 it1 bel1 hn2 hln hla hlv
      go_wp2_with (first
        | (go_at_call 84; refine HON.out.mono ?_; rintro e w2 ⟨rfl, hb2⟩; have b2 := Lib.hid (blS_below Hb1.out hb2); have it2 := Lib.hid (blk_below Hit1.out hb2); have bel2 := Lib.hid (Hbel1.out.trans (hb2.mono Hbel1.out.size)); clear hb2)
        | (go_at_call 65; refine (WR.out _ b3.out it3.out bel3.out.size).mono ?_; rintro e w4 ⟨rfl, hb4, hw4, hi4⟩; have b4 := Lib.hid hb4; have it4 := hi4; have bel4 := Lib.hid (bel3.out.trans hw4); clear hb4 hw4 hi4)
        | (refine (HF.out x _ ((HT.out.below bel2.out).c)).mono ?_; rintro e w3 ⟨rfl, hb3⟩; have b3 := Lib.hid (blS_below b2.out hb3); have it3 := Lib.hid (blk_below it2.out hb3); have bel3 := Lib.hid (bel2.out.trans (hb3.mono bel2.out.size)); clear hb3))
      go_roundw
      case rel =>
        exact ⟨i + m, n', acc ++ [x], Lib.hid ⟨by rw [Htl.out, Lib.byteCells_append]; exact b4.out, it4, bel4.out, by rw [List.append_assoc]; exact Hac.out, by omega, by omega, by simp; omega⟩⟩
      case measure => simp only [World.iterPos, it4]; have := Hip.out; simp only [World.iterPos] at this; omega
    · have hnx : ∀ ty, (Instr.next (.pointer (some ⟨R, 0, none⟩)) true ty).run Tryd.prog wr = _ := fun ty => Lib.run_next_end_at wr R s i ty HI.out.it hlt
      have hac := HI.out.ac
      rw [valsF_end s n i hlt, List.append_nil] at hac
      subst hac
      have b1 := Lib.hid HI.out.b; have bel1 := Lib.hid HI.out.bel
      have ST := Lib.hid (fun (B : Nat) (w : World) h hB => Tryd.Builder_String_any B B (tellL f (valsS s)) w h hB)
      have hmk : Hid ((⟨(tellL f (valsS s)).toArray⟩ : ByteArray) = tellS f s) := Lib.hid rfl
      clear HI hlt hip
      generalize tellL f (valsS s) = ls at *
      go_wp2_with (go_at_call 67; refine (ST.out _ _ b1.out bel1.out.size).mono ?_; rintro e w2 ⟨rfl, hb2⟩; rw [hmk.out])
      go_ret
      exact ⟨rfl, bel1.out.trans hb2⟩
end Go.Proofs.YtanfkilmjdfeoaaDoor
set_option linter.unusedVariables false
set_option linter.unusedSimpArgs false
namespace Go.Proofs.YtanfkilmjdfeoaaDoor
open Go.RowKit
theorem len30 (f : Int → List UInt8) (h : ∀ v, (f v).length ≤ 4) : ∀ v, (f v).length ≤ 30 := fun v => by have := h v; omega
theorem spstrip_any (s : ByteArray) (w : World) (hT : SpT w) (hs : s.size ≤ 100000) : Calls Tryd.prog 11 #[.string s] w fun e w' => e = .returned (.string (tellS stF s)) ∧ Below w.heap.size w w' := by
  have TE := Lib.hid (spteller_any s w)
  have B0 := below_alloc w (.cells #[.string s] 9)
  have q0 := heap_alloc_new w (.cells #[.string s] 9)
  obtain ⟨W0, hW0⟩ : ∃ W0, w.alloc (.cells #[.string s] 9) = W0 := ⟨_, rfl⟩
  rw [hW0] at B0 q0
  have TO := Lib.hid (sptold_any stF 54 tells_st (len30 _ stF_len) s w.heap.size W0 (hT.below B0) hs (cell_of_row _ _ 0 _ _ _ q0))
  have HW0 := Lib.hid hW0
  clear hT q0 hW0
  go_enter Tryd.func11, Tryd.ntmps11
  go_wp2_with (first
    | (go_at_call 53; refine TE.out.mono ?_; rintro e w1 ⟨rfl, hw1⟩; obtain rfl := HW0.out.symm.trans hw1)
    | (go_at_call 83; refine TO.out.mono ?_; rintro e w2 ⟨rfl, hb2⟩))
  go_ret
  exact ⟨rfl, seqB B0 hb2⟩
theorem sptell_any (s : ByteArray) (w : World) (hT : SpT w) (hs : s.size ≤ 100000) : Calls Tryd.prog 12 #[.string s] w fun e w' => e = .returned (.string (tellS shF s)) ∧ Below w.heap.size w w' := by
  have TE := Lib.hid (spteller_any s w)
  have B0 := below_alloc w (.cells #[.string s] 9)
  have q0 := heap_alloc_new w (.cells #[.string s] 9)
  obtain ⟨W0, hW0⟩ : ∃ W0, w.alloc (.cells #[.string s] 9) = W0 := ⟨_, rfl⟩
  rw [hW0] at B0 q0
  have TO := Lib.hid (sptold_any shF 55 tells_sh (shF_len) s w.heap.size W0 (hT.below B0) hs (cell_of_row _ _ 0 _ _ _ q0))
  have HW0 := Lib.hid hW0
  clear hT q0 hW0
  go_enter Tryd.func12, Tryd.ntmps12
  go_wp2_with (first
    | (go_at_call 53; refine TE.out.mono ?_; rintro e w1 ⟨rfl, hw1⟩; obtain rfl := HW0.out.symm.trans hw1)
    | (go_at_call 83; refine TO.out.mono ?_; rintro e w2 ⟨rfl, hb2⟩))
  go_ret
  exact ⟨rfl, seqB B0 hb2⟩
theorem spfold_any (s : ByteArray) (w : World) (hT : SpT w) (hs : s.size ≤ 100000) : Calls Tryd.prog 13 #[.string s] w fun e w' => e = .returned (.string (tellS foF s)) ∧ Below w.heap.size w w' := by
  have TE := Lib.hid (spteller_any s w)
  have B0 := below_alloc w (.cells #[.string s] 9)
  have q0 := heap_alloc_new w (.cells #[.string s] 9)
  obtain ⟨W0, hW0⟩ : ∃ W0, w.alloc (.cells #[.string s] 9) = W0 := ⟨_, rfl⟩
  rw [hW0] at B0 q0
  have TO := Lib.hid (sptold_any foF 56 tells_fo (len30 _ foF_len) s w.heap.size W0 (hT.below B0) hs (cell_of_row _ _ 0 _ _ _ q0))
  have HW0 := Lib.hid hW0
  clear hT q0 hW0
  go_enter Tryd.func13, Tryd.ntmps13
  go_wp2_with (first
    | (go_at_call 53; refine TE.out.mono ?_; rintro e w1 ⟨rfl, hw1⟩; obtain rfl := HW0.out.symm.trans hw1)
    | (go_at_call 83; refine TO.out.mono ?_; rintro e w2 ⟨rfl, hb2⟩))
  go_ret
  exact ⟨rfl, seqB B0 hb2⟩
theorem strip_size (s : ByteArray) : (tellS stF s).size ≤ 4 * s.size := tellF_size stF 4 stF_len s
theorem fold_size (s : ByteArray) : (tellS foF s).size ≤ 4 * s.size := tellF_size foF 4 foF_len s
theorem told_size (s : ByteArray) : (tellS shF s).size ≤ 30 * s.size := tellF_size shF 30 shF_len s
/-- Do texts look alike? -/
def alB (a b : ByteArray) : Bool := (tellS foF (tellS stF a)).toList == (tellS foF (tellS stF b)).toList
theorem spalike_any (a b : ByteArray) (w : World) (hT : SpT w) (ha : a.size ≤ 10000) (hb : b.size ≤ 10000) : Calls Tryd.prog 19 #[.string a, .string b] w fun e w' => e = .returned (.bool (alB a b)) ∧ Below w.heap.size w w' := by
  have sa := strip_size a
  have sb := strip_size b
  have A1 := Lib.hid fun w hT => spstrip_any a w hT (by omega)
  have A2 := Lib.hid fun w hT => spstrip_any b w hT (by omega)
  have F1 := Lib.hid fun w hT => spfold_any (tellS stF a) w hT (by omega)
  have F2 := Lib.hid fun w hT => spfold_any (tellS stF b) w hT (by omega)
  have HT := Lib.hid hT
  have HB : Hid (alB a b = ((tellS foF (tellS stF a)).toList == (tellS foF (tellS stF b)).toList)) := Lib.hid rfl
  clear hT sa sb
  generalize tellS stF a = sa at *
  generalize tellS stF b = sb at *
  generalize tellS foF sa = fa at *
  generalize tellS foF sb = fb at *
  go_enter Tryd.func19, Tryd.ntmps19
  go_wp2_with (first
    | (go_at_call 11; refine (A1.out _ HT.out).mono ?_; rintro e w1 ⟨rfl, b1⟩; clear A1)
    | (go_at_call 13; refine (F1.out _ (HT.out.below b1)).mono ?_; rintro e w2 ⟨rfl, b2⟩; have B2 := seqB b1 b2; clear F1)
    | (go_at_call 11; refine (A2.out _ (HT.out.below B2)).mono ?_; rintro e w3 ⟨rfl, b3⟩; have B3 := seqB B2 b3; clear A2)
    | (go_at_call 13; refine (F2.out _ (HT.out.below B3)).mono ?_; rintro e w4 ⟨rfl, b4⟩; have B4 := seqB B3 b4; clear F2))
  go_ret
  rw [HB.out]
  exact ⟨rfl, B4⟩
end Go.Proofs.YtanfkilmjdfeoaaDoor
set_option linter.unusedVariables false
set_option linter.unusedSimpArgs false
namespace Go.Proofs.YtanfkilmjdfeoaaDoor
open Go.RowKit
theorem tell_take (f : Int → List UInt8) (l : List Int) (k : Nat) (h : k < l.length) : tellL f (l.take (k + 1)) = tellL f (l.take k) ++ f (l.getD k 0) := by
  rw [List.take_succ_eq_append_getElem h, tellF_app, List.getD, List.getElem?_eq_getElem h]
  unfold tellL
  rw [List.flatMap_cons, List.flatMap_nil, List.append_nil]; rfl
theorem mkL_app (a b : List UInt8) : mkL (a ++ b) = mkL a ++ mkL b := by
  apply ByteArray.ext
  simp [mkL, ByteArray.data_append]
theorem row_of_vals {w : World} {B : Nat} {v : Value} {l : List Int} (h : w.ownsRow B 3 1 v l.length (l.map (Value.int .i64))) : ∃ a c, v = .slice a l.length c ∧ Row w a l := row_own h
theorem rw_keep {w wr : World} {a : Option Addr} {l : List Int} (h : Row w a l) (hb : Below w.heap.size w wr) : Row wr a l := h.below hb
theorem in_get {s : ByteArray} {k : Nat} (h : k < (valsS s).length) : rightB ((valsS s).getD k 0) = true := by
  have hm : (valsS s).getD k 0 ∈ valsS s := by
    rw [List.getD, List.getElem?_eq_getElem h]; exact List.getElem_mem h
  unfold rightB
  rcases in_vals hm with h | h <;> rw [h]
  · rfl
  · rw [Bool.or_true]
theorem skel_right {v : Int} (h : rightB v = true) : rightB (skel v) = true := by
  rcases skel_what v with e | ⟨h0, h1, _⟩
  · rw [e]; exact h
  · unfold rightB; rw [(ptB_iff (skel v)).2 (by omega)]; rfl
set_option maxHeartbeats 4000000 in
theorem rstrip_ref (s : ByteArray) (w : World) (hs : s.size ≤ 100000) : Calls Tryd.prog 16 #[.string s] w fun e w' => e = .returned (.string (tellS stF s)) ∧ Below w.heap.size w w' := by
  have DC := Lib.hid (decode_ref s w (by omega))
  have HL := Lib.hid (valsS_len s)
  have HR := Lib.hid fun k (h : k < (valsS s).length) => in_get h
  have HS : Hid (tellS stF s = mkL (tellL stF (valsS s))) := Lib.hid rfl
  generalize valsS s = l at *
  go_enter Tryd.func16, Tryd.ntmps16
  go_wp2_with (go_at_call 14; refine DC.out.mono ?_; rintro e w0 ⟨v, rfl, own, b0⟩; obtain ⟨a, c, rfl, hrow⟩ := row_of_vals own; have Hr := Lib.hid hrow; clear own hrow)
  have hll : l.length ≤ 100000 := by have := HL.out; omega
  go_loopw [4, 5] (fun sv iv wr => ∃ (k : Nat) (t : ByteArray), sv = .string t ∧ iv = .int .i64 (k : Int) ∧ k ≤ l.length ∧ Hid (t = mkL (tellL stF (l.take k))) ∧ Below w0.heap.size w0 wr) (fun _ iv _ => l.length - (intOf iv).toNat)
  case atStart => exact ⟨0, ⟨#[]⟩, rfl, rfl, Nat.zero_le _, Lib.hid rfl, Below.refl _ _⟩
  case round =>
    obtain ⟨k, t, rfl, rfl, hk, ht, hbl⟩ := hrel
    by_cases hlt : k < l.length
    · obtain ⟨ba, oa, rfl, hca, hba⟩ := (Hr.out.below hbl) k hlt
      have hlti : (k : Int) < (l.length : Int) := by omega
      have hk0 : (0 : Int) ≤ k := by omega
      have hnext := tell_take stF l k hlt
      have hright := HR.out k hlt
      have hsz : t.size ≤ 4000000 := by
        rw [ht.out]
        have := tellF_len stF 30 (len30 _ stF_len) (l.take k)
        rw [List.length_take] at this
        have e : (mkL (tellL stF (l.take k))).size = (tellL stF (l.take k)).length := size_list _
        omega
      generalize l.getD k 0 = x at *
      have OF := fun w => of_ref x w
      rw [← cls_eq] at OF
      by_cases hc : 3 < cls x
      · have hf : stF x = [] := by unfold stF; rw [if_pos hc]
        have Hn : Hid (t = mkL (tellL stF (l.take (k + 1)))) := Lib.hid (by rw [hnext, hf, List.append_nil]; exact ht.out)
        have hc2 : ¬ cls x ≤ 3 := by omega
        generalize cls x = cx at *
        replace OF := Lib.hid OF
        clear hnext hf ht hright
        go_wp2_with (go_at_call 15; refine (OF.out _).mono ?_; rintro e w1 ⟨rfl, hb1⟩)
        go_roundw
        case rel => exact ⟨k + 1, t, rfl, by go_num, by omega, Hn, seqB hbl hb1⟩
        case measure => simp [intOf]; omega
      · have hf : stF x = u8l (oneI x) := by unfold stF; rw [if_neg hc]
        have Hn : Hid (t ++ txt (oneI x) = mkL (tellL stF (l.take (k + 1)))) := Lib.hid (by rw [hnext, hf, mkL_app, ← ht.out]; rfl)
        have BY := fun w => bytes_ref x w hright
        have hsz2 : (txt (oneI x)).size ≤ 4 := by rw [txt_size]; exact oneI_len x
        have hc2 : cls x ≤ 3 := by omega
        generalize cls x = cx at *
        generalize txt (oneI x) = u at *
        replace OF := Lib.hid OF; replace BY := Lib.hid BY
        clear hnext hf ht hright
        go_wp2_with (first
          | (go_at_call 15; refine (OF.out _).mono ?_; rintro e w1 ⟨rfl, hb1⟩; have hca2 := (hb1.cell (p := ⟨ba, oa + k, none⟩) hba).trans hca)
          | (go_at_call 62; refine (BY.out _).mono ?_; rintro e w2 ⟨rfl, hb2⟩))
        go_roundw
        case rel => exact ⟨k + 1, _, rfl, by go_num, by omega, Hn, seqB (seqB hbl hb1) hb2⟩
        case measure => simp [intOf]; omega
    · obtain rfl : k = l.length := by omega
      have hkl : ¬ (l.length : Int) < (l.length : Int) := by omega
      have Hf : Hid (t = mkL (tellL stF l)) := Lib.hid (by rw [ht.out, List.take_length])
      clear ht
      go_wp2
      go_ret
      rw [HS.out, Hf.out]
      exact ⟨rfl, seqB b0 hbl⟩
set_option maxHeartbeats 4000000 in
theorem rtell_ref (s : ByteArray) (w : World) (hs : s.size ≤ 100000) : Calls Tryd.prog 17 #[.string s] w fun e w' => e = .returned (.string (tellS shF s)) ∧ Below w.heap.size w w' := by
  have DC := Lib.hid (decode_ref s w (by omega))
  have HL := Lib.hid (valsS_len s)
  have HR := Lib.hid fun k (h : k < (valsS s).length) => in_get h
  have HS : Hid (tellS shF s = mkL (tellL shF (valsS s))) := Lib.hid rfl
  generalize valsS s = l at *
  go_enter Tryd.func17, Tryd.ntmps17
  go_wp2_with (go_at_call 14; refine DC.out.mono ?_; rintro e w0 ⟨v, rfl, own, b0⟩; obtain ⟨a, c, rfl, hrow⟩ := row_of_vals own; have Hr := Lib.hid hrow; clear own hrow)
  have hll : l.length ≤ 100000 := by have := HL.out; omega
  go_loopw [4, 5] (fun sv iv wr => ∃ (k : Nat) (t : ByteArray), sv = .string t ∧ iv = .int .i64 (k : Int) ∧ k ≤ l.length ∧ Hid (t = mkL (tellL shF (l.take k))) ∧ Below w0.heap.size w0 wr) (fun _ iv _ => l.length - (intOf iv).toNat)
  case atStart => exact ⟨0, ⟨#[]⟩, rfl, rfl, Nat.zero_le _, Lib.hid rfl, Below.refl _ _⟩
  case round =>
    obtain ⟨k, t, rfl, rfl, hk, ht, hbl⟩ := hrel
    by_cases hlt : k < l.length
    · obtain ⟨ba, oa, rfl, hca, hba⟩ := (Hr.out.below hbl) k hlt
      have hlti : (k : Int) < (l.length : Int) := by omega
      have hk0 : (0 : Int) ≤ k := by omega
      have hnext := tell_take shF l k hlt
      have hright := HR.out k hlt
      have hsz : t.size ≤ 4000000 := by
        rw [ht.out]
        have := tellF_len shF 30 (shF_len) (l.take k)
        rw [List.length_take] at this
        have e : (mkL (tellL shF (l.take k))).size = (tellL shF (l.take k)).length := size_list _
        omega
      generalize l.getD k 0 = x at *
      have TX := fun w => shtext_ref x w
      have hsz2 := shT_size x
      have Hn : Hid (t ++ shT x = mkL (tellL shF (l.take (k + 1)))) := Lib.hid (by rw [hnext, mkL_app, ← ht.out]; rfl)
      generalize shT x = u at *
      replace TX := Lib.hid TX
      clear hnext ht hright
      go_wp2_with (go_at_call 63; refine (TX.out _).mono ?_; rintro e w1 ⟨rfl, hb1⟩)
      go_roundw
      case rel => exact ⟨k + 1, _, rfl, by go_num, by omega, Hn, seqB hbl hb1⟩
      case measure => simp [intOf]; omega
    · obtain rfl : k = l.length := by omega
      have hkl : ¬ (l.length : Int) < (l.length : Int) := by omega
      have Hf : Hid (t = mkL (tellL shF l)) := Lib.hid (by rw [ht.out, List.take_length])
      clear ht
      go_wp2
      go_ret
      rw [HS.out, Hf.out]
      exact ⟨rfl, seqB b0 hbl⟩
set_option maxHeartbeats 4000000 in
theorem rfold_ref (s : ByteArray) (w : World) (hs : s.size ≤ 100000) : Calls Tryd.prog 18 #[.string s] w fun e w' => e = .returned (.string (tellS foF s)) ∧ Below w.heap.size w w' := by
  have DC := Lib.hid (decode_ref s w (by omega))
  have HL := Lib.hid (valsS_len s)
  have HR := Lib.hid fun k (h : k < (valsS s).length) => in_get h
  have HS : Hid (tellS foF s = mkL (tellL foF (valsS s))) := Lib.hid rfl
  generalize valsS s = l at *
  go_enter Tryd.func18, Tryd.ntmps18
  go_wp2_with (go_at_call 14; refine DC.out.mono ?_; rintro e w0 ⟨v, rfl, own, b0⟩; obtain ⟨a, c, rfl, hrow⟩ := row_of_vals own; have Hr := Lib.hid hrow; clear own hrow)
  have hll : l.length ≤ 100000 := by have := HL.out; omega
  go_loopw [4, 5] (fun sv iv wr => ∃ (k : Nat) (t : ByteArray), sv = .string t ∧ iv = .int .i64 (k : Int) ∧ k ≤ l.length ∧ Hid (t = mkL (tellL foF (l.take k))) ∧ Below w0.heap.size w0 wr) (fun _ iv _ => l.length - (intOf iv).toNat)
  case atStart => exact ⟨0, ⟨#[]⟩, rfl, rfl, Nat.zero_le _, Lib.hid rfl, Below.refl _ _⟩
  case round =>
    obtain ⟨k, t, rfl, rfl, hk, ht, hbl⟩ := hrel
    by_cases hlt : k < l.length
    · obtain ⟨ba, oa, rfl, hca, hba⟩ := (Hr.out.below hbl) k hlt
      have hlti : (k : Int) < (l.length : Int) := by omega
      have hk0 : (0 : Int) ≤ k := by omega
      have hnext := tell_take foF l k hlt
      have hright := HR.out k hlt
      have hsz : t.size ≤ 4000000 := by
        rw [ht.out]
        have := tellF_len foF 30 (len30 _ foF_len) (l.take k)
        rw [List.length_take] at this
        have e : (mkL (tellL foF (l.take k))).size = (tellL foF (l.take k)).length := size_list _
        omega
      generalize l.getD k 0 = x at *
      have SK := fun w => skel_ref x w
      rw [skel_eq] at SK
      have BY := fun w => bytes_ref (skel x) w (skel_right hright)
      have Hn : Hid (t ++ txt (oneI (skel x)) = mkL (tellL foF (l.take (k + 1)))) := Lib.hid (by rw [hnext, mkL_app, ← ht.out]; rfl)
      have hsz2 : (txt (oneI (skel x))).size ≤ 4 := by rw [txt_size]; exact oneI_len _
      generalize txt (oneI (skel x)) = u at *
      generalize skel x = y at *
      replace SK := Lib.hid SK; replace BY := Lib.hid BY
      clear hnext ht hright
      go_wp2_with (first
        | (go_at_call 60; refine (SK.out _).mono ?_; rintro e w1 ⟨rfl, hb1⟩)
        | (go_at_call 62; refine (BY.out _).mono ?_; rintro e w2 ⟨rfl, hb2⟩))
      go_roundw
      case rel => exact ⟨k + 1, _, rfl, by go_num, by omega, Hn, seqB (seqB hbl hb1) hb2⟩
      case measure => simp [intOf]; omega
    · obtain rfl : k = l.length := by omega
      have hkl : ¬ (l.length : Int) < (l.length : Int) := by omega
      have Hf : Hid (t = mkL (tellL foF l)) := Lib.hid (by rw [ht.out, List.take_length])
      clear ht
      go_wp2
      go_ret
      rw [HS.out, Hf.out]
      exact ⟨rfl, seqB b0 hbl⟩
end Go.Proofs.YtanfkilmjdfeoaaDoor
set_option linter.unusedVariables false
set_option linter.unusedSimpArgs false
namespace Go.Proofs.YtanfkilmjdfeoaaDoor
open Go.RowKit
/-- The script of a value. -/
def scP (v : Int) : Nat := if 97 ≤ v ∧ v ≤ 122 ∨ 65 ≤ v ∧ v ≤ 90 ∨ 192 ≤ v ∧ v ≤ 591 then 1 else if 880 ≤ v ∧ v ≤ 1023 then 2 else if 1024 ≤ v ∧ v ≤ 1327 then 3 else if cls v = 2 then 4 else 0
theorem scP_le (v : Int) : scP v ≤ 4 := by unfold scP; repeat' split
                                           all_goals omega
/-- Has a text a value of a script? -/
def hvB (l : List Int) (k : Nat) : Bool := l.any fun v => scP v == k
theorem hvB_app (l : List Int) (x : Int) (k : Nat) : hvB (l ++ [x]) k = (hvB l k || scP x == k) := by unfold hvB; rw [List.any_append, List.any_cons, List.any_nil, Bool.or_false]
theorem sc_cases (v : Int) : v ≤ 64 ∨ 65 ≤ v ∧ v ≤ 90 ∨ 91 ≤ v ∧ v ≤ 96 ∨ 97 ≤ v ∧ v ≤ 122 ∨ 123 ≤ v ∧ v ≤ 191 ∨ 192 ≤ v ∧ v ≤ 591 ∨ 592 ≤ v ∧ v ≤ 879 ∨ 880 ≤ v ∧ v ≤ 1023 ∨ 1024 ≤ v ∧ v ≤ 1327 ∨ 1328 ≤ v := by omega
set_option maxHeartbeats 4000000 in
theorem script_any (v : Int) (w : World) (hT : Tabs w) : Calls Tryd.prog 93 #[.int .i64 v] w fun e w' => e = .returned (.int .i64 (scP v : Int)) ∧ Below w.heap.size w w' := by
  have OF := fun w hT => of_any v w hT
  have HT := Lib.hid hT; clear hT
  rcases sc_cases v with h1 | ⟨h1, h2⟩ | ⟨h1, h2⟩ | ⟨h1, h2⟩ | ⟨h1, h2⟩ | ⟨h1, h2⟩ | ⟨h1, h2⟩ | ⟨h1, h2⟩ | ⟨h1, h2⟩ | h1
  · have g97 : decide ((97 : Int) ≤ v) = false := decide_eq_false (by omega)
    have g65 : decide ((65 : Int) ≤ v) = false := decide_eq_false (by omega)
    have g192 : decide ((192 : Int) ≤ v) = false := decide_eq_false (by omega)
    have g880 : decide ((880 : Int) ≤ v) = false := decide_eq_false (by omega)
    have g1024 : decide ((1024 : Int) ≤ v) = false := decide_eq_false (by omega)
    have l122 : decide (v ≤ (122 : Int)) = true := decide_eq_true (by omega)
    have l90 : decide (v ≤ (90 : Int)) = true := decide_eq_true (by omega)
    have l591 : decide (v ≤ (591 : Int)) = true := decide_eq_true (by omega)
    have l1023 : decide (v ≤ (1023 : Int)) = true := decide_eq_true (by omega)
    have l1327 : decide (v ≤ (1327 : Int)) = true := decide_eq_true (by omega)
    by_cases hc : cls v = 2
    · have hs : Hid (scP v = 4) := Lib.hid (by unfold scP; rw [if_neg (by omega), if_neg (by omega), if_neg (by omega), if_pos hc])
      rw [hc] at OF
      replace OF := Lib.hid OF
      clear hc
      go_enter Tryd.func93, Tryd.ntmps93
      go_wp2_with (go_at_call 87; refine (OF.out _ HT.out).mono ?_; rintro e w1 ⟨rfl, hb1⟩)
      go_ret
      rw [hs.out]; exact ⟨rfl, hb1⟩
    · have hs : Hid (scP v = 0) := Lib.hid (by unfold scP; rw [if_neg (by omega), if_neg (by omega), if_neg (by omega), if_neg hc])
      have hcb : (cls v == 2) = false := beq_eq_false_iff_ne.2 hc
      generalize cls v = cv at *
      replace OF := Lib.hid OF
      go_enter Tryd.func93, Tryd.ntmps93
      go_wp2_with (go_at_call 87; refine (OF.out _ HT.out).mono ?_; rintro e w1 ⟨rfl, hb1⟩)
      go_ret
      rw [hs.out]; exact ⟨rfl, hb1⟩
  · have g97 : decide ((97 : Int) ≤ v) = false := decide_eq_false (by omega)
    have g65 : decide ((65 : Int) ≤ v) = true := decide_eq_true (by omega)
    have g192 : decide ((192 : Int) ≤ v) = false := decide_eq_false (by omega)
    have g880 : decide ((880 : Int) ≤ v) = false := decide_eq_false (by omega)
    have g1024 : decide ((1024 : Int) ≤ v) = false := decide_eq_false (by omega)
    have l122 : decide (v ≤ (122 : Int)) = true := decide_eq_true (by omega)
    have l90 : decide (v ≤ (90 : Int)) = true := decide_eq_true (by omega)
    have l591 : decide (v ≤ (591 : Int)) = true := decide_eq_true (by omega)
    have l1023 : decide (v ≤ (1023 : Int)) = true := decide_eq_true (by omega)
    have l1327 : decide (v ≤ (1327 : Int)) = true := decide_eq_true (by omega)
    have hs : Hid (scP v = 1) := Lib.hid (by unfold scP; rw [if_pos (by omega)])
    clear OF
    go_enter Tryd.func93, Tryd.ntmps93
    go_wp2_with fail
    go_ret
    rw [hs.out]; exact ⟨rfl, Below.refl _ _⟩
  · have g97 : decide ((97 : Int) ≤ v) = false := decide_eq_false (by omega)
    have g65 : decide ((65 : Int) ≤ v) = true := decide_eq_true (by omega)
    have g192 : decide ((192 : Int) ≤ v) = false := decide_eq_false (by omega)
    have g880 : decide ((880 : Int) ≤ v) = false := decide_eq_false (by omega)
    have g1024 : decide ((1024 : Int) ≤ v) = false := decide_eq_false (by omega)
    have l122 : decide (v ≤ (122 : Int)) = true := decide_eq_true (by omega)
    have l90 : decide (v ≤ (90 : Int)) = false := decide_eq_false (by omega)
    have l591 : decide (v ≤ (591 : Int)) = true := decide_eq_true (by omega)
    have l1023 : decide (v ≤ (1023 : Int)) = true := decide_eq_true (by omega)
    have l1327 : decide (v ≤ (1327 : Int)) = true := decide_eq_true (by omega)
    by_cases hc : cls v = 2
    · have hs : Hid (scP v = 4) := Lib.hid (by unfold scP; rw [if_neg (by omega), if_neg (by omega), if_neg (by omega), if_pos hc])
      rw [hc] at OF
      replace OF := Lib.hid OF
      clear hc
      go_enter Tryd.func93, Tryd.ntmps93
      go_wp2_with (go_at_call 87; refine (OF.out _ HT.out).mono ?_; rintro e w1 ⟨rfl, hb1⟩)
      go_ret
      rw [hs.out]; exact ⟨rfl, hb1⟩
    · have hs : Hid (scP v = 0) := Lib.hid (by unfold scP; rw [if_neg (by omega), if_neg (by omega), if_neg (by omega), if_neg hc])
      have hcb : (cls v == 2) = false := beq_eq_false_iff_ne.2 hc
      generalize cls v = cv at *
      replace OF := Lib.hid OF
      go_enter Tryd.func93, Tryd.ntmps93
      go_wp2_with (go_at_call 87; refine (OF.out _ HT.out).mono ?_; rintro e w1 ⟨rfl, hb1⟩)
      go_ret
      rw [hs.out]; exact ⟨rfl, hb1⟩
  · have g97 : decide ((97 : Int) ≤ v) = true := decide_eq_true (by omega)
    have g65 : decide ((65 : Int) ≤ v) = true := decide_eq_true (by omega)
    have g192 : decide ((192 : Int) ≤ v) = false := decide_eq_false (by omega)
    have g880 : decide ((880 : Int) ≤ v) = false := decide_eq_false (by omega)
    have g1024 : decide ((1024 : Int) ≤ v) = false := decide_eq_false (by omega)
    have l122 : decide (v ≤ (122 : Int)) = true := decide_eq_true (by omega)
    have l90 : decide (v ≤ (90 : Int)) = false := decide_eq_false (by omega)
    have l591 : decide (v ≤ (591 : Int)) = true := decide_eq_true (by omega)
    have l1023 : decide (v ≤ (1023 : Int)) = true := decide_eq_true (by omega)
    have l1327 : decide (v ≤ (1327 : Int)) = true := decide_eq_true (by omega)
    have hs : Hid (scP v = 1) := Lib.hid (by unfold scP; rw [if_pos (by omega)])
    clear OF
    go_enter Tryd.func93, Tryd.ntmps93
    go_wp2_with fail
    go_ret
    rw [hs.out]; exact ⟨rfl, Below.refl _ _⟩
  · have g97 : decide ((97 : Int) ≤ v) = true := decide_eq_true (by omega)
    have g65 : decide ((65 : Int) ≤ v) = true := decide_eq_true (by omega)
    have g192 : decide ((192 : Int) ≤ v) = false := decide_eq_false (by omega)
    have g880 : decide ((880 : Int) ≤ v) = false := decide_eq_false (by omega)
    have g1024 : decide ((1024 : Int) ≤ v) = false := decide_eq_false (by omega)
    have l122 : decide (v ≤ (122 : Int)) = false := decide_eq_false (by omega)
    have l90 : decide (v ≤ (90 : Int)) = false := decide_eq_false (by omega)
    have l591 : decide (v ≤ (591 : Int)) = true := decide_eq_true (by omega)
    have l1023 : decide (v ≤ (1023 : Int)) = true := decide_eq_true (by omega)
    have l1327 : decide (v ≤ (1327 : Int)) = true := decide_eq_true (by omega)
    by_cases hc : cls v = 2
    · have hs : Hid (scP v = 4) := Lib.hid (by unfold scP; rw [if_neg (by omega), if_neg (by omega), if_neg (by omega), if_pos hc])
      rw [hc] at OF
      replace OF := Lib.hid OF
      clear hc
      go_enter Tryd.func93, Tryd.ntmps93
      go_wp2_with (go_at_call 87; refine (OF.out _ HT.out).mono ?_; rintro e w1 ⟨rfl, hb1⟩)
      go_ret
      rw [hs.out]; exact ⟨rfl, hb1⟩
    · have hs : Hid (scP v = 0) := Lib.hid (by unfold scP; rw [if_neg (by omega), if_neg (by omega), if_neg (by omega), if_neg hc])
      have hcb : (cls v == 2) = false := beq_eq_false_iff_ne.2 hc
      generalize cls v = cv at *
      replace OF := Lib.hid OF
      go_enter Tryd.func93, Tryd.ntmps93
      go_wp2_with (go_at_call 87; refine (OF.out _ HT.out).mono ?_; rintro e w1 ⟨rfl, hb1⟩)
      go_ret
      rw [hs.out]; exact ⟨rfl, hb1⟩
  · have g97 : decide ((97 : Int) ≤ v) = true := decide_eq_true (by omega)
    have g65 : decide ((65 : Int) ≤ v) = true := decide_eq_true (by omega)
    have g192 : decide ((192 : Int) ≤ v) = true := decide_eq_true (by omega)
    have g880 : decide ((880 : Int) ≤ v) = false := decide_eq_false (by omega)
    have g1024 : decide ((1024 : Int) ≤ v) = false := decide_eq_false (by omega)
    have l122 : decide (v ≤ (122 : Int)) = false := decide_eq_false (by omega)
    have l90 : decide (v ≤ (90 : Int)) = false := decide_eq_false (by omega)
    have l591 : decide (v ≤ (591 : Int)) = true := decide_eq_true (by omega)
    have l1023 : decide (v ≤ (1023 : Int)) = true := decide_eq_true (by omega)
    have l1327 : decide (v ≤ (1327 : Int)) = true := decide_eq_true (by omega)
    have hs : Hid (scP v = 1) := Lib.hid (by unfold scP; rw [if_pos (by omega)])
    clear OF
    go_enter Tryd.func93, Tryd.ntmps93
    go_wp2_with fail
    go_ret
    rw [hs.out]; exact ⟨rfl, Below.refl _ _⟩
  · have g97 : decide ((97 : Int) ≤ v) = true := decide_eq_true (by omega)
    have g65 : decide ((65 : Int) ≤ v) = true := decide_eq_true (by omega)
    have g192 : decide ((192 : Int) ≤ v) = true := decide_eq_true (by omega)
    have g880 : decide ((880 : Int) ≤ v) = false := decide_eq_false (by omega)
    have g1024 : decide ((1024 : Int) ≤ v) = false := decide_eq_false (by omega)
    have l122 : decide (v ≤ (122 : Int)) = false := decide_eq_false (by omega)
    have l90 : decide (v ≤ (90 : Int)) = false := decide_eq_false (by omega)
    have l591 : decide (v ≤ (591 : Int)) = false := decide_eq_false (by omega)
    have l1023 : decide (v ≤ (1023 : Int)) = true := decide_eq_true (by omega)
    have l1327 : decide (v ≤ (1327 : Int)) = true := decide_eq_true (by omega)
    by_cases hc : cls v = 2
    · have hs : Hid (scP v = 4) := Lib.hid (by unfold scP; rw [if_neg (by omega), if_neg (by omega), if_neg (by omega), if_pos hc])
      rw [hc] at OF
      replace OF := Lib.hid OF
      clear hc
      go_enter Tryd.func93, Tryd.ntmps93
      go_wp2_with (go_at_call 87; refine (OF.out _ HT.out).mono ?_; rintro e w1 ⟨rfl, hb1⟩)
      go_ret
      rw [hs.out]; exact ⟨rfl, hb1⟩
    · have hs : Hid (scP v = 0) := Lib.hid (by unfold scP; rw [if_neg (by omega), if_neg (by omega), if_neg (by omega), if_neg hc])
      have hcb : (cls v == 2) = false := beq_eq_false_iff_ne.2 hc
      generalize cls v = cv at *
      replace OF := Lib.hid OF
      go_enter Tryd.func93, Tryd.ntmps93
      go_wp2_with (go_at_call 87; refine (OF.out _ HT.out).mono ?_; rintro e w1 ⟨rfl, hb1⟩)
      go_ret
      rw [hs.out]; exact ⟨rfl, hb1⟩
  · have g97 : decide ((97 : Int) ≤ v) = true := decide_eq_true (by omega)
    have g65 : decide ((65 : Int) ≤ v) = true := decide_eq_true (by omega)
    have g192 : decide ((192 : Int) ≤ v) = true := decide_eq_true (by omega)
    have g880 : decide ((880 : Int) ≤ v) = true := decide_eq_true (by omega)
    have g1024 : decide ((1024 : Int) ≤ v) = false := decide_eq_false (by omega)
    have l122 : decide (v ≤ (122 : Int)) = false := decide_eq_false (by omega)
    have l90 : decide (v ≤ (90 : Int)) = false := decide_eq_false (by omega)
    have l591 : decide (v ≤ (591 : Int)) = false := decide_eq_false (by omega)
    have l1023 : decide (v ≤ (1023 : Int)) = true := decide_eq_true (by omega)
    have l1327 : decide (v ≤ (1327 : Int)) = true := decide_eq_true (by omega)
    have hs : Hid (scP v = 2) := Lib.hid (by unfold scP; rw [if_neg (by omega), if_pos (by omega)])
    clear OF
    go_enter Tryd.func93, Tryd.ntmps93
    go_wp2_with fail
    go_ret
    rw [hs.out]; exact ⟨rfl, Below.refl _ _⟩
  · have g97 : decide ((97 : Int) ≤ v) = true := decide_eq_true (by omega)
    have g65 : decide ((65 : Int) ≤ v) = true := decide_eq_true (by omega)
    have g192 : decide ((192 : Int) ≤ v) = true := decide_eq_true (by omega)
    have g880 : decide ((880 : Int) ≤ v) = true := decide_eq_true (by omega)
    have g1024 : decide ((1024 : Int) ≤ v) = true := decide_eq_true (by omega)
    have l122 : decide (v ≤ (122 : Int)) = false := decide_eq_false (by omega)
    have l90 : decide (v ≤ (90 : Int)) = false := decide_eq_false (by omega)
    have l591 : decide (v ≤ (591 : Int)) = false := decide_eq_false (by omega)
    have l1023 : decide (v ≤ (1023 : Int)) = false := decide_eq_false (by omega)
    have l1327 : decide (v ≤ (1327 : Int)) = true := decide_eq_true (by omega)
    have hs : Hid (scP v = 3) := Lib.hid (by unfold scP; rw [if_neg (by omega), if_neg (by omega), if_pos (by omega)])
    clear OF
    go_enter Tryd.func93, Tryd.ntmps93
    go_wp2_with fail
    go_ret
    rw [hs.out]; exact ⟨rfl, Below.refl _ _⟩
  · have g97 : decide ((97 : Int) ≤ v) = true := decide_eq_true (by omega)
    have g65 : decide ((65 : Int) ≤ v) = true := decide_eq_true (by omega)
    have g192 : decide ((192 : Int) ≤ v) = true := decide_eq_true (by omega)
    have g880 : decide ((880 : Int) ≤ v) = true := decide_eq_true (by omega)
    have g1024 : decide ((1024 : Int) ≤ v) = true := decide_eq_true (by omega)
    have l122 : decide (v ≤ (122 : Int)) = false := decide_eq_false (by omega)
    have l90 : decide (v ≤ (90 : Int)) = false := decide_eq_false (by omega)
    have l591 : decide (v ≤ (591 : Int)) = false := decide_eq_false (by omega)
    have l1023 : decide (v ≤ (1023 : Int)) = false := decide_eq_false (by omega)
    have l1327 : decide (v ≤ (1327 : Int)) = false := decide_eq_false (by omega)
    by_cases hc : cls v = 2
    · have hs : Hid (scP v = 4) := Lib.hid (by unfold scP; rw [if_neg (by omega), if_neg (by omega), if_neg (by omega), if_pos hc])
      rw [hc] at OF
      replace OF := Lib.hid OF
      clear hc
      go_enter Tryd.func93, Tryd.ntmps93
      go_wp2_with (go_at_call 87; refine (OF.out _ HT.out).mono ?_; rintro e w1 ⟨rfl, hb1⟩)
      go_ret
      rw [hs.out]; exact ⟨rfl, hb1⟩
    · have hs : Hid (scP v = 0) := Lib.hid (by unfold scP; rw [if_neg (by omega), if_neg (by omega), if_neg (by omega), if_neg hc])
      have hcb : (cls v == 2) = false := beq_eq_false_iff_ne.2 hc
      generalize cls v = cv at *
      replace OF := Lib.hid OF
      go_enter Tryd.func93, Tryd.ntmps93
      go_wp2_with (go_at_call 87; refine (OF.out _ HT.out).mono ?_; rintro e w1 ⟨rfl, hb1⟩)
      go_ret
      rw [hs.out]; exact ⟨rfl, hb1⟩
set_option maxHeartbeats 16000000 in
theorem rhas_ref (s : ByteArray) (k : Nat) (w : World) (hs : s.size ≤ 100000) (hk0 : 1 ≤ k) (hk4 : k ≤ 4) : Calls Tryd.prog 20 #[.string s, .int .i64 (k : Int)] w fun e w' => e = .returned (.bool (hvB (valsS s) k)) ∧ Below w.heap.size w w' := by
  have DC := Lib.hid (decode_ref s w (by omega))
  have HL := Lib.hid (valsS_len s)
  generalize valsS s = l at *
  go_enter Tryd.func20, Tryd.ntmps20
  go_wp2_with (go_at_call 14; refine DC.out.mono ?_; rintro e w0 ⟨v, rfl, own, b0⟩; obtain ⟨a, c, rfl, hrow⟩ := row_of_vals own; have Hr := Lib.hid hrow; clear own hrow)
  have hll : l.length ≤ 100000 := by have := HL.out; omega
  go_loopw [6] (fun iv wr => ∃ i : Nat, iv = .int .i64 (i : Int) ∧ i ≤ l.length ∧ Hid (hvB (l.take i) k = false) ∧ Below w0.heap.size w0 wr) (fun iv _ => l.length - (intOf iv).toNat)
  case atStart => exact ⟨0, rfl, Nat.zero_le _, Lib.hid rfl, Below.refl _ _⟩
  case round =>
    obtain ⟨i, rfl, hi, ht, hbl⟩ := hrel
    by_cases hlt : i < l.length
    · obtain ⟨ba, oa, rfl, hca, hba⟩ := (Hr.out.below hbl) i hlt
      have hlti : (i : Int) < (l.length : Int) := by omega
      have hi0 : (0 : Int) ≤ i := by omega
      have hnx : hvB (l.take (i + 1)) k = (scP (l.getD i 0) == k) := by
        rw [List.take_succ_eq_append_getElem hlt, hvB_app, ht.out, Bool.false_or, List.getD, List.getElem?_eq_getElem hlt]; rfl
      have hyes : scP (l.getD i 0) = k → hvB l k = true := fun h => by
        unfold hvB
        rw [List.any_eq_true]
        exact ⟨l.getD i 0, by rw [List.getD, List.getElem?_eq_getElem hlt]; exact List.getElem_mem hlt, by rw [h]; exact beq_self_eq_true k⟩
      have OF := fun w => of_ref (l.getD i 0) w
      rw [← cls_eq] at OF
      generalize l.getD i 0 = v at *
      have Hnx := Lib.hid hnx; have Hyes := Lib.hid hyes
      clear hnx hyes ht
      rcases sc_cases v with h1 | ⟨h1, h2⟩ | ⟨h1, h2⟩ | ⟨h1, h2⟩ | ⟨h1, h2⟩ | ⟨h1, h2⟩ | ⟨h1, h2⟩ | ⟨h1, h2⟩ | ⟨h1, h2⟩ | h1
      · have g97 : decide ((97 : Int) ≤ v) = false := decide_eq_false (by omega)
        have g65 : decide ((65 : Int) ≤ v) = false := decide_eq_false (by omega)
        have g192 : decide ((192 : Int) ≤ v) = false := decide_eq_false (by omega)
        have g880 : decide ((880 : Int) ≤ v) = false := decide_eq_false (by omega)
        have g1024 : decide ((1024 : Int) ≤ v) = false := decide_eq_false (by omega)
        have l122 : decide (v ≤ (122 : Int)) = true := decide_eq_true (by omega)
        have l90 : decide (v ≤ (90 : Int)) = true := decide_eq_true (by omega)
        have l591 : decide (v ≤ (591 : Int)) = true := decide_eq_true (by omega)
        have l1023 : decide (v ≤ (1023 : Int)) = true := decide_eq_true (by omega)
        have l1327 : decide (v ≤ (1327 : Int)) = true := decide_eq_true (by omega)
        by_cases hc : cls v = 2
        · have hs : Hid (scP v = 4) := Lib.hid (by unfold scP; rw [if_neg (by omega), if_neg (by omega), if_neg (by omega), if_pos hc])
          rw [hc] at OF
          replace OF := Lib.hid OF
          clear hc
          by_cases hkn : k = 4
          · subst hkn
            have HY := Lib.hid (Hyes.out hs.out)
            go_wp2_with (go_at_call 15; refine (OF.out _).mono ?_; rintro e w1 ⟨rfl, hb1⟩)
            go_ret
            rw [HY.out]; exact ⟨rfl, seqB b0 (seqB hbl hb1)⟩
          · have hkb : (((4 : Int)) == (k : Int)) = false := beq_eq_false_iff_ne.2 (by omega)
            have HF : Hid (hvB (l.take (i + 1)) k = false) := Lib.hid (by rw [Hnx.out, hs.out]; exact beq_eq_false_iff_ne.2 (by omega))
            go_wp2_with (go_at_call 15; refine (OF.out _).mono ?_; rintro e w1 ⟨rfl, hb1⟩)
            go_roundw
            case rel => exact ⟨i + 1, by go_num, by omega, HF, seqB hbl hb1⟩
            case measure => simp [intOf]; omega
        · have hs : Hid (scP v = 0) := Lib.hid (by unfold scP; rw [if_neg (by omega), if_neg (by omega), if_neg (by omega), if_neg hc])
          have hcb : (cls v == 2) = false := beq_eq_false_iff_ne.2 hc
          clear hc
          generalize cls v = cv at *
          replace OF := Lib.hid OF
          have hkb : (((0 : Int)) == (k : Int)) = false := beq_eq_false_iff_ne.2 (by omega)
          have HF : Hid (hvB (l.take (i + 1)) k = false) := Lib.hid (by rw [Hnx.out, hs.out]; exact beq_eq_false_iff_ne.2 (by omega))
          go_wp2_with (go_at_call 15; refine (OF.out _).mono ?_; rintro e w1 ⟨rfl, hb1⟩)
          go_roundw
          case rel => exact ⟨i + 1, by go_num, by omega, HF, seqB hbl hb1⟩
          case measure => simp [intOf]; omega
      · have g97 : decide ((97 : Int) ≤ v) = false := decide_eq_false (by omega)
        have g65 : decide ((65 : Int) ≤ v) = true := decide_eq_true (by omega)
        have g192 : decide ((192 : Int) ≤ v) = false := decide_eq_false (by omega)
        have g880 : decide ((880 : Int) ≤ v) = false := decide_eq_false (by omega)
        have g1024 : decide ((1024 : Int) ≤ v) = false := decide_eq_false (by omega)
        have l122 : decide (v ≤ (122 : Int)) = true := decide_eq_true (by omega)
        have l90 : decide (v ≤ (90 : Int)) = true := decide_eq_true (by omega)
        have l591 : decide (v ≤ (591 : Int)) = true := decide_eq_true (by omega)
        have l1023 : decide (v ≤ (1023 : Int)) = true := decide_eq_true (by omega)
        have l1327 : decide (v ≤ (1327 : Int)) = true := decide_eq_true (by omega)
        have hs : Hid (scP v = 1) := Lib.hid (by unfold scP; rw [if_pos (by omega)])
        generalize cls v = cv at *
        replace OF := Lib.hid OF
        by_cases hc : cv = 2
        · have hcb : (cv == 2) = true := beq_iff_eq.2 hc
          clear hc
          by_cases hkn : k = 1
          · subst hkn
            have HY := Lib.hid (Hyes.out hs.out)
            go_wp2_with (go_at_call 15; refine (OF.out _).mono ?_; rintro e w1 ⟨rfl, hb1⟩)
            go_ret
            rw [HY.out]; exact ⟨rfl, seqB b0 (seqB hbl hb1)⟩
          · have hkb : (((1 : Int)) == (k : Int)) = false := beq_eq_false_iff_ne.2 (by omega)
            have HF : Hid (hvB (l.take (i + 1)) k = false) := Lib.hid (by rw [Hnx.out, hs.out]; exact beq_eq_false_iff_ne.2 (by omega))
            go_wp2_with (go_at_call 15; refine (OF.out _).mono ?_; rintro e w1 ⟨rfl, hb1⟩)
            go_roundw
            case rel => exact ⟨i + 1, by go_num, by omega, HF, seqB hbl hb1⟩
            case measure => simp [intOf]; omega
        · have hcb : (cv == 2) = false := beq_eq_false_iff_ne.2 hc
          clear hc
          by_cases hkn : k = 1
          · subst hkn
            have HY := Lib.hid (Hyes.out hs.out)
            go_wp2_with (go_at_call 15; refine (OF.out _).mono ?_; rintro e w1 ⟨rfl, hb1⟩)
            go_ret
            rw [HY.out]; exact ⟨rfl, seqB b0 (seqB hbl hb1)⟩
          · have hkb : (((1 : Int)) == (k : Int)) = false := beq_eq_false_iff_ne.2 (by omega)
            have HF : Hid (hvB (l.take (i + 1)) k = false) := Lib.hid (by rw [Hnx.out, hs.out]; exact beq_eq_false_iff_ne.2 (by omega))
            go_wp2_with (go_at_call 15; refine (OF.out _).mono ?_; rintro e w1 ⟨rfl, hb1⟩)
            go_roundw
            case rel => exact ⟨i + 1, by go_num, by omega, HF, seqB hbl hb1⟩
            case measure => simp [intOf]; omega
      · have g97 : decide ((97 : Int) ≤ v) = false := decide_eq_false (by omega)
        have g65 : decide ((65 : Int) ≤ v) = true := decide_eq_true (by omega)
        have g192 : decide ((192 : Int) ≤ v) = false := decide_eq_false (by omega)
        have g880 : decide ((880 : Int) ≤ v) = false := decide_eq_false (by omega)
        have g1024 : decide ((1024 : Int) ≤ v) = false := decide_eq_false (by omega)
        have l122 : decide (v ≤ (122 : Int)) = true := decide_eq_true (by omega)
        have l90 : decide (v ≤ (90 : Int)) = false := decide_eq_false (by omega)
        have l591 : decide (v ≤ (591 : Int)) = true := decide_eq_true (by omega)
        have l1023 : decide (v ≤ (1023 : Int)) = true := decide_eq_true (by omega)
        have l1327 : decide (v ≤ (1327 : Int)) = true := decide_eq_true (by omega)
        by_cases hc : cls v = 2
        · have hs : Hid (scP v = 4) := Lib.hid (by unfold scP; rw [if_neg (by omega), if_neg (by omega), if_neg (by omega), if_pos hc])
          rw [hc] at OF
          replace OF := Lib.hid OF
          clear hc
          by_cases hkn : k = 4
          · subst hkn
            have HY := Lib.hid (Hyes.out hs.out)
            go_wp2_with (go_at_call 15; refine (OF.out _).mono ?_; rintro e w1 ⟨rfl, hb1⟩)
            go_ret
            rw [HY.out]; exact ⟨rfl, seqB b0 (seqB hbl hb1)⟩
          · have hkb : (((4 : Int)) == (k : Int)) = false := beq_eq_false_iff_ne.2 (by omega)
            have HF : Hid (hvB (l.take (i + 1)) k = false) := Lib.hid (by rw [Hnx.out, hs.out]; exact beq_eq_false_iff_ne.2 (by omega))
            go_wp2_with (go_at_call 15; refine (OF.out _).mono ?_; rintro e w1 ⟨rfl, hb1⟩)
            go_roundw
            case rel => exact ⟨i + 1, by go_num, by omega, HF, seqB hbl hb1⟩
            case measure => simp [intOf]; omega
        · have hs : Hid (scP v = 0) := Lib.hid (by unfold scP; rw [if_neg (by omega), if_neg (by omega), if_neg (by omega), if_neg hc])
          have hcb : (cls v == 2) = false := beq_eq_false_iff_ne.2 hc
          clear hc
          generalize cls v = cv at *
          replace OF := Lib.hid OF
          have hkb : (((0 : Int)) == (k : Int)) = false := beq_eq_false_iff_ne.2 (by omega)
          have HF : Hid (hvB (l.take (i + 1)) k = false) := Lib.hid (by rw [Hnx.out, hs.out]; exact beq_eq_false_iff_ne.2 (by omega))
          go_wp2_with (go_at_call 15; refine (OF.out _).mono ?_; rintro e w1 ⟨rfl, hb1⟩)
          go_roundw
          case rel => exact ⟨i + 1, by go_num, by omega, HF, seqB hbl hb1⟩
          case measure => simp [intOf]; omega
      · have g97 : decide ((97 : Int) ≤ v) = true := decide_eq_true (by omega)
        have g65 : decide ((65 : Int) ≤ v) = true := decide_eq_true (by omega)
        have g192 : decide ((192 : Int) ≤ v) = false := decide_eq_false (by omega)
        have g880 : decide ((880 : Int) ≤ v) = false := decide_eq_false (by omega)
        have g1024 : decide ((1024 : Int) ≤ v) = false := decide_eq_false (by omega)
        have l122 : decide (v ≤ (122 : Int)) = true := decide_eq_true (by omega)
        have l90 : decide (v ≤ (90 : Int)) = false := decide_eq_false (by omega)
        have l591 : decide (v ≤ (591 : Int)) = true := decide_eq_true (by omega)
        have l1023 : decide (v ≤ (1023 : Int)) = true := decide_eq_true (by omega)
        have l1327 : decide (v ≤ (1327 : Int)) = true := decide_eq_true (by omega)
        have hs : Hid (scP v = 1) := Lib.hid (by unfold scP; rw [if_pos (by omega)])
        generalize cls v = cv at *
        replace OF := Lib.hid OF
        by_cases hc : cv = 2
        · have hcb : (cv == 2) = true := beq_iff_eq.2 hc
          clear hc
          by_cases hkn : k = 1
          · subst hkn
            have HY := Lib.hid (Hyes.out hs.out)
            go_wp2_with (go_at_call 15; refine (OF.out _).mono ?_; rintro e w1 ⟨rfl, hb1⟩)
            go_ret
            rw [HY.out]; exact ⟨rfl, seqB b0 (seqB hbl hb1)⟩
          · have hkb : (((1 : Int)) == (k : Int)) = false := beq_eq_false_iff_ne.2 (by omega)
            have HF : Hid (hvB (l.take (i + 1)) k = false) := Lib.hid (by rw [Hnx.out, hs.out]; exact beq_eq_false_iff_ne.2 (by omega))
            go_wp2_with (go_at_call 15; refine (OF.out _).mono ?_; rintro e w1 ⟨rfl, hb1⟩)
            go_roundw
            case rel => exact ⟨i + 1, by go_num, by omega, HF, seqB hbl hb1⟩
            case measure => simp [intOf]; omega
        · have hcb : (cv == 2) = false := beq_eq_false_iff_ne.2 hc
          clear hc
          by_cases hkn : k = 1
          · subst hkn
            have HY := Lib.hid (Hyes.out hs.out)
            go_wp2_with (go_at_call 15; refine (OF.out _).mono ?_; rintro e w1 ⟨rfl, hb1⟩)
            go_ret
            rw [HY.out]; exact ⟨rfl, seqB b0 (seqB hbl hb1)⟩
          · have hkb : (((1 : Int)) == (k : Int)) = false := beq_eq_false_iff_ne.2 (by omega)
            have HF : Hid (hvB (l.take (i + 1)) k = false) := Lib.hid (by rw [Hnx.out, hs.out]; exact beq_eq_false_iff_ne.2 (by omega))
            go_wp2_with (go_at_call 15; refine (OF.out _).mono ?_; rintro e w1 ⟨rfl, hb1⟩)
            go_roundw
            case rel => exact ⟨i + 1, by go_num, by omega, HF, seqB hbl hb1⟩
            case measure => simp [intOf]; omega
      · have g97 : decide ((97 : Int) ≤ v) = true := decide_eq_true (by omega)
        have g65 : decide ((65 : Int) ≤ v) = true := decide_eq_true (by omega)
        have g192 : decide ((192 : Int) ≤ v) = false := decide_eq_false (by omega)
        have g880 : decide ((880 : Int) ≤ v) = false := decide_eq_false (by omega)
        have g1024 : decide ((1024 : Int) ≤ v) = false := decide_eq_false (by omega)
        have l122 : decide (v ≤ (122 : Int)) = false := decide_eq_false (by omega)
        have l90 : decide (v ≤ (90 : Int)) = false := decide_eq_false (by omega)
        have l591 : decide (v ≤ (591 : Int)) = true := decide_eq_true (by omega)
        have l1023 : decide (v ≤ (1023 : Int)) = true := decide_eq_true (by omega)
        have l1327 : decide (v ≤ (1327 : Int)) = true := decide_eq_true (by omega)
        by_cases hc : cls v = 2
        · have hs : Hid (scP v = 4) := Lib.hid (by unfold scP; rw [if_neg (by omega), if_neg (by omega), if_neg (by omega), if_pos hc])
          rw [hc] at OF
          replace OF := Lib.hid OF
          clear hc
          by_cases hkn : k = 4
          · subst hkn
            have HY := Lib.hid (Hyes.out hs.out)
            go_wp2_with (go_at_call 15; refine (OF.out _).mono ?_; rintro e w1 ⟨rfl, hb1⟩)
            go_ret
            rw [HY.out]; exact ⟨rfl, seqB b0 (seqB hbl hb1)⟩
          · have hkb : (((4 : Int)) == (k : Int)) = false := beq_eq_false_iff_ne.2 (by omega)
            have HF : Hid (hvB (l.take (i + 1)) k = false) := Lib.hid (by rw [Hnx.out, hs.out]; exact beq_eq_false_iff_ne.2 (by omega))
            go_wp2_with (go_at_call 15; refine (OF.out _).mono ?_; rintro e w1 ⟨rfl, hb1⟩)
            go_roundw
            case rel => exact ⟨i + 1, by go_num, by omega, HF, seqB hbl hb1⟩
            case measure => simp [intOf]; omega
        · have hs : Hid (scP v = 0) := Lib.hid (by unfold scP; rw [if_neg (by omega), if_neg (by omega), if_neg (by omega), if_neg hc])
          have hcb : (cls v == 2) = false := beq_eq_false_iff_ne.2 hc
          clear hc
          generalize cls v = cv at *
          replace OF := Lib.hid OF
          have hkb : (((0 : Int)) == (k : Int)) = false := beq_eq_false_iff_ne.2 (by omega)
          have HF : Hid (hvB (l.take (i + 1)) k = false) := Lib.hid (by rw [Hnx.out, hs.out]; exact beq_eq_false_iff_ne.2 (by omega))
          go_wp2_with (go_at_call 15; refine (OF.out _).mono ?_; rintro e w1 ⟨rfl, hb1⟩)
          go_roundw
          case rel => exact ⟨i + 1, by go_num, by omega, HF, seqB hbl hb1⟩
          case measure => simp [intOf]; omega
      · have g97 : decide ((97 : Int) ≤ v) = true := decide_eq_true (by omega)
        have g65 : decide ((65 : Int) ≤ v) = true := decide_eq_true (by omega)
        have g192 : decide ((192 : Int) ≤ v) = true := decide_eq_true (by omega)
        have g880 : decide ((880 : Int) ≤ v) = false := decide_eq_false (by omega)
        have g1024 : decide ((1024 : Int) ≤ v) = false := decide_eq_false (by omega)
        have l122 : decide (v ≤ (122 : Int)) = false := decide_eq_false (by omega)
        have l90 : decide (v ≤ (90 : Int)) = false := decide_eq_false (by omega)
        have l591 : decide (v ≤ (591 : Int)) = true := decide_eq_true (by omega)
        have l1023 : decide (v ≤ (1023 : Int)) = true := decide_eq_true (by omega)
        have l1327 : decide (v ≤ (1327 : Int)) = true := decide_eq_true (by omega)
        have hs : Hid (scP v = 1) := Lib.hid (by unfold scP; rw [if_pos (by omega)])
        generalize cls v = cv at *
        replace OF := Lib.hid OF
        by_cases hc : cv = 2
        · have hcb : (cv == 2) = true := beq_iff_eq.2 hc
          clear hc
          by_cases hkn : k = 1
          · subst hkn
            have HY := Lib.hid (Hyes.out hs.out)
            go_wp2_with (go_at_call 15; refine (OF.out _).mono ?_; rintro e w1 ⟨rfl, hb1⟩)
            go_ret
            rw [HY.out]; exact ⟨rfl, seqB b0 (seqB hbl hb1)⟩
          · have hkb : (((1 : Int)) == (k : Int)) = false := beq_eq_false_iff_ne.2 (by omega)
            have HF : Hid (hvB (l.take (i + 1)) k = false) := Lib.hid (by rw [Hnx.out, hs.out]; exact beq_eq_false_iff_ne.2 (by omega))
            go_wp2_with (go_at_call 15; refine (OF.out _).mono ?_; rintro e w1 ⟨rfl, hb1⟩)
            go_roundw
            case rel => exact ⟨i + 1, by go_num, by omega, HF, seqB hbl hb1⟩
            case measure => simp [intOf]; omega
        · have hcb : (cv == 2) = false := beq_eq_false_iff_ne.2 hc
          clear hc
          by_cases hkn : k = 1
          · subst hkn
            have HY := Lib.hid (Hyes.out hs.out)
            go_wp2_with (go_at_call 15; refine (OF.out _).mono ?_; rintro e w1 ⟨rfl, hb1⟩)
            go_ret
            rw [HY.out]; exact ⟨rfl, seqB b0 (seqB hbl hb1)⟩
          · have hkb : (((1 : Int)) == (k : Int)) = false := beq_eq_false_iff_ne.2 (by omega)
            have HF : Hid (hvB (l.take (i + 1)) k = false) := Lib.hid (by rw [Hnx.out, hs.out]; exact beq_eq_false_iff_ne.2 (by omega))
            go_wp2_with (go_at_call 15; refine (OF.out _).mono ?_; rintro e w1 ⟨rfl, hb1⟩)
            go_roundw
            case rel => exact ⟨i + 1, by go_num, by omega, HF, seqB hbl hb1⟩
            case measure => simp [intOf]; omega
      · have g97 : decide ((97 : Int) ≤ v) = true := decide_eq_true (by omega)
        have g65 : decide ((65 : Int) ≤ v) = true := decide_eq_true (by omega)
        have g192 : decide ((192 : Int) ≤ v) = true := decide_eq_true (by omega)
        have g880 : decide ((880 : Int) ≤ v) = false := decide_eq_false (by omega)
        have g1024 : decide ((1024 : Int) ≤ v) = false := decide_eq_false (by omega)
        have l122 : decide (v ≤ (122 : Int)) = false := decide_eq_false (by omega)
        have l90 : decide (v ≤ (90 : Int)) = false := decide_eq_false (by omega)
        have l591 : decide (v ≤ (591 : Int)) = false := decide_eq_false (by omega)
        have l1023 : decide (v ≤ (1023 : Int)) = true := decide_eq_true (by omega)
        have l1327 : decide (v ≤ (1327 : Int)) = true := decide_eq_true (by omega)
        by_cases hc : cls v = 2
        · have hs : Hid (scP v = 4) := Lib.hid (by unfold scP; rw [if_neg (by omega), if_neg (by omega), if_neg (by omega), if_pos hc])
          rw [hc] at OF
          replace OF := Lib.hid OF
          clear hc
          by_cases hkn : k = 4
          · subst hkn
            have HY := Lib.hid (Hyes.out hs.out)
            go_wp2_with (go_at_call 15; refine (OF.out _).mono ?_; rintro e w1 ⟨rfl, hb1⟩)
            go_ret
            rw [HY.out]; exact ⟨rfl, seqB b0 (seqB hbl hb1)⟩
          · have hkb : (((4 : Int)) == (k : Int)) = false := beq_eq_false_iff_ne.2 (by omega)
            have HF : Hid (hvB (l.take (i + 1)) k = false) := Lib.hid (by rw [Hnx.out, hs.out]; exact beq_eq_false_iff_ne.2 (by omega))
            go_wp2_with (go_at_call 15; refine (OF.out _).mono ?_; rintro e w1 ⟨rfl, hb1⟩)
            go_roundw
            case rel => exact ⟨i + 1, by go_num, by omega, HF, seqB hbl hb1⟩
            case measure => simp [intOf]; omega
        · have hs : Hid (scP v = 0) := Lib.hid (by unfold scP; rw [if_neg (by omega), if_neg (by omega), if_neg (by omega), if_neg hc])
          have hcb : (cls v == 2) = false := beq_eq_false_iff_ne.2 hc
          clear hc
          generalize cls v = cv at *
          replace OF := Lib.hid OF
          have hkb : (((0 : Int)) == (k : Int)) = false := beq_eq_false_iff_ne.2 (by omega)
          have HF : Hid (hvB (l.take (i + 1)) k = false) := Lib.hid (by rw [Hnx.out, hs.out]; exact beq_eq_false_iff_ne.2 (by omega))
          go_wp2_with (go_at_call 15; refine (OF.out _).mono ?_; rintro e w1 ⟨rfl, hb1⟩)
          go_roundw
          case rel => exact ⟨i + 1, by go_num, by omega, HF, seqB hbl hb1⟩
          case measure => simp [intOf]; omega
      · have g97 : decide ((97 : Int) ≤ v) = true := decide_eq_true (by omega)
        have g65 : decide ((65 : Int) ≤ v) = true := decide_eq_true (by omega)
        have g192 : decide ((192 : Int) ≤ v) = true := decide_eq_true (by omega)
        have g880 : decide ((880 : Int) ≤ v) = true := decide_eq_true (by omega)
        have g1024 : decide ((1024 : Int) ≤ v) = false := decide_eq_false (by omega)
        have l122 : decide (v ≤ (122 : Int)) = false := decide_eq_false (by omega)
        have l90 : decide (v ≤ (90 : Int)) = false := decide_eq_false (by omega)
        have l591 : decide (v ≤ (591 : Int)) = false := decide_eq_false (by omega)
        have l1023 : decide (v ≤ (1023 : Int)) = true := decide_eq_true (by omega)
        have l1327 : decide (v ≤ (1327 : Int)) = true := decide_eq_true (by omega)
        have hs : Hid (scP v = 2) := Lib.hid (by unfold scP; rw [if_neg (by omega), if_pos (by omega)])
        generalize cls v = cv at *
        replace OF := Lib.hid OF
        by_cases hc : cv = 2
        · have hcb : (cv == 2) = true := beq_iff_eq.2 hc
          clear hc
          by_cases hkn : k = 2
          · subst hkn
            have HY := Lib.hid (Hyes.out hs.out)
            go_wp2_with (go_at_call 15; refine (OF.out _).mono ?_; rintro e w1 ⟨rfl, hb1⟩)
            go_ret
            rw [HY.out]; exact ⟨rfl, seqB b0 (seqB hbl hb1)⟩
          · have hkb : (((2 : Int)) == (k : Int)) = false := beq_eq_false_iff_ne.2 (by omega)
            have HF : Hid (hvB (l.take (i + 1)) k = false) := Lib.hid (by rw [Hnx.out, hs.out]; exact beq_eq_false_iff_ne.2 (by omega))
            go_wp2_with (go_at_call 15; refine (OF.out _).mono ?_; rintro e w1 ⟨rfl, hb1⟩)
            go_roundw
            case rel => exact ⟨i + 1, by go_num, by omega, HF, seqB hbl hb1⟩
            case measure => simp [intOf]; omega
        · have hcb : (cv == 2) = false := beq_eq_false_iff_ne.2 hc
          clear hc
          by_cases hkn : k = 2
          · subst hkn
            have HY := Lib.hid (Hyes.out hs.out)
            go_wp2_with (go_at_call 15; refine (OF.out _).mono ?_; rintro e w1 ⟨rfl, hb1⟩)
            go_ret
            rw [HY.out]; exact ⟨rfl, seqB b0 (seqB hbl hb1)⟩
          · have hkb : (((2 : Int)) == (k : Int)) = false := beq_eq_false_iff_ne.2 (by omega)
            have HF : Hid (hvB (l.take (i + 1)) k = false) := Lib.hid (by rw [Hnx.out, hs.out]; exact beq_eq_false_iff_ne.2 (by omega))
            go_wp2_with (go_at_call 15; refine (OF.out _).mono ?_; rintro e w1 ⟨rfl, hb1⟩)
            go_roundw
            case rel => exact ⟨i + 1, by go_num, by omega, HF, seqB hbl hb1⟩
            case measure => simp [intOf]; omega
      · have g97 : decide ((97 : Int) ≤ v) = true := decide_eq_true (by omega)
        have g65 : decide ((65 : Int) ≤ v) = true := decide_eq_true (by omega)
        have g192 : decide ((192 : Int) ≤ v) = true := decide_eq_true (by omega)
        have g880 : decide ((880 : Int) ≤ v) = true := decide_eq_true (by omega)
        have g1024 : decide ((1024 : Int) ≤ v) = true := decide_eq_true (by omega)
        have l122 : decide (v ≤ (122 : Int)) = false := decide_eq_false (by omega)
        have l90 : decide (v ≤ (90 : Int)) = false := decide_eq_false (by omega)
        have l591 : decide (v ≤ (591 : Int)) = false := decide_eq_false (by omega)
        have l1023 : decide (v ≤ (1023 : Int)) = false := decide_eq_false (by omega)
        have l1327 : decide (v ≤ (1327 : Int)) = true := decide_eq_true (by omega)
        have hs : Hid (scP v = 3) := Lib.hid (by unfold scP; rw [if_neg (by omega), if_neg (by omega), if_pos (by omega)])
        generalize cls v = cv at *
        replace OF := Lib.hid OF
        by_cases hc : cv = 2
        · have hcb : (cv == 2) = true := beq_iff_eq.2 hc
          clear hc
          by_cases hkn : k = 3
          · subst hkn
            have HY := Lib.hid (Hyes.out hs.out)
            go_wp2_with (go_at_call 15; refine (OF.out _).mono ?_; rintro e w1 ⟨rfl, hb1⟩)
            go_ret
            rw [HY.out]; exact ⟨rfl, seqB b0 (seqB hbl hb1)⟩
          · have hkb : (((3 : Int)) == (k : Int)) = false := beq_eq_false_iff_ne.2 (by omega)
            have HF : Hid (hvB (l.take (i + 1)) k = false) := Lib.hid (by rw [Hnx.out, hs.out]; exact beq_eq_false_iff_ne.2 (by omega))
            go_wp2_with (go_at_call 15; refine (OF.out _).mono ?_; rintro e w1 ⟨rfl, hb1⟩)
            go_roundw
            case rel => exact ⟨i + 1, by go_num, by omega, HF, seqB hbl hb1⟩
            case measure => simp [intOf]; omega
        · have hcb : (cv == 2) = false := beq_eq_false_iff_ne.2 hc
          clear hc
          by_cases hkn : k = 3
          · subst hkn
            have HY := Lib.hid (Hyes.out hs.out)
            go_wp2_with (go_at_call 15; refine (OF.out _).mono ?_; rintro e w1 ⟨rfl, hb1⟩)
            go_ret
            rw [HY.out]; exact ⟨rfl, seqB b0 (seqB hbl hb1)⟩
          · have hkb : (((3 : Int)) == (k : Int)) = false := beq_eq_false_iff_ne.2 (by omega)
            have HF : Hid (hvB (l.take (i + 1)) k = false) := Lib.hid (by rw [Hnx.out, hs.out]; exact beq_eq_false_iff_ne.2 (by omega))
            go_wp2_with (go_at_call 15; refine (OF.out _).mono ?_; rintro e w1 ⟨rfl, hb1⟩)
            go_roundw
            case rel => exact ⟨i + 1, by go_num, by omega, HF, seqB hbl hb1⟩
            case measure => simp [intOf]; omega
      · have g97 : decide ((97 : Int) ≤ v) = true := decide_eq_true (by omega)
        have g65 : decide ((65 : Int) ≤ v) = true := decide_eq_true (by omega)
        have g192 : decide ((192 : Int) ≤ v) = true := decide_eq_true (by omega)
        have g880 : decide ((880 : Int) ≤ v) = true := decide_eq_true (by omega)
        have g1024 : decide ((1024 : Int) ≤ v) = true := decide_eq_true (by omega)
        have l122 : decide (v ≤ (122 : Int)) = false := decide_eq_false (by omega)
        have l90 : decide (v ≤ (90 : Int)) = false := decide_eq_false (by omega)
        have l591 : decide (v ≤ (591 : Int)) = false := decide_eq_false (by omega)
        have l1023 : decide (v ≤ (1023 : Int)) = false := decide_eq_false (by omega)
        have l1327 : decide (v ≤ (1327 : Int)) = false := decide_eq_false (by omega)
        by_cases hc : cls v = 2
        · have hs : Hid (scP v = 4) := Lib.hid (by unfold scP; rw [if_neg (by omega), if_neg (by omega), if_neg (by omega), if_pos hc])
          rw [hc] at OF
          replace OF := Lib.hid OF
          clear hc
          by_cases hkn : k = 4
          · subst hkn
            have HY := Lib.hid (Hyes.out hs.out)
            go_wp2_with (go_at_call 15; refine (OF.out _).mono ?_; rintro e w1 ⟨rfl, hb1⟩)
            go_ret
            rw [HY.out]; exact ⟨rfl, seqB b0 (seqB hbl hb1)⟩
          · have hkb : (((4 : Int)) == (k : Int)) = false := beq_eq_false_iff_ne.2 (by omega)
            have HF : Hid (hvB (l.take (i + 1)) k = false) := Lib.hid (by rw [Hnx.out, hs.out]; exact beq_eq_false_iff_ne.2 (by omega))
            go_wp2_with (go_at_call 15; refine (OF.out _).mono ?_; rintro e w1 ⟨rfl, hb1⟩)
            go_roundw
            case rel => exact ⟨i + 1, by go_num, by omega, HF, seqB hbl hb1⟩
            case measure => simp [intOf]; omega
        · have hs : Hid (scP v = 0) := Lib.hid (by unfold scP; rw [if_neg (by omega), if_neg (by omega), if_neg (by omega), if_neg hc])
          have hcb : (cls v == 2) = false := beq_eq_false_iff_ne.2 hc
          clear hc
          generalize cls v = cv at *
          replace OF := Lib.hid OF
          have hkb : (((0 : Int)) == (k : Int)) = false := beq_eq_false_iff_ne.2 (by omega)
          have HF : Hid (hvB (l.take (i + 1)) k = false) := Lib.hid (by rw [Hnx.out, hs.out]; exact beq_eq_false_iff_ne.2 (by omega))
          go_wp2_with (go_at_call 15; refine (OF.out _).mono ?_; rintro e w1 ⟨rfl, hb1⟩)
          go_roundw
          case rel => exact ⟨i + 1, by go_num, by omega, HF, seqB hbl hb1⟩
          case measure => simp [intOf]; omega
    · obtain rfl : i = l.length := by omega
      have Hf : Hid (hvB l k = false) := Lib.hid (by have := ht.out; rwa [List.take_length] at this)
      clear ht
      have hkl : ¬ (l.length : Int) < (l.length : Int) := by omega
      go_wp2
      go_ret
      rw [Hf.out]
      exact ⟨rfl, seqB b0 hbl⟩
end Go.Proofs.YtanfkilmjdfeoaaDoor
set_option linter.unusedVariables false
set_option linter.unusedSimpArgs false
namespace Go.Proofs.YtanfkilmjdfeoaaDoor
open Go.RowKit
def bRow (l : List Bool) : Array Value := (l.map Value.bool).toArray
def hvL (l : List Int) : List Bool := [hvB l 0, hvB l 1, hvB l 2, hvB l 3, hvB l 4]
theorem bRow_set (L : List Bool) (i : Nat) (x : Bool) : (bRow L).setIfInBounds i (.bool x) = bRow (L.set i x) := by
  apply Array.ext'
  simp [bRow, List.map_set]
theorem hvL_step (l : List Int) (x : Int) : hvL (l ++ [x]) = (hvL l).set (scP x) true := by
  have h := scP_le x
  unfold hvL
  rw [hvB_app, hvB_app, hvB_app, hvB_app, hvB_app]
  rcases (by omega : scP x = 0 ∨ scP x = 1 ∨ scP x = 2 ∨ scP x = 3 ∨ scP x = 4) with h | h | h | h | h <;> rw [h] <;> simp
theorem below_setRow5 (w : World) (g : Nat) (cs : Array Value) : Below g w (w.setRow g cs) :=
  ⟨rfl, rfl, rfl, by simp, fun k hk => setRow_other _ _ _ _ (by omega)⟩
structure HvInv (s : ByteArray) (w : World) (R : Nat) (i n : Nat) (acc : List Int) (wr : World) : Prop where
  c : wr.heap[w.heap.size + 1]? = some (.cells (bRow (hvL acc)) 81 (0, 0))
  r : wr.heap[w.heap.size]? = some (.cells (bRow (hvL [])) 81 (0, 0))
  it : wr.heap[R]? = some (.stringIter s i)
  bel : Below w.heap.size w wr
  ac : acc ++ valsF s n i = valsS s
  le : i ≤ s.size
  fu : s.size ≤ i + n
set_option maxRecDepth 100000 in
set_option maxHeartbeats 4000000 in
theorem have_any (s : ByteArray) (w : World) (hT : SpT w) (hs : s.size ≤ 100000) : Calls Tryd.prog 64 #[.string s] w fun e w' => e = .returned (.agg (bRow (hvL (valsS s)))) ∧ Below w.heap.size w w' := by
  have HT := Lib.hid hT; clear hT
  obtain ⟨W0, hW0⟩ : ∃ W0, (w.alloc (.cells #[.bool false, .bool false, .bool false, .bool false, .bool false] 81)).alloc (.cells #[.bool false, .bool false, .bool false, .bool false, .bool false] 81) = W0 := ⟨_, rfl⟩
  have a0 : W0.heap[w.heap.size]? = some (.cells (bRow (hvL [])) 81 (0, 0)) := by rw [← hW0]; exact heap_alloc2_old _ _ _
  have a1 : W0.heap[w.heap.size + 1]? = some (.cells (bRow (hvL [])) 81 (0, 0)) := by rw [← hW0]; exact heap_alloc2_new _ _ _
  have B0 : Below w.heap.size w W0 := by rw [← hW0]; exact ((Below.refl _ _).alloc (Nat.le_refl _) _).alloc (by simp) _
  have hsz : W0.heap.size = w.heap.size + 2 := by rw [← hW0]; simp
  have B1 : Below W0.heap.size W0 (W0.iter s 0) := below_alloc _ _
  obtain ⟨R, hR⟩ : ∃ R, W0.heap.size = R := ⟨_, rfl⟩
  have hit : (W0.iter s 0).heap[R]? = some (.stringIter s 0) := by rw [← hR]; exact World.iter_heap _ _ _
  have S0 : Hid (HvInv s w R 0 s.size [] (W0.iter s 0)) := Lib.hid ⟨blk_below a1 B1, blk_below a0 B1, hit, seqB B0 B1, rfl, Nat.zero_le _, by omega⟩
  have hRw : Hid (R = w.heap.size + 2) := Lib.hid (by omega)
  clear a0 a1 B0 B1 hsz hit
  go_enter Tryd.func64, Tryd.ntmps64
  go_wp2
  go_loopw [4] (fun _ wr => ∃ i n acc, Hid (HvInv s w R i n acc wr)) (fun _ wr => s.size - wr.iterPos R)
  case atStart => exact ⟨0, s.size, [], S0⟩
  case round =>
    clear hW0 hR
    obtain ⟨i, n, acc, HI⟩ := hrel
    have hRl : R < wr.heap.size := blk_lt HI.out.it
    have hip : wr.iterPos R = i := by simp [World.iterPos, HI.out.it]
    by_cases hlt : i < s.size
    · obtain ⟨n', rfl⟩ : ∃ n', n = n' + 1 := ⟨n - 1, by have := HI.out.fu; omega⟩
      have hp := dec_pos s i hlt
      have hnx : ∀ ty, (Instr.next (.pointer (some ⟨R, 0, none⟩)) true ty).run Tryd.prog wr = _ := fun ty => Lib.run_next_any_at wr R s i ty HI.out.it hlt
      have bel1 : Below w.heap.size w (wr.iterAt R s (i + (Utf8.decode s i).2)) := Lib.below_iterAt HI.out.bel (by have := hRw.out; omega) s _
      have it1 := Lib.iterAt_heap wr R s i (i + (Utf8.decode s i).2) HI.out.it
      have c1 := (Lib.iterAt_other wr R (w.heap.size + 1) s (i + (Utf8.decode s i).2) (by have := hRw.out; omega)).trans HI.out.c
      have r1 := (Lib.iterAt_other wr R w.heap.size s (i + (Utf8.decode s i).2) (by have := hRw.out; omega)).trans HI.out.r
      have hac := HI.out.ac
      rw [valsF_step s n' i hlt] at hac
      have hfu := HI.out.fu
      have hs1 : (wr.iterAt R s (i + (Utf8.decode s i).2)).heap.size = wr.heap.size := Lib.iterAt_size _ _ _ _
      have ON := one_at s i (wr.iterAt R s (i + (Utf8.decode s i).2)) ((HT.out.below bel1).u) hs hlt
      have hst := hvL_step acc ((vAt s i).1 : Int)
      have hsc := scP_le ((vAt s i).1 : Int)
      have SC := fun w hT => script_any ((vAt s i).1 : Int) w hT
      clear HI S0
      generalize wr.iterAt R s (i + (Utf8.decode s i).2) = W1 at *
      generalize ((vAt s i).1 : Int) = x at *
      generalize ((vAt s i).2 : Int) = y at *
      generalize hn2 : (Utf8.decode s i).2 = m at *
      obtain ⟨sc, hsce⟩ : ∃ sc, scP x = sc := ⟨_, rfl⟩
      rw [hsce] at hst hsc SC
      have hsci : (sc : Int) < 5 := by omega
      have hsc0 : (0 : Int) ≤ (sc : Int) := by omega
      obtain ⟨bv, hbv⟩ : ∃ bv, (hvL acc)[sc]? = some bv := ⟨_, List.getElem?_eq_getElem (by show sc < 5; omega)⟩
      have Hip := Lib.hid hip; have Hac := Lib.hid hac; have Hst := Lib.hid hst; have HON := Lib.hid ON; have HSC := Lib.hid SC
      have Hit1 := Lib.hid it1; have Hbel1 := Lib.hid bel1; have Hc1 := Lib.hid c1; have Hr1 := Lib.hid r1; have Hbv := Lib.hid hbv
      clear hip hac hst ON SC it1 bel1 c1 r1 hn2 hsce hbv
      go_wp2_with (first
        | (go_at_call 84; refine HON.out.mono ?_; rintro e w2 ⟨rfl, hb2⟩; have it2 := Lib.hid (blk_below Hit1.out hb2); have c2 := Lib.hid (blk_below Hc1.out hb2); have r2 := Lib.hid (blk_below Hr1.out hb2); have bel2 := Lib.hid (Hbel1.out.trans (hb2.mono Hbel1.out.size)); clear hb2)
        | (go_at_call 93; refine (HSC.out _ ((HT.out.below bel2.out).c)).mono ?_; rintro e w3 ⟨rfl, hb3⟩; have it3 := Lib.hid (blk_below it2.out hb3); have c3 := Lib.hid (blk_below c2.out hb3); have r3 := Lib.hid (blk_below r2.out hb3); have bel3 := Lib.hid (bel2.out.trans (hb3.mono bel2.out.size)); have k3 : w3.cell? ⟨w.heap.size + 1, sc, none⟩ = some (.bool bv) := (by rw [cell_of_row _ _ _ _ _ _ c3.out, bRow, List.getElem?_toArray, List.getElem?_map, Hbv.out]; rfl); have f3 : w3.frozen? ⟨w.heap.size + 1, sc, none⟩ = false := frozen_of_row _ _ _ _ _ c3.out; clear hb3))
      go_roundw
      case rel =>
        have c4 : (w3.setCell ⟨w.heap.size + 1, sc, none⟩ (.bool true)).heap[w.heap.size + 1]? = some (.cells (bRow (hvL (acc ++ [x]))) 81 (0, 0)) := by rw [Hst.out, ← bRow_set]; exact blk_set c3.out sc _
        exact ⟨i + m, n', acc ++ [x], Lib.hid ⟨c4, (Below.heap_setCell _ _ _ _ (by show w.heap.size ≠ w.heap.size + 1; omega)).trans r3.out, (Below.heap_setCell _ _ _ _ (by have := hRw.out; show R ≠ w.heap.size + 1; omega)).trans it3.out, bel3.out.setCell (p := ⟨w.heap.size + 1, sc, none⟩) (by show w.heap.size ≤ w.heap.size + 1; omega) _, by rw [List.append_assoc]; exact Hac.out, by omega, by omega⟩⟩
      case measure =>
        have it4 : (w3.setCell ⟨w.heap.size + 1, sc, none⟩ (.bool true)).heap[R]? = some (.stringIter s (i + m)) := (Below.heap_setCell _ _ _ _ (by have := hRw.out; show R ≠ w.heap.size + 1; omega)).trans it3.out
        simp only [World.iterPos, it4]; have := Hip.out; simp only [World.iterPos] at this; omega
    · have hnx : ∀ ty, (Instr.next (.pointer (some ⟨R, 0, none⟩)) true ty).run Tryd.prog wr = _ := fun ty => Lib.run_next_end_at wr R s i ty HI.out.it hlt
      have hac := HI.out.ac
      rw [valsF_end s n i hlt, List.append_nil] at hac
      subst hac
      have hc := HI.out.c; have hr := HI.out.r; have bel := Lib.hid HI.out.bel
      clear HI hlt hip S0
      have hlen : (hvL (valsS s)).length = 5 := rfl
      have hrlen : (bRow (hvL ([] : List Int))).size = 5 := rfl
      generalize hL : hvL (valsS s) = L at *
      have HL := Lib.hid hL; clear hL
      have hszb : (bRow L).size = 5 := by simp [bRow, hlen]
      have hall : (bRow L).all (·.oneCell') = true := by
        rw [Array.all_eq_true_iff_forall_mem]; intro x hx
        simp [bRow] at hx; rcases hx with ⟨_, rfl⟩ | ⟨_, rfl⟩ <;> rfl
      have hres : (wr.setRow w.heap.size (bRow L)).heap[w.heap.size]? = some (.cells (bRow L) 81 (0, 0)) := setRow_heap _ _ _ _ _ _ hr
      have hfin : Below w.heap.size w (wr.setRow w.heap.size (bRow L)) := bel.out.trans (below_setRow5 _ _ _)
      have hi36 : (Tryd.prog.info? 81).map (·.size) = some (bRow L).size := by rw [hszb]; kernel_rfl
      have Hszb := Lib.hid hszb; have Hlen := Lib.hid hlen
      clear hszb hlen
      go_wp2_with (first
        | (refine wpList_load_row rfl 81 _ rfl (w.heap.size + 1) rfl 81 _ (0, 0) _ hc Tryd.underlying81 rfl hi36 ?_)
        | (refine wpList_store_row rfl 81 _ _ rfl w.heap.size (bRow L) rfl rfl 81 _ hr hi36 (by rw [Hszb.out]; rfl) hall ?_))
      refine bodyPost_ret (results_cell_row rfl _ _ w.heap.size 81 _ (0, 0) _ rfl hres Tryd.underlying81 rfl hi36) rfl ⟨by rw [HL.out], hfin⟩
end Go.Proofs.YtanfkilmjdfeoaaDoor
set_option linter.unusedVariables false
set_option linter.unusedSimpArgs false
namespace Go.Proofs.YtanfkilmjdfeoaaDoor
open Go.RowKit
/-- Does a text mix scripts? -/
def mxB (l : List Int) : Bool := hvB l 1 && (hvB l 2 || hvB l 3) || hvB l 2 && hvB l 3
theorem mixed_any (s : ByteArray) (w : World) (hT : SpT w) (hs : s.size ≤ 100000) : Calls Tryd.prog 23 #[.string s] w fun e w' => e = .returned (.bool (mxB (valsS s))) ∧ Below w.heap.size w w' := by
  have HV := have_any s w hT hs
  clear hT
  rw [show bRow (hvL (valsS s)) = #[.bool (hvB (valsS s) 0), .bool (hvB (valsS s) 1), .bool (hvB (valsS s) 2), .bool (hvB (valsS s) 3), .bool (hvB (valsS s) 4)] from rfl] at HV
  have hm : mxB (valsS s) = (hvB (valsS s) 1 && (hvB (valsS s) 2 || hvB (valsS s) 3) || hvB (valsS s) 2 && hvB (valsS s) 3) := rfl
  have Hm := Lib.hid hm
  replace HV := Lib.hid HV
  clear hm
  generalize mxB (valsS s) = mx at *
  generalize hvB (valsS s) 0 = h0 at *
  generalize hvB (valsS s) 1 = h1 at *
  generalize hvB (valsS s) 2 = h2 at *
  generalize hvB (valsS s) 3 = h3 at *
  generalize hvB (valsS s) 4 = h4 at *
  cases h1 <;> cases h2 <;> cases h3
  all_goals
    go_enter Tryd.func23, Tryd.ntmps23
    go_wp2_with (go_at_call 64; refine HV.out.mono ?_; rintro e w1 ⟨rfl, hb1⟩)
    go_ret
    rw [Hm.out]
    exact ⟨rfl, seqB hb1 (below_alloc _ _)⟩
/-- The scripts of a text, up to one. -/
def scI (l : List Int) : Nat → List Int
  | 0 => []
  | k + 1 => scI l k ++ (if hvB l (k + 1) = true then [((k + 1 : Nat) : Int)] else [])
theorem scI_len (l : List Int) : ∀ k, (scI l k).length ≤ k
  | 0 => Nat.le_refl _
  | k + 1 => by
    have := scI_len l k
    rw [scI, List.length_append]; split <;> simp <;> omega
theorem hvL_at (l : List Int) (k : Nat) (h : k < 5) : (hvL l)[k]? = some (hvB l k) := by
  rcases (by omega : k = 0 ∨ k = 1 ∨ k = 2 ∨ k = 3 ∨ k = 4) with rfl | rfl | rfl | rfl | rfl <;> rfl
theorem one_int (w : World) (x : Int) : ∀ j u, ([Value.int .i64 x] : List Value)[j]? = some u → (w.alloc (.cells #[.int .i64 x] 3)).cell? ((⟨w.heap.size, 0, none⟩ : Addr).add j) = some u := by
  intro j u hj
  match j, hj with
  | 0, hj => simp at hj; subst hj; simp [Addr.add]
set_option maxHeartbeats 4000000 in
theorem scripts_any (s : ByteArray) (w : World) (hT : SpT w) (hs : s.size ≤ 100000) : Calls Tryd.prog 22 #[.string s] w fun e w' => ∃ a c, e = .returned (.slice a (scI (valsS s) 4).length c) ∧ Row w' a (scI (valsS s) 4) ∧ Below w.heap.size w w' := by
  obtain ⟨i0, hi, hz0, hz1, hz2⟩ := info_parts infoInt
  have HV := have_any s w hT hs
  clear hT
  rw [show bRow (hvL (valsS s)) = #[.bool (hvB (valsS s) 0), .bool (hvB (valsS s) 1), .bool (hvB (valsS s) 2), .bool (hvB (valsS s) 3), .bool (hvB (valsS s) 4)] from rfl] at HV
  generalize valsS s = l at *
  replace HV := Lib.hid HV
  go_enter Tryd.func22, Tryd.ntmps22
  go_upto_region 3 with (go_at_call 64; refine HV.out.mono ?_; rintro e w1 ⟨rfl, hb1⟩)
  have q1 : (w1.alloc (.cells #[.bool (hvB l 0), .bool (hvB l 1), .bool (hvB l 2), .bool (hvB l 3), .bool (hvB l 4)] 81)).heap[w1.heap.size]? = some (.cells (bRow (hvL l)) 81 (0, 0)) := heap_alloc_new w1 _
  have B1 := seqB hb1 (below_alloc w1 (.cells #[.bool (hvB l 0), .bool (hvB l 1), .bool (hvB l 2), .bool (hvB l 3), .bool (hvB l 4)] 81))
  generalize w1.alloc (.cells #[.bool (hvB l 0), .bool (hvB l 1), .bool (hvB l 2), .bool (hvB l 3), .bool (hvB l 4)] 81) = W1 at *
  obtain ⟨Y, hY⟩ : ∃ Y, w1.heap.size = Y := ⟨_, rfl⟩
  rw [hY] at q1 ⊢
  have hYw : Hid (w.heap.size ≤ Y) := Lib.hid (by have := hb1.size; omega)
  have I0 : Hid (W1.ownsRow w.heap.size 3 1 (.slice none 0 0) (scI l 0).length ((scI l 0).map (Value.int .i64)) ∧ W1.heap[Y]? = some (.cells (bRow (hvL l)) 81 (0, 0)) ∧ Below w.heap.size w W1) := Lib.hid ⟨World.ownsRow_nil _ _ _ _, q1, B1⟩
  clear hb1 hY B1 q1
  go_upto_region 4 with fail
  go_loopw [4, 5] (fun sv iv wr => ∃ k : Nat, k ≤ 4 ∧ iv = .int .i64 ((k : Int) + 1) ∧ Hid (wr.ownsRow w.heap.size 3 1 sv (scI l k).length ((scI l k).map (Value.int .i64)) ∧ wr.heap[Y]? = some (.cells (bRow (hvL l)) 81 (0, 0)) ∧ Below w.heap.size w wr)) (fun _ iv _ => 10 - (intOf iv).toNat)
  case atStart => exact ⟨0, by omega, rfl, I0⟩
  case round =>
    obtain ⟨k, hk, rfl, HI⟩ := hrel
    clear I0
    by_cases h4 : k < 4
    · have hki : (k : Int) + 1 ≤ 4 := by omega
      have hki2 : (k : Int) + 1 < 5 := by omega
      have hk0 : (0 : Int) ≤ (k : Int) + 1 := by omega
      have hcell : wr.cell? ⟨Y, k + 1, none⟩ = some (.bool (hvB l (k + 1))) := by
        rw [cell_of_row _ _ _ _ _ _ HI.out.2.1, bRow, List.getElem?_toArray, List.getElem?_map, hvL_at l (k + 1) (by omega)]; rfl
      have hst : scI l (k + 1) = scI l k ++ (if hvB l (k + 1) = true then [((k + 1 : Nat) : Int)] else []) := rfl
      have hlen := scI_len l k
      have hkt : ((k : Int) + 1).toNat = k + 1 := by omega
      cases hb : hvB l (k + 1)
      · rw [hb] at hcell hst
        rw [if_neg (by simp), List.append_nil] at hst
        have Hst := Lib.hid hst
        clear hst hb
        go_wp2
        go_roundw
        case rel => exact ⟨k + 1, by omega, by go_num, by rw [Hst.out]; exact HI⟩
        case measure => simp [intOf]; omega
      · rw [hb] at hcell hst
        rw [if_pos rfl] at hst
        have Hst := Lib.hid hst
        have Hlen := Lib.hid hlen
        clear hst hb hlen
        go_wp2_with (at_builtin; refine wpList_append_own _ rfl _ _ 24 rfl w.heap.size 3 i0 (.int .i64 0) 1 8 Tryd.underlying24 hi hz0 hz1 hz2 rfl (by decide) _ _ _ rfl (HI.out.1.alloc _) ⟨wr.heap.size, 0, none⟩ 1 1 [.int .i64 ((k : Int) + 1)] rfl rfl (one_int _ _) ?c2 ?c3 ?c4 ?c5 ?_)
        case c2 => intro u hu; simp at hu; subst hu; rfl
        case c3 => have := Hlen.out; unfold maxLen; omega
        case c4 => have := Hlen.out; omega
        case c5 => have := HI.out.2.2.size; simp; omega
        intro v' w3 hown3 hgrow3 _
        have O3 : w3.ownsRow w.heap.size 3 1 v' (scI l (k + 1)).length ((scI l (k + 1)).map (Value.int .i64)) := by
          rw [Hst.out, List.length_append, List.map_append]
          exact hown3
        have Y3 : w3.heap[Y]? = some (.cells (bRow (hvL l)) 81 (0, 0)) := by
          rw [hgrow3.block Y (by have := blk_lt HI.out.2.1; simp; omega) (fun e => own_ne_kind HI.out.1 HI.out.2.1 (by decide) e.symm)]
          exact blk_alloc HI.out.2.1 _
        have N3 : Below w.heap.size w w3 := (HI.out.2.2.alloc HI.out.2.2.size (.cells #[.int .i64 ((k : Int) + 1)] 3)).grown hgrow3 (by have := HI.out.2.2.size; simp; omega) (fun j hj => (HI.out.1.lt j hj).1)
        have I3 := Lib.hid (⟨O3, Y3, N3⟩ : _ ∧ _ ∧ _)
        clear hown3 hgrow3 O3 Y3 N3
        go_wp2
        go_roundw
        case rel => exact ⟨k + 1, by omega, by go_num, I3⟩
        case measure => simp [intOf]; omega
    · obtain rfl : k = 4 := by omega
      obtain ⟨a, c, hav, hrow⟩ := row_own HI.out.1
      subst hav
      have hbl := Lib.hid HI.out.2.2
      go_wp2
      go_ret
      exact ⟨a, c, rfl, hrow, hbl.out⟩
/-- Strings lie in memory. -/
def StrsIn (w : World) (a : Option Addr) (l : List ByteArray) : Prop :=
  ∀ i, i < l.length → ∃ b off, a = some ⟨b, off, none⟩ ∧ b < w.heap.size ∧ w.cell? ⟨b, off + i, none⟩ = some (.string (l.getD i ⟨#[]⟩))
theorem StrsIn.below {w w' : World} {a : Option Addr} {l : List ByteArray} (h : StrsIn w a l) (hb : Below w.heap.size w w') : StrsIn w' a l := fun i hi => by
  obtain ⟨b, off, e, hlt, h1⟩ := h i hi
  exact ⟨b, off, e, Nat.lt_of_lt_of_le hlt hb.size, (hb.cell (p := ⟨b, off + i, none⟩) hlt).trans h1⟩
/-- Is it another text, and looks so? -/
def isLk (s t : ByteArray) : Bool := !(t.toList == s.toList) && alB s t
/-- Which text of a list looks like one, and is another. -/
def lkF (s : ByteArray) (l : List ByteArray) : Nat → Nat → Int
  | 0, _ => -1
  | f + 1, i => if i < l.length then (if isLk s (l.getD i ⟨#[]⟩) = true then (i : Int) else lkF s l f (i + 1)) else -1
set_option maxHeartbeats 4000000 in
theorem find_any (s : ByteArray) (l : List ByteArray) (a : Option Addr) (c : Nat) (w : World) (hT : SpT w) (hs : s.size ≤ 10000) (hl : l.length ≤ 1000) (hz : ∀ i, i < l.length → (l.getD i ⟨#[]⟩).size ≤ 10000) (hL : StrsIn w a l) : Calls Tryd.prog 24 #[.string s, .slice a l.length c] w fun e w' => e = .returned (.int .i64 (lkF s l l.length 0)) ∧ Below w.heap.size w w' := by
  have HT := Lib.hid hT; have HL := Lib.hid hL; have HZ := Lib.hid hz
  clear hT hL hz
  go_enter Tryd.func24, Tryd.ntmps24
  go_wp2
  go_loopw [9] (fun iv wr => ∃ i : Nat, iv = .int .i64 (i : Int) ∧ i ≤ l.length ∧ Hid (lkF s l l.length 0 = lkF s l (l.length - i) i) ∧ Below w.heap.size w wr) (fun iv _ => l.length - (intOf iv).toNat)
  case atStart => exact ⟨0, rfl, Nat.zero_le _, Lib.hid rfl, Below.refl _ _⟩
  case round =>
    obtain ⟨i, rfl, hi, HE, hb⟩ := hrel
    by_cases hlt : i < l.length
    · obtain ⟨b, off, rfl, hblt, hcell⟩ := (HL.out.below hb) i hlt
      have hlti : (i : Int) < (l.length : Int) := by omega
      have hi0 : (0 : Int) ≤ i := by omega
      have hz := HZ.out i hlt
      have AL := fun w hT => spalike_any s (l.getD i ⟨#[]⟩) w hT hs hz
      have hst : lkF s l (l.length - i) i = if isLk s (l.getD i ⟨#[]⟩) = true then (i : Int) else lkF s l (l.length - (i + 1)) (i + 1) := by
        obtain ⟨f, hf⟩ : ∃ f, l.length - i = f + 1 := ⟨l.length - i - 1, by omega⟩
        rw [hf, show l.length - (i + 1) = f by omega]
        show (if i < l.length then _ else _) = _
        rw [if_pos hlt]
      unfold isLk at hst
      generalize l.getD i ⟨#[]⟩ = t at *
      by_cases hts : t.toList == s.toList
      · rw [hts] at hst
        have Hst : Hid (lkF s l l.length 0 = lkF s l (l.length - (i + 1)) (i + 1)) := Lib.hid (by rw [HE.out, hst]; simp)
        clear hst AL
        go_wp2
        go_roundw
        case rel => exact ⟨i + 1, by go_num, by omega, Hst, hb⟩
        case measure => simp [intOf]; omega
      · have hts2 : (t.toList == s.toList) = false := by simpa using hts
        rw [hts2] at hst
        clear hts
        cases hal : alB s t
        · rw [hal] at AL hst
          have Hst : Hid (lkF s l l.length 0 = lkF s l (l.length - (i + 1)) (i + 1)) := Lib.hid (by rw [HE.out, hst]; simp)
          replace AL := Lib.hid AL
          clear hst hal
          go_wp2_with (go_at_call 19; refine (AL.out _ (HT.out.below hb)).mono ?_; rintro e w1 ⟨rfl, b1⟩)
          go_roundw
          case rel => exact ⟨i + 1, by go_num, by omega, Hst, seqB hb b1⟩
          case measure => simp [intOf]; omega
        · rw [hal] at AL hst
          have Hst : Hid (lkF s l l.length 0 = (i : Int)) := Lib.hid (by rw [HE.out, hst]; simp)
          replace AL := Lib.hid AL
          clear hst hal
          go_wp2_with (go_at_call 19; refine (AL.out _ (HT.out.below hb)).mono ?_; rintro e w1 ⟨rfl, b1⟩)
          go_ret
          rw [Hst.out]
          exact ⟨rfl, seqB hb b1⟩
    · obtain rfl : i = l.length := by omega
      have Hst : Hid (lkF s l l.length 0 = -1) := Lib.hid (by rw [HE.out, Nat.sub_self]; rfl)
      have hkl : ¬ (l.length : Int) < (l.length : Int) := by omega
      go_wp2
      go_ret
      rw [Hst.out]
      exact ⟨rfl, hb⟩
end Go.Proofs.YtanfkilmjdfeoaaDoor
set_option linter.unusedVariables false
set_option linter.unusedSimpArgs false
namespace Go.Proofs.YtanfkilmjdfeoaaDoor
open Go.RowKit
abbrev spP : ByteArray := ⟨#[112, 208, 176, 121]⟩
abbrev spQ : ByteArray := ⟨#[112, 97, 121]⟩
theorem sa1 : scI (valsS spP) 4 = [1, 3] := by decide +kernel
theorem sa2 : tellS stF ⟨#[97, 226, 128, 174, 98, 27]⟩ = ⟨#[97, 98]⟩ := by decide +kernel
theorem sa3 : tellS shF ⟨#[97, 27]⟩ = ⟨#[97, 94, 91]⟩ := by decide +kernel
theorem sa4 : tellS foF spP = spQ := by decide +kernel
theorem sa5 : alB spP spQ = true := by decide +kernel
theorem sa6 : mxB (valsS spP) = true := by decide +kernel
theorem sa7 : mxB (valsS spQ) = false := by decide +kernel
theorem sa8 : lkF spQ [spQ, spP] [spQ, spP].length 0 = 1 := by decide +kernel
theorem strs_two (w : World) (s t : ByteArray) : StrsIn (w.alloc (.cells #[.string s, .string t] 9)) (some ⟨w.heap.size, 0, none⟩) [s, t] := fun i hi => by
  refine ⟨_, _, rfl, by simp, ?_⟩
  match i, hi with
  | 0, _ => rw [World.cell?_alloc_new]; rfl
  | 1, _ => rw [World.cell?_alloc_new]; rfl
set_option maxRecDepth 100000 in
set_option maxHeartbeats 4000000 in
theorem spawake_any (w : World) (hT : SpT w) : Calls Tryd.prog 10 #[] w fun e w' => e = .returned (.bool true) ∧ Below w.heap.size w w' := by
  have HT := Lib.hid hT; clear hT
  have C1 : Hid (∀ w, SpT w → Calls Tryd.prog 22 #[.string ⟨#[112, 208, 176, 121]⟩] w fun e w' => ∃ b off c, e = .returned (.slice (some ⟨b, off, none⟩) 2 c) ∧ b < w'.heap.size ∧ w'.cell? ⟨b, off + 1, none⟩ = some (.int .i64 3) ∧ Below w.heap.size w w') := Lib.hid fun w hT => by
    have h := scripts_any spP w hT (by decide)
    rw [sa1] at h
    refine h.mono ?_
    rintro e w' ⟨a, c, rfl, hr, hb⟩
    obtain ⟨b, off, rfl, h1, h2⟩ := hr 1 (by decide)
    exact ⟨b, off, c, rfl, h2, h1, hb⟩
  have C2 : Hid (∀ w, SpT w → Calls Tryd.prog 11 #[.string ⟨#[97, 226, 128, 174, 98, 27]⟩] w fun e w' => e = .returned (.string ⟨#[97, 98]⟩) ∧ Below w.heap.size w w') := Lib.hid fun w hT => by
    have h := spstrip_any ⟨#[97, 226, 128, 174, 98, 27]⟩ w hT (by decide)
    rw [sa2] at h; exact h
  have C3 : Hid (∀ w, SpT w → Calls Tryd.prog 12 #[.string ⟨#[97, 27]⟩] w fun e w' => e = .returned (.string ⟨#[97, 94, 91]⟩) ∧ Below w.heap.size w w') := Lib.hid fun w hT => by
    have h := sptell_any ⟨#[97, 27]⟩ w hT (by decide)
    rw [sa3] at h; exact h
  have C4 : Hid (∀ w, SpT w → Calls Tryd.prog 13 #[.string ⟨#[112, 208, 176, 121]⟩] w fun e w' => e = .returned (.string ⟨#[112, 97, 121]⟩) ∧ Below w.heap.size w w') := Lib.hid fun w hT => by
    have h := spfold_any spP w hT (by decide)
    rw [sa4] at h; exact h
  have C5 : Hid (∀ w, SpT w → Calls Tryd.prog 19 #[.string ⟨#[112, 208, 176, 121]⟩, .string ⟨#[112, 97, 121]⟩] w fun e w' => e = .returned (.bool true) ∧ Below w.heap.size w w') := Lib.hid fun w hT => by
    have h := spalike_any spP spQ w hT (by decide) (by decide)
    rw [sa5] at h; exact h
  have C6 : Hid (∀ w, SpT w → Calls Tryd.prog 23 #[.string ⟨#[112, 208, 176, 121]⟩] w fun e w' => e = .returned (.bool true) ∧ Below w.heap.size w w') := Lib.hid fun w hT => by
    have h := mixed_any spP w hT (by decide)
    rw [sa6] at h; exact h
  have C7 : Hid (∀ w, SpT w → Calls Tryd.prog 23 #[.string ⟨#[112, 97, 121]⟩] w fun e w' => e = .returned (.bool false) ∧ Below w.heap.size w w') := Lib.hid fun w hT => by
    have h := mixed_any spQ w hT (by decide)
    rw [sa7] at h; exact h
  have C8 : Hid (∀ w, SpT w → Calls Tryd.prog 24 #[.string ⟨#[112, 97, 121]⟩, .slice (some ⟨w.heap.size, 0, none⟩) 2 2] (w.alloc (.cells #[.string ⟨#[112, 97, 121]⟩, .string ⟨#[112, 208, 176, 121]⟩] 9)) fun e w' => e = .returned (.int .i64 1) ∧ Below w.heap.size w w') := Lib.hid fun w hT => by
    have h := find_any spQ [spQ, spP] (some ⟨w.heap.size, 0, none⟩) 2 (w.alloc (.cells #[.string spQ, .string spP] 9)) (hT.below (below_alloc _ _)) (by decide) (by decide) (fun i hi => by match i, hi with | 0, _ => decide | 1, _ => decide) (strs_two w spQ spP)
    rw [sa8] at h
    refine h.mono ?_
    rintro e w' ⟨rfl, hb⟩
    exact ⟨rfl, seqB (below_alloc _ _) hb⟩
  go_enter Tryd.func10, Tryd.ntmps10
  go_wp2_with (first
    | (go_at_call 22; refine (C1.out _ HT.out).mono ?_; rintro e w1 ⟨b, off, c, rfl, hbl, u1, b1⟩; have N1 := Lib.hid b1; have T1 := Lib.hid (HT.out.below b1); have L1 := Lib.hid hbl; clear b1 C1 hbl)
    | (go_at_call 11; (with_reducible refine (C2.out _ T1.out).mono ?_); rintro e w2 ⟨rfl, b2⟩; have N2 := Lib.hid (seqB N1.out b2); have T2 := Lib.hid (T1.out.below b2); have u2 := (b2.cell (p := ⟨b, off + 1, none⟩) L1.out).trans u1; have L2 := Lib.hid (Nat.lt_of_lt_of_le L1.out b2.size); clear b2 C2 u1)
    | (go_at_call 12; (with_reducible refine (C3.out _ T2.out).mono ?_); rintro e w3 ⟨rfl, b3⟩; have N3 := Lib.hid (seqB N2.out b3); have T3 := Lib.hid (T2.out.below b3); have u3 := (b3.cell (p := ⟨b, off + 1, none⟩) L2.out).trans u2; have L3 := Lib.hid (Nat.lt_of_lt_of_le L2.out b3.size); clear b3 C3 u2)
    | (go_at_call 13; (with_reducible refine (C4.out _ T3.out).mono ?_); rintro e w4 ⟨rfl, b4⟩; have N4 := Lib.hid (seqB N3.out b4); have T4 := Lib.hid (T3.out.below b4); have u4 := (b4.cell (p := ⟨b, off + 1, none⟩) L3.out).trans u3; have L4 := Lib.hid (Nat.lt_of_lt_of_le L3.out b4.size); clear b4 C4 u3)
    | (go_at_call 19; (with_reducible refine (C5.out _ T4.out).mono ?_); rintro e w5 ⟨rfl, b5⟩; have N5 := Lib.hid (seqB N4.out b5); have T5 := Lib.hid (T4.out.below b5); have u5 := (b5.cell (p := ⟨b, off + 1, none⟩) L4.out).trans u4; have L5 := Lib.hid (Nat.lt_of_lt_of_le L4.out b5.size); clear b5 C5 u4)
    | (go_at_call 23; (with_reducible refine (C6.out _ T5.out).mono ?_); rintro e w6 ⟨rfl, b6⟩; have N6 := Lib.hid (seqB N5.out b6); have T6 := Lib.hid (T5.out.below b6); have u6 := (b6.cell (p := ⟨b, off + 1, none⟩) L5.out).trans u5; have L6 := Lib.hid (Nat.lt_of_lt_of_le L5.out b6.size); clear b6 C6 u5)
    | (go_at_call 23; (with_reducible refine (C7.out _ T6.out).mono ?_); rintro e w7 ⟨rfl, b7⟩; have N7 := Lib.hid (seqB N6.out b7); have T7 := Lib.hid (T6.out.below b7); have u7 := (b7.cell (p := ⟨b, off + 1, none⟩) L6.out).trans u6; clear b7 C7 u6)
    | (go_at_call 24; (with_reducible refine (C8.out _ T7.out).mono ?_); rintro e w8 ⟨rfl, b8⟩; have N8 := Lib.hid (seqB N7.out b8); clear b8 C8))
  go_ret
  exact ⟨rfl, N8.out⟩
end Go.Proofs.YtanfkilmjdfeoaaDoor
