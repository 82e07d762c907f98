import Derived.Test.YtecffaidpiadoaaDoorU2
namespace Go.Proofs.YtecffaidpiadoaaDoor
open Go.RowKit
theorem infoInt : (Tryd.prog.info? 3).map (fun i => (i.zero, i.size, i.bytes)) = some (some (.int .i64 0), 1, 8) := by kernel_rfl
theorem iBuild (l : List Int) (x : Int) : l.map (Value.int .i64) ++ [Value.int .i64 x] = (l ++ [x]).map (Value.int .i64) := by simp
/-- The loop of Decode. -/
structure DecInv (s : ByteArray) (w : World) (B : Nat) (i f : Nat) (acc : List Int) (v : Value) (wr : World) : Prop where
  own : wr.ownsRow w.heap.size 3 1 v acc.length (acc.map (Value.int .i64))
  it : wr.heap[B]? = some (.stringIter s i)
  bl : Below w.heap.size w wr
  ac : acc ++ valsF s f i = valsS s
  le : i ≤ s.size
  fu : s.size ≤ i + f
  al : acc.length ≤ i
theorem grown_of_below {w w' : World} (h : Below w.heap.size w w') : w.grownBy w' none := ⟨h.os, h.tape, h.output, h.size, fun k hk _ => h.block k hk⟩
theorem own_apart {w : World} {base : Nat} {e : TypeId} {size : Nat} {v : Value} {n : Nat} {xs : List Value} (h : w.ownsRow base e size v n xs) {B : Nat} {s : ByteArray} {i : Nat} (hb : w.heap[B]? = some (.stringIter s i)) : v.ownBlock ≠ some B := by
  rcases h.2 with ⟨rfl, _⟩ | ⟨g, cap, cur, rfl, _, hg, _⟩
  · simp [Value.ownBlock]
  · intro e1
    have : g = B := by simpa [Value.ownBlock] using e1
    subst this
    rw [hg] at hb; cases hb
theorem own_iter {w : World} {base : Nat} {e : TypeId} {size : Nat} {v : Value} {n : Nat} {xs : List Value} (h : w.ownsRow base e size v n xs) {B : Nat} {s : ByteArray} {i : Nat} (hb : w.heap[B]? = some (.stringIter s i)) (j : Nat) :
    (w.iterAt B s j).ownsRow base e size v n xs := by
  have hg : w.grownBy (w.iterAt B s j) (some B) := ⟨rfl, rfl, rfl, by rw [Lib.iterAt_size]; exact Nat.le_refl _, fun k _ hne => Lib.iterAt_other w B k s j (by intro e1; exact hne (by rw [e1]))⟩
  exact h.kept hg (Or.inr (own_apart h hb))
theorem own_below {w w' : World} {base : Nat} {e : TypeId} {size : Nat} {v : Value} {n : Nat} {xs : List Value} (h : w.ownsRow base e size v n xs) (hb : Below w.heap.size w w') : w'.ownsRow base e size v n xs :=
  h.kept (grown_of_below hb) (by cases hv : v.ownBlock <;> simp)
set_option maxRecDepth 100000 in
set_option maxHeartbeats 2000000 in
theorem decode_any (s : ByteArray) (w : World) (hT : UT w) (hs : s.size ≤ 1000000) :
    Calls Tryd.prog 12 #[.string s] w fun e w' => ∃ v, e = .returned v ∧ w'.ownsRow w.heap.size 3 1 v (valsS s).length ((valsS s).map (Value.int .i64)) ∧ Below w.heap.size w w' := by
  obtain ⟨i0, hi, hz0, hz1, hz2⟩ := info_parts infoInt
  have HT := Lib.hid hT; clear hT
  go_enter Tryd.func12, Tryd.ntmps12
  go_wp2_with (at_make; refine wpList_make_own _ rfl _ _ 23 rfl w.heap.size 3 i0 (.int .i64 0) 1 Tryd.underlying23 hi hz0 hz1 _ _ _ s.size rfl rfl (by omega) ?b2 ?b3 (Nat.le_refl _) ?_)
  case b2 => rw [hz2]; omega
  case b3 => unfold maxLen; omega
  intro w0 hown0 hgrow0
  have hb0 : Below w.heap.size w w0 := (Below.refl _ _).grown hgrow0 (Nat.le_refl _) (fun k h => by cases h)
  go_wp2
  go_loopw [3] (fun v wr => ∃ i f acc, DecInv s w w0.heap.size i f acc v wr) (fun _ wr => s.size - wr.iterPos w0.heap.size)
  case atStart => exact ⟨0, s.size, [], own_below hown0 (below_alloc _ _), World.iter_heap _ _ _, hb0.trans ((below_alloc _ _).mono hb0.size), rfl, Nat.zero_le _, by omega, Nat.le_refl _⟩
  case round =>
    obtain ⟨i, f, acc, hI⟩ := hrel
    have hsz : w0.heap.size < wr.heap.size := (Array.getElem?_eq_some_iff.1 hI.it).1
    have hsz0 := hb0.size
    by_cases hlt : i < s.size
    · obtain ⟨f', rfl⟩ : ∃ f', f = f' + 1 := ⟨f - 1, by have := hI.fu; omega⟩
      have hp := dec_pos s i hlt
      have hb1 : Below wr.heap.size wr wr := Below.refl _ _
      have hnx : ∀ ty, (Instr.next (.pointer (some ⟨w0.heap.size, 0, none⟩)) true ty).run Tryd.prog wr = _ := fun ty => Lib.run_next_any_at wr w0.heap.size s i ty hI.it hlt
      have hbl1 : Below w.heap.size w (wr.iterAt w0.heap.size s (i + (Utf8.decode s i).2)) := Lib.below_iterAt hI.bl hsz0 s _
      have hown1 := own_iter hI.own hI.it (i + (Utf8.decode s i).2)
      have hit1 := Lib.iterAt_heap wr w0.heap.size s i (i + (Utf8.decode s i).2) hI.it
      have hv := value_any s i _ (HT.out.below hbl1) hs hlt
      have hap := Lib.hid (own_apart hown1 hit1)
      have hac := hI.ac
      rw [valsF_step s f' i hlt] at hac
      have hal := hI.al; have hle := hI.le; have hfu := hI.fu
      have hip : wr.iterPos w0.heap.size = i := by simp [World.iterPos, hI.it]
      have hs1 : (wr.iterAt w0.heap.size s (i + (Utf8.decode s i).2)).heap.size = wr.heap.size := Lib.iterAt_size _ _ _ _
      clear hI
      generalize wr.iterAt w0.heap.size s (i + (Utf8.decode s i).2) = W1 at *
      generalize ((vAt s i).1 : Int) = x at *
      generalize ((vAt s i).2 : Int) = y at *
      generalize hn : (Utf8.decode s i).2 = n at *
      have Hn := Lib.hid hn; have Hv := Lib.hid hv; have Hac := Lib.hid hac; have Hip := Lib.hid hip; have Hs1 := Lib.hid hs1
      clear hn hv hac hip hs1
      go_wp2_with (first
        | (go_at_call 39; refine Hv.out.mono ?_; rintro e w2 ⟨rfl, hb2⟩; have hown2 := own_below hown1 hb2)
        | (at_builtin; refine wpList_append_own _ rfl _ _ 23 rfl w.heap.size 3 i0 (.int .i64 0) 1 8 Tryd.underlying23 hi hz0 hz1 hz2 rfl (by decide) _ _ _ rfl (hown2.alloc _) ⟨w2.heap.size, 0, none⟩ 1 1 [.int .i64 x] rfl rfl ?c1 ?c2 ?c3 ?c4 ?c5 ?_))
      case c1 =>
        intro j u hj
        match j, hj with
        | 0, hj => simp at hj; subst hj; simp [Addr.add]
      case c2 => intro u hu; simp at hu; subst hu; rfl
      case c3 => unfold maxLen; omega
      case c4 => omega
      case c5 => have := hb2.size; have := Hs1.out; simp; omega
      intro v' w3 hown3 hgrow3 _
      have hB : w0.heap.size < W1.heap.size := by have := Hs1.out; omega
      have hit2 : w2.heap[w0.heap.size]? = some (.stringIter s (i + n)) := (hb2.block _ hB).trans hit1
      have hit3 : w3.heap[w0.heap.size]? = some (.stringIter s (i + n)) := by
        rw [hgrow3.block _ (by have := hb2.size; simp; omega) (by intro e1; exact hap.out e1.symm), (below_alloc w2 _).block _ (by have := hb2.size; omega)]; exact hit2
      have hbl3 : Below w.heap.size w w3 := by
        have h1 : Below w.heap.size w w2 := hbl1.trans (hb2.mono hbl1.size)
        have h2 : Below w.heap.size w (w2.alloc (.cells #[.int .i64 x] 3)) := h1.alloc h1.size _
        exact h2.grown hgrow3 (by have := h1.size; simp; omega) (fun k hk => by have := (hown1.lt k hk).1; exact this)
      have hown3' : w3.ownsRow w.heap.size 3 1 v' (acc ++ [x]).length ((acc ++ [x]).map (Value.int .i64)) := by
        have := hown3
        rw [iBuild] at this
        simpa using this
      clear hown3 hgrow3 hown2 hown1 hit1 hit2 hbl1 hap
      go_wp2
      go_roundw
      case rel => exact ⟨i + n, f', acc ++ [x], hown3', hit3, hbl3, by rw [List.append_assoc]; exact Hac.out, by omega, by omega, by simp; omega⟩
      case measure => simp only [World.iterPos, hit3]; have := Hip.out; simp only [World.iterPos] at this; omega
    · have hnx : ∀ ty, (Instr.next (.pointer (some ⟨w0.heap.size, 0, none⟩)) true ty).run Tryd.prog wr = _ := fun ty => Lib.run_next_end_at wr w0.heap.size s i ty hI.it hlt
      have hac := hI.ac
      rw [valsF_end s f i hlt, List.append_nil] at hac
      subst hac
      have hown := hI.own; have hbl := hI.bl
      clear hI hlt
      go_wp2
      go_ret
      exact ⟨_, rfl, hown, hbl⟩
end Go.Proofs.YtecffaidpiadoaaDoor
