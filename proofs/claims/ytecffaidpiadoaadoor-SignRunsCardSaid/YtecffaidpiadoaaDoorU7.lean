import Derived.Test.YtecffaidpiadoaaDoorU6
namespace Go.Proofs.YtecffaidpiadoaaDoor
open Go.RowKit
theorem ext_size (s : ByteArray) (n : Nat) : (s.extract n s.size).size = s.size - n := by simp
theorem ext_get (s : ByteArray) (n j : Nat) (h : n + j < s.size) : (s.extract n s.size).get! j = s.get! (n + j) := by
  rw [get_get _ j (by rw [ext_size]; omega), get_get _ (n + j) h]
  simp [ByteArray.getElem_extract]
theorem vAt_tail (s : ByteArray) (n j : Nat) (h : n + j < s.size) : vAt (s.extract n s.size) j = vAt s (n + j) := by
  unfold vAt; rw [Lib.tail_decode, ext_get s n j h]
theorem valsF_tail (s : ByteArray) (n : Nat) : ∀ f j, valsF (s.extract n s.size) f j = valsF s f (n + j) := by
  intro f
  induction f with
  | zero => intro j; rfl
  | succ f ih =>
    intro j
    by_cases h : n + j < s.size
    · rw [valsF_step _ f j (by rw [ext_size]; omega), valsF_step s f (n + j) h, vAt_tail s n j h, Lib.tail_decode, ih, Nat.add_assoc]
    · rw [valsF_end _ _ _ (by rw [ext_size]; omega), valsF_end _ _ _ h]
theorem valsF_fuel (s : ByteArray) : ∀ f f' i, s.size ≤ i + f → s.size ≤ i + f' → valsF s f i = valsF s f' i := by
  intro f
  induction f with
  | zero => intro f' i h h'; rw [valsF_end s 0 i (by omega), valsF_end s f' i (by omega)]
  | succ f ih =>
    intro f' i h h'
    by_cases hi : i < s.size
    · obtain ⟨g, rfl⟩ : ∃ g, f' = g + 1 := ⟨f' - 1, by omega⟩
      have := (dec_pos s i hi).1
      rw [valsF_step s f i hi, valsF_step s g i hi, ih g _ (by omega) (by omega)]
    · rw [valsF_end _ _ _ hi, valsF_end _ _ _ hi]
theorem valsS_cons (s : ByteArray) (h : 0 < s.size) : valsS s = ((vAt s 0).1 : Int) :: valsS (s.extract (vAt s 0).2 s.size) := by
  have hp := dec_pos s 0 h
  obtain ⟨f, hf⟩ : ∃ f, s.size = f + 1 := ⟨s.size - 1, by omega⟩
  unfold valsS
  rw [vAt_size s 0 h, valsF_tail, Nat.add_zero]
  have e : valsF s s.size 0 = valsF s (f + 1) 0 := by rw [hf]
  rw [e, valsF_step s f 0 h, Nat.zero_add]
  rw [valsF_fuel s f (s.extract (Utf8.decode s 0).2 s.size).size _ (by omega) (by rw [ext_size]; omega)]
theorem valsS_nil (s : ByteArray) (h : ¬ 0 < s.size) : valsS s = [] := by unfold valsS; exact valsF_end s _ 0 h
theorem valsS_len (s : ByteArray) : (valsS s).length ≤ s.size := by
  rcases valsF_len s s.size 0 with h | h
  · exact h
  · unfold valsS; rw [h]; simp
def strSize : Value → Nat
  | .string t => t.size
  | _ => 0
structure DrInv (s : ByteArray) (w : World) (t : ByteArray) (acc : List Int) (v : Value) (wr : World) : Prop where
  sz : t.size + acc.length ≤ s.size
  own : wr.ownsRow w.heap.size 3 1 v acc.length (acc.map (Value.int .i64))
  ac : acc ++ valsS t = valsS s
  bl : Below w.heap.size w wr
theorem cut_nat (t : ByteArray) (n : Nat) : t.extract (n : Int).toNat t.size = t.extract n t.size := rfl
theorem cell_new (w : World) (v : Value) (e : TypeId) : (w.alloc (Obj.cells #[v] e)).cell? ({ block := w.heap.size, off := 0 } : Addr) = some v := by
  have h : (w.alloc (Obj.cells #[v] e)).heap[w.heap.size]? = some (Obj.cells #[v] e) := Array.getElem?_push_size
  simp only [World.cell?, h]; rfl
theorem cell_k (w : World) (k : Nat) (x : Int) : ((w.drewN k).alloc (Obj.cells #[Value.int IntKind.i64 x] 3)).cell? ({ block := w.heap.size, off := 0 } : Addr) = some (Value.int .i64 x) := cell_new (w.drewN k) _ _
set_option maxRecDepth 100000 in
set_option maxHeartbeats 2000000 in
theorem decode_ref (s : ByteArray) (w : World) (hs : s.size ≤ 1000000) :
    Calls Tryd.prog 14 #[.string s] w fun e w' => ∃ v, e = .returned v ∧ w'.ownsRow w.heap.size 3 1 v (valsS s).length ((valsS s).map (Value.int .i64)) ∧ Below w.heap.size w w' := by
  obtain ⟨i0, hi, hz0, hz1, hz2⟩ := info_parts infoInt
  go_enter Tryd.func14, Tryd.ntmps14
  go_wp2
  go_loopw [0, 3] (fun sv v wr => ∃ (t : ByteArray) (acc : List Int), sv = .string t ∧ DrInv s w t acc v wr) (fun sv _ _ => strSize sv)
  case atStart => exact ⟨s, [], rfl, by simp, World.ownsRow_nil _ _ _ _, rfl, Below.refl _ _⟩
  case round =>
    obtain ⟨t, acc, rfl, hI⟩ := hrel
    by_cases hlt : 0 < t.size
    · have hv := valsS_cons t hlt
      have hp := dec_pos t 0 hlt
      have hsz := hI.sz; have hown := hI.own; have hbw := hI.bl
      rw [← vAt_size t 0 hlt] at hp
      have O := one_ref t wr hlt (by omega)
      have hac2 := hI.ac
      clear hI
      rw [hv] at hac2
      generalize ((vAt t 0).1 : Int) = x at *
      generalize (vAt t 0).2 = n at *
      have hbk : ∀ k, Below wr.heap.size wr (wr.drewN k) := fun k => drewN_below (Below.refl _ _) k
      have hsw := hbw.size
      have Hac := Lib.hid hac2; have Ob := Lib.hid O
      clear hv hac2 O
      go_wp2_with (first
        | (go_at_call 22; refine Ob.out.mono ?_; rintro e w2 ⟨rfl, k, rfl⟩)
        | (at_builtin; refine wpList_append_own _ rfl _ _ 23 rfl w.heap.size 3 i0 (.int .i64 0) 1 8 Tryd.underlying23 hi hz0 hz1 hz2 rfl (by decide) _ _ _ rfl ((own_below hown (drewN_below (Below.refl _ _) k)).alloc _) ⟨wr.heap.size, 0, none⟩ 1 1 [.int .i64 x] rfl rfl ?c1 ?c2 ?c3 ?c4 ?c5 ?_)
        | fail)
      case c1 =>
        intro j u hj
        match j, hj with
        | 0, hj => simp at hj; subst hj; exact cell_k wr k x
      case c2 => intro u hu; simp at hu; subst hu; rfl
      case c3 => unfold maxLen; omega
      case c4 => omega
      case c5 => have := (hbk k).size; have := (below_alloc (wr.drewN k) (Obj.cells #[Value.int IntKind.i64 x] 3)).size; omega
      intro v' w3 hown3 hgrow3 _
      have hbl3 : Below w.heap.size w w3 := by
        have h1 : Below w.heap.size w (wr.drewN k) := hbw.trans ((hbk k).mono hbw.size)
        have h2 : Below w.heap.size w ((wr.drewN k).alloc (.cells #[.int .i64 x] 3)) := h1.alloc h1.size _
        exact h2.grown hgrow3 (by have := h1.size; simp; omega) (fun k hk => by have := (hown.lt k hk).1; exact this)
      have hown3' : w3.ownsRow w.heap.size 3 1 v' (acc ++ [x]).length ((acc ++ [x]).map (Value.int .i64)) := by
        have := hown3
        rw [iBuild] at this
        simpa using this
      clear hown3 hgrow3 hown hbw hbk
      go_wp2
      go_roundw
      case rel => exact ⟨t.extract n t.size, acc ++ [x], rfl, by rw [ext_size]; simp; omega, hown3', by rw [List.append_assoc]; exact Hac.out, hbl3⟩
      case measure => simp only [strSize, ext_size]; omega
    · have hac := hI.ac
      rw [valsS_nil t hlt, List.append_nil] at hac
      subst hac
      have hown := hI.own; have hbl := hI.bl
      clear hI
      go_wp2
      go_ret
      exact ⟨_, rfl, hown, hbl⟩
end Go.Proofs.YtecffaidpiadoaaDoor
