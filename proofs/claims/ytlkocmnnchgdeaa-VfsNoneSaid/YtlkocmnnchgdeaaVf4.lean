/-
  vfs: New.
-/
import Derived.Test.YtlkocmnnchgdeaaVf3
import Derived.Deep.RegionLaw
import Derived.Lib.SliceRun
set_option linter.unusedVariables false
set_option linter.unusedSimpArgs false
namespace Go.Proofs.Ytlkocmnnchgdeaa
set_option maxRecDepth 100000
open Go.RowKit
theorem bytesCr : ∃ b, (Try.prog.info? 30).map (fun i => (i.zero, i.size, i.bytes)) = some (some (.agg #[.int .i64 0, .slice none 0 0]), 2, b) ∧ 1 ≤ b ∧ b ≤ 64 := ⟨32, by kernel_rfl, by decide, by decide⟩
theorem bytesU8 : (Try.prog.info? 5).map (fun i => (i.zero, i.size, i.bytes)) = some (some (.int .u8 0), 1, 1) := by kernel_rfl
theorem kR_len (l : List Int) : (kR l).length = l.length := by simp [kR]
theorem kR_one (l : List Int) : ∀ u ∈ kR l, u.oneCell' = true := by
  intro u hu
  obtain ⟨x, _, rfl⟩ := List.mem_map.1 hu
  rfl
theorem own_form {w : World} {B : Nat} {e : TypeId} {s : Nat} {v : Value} {n : Nat} {xs : List Value} (h : w.ownsRow B e s v n xs) : ∃ a c, v = .slice a n c := by
  rcases h.2 with ⟨rfl, h0⟩ | ⟨g, cap, cur, rfl, _⟩
  · exact ⟨none, 0, by rw [h0]⟩
  · exact ⟨_, cap, rfl⟩
/-- An append of bytes, of one crash. -/
theorem wpList_app_u8 {w : World} {ops : Array Oper} {rest : List Oper} {o : Oper} {a : Act} {Q : Exit → Act → World → Prop} (hgd : Region.wanted o (yielded ops a.tmps) = true) (s x : Operand)
    (ho : o.op = .call { callee := .builtin .append, args := #[s, x], argTypes := #[22, 22] }) (base : Nat)
    (v : Value) (hs : a.eval s = v) (hown : w.ownsRow base 5 1 v 0 []) (ad : Addr) (n c : Nat) (l : List Int) (hx : a.eval x = .slice (some ad) n c) (hl : l.length = n) (hnews : ∀ j u, (kR l)[j]? = some u → w.cell? (ad.add j) = some u)
    (hlen : n ≤ 140737488355328) (hbase : base ≤ w.heap.size)
    (h : ∀ ad' c' w', w'.ownsRow base 5 1 (.slice ad' n c') n (kR l) → w.grownBy w' v.ownBlock → wpList Try.prog ops Q rest (a.put o.dst (.slice ad' n c')) w') : wpList Try.prog ops Q (o :: rest) a w := by
  obtain ⟨i0, hi, hz0, hz1, hz2⟩ := info_parts bytesU8
  refine wpList_step fun K hK => ?_
  rw [if_pos hgd]
  refine wp_append_own w s x 22 ho base 5 i0 _ 1 1 Try.underlying22 hi hz0 hz1 hz2 rfl (by decide) v 0 _ hs hown ad n c (kR l) hx (by rw [kR_len, hl, Nat.mul_one]) hnews (kR_one l) (by unfold maxLen; omega) (by omega) hbase (fun v' w' a1 a2 _ => ?_)
  rw [Nat.zero_add, List.nil_append] at a1
  obtain ⟨ad', c', rfl⟩ := own_form a1
  exact hK _ _ (h ad' c' w' a1 a2)
theorem step_app_cr {w : World} {ops : Array Oper} {o : Oper} {a : Act} {K : Act → World → Prop} {Q : Exit → Act → World → Prop} {E : Prop} (hgd : Region.wanted o (yielded ops a.tmps) = true) (s x : Operand)
    (ho : o.op = .call { callee := .builtin .append, args := #[s, x], argTypes := #[40, 40] }) (base : Nat)
    (v : Value) (hs : a.eval s = v) (hown : w.ownsRow base 30 2 v 0 []) (g c : Nat) (k : Int) (ka : Option Addr) (kn kc : Nat) (hx : a.eval x = .slice (some ⟨g, 0, none⟩) 1 c) (hg : w.heap[g]? = some (.cells #[.int .i64 k, .slice ka kn kc] 30 (0, 0))) (hbase : base ≤ w.heap.size)
    (h : ∀ ad' c' w', w'.ownsRow base 30 2 (.slice ad' 1 c') 1 [.int .i64 k, .slice ka kn kc] → w.grownBy w' v.ownBlock → K (a.put o.dst (.slice ad' 1 c')) w') :
    if Region.wanted o (yielded ops a.tmps) = true then Oper.wp Try.prog o a w K Q else E := by
  obtain ⟨bb, hbb, hb1, hb2⟩ := bytesCr
  obtain ⟨i0, hi, hz0, hz1, hz2⟩ := info_parts hbb
  rw [if_pos hgd]
  refine wp_append_own w s x 40 ho base 30 i0 _ 2 bb Try.underlying40 hi hz0 hz1 hz2 rfl (by decide) v 0 _ hs hown ⟨g, 0, none⟩ 1 c [.int .i64 k, .slice ka kn kc] hx rfl (fun j u hj => ?_) (fun u hu => ?_) (by unfold maxLen; omega) (by omega) hbase (fun v' w' a1 a2 _ => ?_)
  · have hadd : (⟨g, 0, none⟩ : Addr).add j = ⟨g, j, none⟩ := by unfold Addr.add; split <;> simp_all
    rw [hadd, cell_of_row w g j _ _ _ hg]
    rw [← hj]; exact (Array.getElem?_toList).symm
  · simp at hu
    rcases hu with rfl | rfl <;> rfl
  · rw [Nat.zero_add, List.nil_append] at a1
    obtain ⟨ad', c', rfl⟩ := own_form a1
    exact h ad' c' w' a1 a2
theorem u8_new (w : World) : (w.alloc (.cells #[] 5)).ownsRow w.heap.size 5 1 (.slice (some ⟨w.heap.size, 0, none⟩) 0 0) 0 [] :=
  ⟨rfl, .inr ⟨w.heap.size, 0, #[], rfl, Nat.le_refl _, heap_alloc_new _ _, Nat.le_refl _, by decide, rfl, rfl⟩⟩
theorem u8_news {w : World} {a : Addr} {l : List Int} (h : U8sIn w (some a) l) : ∀ j u, (kR l)[j]? = some u → w.cell? (a.add j) = some u := by
  intro j u hj
  have hjl : j < l.length := by rw [← kR_len]; exact (List.getElem?_eq_some_iff.1 hj).1
  obtain ⟨b, off, e, _, h1, _⟩ := h j hjl
  injection e with e
  subst e
  have hadd : (⟨b, off, none⟩ : Addr).add j = ⟨b, off + j, none⟩ := by unfold Addr.add; split <;> simp_all
  rw [hadd, h1]
  rw [← hj]
  unfold kR
  rw [List.getElem?_map, List.getElem?_eq_getElem hjl, List.getD, List.getElem?_eq_getElem hjl]
  rfl
theorem U8sIn.below {w w' : World} {a : Option Addr} {l : List Int} (h : U8sIn w a l) (hb : Below w.heap.size w w') : U8sIn w' a l := fun i hi => by
  obtain ⟨b, off, e, h1, h2, h3⟩ := h.at hb i hi
  exact ⟨b, off, e, Nat.lt_of_lt_of_le h1 hb.size, h2, h3⟩
set_option maxHeartbeats 2000000 in
theorem vclone_any (l : List Int) (a : Option Addr) (n c : Nat) (w : World) (hn : l.length = n) (hl : n ≤ 140737488355328) (hs : U8sIn w a l) :
    Calls Try.prog 17 #[.slice a n c] w fun e w' => ∃ b d, e = .returned (.slice b n d) ∧ w'.ownsRow w.heap.size 5 1 (.slice b n d) n (kR l) ∧ Below w.heap.size w w' := by
  have q := fun (w : World) (a : Option Addr) (n c n' c' : Nat) => Lib.run_eql_slice_nil (P := Try.prog) w 22 5 a n c n' c' Try.underlying22
  cases a with
  | none =>
    have hl0 : l = [] := by
      cases l with
      | nil => rfl
      | cons x l => obtain ⟨_, _, e, _⟩ := hs 0 (by simp); cases e
    subst hl0
    obtain rfl : 0 = n := hn
    clear hs
    go_enter Try.func17, Try.ntmps17
    go_wp2
    go_ret
    exact ⟨none, 0, rfl, World.ownsRow_nil _ _ _ _, Below.refl _ _⟩
  | some ad =>
    have N0 := below_alloc w (.cells #[] 5)
    have H0 := Lib.hid (u8_new w)
    have HA := Lib.hid (hs.below N0)
    have HN := Lib.hid hn
    have HB0 := Lib.hid N0
    clear hs hn N0
    obtain ⟨B, hB⟩ : ∃ B, w.heap.size = B := ⟨_, rfl⟩
    have HBq := Lib.hid hB
    rw [hB] at H0
    obtain ⟨W, hW⟩ : ∃ W, w.alloc (.cells #[] 5) = W := ⟨_, rfl⟩
    rw [hW] at H0 HA HB0
    go_enter Try.func17, Try.ntmps17
    go_wp2_with (at_builtin; refine wpList_app_u8 rfl _ _ rfl B _ rfl H0.out ad n c l rfl HN.out (u8_news HA.out) ?g3 ?g4 ?_)
    case g3 => omega
    case g4 => have := HB0.out.size; have := HBq.out; omega
    intro ad5 c5 w5 o5 g5
    have N5 := Lib.hid (HB0.out.grown g5 HB0.out.size (fun j hj => by simp [Value.ownBlock] at hj; have := HBq.out; omega))
    have HS := Lib.hid (show w5.ownsRow w.heap.size 5 1 (.slice ad5 n c5) n (kR l) by rw [HBq.out]; exact o5)
    clear o5 g5
    go_wp2
    go_ret
    exact ⟨ad5, c5, rfl, HS.out, N5.out⟩
end Go.Proofs.Ytlkocmnnchgdeaa
