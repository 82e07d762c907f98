/-
  Rows of signs of a call's own; an append of signs that lie anywhere; parts of a slice of signs.
-/
import Derived.Test.YtfmcgdjjcdlmeaaMk
import Derived.Laws.AppendOwnNone
set_option linter.unusedVariables false
set_option linter.unusedSimpArgs false
namespace Go.Proofs.Ytfmcgdjjcdlmeaa
set_option maxRecDepth 100000
open Go.RowKit
theorem apR_app (a b : List (Int × Int)) : (sRow (a ++ b)).toList = (sRow a).toList ++ (sRow b).toList := by simp [sRow]
theorem apR_one (l : List (Int × Int)) : ∀ u ∈ (sRow l).toList, u.oneCell' = true := by
  intro u hu
  simp only [sRow, List.toList_toArray, List.mem_flatMap] at hu
  obtain ⟨p, _, hp⟩ := hu
  simp at hp
  rcases hp with rfl | rfl <;> rfl
theorem apR_len (l : List (Int × Int)) : (sRow l).toList.length = l.length * 2 := by
  simp only [sRow, List.toList_toArray]
  induction l with
  | nil => rfl
  | cons x l ih => simp only [List.flatMap_cons, List.length_append, List.length_cons, List.length_nil, ih]; omega
theorem apR_news {w : World} {ad : Addr} {l : List (Int × Int)} (h : Signs w (some ad) l) : ∀ j u, (sRow l).toList[j]? = some u → w.cell? (ad.add j) = some u := by
  intro j u hj
  have hlen := apR_len l
  have hj2 : j < l.length * 2 := by
    rw [← hlen]
    exact (List.getElem?_eq_some_iff.1 hj).1
  obtain ⟨b, off, e, _, h1, h2⟩ := h (j / 2) (by omega)
  injection e with e
  subst e
  have hadd : (⟨b, off, none⟩ : Addr).add j = ⟨b, off + j, none⟩ := by unfold Addr.add; split <;> simp_all
  have hs := sRow_at l (j / 2) (by omega)
  have hj' : (l.flatMap fun p => [Value.int .i64 p.1, Value.int .i64 p.2])[j]? = some u := hj
  rw [hadd]
  rcases Nat.mod_two_eq_zero_or_one j with hm | hm
  · have e : j / 2 * 2 = j := by omega
    rw [e] at hs h1
    rw [hs.1] at hj'
    rw [h1]; exact hj'
  · have e : j / 2 * 2 + 1 = j := by omega
    rw [e] at hs
    rw [show off + j / 2 * 2 + 1 = off + j by omega] at h2
    rw [hs.2] at hj'
    rw [h2]; exact hj'
/-- A row of signs of the call's own. -/
def OwS (w : World) (B : Nat) (v : Value) (L : List (Int × Int)) : Prop := w.ownsRow B 43 2 v L.length (sRow L).toList
/-- A slice of signs, its room, and where its block is. -/
structure SlS (S : Nat → Prop) (w : World) (a : Option Addr) (L : List (Int × Int)) (c : Nat) : Prop where
  s : Signs w a L
  le : L.length ≤ c
  nl : a = none → c = 0
  st : ∀ ad, a = some ad → L ≠ [] → S ad.block
theorem SlS.mono {S T : Nat → Prop} {w : World} {a : Option Addr} {L : List (Int × Int)} {c : Nat} (h : SlS S w a L c) (hT : ∀ k, S k → T k) : SlS T w a L c := ⟨h.s, h.le, h.nl, fun ad e hn => hT _ (h.st ad e hn)⟩
theorem SlS.keep {S : Nat → Prop} {w w' : World} {a : Option Addr} {L : List (Int × Int)} {c : Nat} (h : SlS S w a L c) (hs : w.heap.size ≤ w'.heap.size) (hk : ∀ k, S k → w'.heap[k]? = w.heap[k]?) : SlS S w' a L c := by
  refine ⟨fun i hi => ?_, h.le, h.nl, h.st⟩
  obtain ⟨b, off, e, hb, h1, h2⟩ := h.s i hi
  have hS := h.st _ e (fun h0 => by rw [h0] at hi; simp at hi)
  have hkb : w'.heap[b]? = w.heap[b]? := hk b hS
  refine ⟨b, off, e, Nat.lt_of_lt_of_le hb hs, ?_, ?_⟩
  · rw [← h1]; unfold World.cell?; rw [hkb]
  · rw [← h2]; unfold World.cell?; rw [hkb]
theorem SlS.below {S : Nat → Prop} {w w' : World} {a : Option Addr} {L : List (Int × Int)} {c : Nat} (h : SlS S w a L c) (hb : Below w.heap.size w w') : SlS S w' a L c := ⟨h.s.below hb, h.le, h.nl, h.st⟩
/-- A part of a slice. -/
theorem SlS.sub {S : Nat → Prop} {w : World} {a : Option Addr} {L : List (Int × Int)} {c : Nat} (h : SlS S w a L c) (f t : Nat) (hf : f ≤ t) (ht : t ≤ L.length) : SlS S w (if c = f then a else a.map (·.add (f * 2))) ((L.drop f).take (t - f)) (c - f) ∧ ((L.drop f).take (t - f)).length = t - f := by
  have hlen : ((L.drop f).take (t - f)).length = t - f := by rw [List.length_take, List.length_drop]; omega
  have hle := h.le
  refine ⟨⟨fun i hi => ?_, by omega, fun h0 => ?_, fun ad e hn => ?_⟩, hlen⟩
  · rw [hlen] at hi
    obtain ⟨b, off, e, hb, h1, h2⟩ := h.s (f + i) (by omega)
    have hg : ((L.drop f).take (t - f)).getD i (0, 0) = L.getD (f + i) (0, 0) := by
      rw [List.getD, List.getElem?_take, if_pos hi, List.getElem?_drop, List.getD]
    rw [if_neg (by omega), e, hg]
    refine ⟨b, off + f * 2, ?_, hb, ?_, ?_⟩
    · have hadd : (⟨b, off, none⟩ : Addr).add (f * 2) = ⟨b, off + f * 2, none⟩ := by unfold Addr.add; split <;> simp_all
      simp only [Option.map_some, hadd]
    · rw [show off + f * 2 + i * 2 = off + (f + i) * 2 by omega]; exact h1
    · rw [show off + f * 2 + i * 2 + 1 = off + (f + i) * 2 + 1 by omega]; exact h2
  · have : a = none := by
      by_cases hc : c = f
      · rw [if_pos hc] at h0; exact h0
      · rw [if_neg hc] at h0; cases a with
        | none => rfl
        | some x => cases h0
    have := h.nl this; omega
  · have hpos : 0 < ((L.drop f).take (t - f)).length := List.length_pos_iff.2 hn
    rw [hlen] at hpos
    have hL : L ≠ [] := fun h0 => by rw [h0] at ht; simp at ht; omega
    rw [if_neg (by omega)] at e
    cases a with
    | none => cases e
    | some x =>
      have := h.st x rfl hL
      simp only [Option.map_some, Option.some.injEq] at e
      rw [← e]
      unfold Addr.add; split <;> exact this
theorem elemSg : Try.prog.elem 28 = 43 := by kernel_rfl
theorem sizeSg (w : World) : (sizeOf 43).run Try.prog w = .ok 2 w := by kernel_rfl
/-- Slices of slices of signs. -/
theorem run_cutH (w : World) (a : Option Addr) (n c t : Nat) (h : t ≤ c) : (Instr.slice 28 (.slice a n c) none (some (.int .i64 (t : Int))) none).run Try.prog w = .ok (.slice (if c = 0 then a else a.map (·.add (0 * 2))) t c) w := by
  rw [run_slice_h (P := Try.prog) w 28 a n c (by kernel_rfl) .i64 (t : Int) (by omega) (by omega), elemSg, sizeSg]
  rfl
theorem run_cutL (w : World) (a : Option Addr) (n c f : Nat) (h : f ≤ n) : (Instr.slice 28 (.slice a n c) (some (.int .i64 (f : Int))) none none).run Try.prog w = .ok (.slice (if c = f then a else a.map (·.add (f * 2))) (n - f) (c - f)) w := by
  rw [run_slice_l (P := Try.prog) w 28 a n c (by kernel_rfl) .i64 (f : Int) (by omega) (by omega), elemSg, sizeSg]
  rfl
theorem run_cutLH (w : World) (a : Option Addr) (n c f t : Nat) (h : f ≤ t) (h2 : t ≤ c) : (Instr.slice 28 (.slice a n c) (some (.int .i64 (f : Int))) (some (.int .i64 (t : Int))) none).run Try.prog w = .ok (.slice (if c = f then a else a.map (·.add (f * 2))) (t - f) (c - f)) w := by
  rw [run_slice_lh (P := Try.prog) w 28 a n c (by kernel_rfl) .i64 .i64 (f : Int) (t : Int) (by omega) (by omega) (by omega), elemSg, sizeSg]
  rfl
theorem ows_new (w : World) : OwS (w.alloc (.cells #[] 43)) w.heap.size (.slice (some ⟨w.heap.size, 0, none⟩) 0 0) [] :=
  ⟨rfl, .inr ⟨w.heap.size, 0, #[], rfl, Nat.le_refl _, heap_alloc_new _ _, Nat.le_refl _, by decide, rfl, rfl⟩⟩
theorem OwS.sl {w : World} {B : Nat} {v : Value} {L : List (Int × Int)} (h : OwS w B v L) : ∃ a c, v = .slice a L.length c ∧ SlS (fun k => B ≤ k ∧ k < w.heap.size) w a L c := by
  unfold OwS at h
  rcases h.2 with ⟨rfl, h0⟩ | ⟨g, cap, cur, rfl, hB, hg, hle, _⟩
  · exact ⟨none, 0, by rw [h0], fun j hj => by omega, by omega, fun _ => rfl, fun ad e => by cases e⟩
  · refine ⟨_, cap, rfl, fun j hj => ⟨g, 0, rfl, blk_lt hg, ?_, ?_⟩, hle, fun e => (by cases e), fun ad e _ => (by cases e; exact ⟨hB, blk_lt hg⟩)⟩
    · have := sRow_at L j hj
      rw [Nat.zero_add, h.cellAt (j * 2) (by omega)]; exact this.1
    · have := sRow_at L j hj
      rw [Nat.zero_add, h.cellAt (j * 2 + 1) (by omega)]; exact this.2
/-- A row of the call's own is a slice. -/
theorem OwS.form {w : World} {B : Nat} {v : Value} {L : List (Int × Int)} {n : Nat} (h : OwS w B v L) (hn : L.length = n) : ∃ a c, v = .slice a n c := by
  obtain ⟨a, c, e, _⟩ := h.sl
  exact ⟨a, c, by rw [e, hn]⟩
/-- An append of signs to a row of the call's own. -/
theorem step_app_signs {w : World} {ops : Array Oper} {o : Oper} {a : Act} {K : Act → World → Prop} {Q : Exit → Act → World → Prop} {E : Prop} (hgd : Region.wanted o (yielded ops a.tmps) = true) (s x : Operand)
    (ho : o.op = .call { callee := .builtin .append, args := #[s, x], argTypes := #[28, 28] }) (base : Nat)
    (v : Value) (np : Nat) (p : List (Int × Int)) (hs : a.eval s = v) (hp : p.length = np) (hown : OwS w base v p) (ad : Option Addr) (n c : Nat) (l : List (Int × Int)) (hx : a.eval x = .slice ad n c) (hl : l.length = n) (hsg : Signs w ad l) (hnl : ad = none → c = 0)
    (hlen : np + n ≤ 1000000) (hbase : base ≤ w.heap.size)
    (h : ∀ ad' c' w', OwS w' base (.slice ad' (np + n) c') (p ++ l) → w.grownBy w' v.ownBlock → K (a.put o.dst (.slice ad' (np + n) c')) w') :
    if Region.wanted o (yielded ops a.tmps) = true then Oper.wp Try.prog o a w K Q else E := by
  obtain ⟨i0, hi, hz0, hz1, hz2⟩ := info_parts infoSign
  subst hl; subst hp
  rw [if_pos hgd]
  have hfin : ∀ v' w', OwS w' base v' (p ++ l) → w.grownBy w' v.ownBlock → K (a.put o.dst v') w' := by
    intro v' w' h1 h2
    obtain ⟨ad', c', rfl⟩ := h1.form (n := p.length + l.length) (by rw [List.length_append])
    exact h ad' c' w' h1 h2
  cases ad with
  | none =>
    obtain rfl := hnl rfl
    have hnil : l = [] := by
      cases l with
      | nil => rfl
      | cons x l => obtain ⟨_, _, e, _⟩ := hsg 0 (by simp); cases e
    subst hnil
    have hrun := run_append_owned_none (P := Try.prog) (w := w) base 28 o.type 43 i0 2 Try.underlying28 hi v p.length _ hown
    have h' := hfin v w (by rw [List.append_nil]; exact hown) ⟨rfl, rfl, rfl, Nat.le_refl _, fun _ _ _ => rfl⟩
    unfold Oper.wp
    simp only [List.length_nil] at hx
    simp [execOp, ho, resolve, invoke, builtin, hs, hx, hrun, Result.andThen]
    exact h'
  | some ad =>
    refine wp_append_own w s x 28 ho base 43 i0 _ 2 16 Try.underlying28 hi hz0 hz1 hz2 rfl (by decide) v p.length _ hs hown ad l.length c (sRow l).toList hx (apR_len l) (apR_news hsg) (apR_one l) (by unfold maxLen; omega) (by omega) hbase (fun v' w' a1 a2 _ => hfin v' w' ?_ a2)
    unfold OwS
    rw [List.length_append, apR_app]
    exact a1
theorem wpList_app_signs {w : World} {ops : Array Oper} {rest : List Oper} {o : Oper} {a : Act} {Q : Exit → Act → World → Prop} (hgd : Region.wanted o (yielded ops a.tmps) = true) (s x : Operand)
    (ho : o.op = .call { callee := .builtin .append, args := #[s, x], argTypes := #[28, 28] }) (base : Nat)
    (v : Value) (np : Nat) (p : List (Int × Int)) (hs : a.eval s = v) (hp : p.length = np) (hown : OwS w base v p) (ad : Option Addr) (n c : Nat) (l : List (Int × Int)) (hx : a.eval x = .slice ad n c) (hl : l.length = n) (hsg : Signs w ad l) (hnl : ad = none → c = 0)
    (hlen : np + n ≤ 1000000) (hbase : base ≤ w.heap.size)
    (h : ∀ ad' c' w', OwS w' base (.slice ad' (np + n) c') (p ++ l) → w.grownBy w' v.ownBlock → wpList Try.prog ops Q rest (a.put o.dst (.slice ad' (np + n) c')) w') : wpList Try.prog ops Q (o :: rest) a w :=
  wpList_step fun K hK => step_app_signs hgd s x ho base v np p hs hp hown ad n c l hx hl hsg hnl hlen hbase (fun ad' c' w' h1 h2 => hK _ _ (h ad' c' w' h1 h2))
set_option maxHeartbeats 4000000 in
theorem joinS_ref (S : Nat → Prop) (p l : List (Int × Int)) (a b : Option Addr) (c d n m : Nat) (w : World) (hn : p.length = n) (hm : l.length = m) (hp : n ≤ 100000) (hl : m ≤ 100000) (ha : SlS S w a p c) (hb : SlS S w b l d) :
    Calls Try.prog 28 #[.slice a n c, .slice b m d] w fun e w' => ∃ ad c', e = .returned (.slice ad (n + m) c') ∧ OwS w' w.heap.size (.slice ad (n + m) c') (p ++ l) ∧ Below w.heap.size w w' := by
  have N0 := below_alloc w (.cells #[] 43)
  have H0 := Lib.hid (ows_new w)
  have hsz : (w.alloc (.cells #[] 43)).heap.size = w.heap.size + 1 := by simp
  have HA := Lib.hid (ha.below N0)
  have HB := Lib.hid hb
  have HN := Lib.hid hn
  have HM := Lib.hid hm
  clear ha hb hn hm
  generalize hW : w.alloc (.cells #[] 43) = W at *
  go_enter Try.func28, Try.ntmps28
  go_wp2_with (at_builtin; refine wpList_app_signs rfl _ _ rfl w.heap.size _ 0 [] rfl rfl H0.out a n c p rfl HN.out HA.out.s HA.out.nl ?c3 ?c4 ?_)
  case c3 => omega
  case c4 => omega
  intro ad5 c5 w5 hown5 hgrow5
  have N5 := N0.grown hgrow5 (by omega) (fun j hj => by simp [Value.ownBlock] at hj; omega)
  have HB5 := Lib.hid (HB.out.s.below N5)
  have Hown := Lib.hid (show OwS w5 w.heap.size (.slice ad5 n c5) p from hown5)
  have HS5 := Lib.hid N5.size
  clear hown5 hgrow5
  go_wp2_with (at_builtin; refine wpList_app_signs rfl _ _ rfl w.heap.size _ n p rfl HN.out Hown.out b m d l rfl HM.out HB5.out HB.out.nl ?c3 ?c4 ?_)
  case c3 => omega
  case c4 => exact HS5.out
  intro ad6 c6 w6 hown6 hgrow6
  have N6 := N5.grown hgrow6 N5.size (fun j hj => (Hown.out.lt j hj).1)
  have HO := Lib.hid hown6
  clear hown6 hgrow6
  go_wp2
  go_ret
  exact ⟨_, _, rfl, HO.out, N6⟩
end Go.Proofs.Ytfmcgdjjcdlmeaa
