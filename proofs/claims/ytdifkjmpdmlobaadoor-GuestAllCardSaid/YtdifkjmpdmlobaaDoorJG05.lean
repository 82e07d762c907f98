/-
  Joined: U14 Ap Ki0.
-/
import Derived.Test.YtdifkjmpdmlobaaDoorJG03
import Derived.Test.YtdifkjmpdmlobaaDoorJG04
import Derived.Laws.AppendOwnNone
import Derived.Maps.OwnSet
import Derived.Maps.Views
set_option linter.unusedVariables false
set_option linter.unusedSimpArgs false
set_option maxRecDepth 100000
set_option linter.unusedVariables false
set_option linter.unusedSimpArgs false
namespace Go.Proofs.YtdifkjmpdmlobaaDoor
open Go.RowKit
/-- Is a text that is not empty a code point's beginning? -/
def partB (s : ByteArray) : Bool := decide (begS s = s.size) && decide (s.size < sizeB (s.get! 0).toNat)
theorem partB_iff (s : ByteArray) : partB s = true ↔ (begS s = s.size ∧ s.size < sizeB (s.get! 0).toNat) := by unfold partB; rw [Bool.and_eq_true, decide_eq_true_eq, decide_eq_true_eq]
theorem part_cl (n b0 b1 b2 b3 z lo hi : Nat) (hn : 1 ≤ n) (hz : sizeB b0 = z) (h1 : 2 ≤ z) (hm : ∀ c, mayB b0 c 1 = true ↔ lo ≤ c ∧ c ≤ hi) :
    (begB n b0 b1 b2 b3 = n ∧ n < z) ↔ (n < z ∧ (1 < n → lo ≤ b1 ∧ b1 ≤ hi) ∧ (2 < n → 128 ≤ b2 ∧ b2 ≤ 191)) := by
  have h4 : z ≤ 4 := by rw [← hz]; exact sizeB_le b0
  have m1 := hm b1
  have m2 : mayB b0 b2 2 = true ↔ 128 ≤ b2 ∧ b2 ≤ 191 := by rw [mayB_iff]; omega
  subst hz
  by_cases c1 : 1 < n
  · by_cases c2 : mayB b0 b1 1 = true
    · have g1 := m1.1 c2
      by_cases c3 : 2 < n
      · by_cases c5 : 2 < sizeB b0
        · by_cases c4 : mayB b0 b2 2 = true
          · have g2 := m2.1 c4
            by_cases c6 : n < sizeB b0
            · rw [beg3 ⟨by omega, c1, c2⟩ ⟨c5, c3, c4⟩ (fun h => by have := h.1; have := h.2.1; omega)]; omega
            · omega
          · have g2 : ¬ (128 ≤ b2 ∧ b2 ≤ 191) := fun h => c4 (m2.2 h)
            rw [beg2 ⟨by omega, c1, c2⟩ (by simp [c4])]; omega
        · omega
      · by_cases c6 : n < sizeB b0
        · rw [beg2 ⟨by omega, c1, c2⟩ (fun h => by have := h.1; have := h.2.1; omega)]; omega
        · omega
    · have g1 : ¬ (lo ≤ b1 ∧ b1 ≤ hi) := fun h => c2 (m1.2 h)
      rw [beg1 (by simp [c2])]; omega
  · rw [beg1 (fun h => by have := h.2.1; omega)]; omega
theorem may_cl (b0 c : Nat) : mayB b0 c 1 = true ↔ (128 ≤ c ∧ c ≤ 191) ∧ ¬ (b0 = 224 ∧ c < 160 ∨ b0 = 237 ∧ 159 < c ∨ b0 = 240 ∧ c < 144 ∨ b0 = 244 ∧ 143 < c) := by rw [mayB_iff]; omega
theorem cl_cases (b0 : Nat) : (Lib.firstT b0 = 240 ∧ sizeB b0 = 1) ∨ (Lib.firstT b0 = 241 ∧ sizeB b0 = 0)
    ∨ (Lib.firstT b0 = 2 ∧ sizeB b0 = 2 ∧ ∀ c, mayB b0 c 1 = true ↔ 128 ≤ c ∧ c ≤ 191) ∨ (Lib.firstT b0 = 19 ∧ sizeB b0 = 3 ∧ ∀ c, mayB b0 c 1 = true ↔ 160 ≤ c ∧ c ≤ 191)
    ∨ (Lib.firstT b0 = 3 ∧ sizeB b0 = 3 ∧ ∀ c, mayB b0 c 1 = true ↔ 128 ≤ c ∧ c ≤ 191) ∨ (Lib.firstT b0 = 35 ∧ sizeB b0 = 3 ∧ ∀ c, mayB b0 c 1 = true ↔ 128 ≤ c ∧ c ≤ 159)
    ∨ (Lib.firstT b0 = 52 ∧ sizeB b0 = 4 ∧ ∀ c, mayB b0 c 1 = true ↔ 144 ≤ c ∧ c ≤ 191) ∨ (Lib.firstT b0 = 4 ∧ sizeB b0 = 4 ∧ ∀ c, mayB b0 c 1 = true ↔ 128 ≤ c ∧ c ≤ 191)
    ∨ (Lib.firstT b0 = 68 ∧ sizeB b0 = 4 ∧ ∀ c, mayB b0 c 1 = true ↔ 128 ≤ c ∧ c ≤ 143) := by
  have hm := fun c => may_cl b0 c
  rcases (by omega : b0 < 128 ∨ (128 ≤ b0 ∧ b0 < 194) ∨ (194 ≤ b0 ∧ b0 < 224) ∨ b0 = 224 ∨ (225 ≤ b0 ∧ b0 < 237) ∨ b0 = 237 ∨ (238 ≤ b0 ∧ b0 < 240) ∨ b0 = 240 ∨ (241 ≤ b0 ∧ b0 < 244) ∨ b0 = 244 ∨ 245 ≤ b0) with h | h | h | h | h | h | h | h | h | h | h
  · left; unfold Lib.firstT sizeB; rw [if_pos h, if_pos h]; exact ⟨rfl, rfl⟩
  · right; left; unfold Lib.firstT sizeB; simp only [show ¬ b0 < 128 by omega, show b0 < 194 by omega, show ¬ (194 ≤ b0 ∧ b0 ≤ 223) by omega, show ¬ (224 ≤ b0 ∧ b0 ≤ 239) by omega, show ¬ (240 ≤ b0 ∧ b0 ≤ 244) by omega, if_true, if_false]; exact ⟨trivial, trivial⟩
  · right; right; left; refine ⟨?_, ?_, fun c => by rw [hm c]; omega⟩
    · unfold Lib.firstT; simp only [show ¬ b0 < 128 by omega, show ¬ b0 < 194 by omega, show b0 < 224 by omega, if_true, if_false]
    · unfold sizeB; simp only [show ¬ b0 < 128 by omega, show (194 ≤ b0 ∧ b0 ≤ 223) by omega, and_self, if_true, if_false]
  · right; right; right; left; subst h; exact ⟨by decide, by decide, fun c => by rw [hm c]; omega⟩
  · right; right; right; right; left; refine ⟨?_, ?_, fun c => by rw [hm c]; omega⟩
    · unfold Lib.firstT; simp only [show ¬ b0 < 128 by omega, show ¬ b0 < 194 by omega, show ¬ b0 < 224 by omega, show ¬ b0 = 224 by omega, show b0 < 237 by omega, if_true, if_false]
    · unfold sizeB; rw [if_neg (by omega), if_neg (by omega), if_pos (by omega)]
  · right; right; right; right; right; left; subst h; exact ⟨by decide, by decide, fun c => by rw [hm c]; omega⟩
  · right; right; right; right; left; refine ⟨?_, ?_, fun c => by rw [hm c]; omega⟩
    · unfold Lib.firstT; simp only [show ¬ b0 < 128 by omega, show ¬ b0 < 194 by omega, show ¬ b0 < 224 by omega, show ¬ b0 = 224 by omega, show ¬ b0 < 237 by omega, show ¬ b0 = 237 by omega, show b0 < 240 by omega, if_true, if_false]
    · unfold sizeB; rw [if_neg (by omega), if_neg (by omega), if_pos (by omega)]
  · right; right; right; right; right; right; left; subst h; exact ⟨by decide, by decide, fun c => by rw [hm c]; omega⟩
  · right; right; right; right; right; right; right; left; refine ⟨?_, ?_, fun c => by rw [hm c]; omega⟩
    · unfold Lib.firstT; simp only [show ¬ b0 < 128 by omega, show ¬ b0 < 194 by omega, show ¬ b0 < 224 by omega, show ¬ b0 = 224 by omega, show ¬ b0 < 237 by omega, show ¬ b0 = 237 by omega, show ¬ b0 < 240 by omega, show ¬ b0 = 240 by omega, show b0 < 244 by omega, if_true, if_false]
    · unfold sizeB; rw [if_neg (by omega), if_neg (by omega), if_neg (by omega), if_pos (by omega)]
  · right; right; right; right; right; right; right; right; subst h; exact ⟨by decide, by decide, fun c => by rw [hm c]; omega⟩
  · right; left; unfold Lib.firstT sizeB; simp only [show ¬ b0 < 128 by omega, show ¬ b0 < 194 by omega, show ¬ b0 < 224 by omega, show ¬ b0 = 224 by omega, show ¬ b0 < 237 by omega, show ¬ b0 = 237 by omega, show ¬ b0 < 240 by omega, show ¬ b0 = 240 by omega, show ¬ b0 < 244 by omega, show ¬ b0 = 244 by omega, show ¬ (194 ≤ b0 ∧ b0 ≤ 223) by omega, show ¬ (224 ≤ b0 ∧ b0 ≤ 239) by omega, show ¬ (240 ≤ b0 ∧ b0 ≤ 244) by omega, if_true, if_false]; exact ⟨trivial, trivial⟩
theorem ret_nn {a b : Bool} (h : b = !a) : Ending.returned (.bool b) = .returned (.bool (!a)) := by rw [h]
end Go.Proofs.YtdifkjmpdmlobaaDoor
set_option linter.unusedVariables false
set_option linter.unusedSimpArgs false
namespace Go.Proofs.YtdifkjmpdmlobaaDoor
open Go.RowKit
theorem apR_app (a b : List (Int × Int)) : (sRow (a ++ b)).toList = (sRow a).toList ++ (sRow b).toList := by simp [sRow]
theorem apR_one (l : List (Int × Int)) : ∀ u ∈ (sRow l).toList, u.oneCell' = true := by
  intro u hu
  simp only [sRow, List.toList_toArray, List.mem_flatMap] at hu
  obtain ⟨p, _, hp⟩ := hu
  simp at hp
  rcases hp with rfl | rfl <;> rfl
theorem apR_len (l : List (Int × Int)) : (sRow l).toList.length = l.length * 2 := by
  simp only [sRow, List.toList_toArray]
  induction l with
  | nil => rfl
  | cons x l ih => simp only [List.flatMap_cons, List.length_append, List.length_cons, List.length_nil, ih]; omega
theorem apR_news {w : World} {ad : Addr} {l : List (Int × Int)} (h : Signs w (some ad) l) : ∀ j u, (sRow l).toList[j]? = some u → w.cell? (ad.add j) = some u := by
  intro j u hj
  have hlen := apR_len l
  have hj2 : j < l.length * 2 := by
    rw [← hlen]
    exact (List.getElem?_eq_some_iff.1 hj).1
  obtain ⟨b, off, e, _, h1, h2⟩ := h (j / 2) (by omega)
  injection e with e
  subst e
  have hadd : (⟨b, off, none⟩ : Addr).add j = ⟨b, off + j, none⟩ := by unfold Addr.add; split <;> simp_all
  have hs := sRow_at l (j / 2) (by omega)
  have hj' : (l.flatMap fun p => [Value.int .i64 p.1, Value.int .i64 p.2])[j]? = some u := hj
  rw [hadd]
  rcases Nat.mod_two_eq_zero_or_one j with hm | hm
  · have e : j / 2 * 2 = j := by omega
    rw [e] at hs h1
    rw [hs.1] at hj'
    rw [h1]; exact hj'
  · have e : j / 2 * 2 + 1 = j := by omega
    rw [e] at hs
    rw [show off + j / 2 * 2 + 1 = off + j by omega] at h2
    rw [hs.2] at hj'
    rw [h2]; exact hj'
/-- A row of signs of the call's own. -/
def OwS (w : World) (B : Nat) (v : Value) (L : List (Int × Int)) : Prop := w.ownsRow B 89 2 v L.length (sRow L).toList
/-- A slice of signs, its room, and where its block is. -/
structure SlS (S : Nat → Prop) (w : World) (a : Option Addr) (L : List (Int × Int)) (c : Nat) : Prop where
  s : Signs w a L
  le : L.length ≤ c
  nl : a = none → c = 0
  st : ∀ ad, a = some ad → L ≠ [] → S ad.block
theorem SlS.mono {S T : Nat → Prop} {w : World} {a : Option Addr} {L : List (Int × Int)} {c : Nat} (h : SlS S w a L c) (hT : ∀ k, S k → T k) : SlS T w a L c := ⟨h.s, h.le, h.nl, fun ad e hn => hT _ (h.st ad e hn)⟩
theorem SlS.keep {S : Nat → Prop} {w w' : World} {a : Option Addr} {L : List (Int × Int)} {c : Nat} (h : SlS S w a L c) (hs : w.heap.size ≤ w'.heap.size) (hk : ∀ k, S k → w'.heap[k]? = w.heap[k]?) : SlS S w' a L c := by
  refine ⟨fun i hi => ?_, h.le, h.nl, h.st⟩
  obtain ⟨b, off, e, hb, h1, h2⟩ := h.s i hi
  have hS := h.st _ e (fun h0 => by rw [h0] at hi; simp at hi)
  have hkb : w'.heap[b]? = w.heap[b]? := hk b hS
  refine ⟨b, off, e, Nat.lt_of_lt_of_le hb hs, ?_, ?_⟩
  · rw [← h1]; unfold World.cell?; rw [hkb]
  · rw [← h2]; unfold World.cell?; rw [hkb]
theorem SlS.below {S : Nat → Prop} {w w' : World} {a : Option Addr} {L : List (Int × Int)} {c : Nat} (h : SlS S w a L c) (hb : Below w.heap.size w w') : SlS S w' a L c := ⟨h.s.below hb, h.le, h.nl, h.st⟩
/-- A part of a slice. -/
theorem SlS.sub {S : Nat → Prop} {w : World} {a : Option Addr} {L : List (Int × Int)} {c : Nat} (h : SlS S w a L c) (f t : Nat) (hf : f ≤ t) (ht : t ≤ L.length) : SlS S w (if c = f then a else a.map (·.add (f * 2))) ((L.drop f).take (t - f)) (c - f) ∧ ((L.drop f).take (t - f)).length = t - f := by
  have hlen : ((L.drop f).take (t - f)).length = t - f := by rw [List.length_take, List.length_drop]; omega
  have hle := h.le
  refine ⟨⟨fun i hi => ?_, by omega, fun h0 => ?_, fun ad e hn => ?_⟩, hlen⟩
  · rw [hlen] at hi
    obtain ⟨b, off, e, hb, h1, h2⟩ := h.s (f + i) (by omega)
    have hg : ((L.drop f).take (t - f)).getD i (0, 0) = L.getD (f + i) (0, 0) := by
      rw [List.getD, List.getElem?_take, if_pos hi, List.getElem?_drop, List.getD]
    rw [if_neg (by omega), e, hg]
    refine ⟨b, off + f * 2, ?_, hb, ?_, ?_⟩
    · have hadd : (⟨b, off, none⟩ : Addr).add (f * 2) = ⟨b, off + f * 2, none⟩ := by unfold Addr.add; split <;> simp_all
      simp only [Option.map_some, hadd]
    · rw [show off + f * 2 + i * 2 = off + (f + i) * 2 by omega]; exact h1
    · rw [show off + f * 2 + i * 2 + 1 = off + (f + i) * 2 + 1 by omega]; exact h2
  · have : a = none := by
      by_cases hc : c = f
      · rw [if_pos hc] at h0; exact h0
      · rw [if_neg hc] at h0; cases a with
        | none => rfl
        | some x => cases h0
    have := h.nl this; omega
  · have hpos : 0 < ((L.drop f).take (t - f)).length := List.length_pos_iff.2 hn
    rw [hlen] at hpos
    have hL : L ≠ [] := fun h0 => by rw [h0] at ht; simp at ht; omega
    rw [if_neg (by omega)] at e
    cases a with
    | none => cases e
    | some x =>
      have := h.st x rfl hL
      simp only [Option.map_some, Option.some.injEq] at e
      rw [← e]
      unfold Addr.add; split <;> exact this
theorem elemSg : Tryd.prog.elem 28 = 89 := by kernel_rfl
theorem sizeSg (w : World) : (sizeOf 89).run Tryd.prog w = .ok 2 w := by kernel_rfl
/-- Slices of slices of signs. -/
theorem run_cutH (w : World) (a : Option Addr) (n c t : Nat) (h : t ≤ c) : (Instr.slice 28 (.slice a n c) none (some (.int .i64 (t : Int))) none).run Tryd.prog w = .ok (.slice (if c = 0 then a else a.map (·.add (0 * 2))) t c) w := by
  rw [run_slice_h (P := Tryd.prog) w 28 a n c (by kernel_rfl) .i64 (t : Int) (by omega) (by omega), elemSg, sizeSg]
  rfl
theorem run_cutL (w : World) (a : Option Addr) (n c f : Nat) (h : f ≤ n) : (Instr.slice 28 (.slice a n c) (some (.int .i64 (f : Int))) none none).run Tryd.prog w = .ok (.slice (if c = f then a else a.map (·.add (f * 2))) (n - f) (c - f)) w := by
  rw [run_slice_l (P := Tryd.prog) w 28 a n c (by kernel_rfl) .i64 (f : Int) (by omega) (by omega), elemSg, sizeSg]
  rfl
theorem run_cutLH (w : World) (a : Option Addr) (n c f t : Nat) (h : f ≤ t) (h2 : t ≤ c) : (Instr.slice 28 (.slice a n c) (some (.int .i64 (f : Int))) (some (.int .i64 (t : Int))) none).run Tryd.prog w = .ok (.slice (if c = f then a else a.map (·.add (f * 2))) (t - f) (c - f)) w := by
  rw [run_slice_lh (P := Tryd.prog) w 28 a n c (by kernel_rfl) .i64 .i64 (f : Int) (t : Int) (by omega) (by omega) (by omega), elemSg, sizeSg]
  rfl
theorem ows_new (w : World) : OwS (w.alloc (.cells #[] 89)) w.heap.size (.slice (some ⟨w.heap.size, 0, none⟩) 0 0) [] :=
  ⟨rfl, .inr ⟨w.heap.size, 0, #[], rfl, Nat.le_refl _, heap_alloc_new _ _, Nat.le_refl _, by decide, rfl, rfl⟩⟩
theorem OwS.sl {w : World} {B : Nat} {v : Value} {L : List (Int × Int)} (h : OwS w B v L) : ∃ a c, v = .slice a L.length c ∧ SlS (fun k => B ≤ k ∧ k < w.heap.size) w a L c := by
  unfold OwS at h
  rcases h.2 with ⟨rfl, h0⟩ | ⟨g, cap, cur, rfl, hB, hg, hle, _⟩
  · exact ⟨none, 0, by rw [h0], fun j hj => by omega, by omega, fun _ => rfl, fun ad e => by cases e⟩
  · refine ⟨_, cap, rfl, fun j hj => ⟨g, 0, rfl, blk_lt hg, ?_, ?_⟩, hle, fun e => (by cases e), fun ad e _ => (by cases e; exact ⟨hB, blk_lt hg⟩)⟩
    · have := sRow_at L j hj
      rw [Nat.zero_add, h.cellAt (j * 2) (by omega)]; exact this.1
    · have := sRow_at L j hj
      rw [Nat.zero_add, h.cellAt (j * 2 + 1) (by omega)]; exact this.2
/-- A row of the call's own is a slice. -/
theorem OwS.form {w : World} {B : Nat} {v : Value} {L : List (Int × Int)} {n : Nat} (h : OwS w B v L) (hn : L.length = n) : ∃ a c, v = .slice a n c := by
  obtain ⟨a, c, e, _⟩ := h.sl
  exact ⟨a, c, by rw [e, hn]⟩
/-- An append of signs to a row of the call's own. -/
theorem step_app_signs {w : World} {ops : Array Oper} {o : Oper} {a : Act} {K : Act → World → Prop} {Q : Exit → Act → World → Prop} {E : Prop} (hgd : Region.wanted o (yielded ops a.tmps) = true) (s x : Operand)
    (ho : o.op = .call { callee := .builtin .append, args := #[s, x], argTypes := #[28, 28] }) (base : Nat)
    (v : Value) (np : Nat) (p : List (Int × Int)) (hs : a.eval s = v) (hp : p.length = np) (hown : OwS w base v p) (ad : Option Addr) (n c : Nat) (l : List (Int × Int)) (hx : a.eval x = .slice ad n c) (hl : l.length = n) (hsg : Signs w ad l) (hnl : ad = none → c = 0)
    (hlen : np + n ≤ 1000000) (hbase : base ≤ w.heap.size)
    (h : ∀ ad' c' w', OwS w' base (.slice ad' (np + n) c') (p ++ l) → w.grownBy w' v.ownBlock → K (a.put o.dst (.slice ad' (np + n) c')) w') :
    if Region.wanted o (yielded ops a.tmps) = true then Oper.wp Tryd.prog o a w K Q else E := by
  obtain ⟨i0, hi, hz0, hz1, hz2⟩ := info_parts infoSign
  subst hl; subst hp
  rw [if_pos hgd]
  have hfin : ∀ v' w', OwS w' base v' (p ++ l) → w.grownBy w' v.ownBlock → K (a.put o.dst v') w' := by
    intro v' w' h1 h2
    obtain ⟨ad', c', rfl⟩ := h1.form (n := p.length + l.length) (by rw [List.length_append])
    exact h ad' c' w' h1 h2
  cases ad with
  | none =>
    obtain rfl := hnl rfl
    have hnil : l = [] := by
      cases l with
      | nil => rfl
      | cons x l => obtain ⟨_, _, e, _⟩ := hsg 0 (by simp); cases e
    subst hnil
    have hrun := run_append_owned_none (P := Tryd.prog) (w := w) base 28 o.type 89 i0 2 Tryd.underlying28 hi v p.length _ hown
    have h' := hfin v w (by rw [List.append_nil]; exact hown) ⟨rfl, rfl, rfl, Nat.le_refl _, fun _ _ _ => rfl⟩
    unfold Oper.wp
    simp only [List.length_nil] at hx
    simp [execOp, ho, resolve, invoke, builtin, hs, hx, hrun, Result.andThen]
    exact h'
  | some ad =>
    refine wp_append_own w s x 28 ho base 89 i0 _ 2 16 Tryd.underlying28 hi hz0 hz1 hz2 rfl (by decide) v p.length _ hs hown ad l.length c (sRow l).toList hx (apR_len l) (apR_news hsg) (apR_one l) (by unfold maxLen; omega) (by omega) hbase (fun v' w' a1 a2 _ => hfin v' w' ?_ a2)
    unfold OwS
    rw [List.length_append, apR_app]
    exact a1
theorem wpList_app_signs {w : World} {ops : Array Oper} {rest : List Oper} {o : Oper} {a : Act} {Q : Exit → Act → World → Prop} (hgd : Region.wanted o (yielded ops a.tmps) = true) (s x : Operand)
    (ho : o.op = .call { callee := .builtin .append, args := #[s, x], argTypes := #[28, 28] }) (base : Nat)
    (v : Value) (np : Nat) (p : List (Int × Int)) (hs : a.eval s = v) (hp : p.length = np) (hown : OwS w base v p) (ad : Option Addr) (n c : Nat) (l : List (Int × Int)) (hx : a.eval x = .slice ad n c) (hl : l.length = n) (hsg : Signs w ad l) (hnl : ad = none → c = 0)
    (hlen : np + n ≤ 1000000) (hbase : base ≤ w.heap.size)
    (h : ∀ ad' c' w', OwS w' base (.slice ad' (np + n) c') (p ++ l) → w.grownBy w' v.ownBlock → wpList Tryd.prog ops Q rest (a.put o.dst (.slice ad' (np + n) c')) w') : wpList Tryd.prog ops Q (o :: rest) a w :=
  wpList_step fun K hK => step_app_signs hgd s x ho base v np p hs hp hown ad n c l hx hl hsg hnl hlen hbase (fun ad' c' w' h1 h2 => hK _ _ (h ad' c' w' h1 h2))
set_option maxHeartbeats 4000000 in
theorem joinS_ref (S : Nat → Prop) (p l : List (Int × Int)) (a b : Option Addr) (c d n m : Nat) (w : World) (hn : p.length = n) (hm : l.length = m) (hp : n ≤ 100000) (hl : m ≤ 100000) (ha : SlS S w a p c) (hb : SlS S w b l d) :
    Calls Tryd.prog 31 #[.slice a n c, .slice b m d] w fun e w' => ∃ ad c', e = .returned (.slice ad (n + m) c') ∧ OwS w' w.heap.size (.slice ad (n + m) c') (p ++ l) ∧ Below w.heap.size w w' := by
  have N0 := below_alloc w (.cells #[] 89)
  have H0 := Lib.hid (ows_new w)
  have hsz : (w.alloc (.cells #[] 89)).heap.size = w.heap.size + 1 := by simp
  have HA := Lib.hid (ha.below N0)
  have HB := Lib.hid hb
  have HN := Lib.hid hn
  have HM := Lib.hid hm
  clear ha hb hn hm
  generalize hW : w.alloc (.cells #[] 89) = W at *
  go_enter Tryd.func31, Tryd.ntmps31
  go_wp2_with (at_builtin; refine wpList_app_signs rfl _ _ rfl w.heap.size _ 0 [] rfl rfl H0.out a n c p rfl HN.out HA.out.s HA.out.nl ?c3 ?c4 ?_)
  case c3 => omega
  case c4 => omega
  intro ad5 c5 w5 hown5 hgrow5
  have N5 := N0.grown hgrow5 (by omega) (fun j hj => by simp [Value.ownBlock] at hj; omega)
  have HB5 := Lib.hid (HB.out.s.below N5)
  have Hown := Lib.hid (show OwS w5 w.heap.size (.slice ad5 n c5) p from hown5)
  have HS5 := Lib.hid N5.size
  clear hown5 hgrow5
  go_wp2_with (at_builtin; refine wpList_app_signs rfl _ _ rfl w.heap.size _ n p rfl HN.out Hown.out b m d l rfl HM.out HB5.out HB.out.nl ?c3 ?c4 ?_)
  case c3 => omega
  case c4 => exact HS5.out
  intro ad6 c6 w6 hown6 hgrow6
  have N6 := N5.grown hgrow6 N5.size (fun j hj => (Hown.out.lt j hj).1)
  have HO := Lib.hid hown6
  clear hown6 hgrow6
  go_wp2
  go_ret
  exact ⟨_, _, rfl, HO.out, N6⟩
end Go.Proofs.YtdifkjmpdmlobaaDoor
set_option linter.unusedVariables false
set_option linter.unusedSimpArgs false
namespace Go.Proofs.YtdifkjmpdmlobaaDoor
open Go.RowKit
def encA : Option Addr → DataW Unit
  | none => .nil
  | some ⟨b, o, none⟩ => .agg [.lit (.int .i64 b), .lit (.int .i64 o)]
  | some ⟨b, o, some k⟩ => .agg [.lit (.int .i64 b), .lit (.int .i64 o), .lit (.int .i64 k)]
def slD (a : Option Addr) (n c : Nat) : DataW Unit := .agg [encA a, .lit (.int .i64 n), .lit (.int .i64 c)]
def slR : Value → Option (DataW Unit × List MemPlace)
  | .slice a n c => some (slD a n c, [])
  | _ => none
theorem encA_inj {a b : Option Addr} (h : encA a = encA b) : a = b := by
  match a, b, h with
  | none, none, _ => rfl
  | none, some ⟨b, o, none⟩, h => cases h
  | none, some ⟨b, o, some k⟩, h => cases h
  | some ⟨b, o, none⟩, none, h => cases h
  | some ⟨b, o, some k⟩, none, h => cases h
  | some ⟨b, o, none⟩, some ⟨b', o', none⟩, h => simp [encA] at h; obtain ⟨h1, h2⟩ := h; obtain rfl : b = b' := (by omega); obtain rfl : o = o' := (by omega); rfl
  | some ⟨b, o, none⟩, some ⟨b', o', some k⟩, h => simp [encA] at h
  | some ⟨b, o, some k⟩, some ⟨b', o', none⟩, h => simp [encA] at h
  | some ⟨b, o, some k⟩, some ⟨b', o', some k'⟩, h => simp [encA] at h; obtain ⟨h1, h2, h3⟩ := h; obtain rfl : b = b' := (by omega); obtain rfl : o = o' := (by omega); obtain rfl : k = k' := (by omega); rfl
theorem slR_inj {v : Value} {a : Option Addr} {n c : Nat} {ps : List MemPlace} (h : slR v = some (slD a n c, ps)) : v = .slice a n c := by
  cases v with
  | slice a' n' c' =>
    simp only [slR, Option.some.injEq, Prod.mk.injEq] at h
    have h1 := h.1
    simp only [slD, DataW.agg.injEq, List.cons.injEq, DataW.lit.injEq, Lit.int.injEq, and_true, true_and] at h1
    obtain ⟨e1, e2, e3⟩ := h1
    rw [encA_inj e1, show n' = n by omega, show c' = c by omega]
  | _ => cases h
/-- A slice's value. -/
abbrev SlV := Option Addr × Nat × Nat
def slV (s : SlV) : Value := .slice s.1 s.2.1 s.2.2
def sl0 : SlV := (none, 0, 0)
theorem slR_v (s : SlV) : slR (slV s) = some (slD s.1 s.2.1 s.2.2, []) := rfl
/-- Block b is a map that has vs, by numbers from o on. -/
structure MapF (w : World) (b : Nat) (o : Int) (vs : List SlV) : Prop where
  ex : ∃ D : DataW Unit, w.ownsMap Tryd.prog 3 slR b vs.length D ∧ Maps.size D = vs.length ∧ (∀ i : Int, Maps.has D (.int .i64 i) = decide (o ≤ i ∧ i < o + vs.length)) ∧ ∀ j, j < vs.length → ∀ z, D.atKey (.int .i64 (o + j)) z = slD (vs.getD j sl0).1 (vs.getD j sl0).2.1 (vs.getD j sl0).2.2
  lo : 0 ≤ o
  hi : o + vs.length ≤ 1000000000
theorem keyI : Maps.Keyed Tryd.prog 3 := Maps.int_keyed Tryd.underlying3
theorem keyI_mk {i : Int} (h0 : 0 ≤ i) (h1 : i ≤ 1000000000) : keyOf Tryd.prog 3 (.int .i64 i) = some (.int .i64 i) := Maps.keyOf_int_mk Tryd.underlying3 (by simp [Lit.wf, IntKind.min, IntKind.max, IntKind.signed, IntKind.bits]; omega)
theorem zeroSl (w : World) : (zeroValue 28).run Tryd.prog w = .ok (.slice none 0 0) w := by kernel_rfl
theorem litI_key {i : Int} : WideAt.IsKeyLit (Lit.int .i64 i) := trivial
theorem litI_ne {i j : Int} (h : i ≠ j) : Lit.int .i64 i ≠ Lit.int .i64 j := fun e => h (by injection e)
theorem MapF.kept {w w' : World} {b : Nat} {o : Int} {vs : List SlV} (h : MapF w b o vs) {row : Option Nat} (hg : w.grownBy w' row) (hne : some b ≠ row) : MapF w' b o vs := by
  obtain ⟨D, h1, h2⟩ := h.ex
  exact ⟨⟨D, h1.kept hg hne, h2⟩, h.lo, h.hi⟩
theorem MapF.below {w w' : World} {b : Nat} {o : Int} {vs : List SlV} (h : MapF w b o vs) (hb : Below w.heap.size w w') : MapF w' b o vs := h.kept (row := none) ⟨hb.os, hb.tape, hb.output, hb.size, fun k hk _ => hb.block k hk⟩ (by simp)
theorem MapF.blk {w w' : World} {b : Nat} {o : Int} {vs : List SlV} (h : MapF w b o vs) (hk : w'.heap[b]? = w.heap[b]?) : MapF w' b o vs := by
  obtain ⟨D, ⟨es, clock, hb, F, hs, hD⟩, h2⟩ := h.ex
  exact ⟨⟨D, ⟨es, clock, hk.trans hb, F, hs, hD⟩, h2⟩, h.lo, h.hi⟩
theorem MapF.lt {w : World} {b : Nat} {o : Int} {vs : List SlV} (h : MapF w b o vs) : b < w.heap.size := by
  obtain ⟨D, h1, _⟩ := h.ex; exact h1.lt
theorem MapF.made (w : World) : MapF (w.alloc (.map #[] 0)) w.heap.size 0 [] :=
  ⟨⟨.map [], World.ownsMap_made w _ _ _, rfl, fun i => by rw [decide_eq_false (by simp)]; rfl, fun j hj => absurd hj (Nat.not_lt_zero j)⟩, by omega, by simp⟩
theorem fit_size {w : World} {b n : Nat} {D : DataW Unit} (h : w.ownsMap Tryd.prog 3 slR b n D) {m : Nat} (hm : Maps.size D ≤ m) : w.ownsMap Tryd.prog 3 slR b m D := by
  obtain ⟨es, clock, hb, F, hs, rfl⟩ := h
  refine ⟨es, clock, hb, F, ?_, rfl⟩
  simpa [Maps.size, length_sorted] using hm
theorem getD_app1 (us : List SlV) (v : SlV) (j : Nat) : (us ++ [v]).getD j sl0 = if j < us.length then us.getD j sl0 else if j = us.length then v else sl0 := by
  rw [List.getD]
  split
  · rename_i h; rw [List.getElem?_append_left h, List.getD]
  · split
    · rename_i h; rw [h, List.getElem?_append_right (Nat.le_refl _), Nat.sub_self]; rfl
    · rw [List.getElem?_eq_none (by simp; omega)]; rfl
end Go.Proofs.YtdifkjmpdmlobaaDoor
