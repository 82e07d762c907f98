/-
  Joined: Ap U4 U5 U6 U7 U8 U9 U10.
-/
import Derived.Test.YtmnjafceenckpaaDoorJQ03
import Derived.Test.YtmnjafceenckpaaDoorJQ07
import Derived.Laws.AppendOwnNone
import Derived.Lib.RuneBytes
set_option linter.unusedVariables false
set_option linter.unusedSimpArgs false
set_option maxRecDepth 100000
set_option linter.unusedVariables false
set_option linter.unusedSimpArgs false
namespace Go.Proofs.YtmnjafceenckpaaDoor
open Go.RowKit
theorem apR_app (a b : List (Int × Int)) : (sRow (a ++ b)).toList = (sRow a).toList ++ (sRow b).toList := by simp [sRow]
theorem apR_one (l : List (Int × Int)) : ∀ u ∈ (sRow l).toList, u.oneCell' = true := by
  intro u hu
  simp only [sRow, List.toList_toArray, List.mem_flatMap] at hu
  obtain ⟨p, _, hp⟩ := hu
  simp at hp
  rcases hp with rfl | rfl <;> rfl
theorem apR_len (l : List (Int × Int)) : (sRow l).toList.length = l.length * 2 := by
  simp only [sRow, List.toList_toArray]
  induction l with
  | nil => rfl
  | cons x l ih => simp only [List.flatMap_cons, List.length_append, List.length_cons, List.length_nil, ih]; omega
theorem apR_news {w : World} {ad : Addr} {l : List (Int × Int)} (h : Signs w (some ad) l) : ∀ j u, (sRow l).toList[j]? = some u → w.cell? (ad.add j) = some u := by
  intro j u hj
  have hlen := apR_len l
  have hj2 : j < l.length * 2 := by
    rw [← hlen]
    exact (List.getElem?_eq_some_iff.1 hj).1
  obtain ⟨b, off, e, _, h1, h2⟩ := h (j / 2) (by omega)
  injection e with e
  subst e
  have hadd : (⟨b, off, none⟩ : Addr).add j = ⟨b, off + j, none⟩ := by unfold Addr.add; split <;> simp_all
  have hs := sRow_at l (j / 2) (by omega)
  have hj' : (l.flatMap fun p => [Value.int .i64 p.1, Value.int .i64 p.2])[j]? = some u := hj
  rw [hadd]
  rcases Nat.mod_two_eq_zero_or_one j with hm | hm
  · have e : j / 2 * 2 = j := by omega
    rw [e] at hs h1
    rw [hs.1] at hj'
    rw [h1]; exact hj'
  · have e : j / 2 * 2 + 1 = j := by omega
    rw [e] at hs
    rw [show off + j / 2 * 2 + 1 = off + j by omega] at h2
    rw [hs.2] at hj'
    rw [h2]; exact hj'
/-- A row of signs of the call's own. -/
def OwS (w : World) (B : Nat) (v : Value) (L : List (Int × Int)) : Prop := w.ownsRow B 84 2 v L.length (sRow L).toList
/-- A slice of signs, its room, and where its block is. -/
structure SlS (S : Nat → Prop) (w : World) (a : Option Addr) (L : List (Int × Int)) (c : Nat) : Prop where
  s : Signs w a L
  le : L.length ≤ c
  nl : a = none → c = 0
  st : ∀ ad, a = some ad → L ≠ [] → S ad.block
theorem SlS.mono {S T : Nat → Prop} {w : World} {a : Option Addr} {L : List (Int × Int)} {c : Nat} (h : SlS S w a L c) (hT : ∀ k, S k → T k) : SlS T w a L c := ⟨h.s, h.le, h.nl, fun ad e hn => hT _ (h.st ad e hn)⟩
theorem SlS.keep {S : Nat → Prop} {w w' : World} {a : Option Addr} {L : List (Int × Int)} {c : Nat} (h : SlS S w a L c) (hs : w.heap.size ≤ w'.heap.size) (hk : ∀ k, S k → w'.heap[k]? = w.heap[k]?) : SlS S w' a L c := by
  refine ⟨fun i hi => ?_, h.le, h.nl, h.st⟩
  obtain ⟨b, off, e, hb, h1, h2⟩ := h.s i hi
  have hS := h.st _ e (fun h0 => by rw [h0] at hi; simp at hi)
  have hkb : w'.heap[b]? = w.heap[b]? := hk b hS
  refine ⟨b, off, e, Nat.lt_of_lt_of_le hb hs, ?_, ?_⟩
  · rw [← h1]; unfold World.cell?; rw [hkb]
  · rw [← h2]; unfold World.cell?; rw [hkb]
theorem SlS.below {S : Nat → Prop} {w w' : World} {a : Option Addr} {L : List (Int × Int)} {c : Nat} (h : SlS S w a L c) (hb : Below w.heap.size w w') : SlS S w' a L c := ⟨h.s.below hb, h.le, h.nl, h.st⟩
/-- A part of a slice. -/
theorem SlS.sub {S : Nat → Prop} {w : World} {a : Option Addr} {L : List (Int × Int)} {c : Nat} (h : SlS S w a L c) (f t : Nat) (hf : f ≤ t) (ht : t ≤ L.length) : SlS S w (if c = f then a else a.map (·.add (f * 2))) ((L.drop f).take (t - f)) (c - f) ∧ ((L.drop f).take (t - f)).length = t - f := by
  have hlen : ((L.drop f).take (t - f)).length = t - f := by rw [List.length_take, List.length_drop]; omega
  have hle := h.le
  refine ⟨⟨fun i hi => ?_, by omega, fun h0 => ?_, fun ad e hn => ?_⟩, hlen⟩
  · rw [hlen] at hi
    obtain ⟨b, off, e, hb, h1, h2⟩ := h.s (f + i) (by omega)
    have hg : ((L.drop f).take (t - f)).getD i (0, 0) = L.getD (f + i) (0, 0) := by
      rw [List.getD, List.getElem?_take, if_pos hi, List.getElem?_drop, List.getD]
    rw [if_neg (by omega), e, hg]
    refine ⟨b, off + f * 2, ?_, hb, ?_, ?_⟩
    · have hadd : (⟨b, off, none⟩ : Addr).add (f * 2) = ⟨b, off + f * 2, none⟩ := by unfold Addr.add; split <;> simp_all
      simp only [Option.map_some, hadd]
    · rw [show off + f * 2 + i * 2 = off + (f + i) * 2 by omega]; exact h1
    · rw [show off + f * 2 + i * 2 + 1 = off + (f + i) * 2 + 1 by omega]; exact h2
  · have : a = none := by
      by_cases hc : c = f
      · rw [if_pos hc] at h0; exact h0
      · rw [if_neg hc] at h0; cases a with
        | none => rfl
        | some x => cases h0
    have := h.nl this; omega
  · have hpos : 0 < ((L.drop f).take (t - f)).length := List.length_pos_iff.2 hn
    rw [hlen] at hpos
    have hL : L ≠ [] := fun h0 => by rw [h0] at ht; simp at ht; omega
    rw [if_neg (by omega)] at e
    cases a with
    | none => cases e
    | some x =>
      have := h.st x rfl hL
      simp only [Option.map_some, Option.some.injEq] at e
      rw [← e]
      unfold Addr.add; split <;> exact this
theorem elemSg : Tryd.prog.elem 70 = 84 := by kernel_rfl
theorem sizeSg (w : World) : (sizeOf 84).run Tryd.prog w = .ok 2 w := by kernel_rfl
/-- Slices of slices of signs. -/
theorem run_cutH (w : World) (a : Option Addr) (n c t : Nat) (h : t ≤ c) : (Instr.slice 70 (.slice a n c) none (some (.int .i64 (t : Int))) none).run Tryd.prog w = .ok (.slice (if c = 0 then a else a.map (·.add (0 * 2))) t c) w := by
  rw [run_slice_h (P := Tryd.prog) w 70 a n c (by kernel_rfl) .i64 (t : Int) (by omega) (by omega), elemSg, sizeSg]
  rfl
theorem run_cutL (w : World) (a : Option Addr) (n c f : Nat) (h : f ≤ n) : (Instr.slice 70 (.slice a n c) (some (.int .i64 (f : Int))) none none).run Tryd.prog w = .ok (.slice (if c = f then a else a.map (·.add (f * 2))) (n - f) (c - f)) w := by
  rw [run_slice_l (P := Tryd.prog) w 70 a n c (by kernel_rfl) .i64 (f : Int) (by omega) (by omega), elemSg, sizeSg]
  rfl
theorem run_cutLH (w : World) (a : Option Addr) (n c f t : Nat) (h : f ≤ t) (h2 : t ≤ c) : (Instr.slice 70 (.slice a n c) (some (.int .i64 (f : Int))) (some (.int .i64 (t : Int))) none).run Tryd.prog w = .ok (.slice (if c = f then a else a.map (·.add (f * 2))) (t - f) (c - f)) w := by
  rw [run_slice_lh (P := Tryd.prog) w 70 a n c (by kernel_rfl) .i64 .i64 (f : Int) (t : Int) (by omega) (by omega) (by omega), elemSg, sizeSg]
  rfl
theorem ows_new (w : World) : OwS (w.alloc (.cells #[] 84)) w.heap.size (.slice (some ⟨w.heap.size, 0, none⟩) 0 0) [] :=
  ⟨rfl, .inr ⟨w.heap.size, 0, #[], rfl, Nat.le_refl _, heap_alloc_new _ _, Nat.le_refl _, by decide, rfl, rfl⟩⟩
theorem OwS.sl {w : World} {B : Nat} {v : Value} {L : List (Int × Int)} (h : OwS w B v L) : ∃ a c, v = .slice a L.length c ∧ SlS (fun k => B ≤ k ∧ k < w.heap.size) w a L c := by
  unfold OwS at h
  rcases h.2 with ⟨rfl, h0⟩ | ⟨g, cap, cur, rfl, hB, hg, hle, _⟩
  · exact ⟨none, 0, by rw [h0], fun j hj => by omega, by omega, fun _ => rfl, fun ad e => by cases e⟩
  · refine ⟨_, cap, rfl, fun j hj => ⟨g, 0, rfl, blk_lt hg, ?_, ?_⟩, hle, fun e => (by cases e), fun ad e _ => (by cases e; exact ⟨hB, blk_lt hg⟩)⟩
    · have := sRow_at L j hj
      rw [Nat.zero_add, h.cellAt (j * 2) (by omega)]; exact this.1
    · have := sRow_at L j hj
      rw [Nat.zero_add, h.cellAt (j * 2 + 1) (by omega)]; exact this.2
/-- A row of the call's own is a slice. -/
theorem OwS.form {w : World} {B : Nat} {v : Value} {L : List (Int × Int)} {n : Nat} (h : OwS w B v L) (hn : L.length = n) : ∃ a c, v = .slice a n c := by
  obtain ⟨a, c, e, _⟩ := h.sl
  exact ⟨a, c, by rw [e, hn]⟩
/-- An append of signs to a row of the call's own. -/
theorem step_app_signs {w : World} {ops : Array Oper} {o : Oper} {a : Act} {K : Act → World → Prop} {Q : Exit → Act → World → Prop} {E : Prop} (hgd : Region.wanted o (yielded ops a.tmps) = true) (s x : Operand)
    (ho : o.op = .call { callee := .builtin .append, args := #[s, x], argTypes := #[70, 70] }) (base : Nat)
    (v : Value) (np : Nat) (p : List (Int × Int)) (hs : a.eval s = v) (hp : p.length = np) (hown : OwS w base v p) (ad : Option Addr) (n c : Nat) (l : List (Int × Int)) (hx : a.eval x = .slice ad n c) (hl : l.length = n) (hsg : Signs w ad l) (hnl : ad = none → c = 0)
    (hlen : np + n ≤ 1000000) (hbase : base ≤ w.heap.size)
    (h : ∀ ad' c' w', OwS w' base (.slice ad' (np + n) c') (p ++ l) → w.grownBy w' v.ownBlock → K (a.put o.dst (.slice ad' (np + n) c')) w') :
    if Region.wanted o (yielded ops a.tmps) = true then Oper.wp Tryd.prog o a w K Q else E := by
  obtain ⟨i0, hi, hz0, hz1, hz2⟩ := info_parts infoSign
  subst hl; subst hp
  rw [if_pos hgd]
  have hfin : ∀ v' w', OwS w' base v' (p ++ l) → w.grownBy w' v.ownBlock → K (a.put o.dst v') w' := by
    intro v' w' h1 h2
    obtain ⟨ad', c', rfl⟩ := h1.form (n := p.length + l.length) (by rw [List.length_append])
    exact h ad' c' w' h1 h2
  cases ad with
  | none =>
    obtain rfl := hnl rfl
    have hnil : l = [] := by
      cases l with
      | nil => rfl
      | cons x l => obtain ⟨_, _, e, _⟩ := hsg 0 (by simp); cases e
    subst hnil
    have hrun := run_append_owned_none (P := Tryd.prog) (w := w) base 70 o.type 84 i0 2 Tryd.underlying70 hi v p.length _ hown
    have h' := hfin v w (by rw [List.append_nil]; exact hown) ⟨rfl, rfl, rfl, Nat.le_refl _, fun _ _ _ => rfl⟩
    unfold Oper.wp
    simp only [List.length_nil] at hx
    simp [execOp, ho, resolve, invoke, builtin, hs, hx, hrun, Result.andThen]
    exact h'
  | some ad =>
    refine wp_append_own w s x 70 ho base 84 i0 _ 2 16 Tryd.underlying70 hi hz0 hz1 hz2 rfl (by decide) v p.length _ hs hown ad l.length c (sRow l).toList hx (apR_len l) (apR_news hsg) (apR_one l) (by unfold maxLen; omega) (by omega) hbase (fun v' w' a1 a2 _ => hfin v' w' ?_ a2)
    unfold OwS
    rw [List.length_append, apR_app]
    exact a1
theorem wpList_app_signs {w : World} {ops : Array Oper} {rest : List Oper} {o : Oper} {a : Act} {Q : Exit → Act → World → Prop} (hgd : Region.wanted o (yielded ops a.tmps) = true) (s x : Operand)
    (ho : o.op = .call { callee := .builtin .append, args := #[s, x], argTypes := #[70, 70] }) (base : Nat)
    (v : Value) (np : Nat) (p : List (Int × Int)) (hs : a.eval s = v) (hp : p.length = np) (hown : OwS w base v p) (ad : Option Addr) (n c : Nat) (l : List (Int × Int)) (hx : a.eval x = .slice ad n c) (hl : l.length = n) (hsg : Signs w ad l) (hnl : ad = none → c = 0)
    (hlen : np + n ≤ 1000000) (hbase : base ≤ w.heap.size)
    (h : ∀ ad' c' w', OwS w' base (.slice ad' (np + n) c') (p ++ l) → w.grownBy w' v.ownBlock → wpList Tryd.prog ops Q rest (a.put o.dst (.slice ad' (np + n) c')) w') : wpList Tryd.prog ops Q (o :: rest) a w :=
  wpList_step fun K hK => step_app_signs hgd s x ho base v np p hs hp hown ad n c l hx hl hsg hnl hlen hbase (fun ad' c' w' h1 h2 => hK _ _ (h ad' c' w' h1 h2))
end Go.Proofs.YtmnjafceenckpaaDoor
namespace Go.Proofs.YtmnjafceenckpaaDoor
open Go.RowKit
theorem sizeB_cases (c : Nat) (h : c < 256) : (c < 128 ∧ sizeB c = 1) ∨ (194 ≤ c ∧ c ≤ 223 ∧ sizeB c = 2) ∨ (224 ≤ c ∧ c ≤ 239 ∧ sizeB c = 3) ∨ (240 ≤ c ∧ c ≤ 244 ∧ sizeB c = 4) ∨ (128 ≤ c ∧ c < 194 ∧ sizeB c = 0) ∨ (244 < c ∧ sizeB c = 0) := by
  unfold sizeB; repeat' split
  all_goals omega
set_option maxRecDepth 100000 in
theorem size_ref (c : UInt8) (w : World) : Calls Tryd.prog 51 #[.int .u8 (c.toNat : Int)] w fun e w' => e = .returned (.int .i64 (sizeB c.toNat : Int)) ∧ w' = w := by
  have h1 := c.toNat_lt
  generalize c.toNat = n at *
  rcases sizeB_cases n (by omega) with ⟨h, e⟩ | ⟨h, h', e⟩ | ⟨h, h', e⟩ | ⟨h, h', e⟩ | ⟨h, h', e⟩ | ⟨h, e⟩
  all_goals
    rw [e]; clear e
    go_enter Tryd.func51, Tryd.ntmps51
    go_wp2
    go_ret
    exact ⟨rfl, rfl⟩
set_option maxRecDepth 100000 in
set_option maxHeartbeats 4000000 in
theorem may_ref (f c : UInt8) (i : Int) (w : World) : Calls Tryd.prog 72 #[.int .u8 (f.toNat : Int), .int .u8 (c.toNat : Int), .int .i64 i] w fun e w' => e = .returned (.bool (mayB f.toNat c.toNat i.toNat)) ∧ w' = w := by
  have h1 := c.toNat_lt
  have h2 := f.toNat_lt
  have hm := mayB_iff f.toNat c.toNat i.toNat
  generalize c.toNat = n at *
  generalize f.toNat = k at *
  by_cases ha : 128 ≤ n ∧ n ≤ 191
  · by_cases hb : 1 < i
    · have e : mayB k n i.toNat = true := hm.2 ⟨ha, Or.inl (by omega)⟩
      rw [e]; clear e hm
      obtain ⟨ha1, ha2⟩ := ha
      go_enter Tryd.func72, Tryd.ntmps72
      go_wp2
      go_ret
      exact ⟨rfl, rfl⟩
    · obtain ⟨ha1, ha2⟩ := ha
      have e : mayB k n i.toNat = !(decide (k = 224 ∧ n < 160) || decide (k = 237 ∧ 159 < n) || decide (k = 240 ∧ n < 144) || decide (k = 244 ∧ 143 < n)) := by
        rw [Bool.eq_iff_iff, hm]; simp; omega
      rw [e]; clear e hm
      rcases (show k = 224 ∨ k = 237 ∨ k = 240 ∨ k = 244 ∨ (k ≠ 224 ∧ k ≠ 237 ∧ k ≠ 240 ∧ k ≠ 244) by omega) with rfl | rfl | rfl | rfl | ⟨n1, n2, n3, n4⟩
      case inr.inr.inr.inr =>
        have e1 : ((k : Int) == 224) = false := by rw [beq_eq_false_iff_ne]; omega
        have e2 : ((k : Int) == 237) = false := by rw [beq_eq_false_iff_ne]; omega
        have e3 : ((k : Int) == 240) = false := by rw [beq_eq_false_iff_ne]; omega
        have e4 : ((k : Int) == 244) = false := by rw [beq_eq_false_iff_ne]; omega
        go_enter Tryd.func72, Tryd.ntmps72
        go_wp2
        go_ret
        exact ⟨ret_boolU (by first | (simp; done) | (simp; omega)), rfl⟩
      all_goals
        go_enter Tryd.func72, Tryd.ntmps72
        go_wp2
        all_goals
          go_ret
          exact ⟨ret_boolU (by first | (simp; done) | (simp; omega)), rfl⟩
  · have e : mayB k n i.toNat = false := by
      cases hx : mayB k n i.toNat with
      | false => rfl
      | true => exact absurd (hm.1 hx).1 ha
    rw [e]; clear e hm
    rcases (show n < 128 ∨ 191 < n by omega) with h | h
    all_goals
      go_enter Tryd.func72, Tryd.ntmps72
      go_wp2
      go_ret
      exact ⟨rfl, rfl⟩
end Go.Proofs.YtmnjafceenckpaaDoor
set_option linter.unusedVariables false
set_option linter.unusedSimpArgs false
namespace Go.Proofs.YtmnjafceenckpaaDoor
open Go.RowKit
/-- Does another byte belong to it? -/
def more (s : ByteArray) (m : Nat) : Prop := m < sizeB (s.get! 0).toNat ∧ m < s.size ∧ mayB (s.get! 0).toNat (s.get! m).toNat m = true
/-- How many bytes belong to what the first one begins, from m on. -/
def bgF (s : ByteArray) : Nat → Nat → Nat
  | 0, m => m
  | f + 1, m => if m < sizeB (s.get! 0).toNat ∧ m < s.size ∧ mayB (s.get! 0).toNat (s.get! m).toNat m = true then bgF s f (m + 1) else m
def begS (s : ByteArray) : Nat := bgF s 4 1
theorem sizeB_le (c : Nat) : sizeB c ≤ 4 := by unfold sizeB; repeat' split
                                               all_goals omega
theorem begS_B (s : ByteArray) : begS s = begB s.size (s.get! 0).toNat (s.get! 1).toNat (s.get! 2).toNat (s.get! 3).toNat := by
  have h4 : ¬ (4 < sizeB (s.get! 0).toNat ∧ 4 < s.size ∧ mayB (s.get! 0).toNat (s.get! 4).toNat 4 = true) := by have := sizeB_le (s.get! 0).toNat; omega
  unfold begS begB
  simp only [bgF]
  rw [if_neg h4]
theorem bgF_le (s : ByteArray) (hs : 0 < s.size) : ∀ f m, m ≤ s.size → bgF s f m ≤ s.size := by
  intro f
  induction f with
  | zero => intro m h; exact h
  | succ f ih =>
    intro m h
    rw [bgF]
    split
    · rename_i hm; exact ih (m + 1) hm.2.1
    · exact h
theorem begS_rng (s : ByteArray) (hs : 0 < s.size) : 1 ≤ begS s ∧ begS s ≤ 4 ∧ begS s ≤ s.size := by
  refine ⟨?_, ?_, bgF_le s hs 4 1 (by omega)⟩
  · rw [begS_B]; unfold begB; repeat' split
    all_goals omega
  · rw [begS_B]; unfold begB; repeat' split
    all_goals omega
set_option maxRecDepth 100000 in
set_option maxHeartbeats 4000000 in
theorem begins_ref (s : ByteArray) (w : World) (hs : 0 < s.size) (hs' : s.size ≤ 1000000) : Calls Tryd.prog 50 #[.string s] w fun e w' => e = .returned (.int .i64 (begS s : Int)) ∧ ∃ n, w' = w.drewN n := by
  go_enter Tryd.func50, Tryd.ntmps50
  go_wp2
  go_loopw [3] (fun n wr => ∃ (m f k : Nat), n = .int .i64 (m : Int) ∧ Hid (bgF s f m = begS s) ∧ m + f = 5 ∧ 1 ≤ m ∧ wr = w.drewN k) (fun n _ => 5 - (intOf n).toNat)
  case atStart => exact ⟨1, 4, 0, rfl, Lib.hid rfl, rfl, Nat.le_refl _, rfl⟩
  case round =>
    obtain ⟨m, f, k, rfl, hb, hf, hm, rfl⟩ := hrel
    have g0 := get_get s 0 hs
    have S0 := Lib.hid fun w => size_ref (s[0]) w
    have hsz := sizeB_le (s.get! 0).toNat
    rw [g0] at hsz
    have hbm : Hid (f = 0 → m = begS s) := Lib.hid fun h => by have := hb.out; rw [h] at this; exact this
    have hbs : Hid (∀ f', f = f' + 1 → (if m < sizeB (s.get! 0).toNat ∧ m < s.size ∧ mayB (s.get! 0).toNat (s.get! m).toNat m = true then bgF s f' (m + 1) else m) = begS s) := Lib.hid fun f' h => by have := hb.out; rw [h] at this; exact this
    rw [g0] at hbs
    clear g0
    have hs0 : (0 : Int) < (s.size : Int) := by omega
    generalize hz : sizeB (s[0]).toNat = z at *
    have Hz := Lib.hid hz; clear hz
    by_cases t1 : m < z
    · obtain ⟨f', rfl⟩ : ∃ f', f = f' + 1 := ⟨f - 1, by omega⟩
      have hB := Lib.hid (hbs.out f' rfl)
      clear hbs hbm hb
      by_cases t2 : m < s.size
      · have M0 := fun w => may_ref (s[0]) (s[m]) (m : Int) w
        have hB2 := hB.out
        rw [get_get s m t2] at hB2
        simp only [Int.toNat_natCast] at M0
        have t2i : (m : Int) < (s.size : Int) := by omega
        clear hB
        generalize hy : mayB (s[0]).toNat (s[m]).toNat m = y at *
        have Hy := Lib.hid hy; clear hy
        replace M0 := Lib.hid M0
        have t1i : (m : Int) < (z : Int) := by omega
        cases y
        · have hfin : Hid (m = begS s) := Lib.hid (by rw [← hB2, if_neg (by simp)])
          clear hB2
          go_wp2
          go_quiet (((first | (go_at_call 51; exact qsame (S0.out _)) | (go_at_call 72; exact qsame (M0.out _)))))
          go_wp2
          go_ret
          rw [← hfin.out]
          exact ⟨rfl, _, World.drewN_drewN _ _ _⟩
        · have hnext : Hid (bgF s f' (m + 1) = begS s) := Lib.hid (by rw [← hB2, if_pos ⟨t1, t2, rfl⟩])
          clear hB2
          go_wp2
          go_quiet (((first | (go_at_call 51; exact qsame (S0.out _)) | (go_at_call 72; exact qsame (M0.out _)))))
          go_wp2
          go_roundw
          case rel => exact ⟨m + 1, f', _, by go_num, hnext, by omega, by omega, rfl⟩
          case measure => simp [intOf]; omega
      · have hfin : Hid (m = begS s) := Lib.hid (by rw [← hB.out, if_neg (by omega)])
        have t2d : decide ((m : Int) < (s.size : Int)) = false := decide_eq_false (by omega)
        have t2e : decide (m < s.size) = false := decide_eq_false (by omega)
        have t1i : (m : Int) < (z : Int) := by omega
        clear hB
        go_wp2
        go_quiet ((go_at_call 51; exact qsame (S0.out _)))
        go_wp2
        go_ret
        rw [← hfin.out]
        exact ⟨rfl, _, World.drewN_drewN _ _ _⟩
    · have hfin : Hid (m = begS s) := Lib.hid (by
        rcases Nat.eq_zero_or_pos f with e | e
        · exact hbm.out e
        · have := hbs.out (f - 1) (by omega)
          rw [if_neg (by omega)] at this; exact this)
      have t1d : decide ((m : Int) < (z : Int)) = false := decide_eq_false (by omega)
      have t1e : decide (m < z) = false := decide_eq_false (by omega)
      clear hbm hbs hb
      go_wp2
      go_quiet ((go_at_call 51; exact qsame (S0.out _)))
      go_wp2
      go_ret
      rw [← hfin.out]
      exact ⟨rfl, _, World.drewN_drewN _ _ _⟩
end Go.Proofs.YtmnjafceenckpaaDoor
namespace Go.Proofs.YtmnjafceenckpaaDoor
open Go.RowKit
theorem get0 (s : ByteArray) (i : Nat) : (s.get! i).toNat < 256 := (s.get! i).toNat_lt
theorem vAt_one (s : ByteArray) (hs : 0 < s.size) : vAt s 0 = oneB s.size (s.get! 0).toNat (s.get! 1).toNat (s.get! 2).toNat (s.get! 3).toNat := by
  rw [vAt_val, one_val _ _ _ _ _ (by omega) (get0 _ _) (get0 _ _) (get0 _ _) (get0 _ _)]; simp
theorem beg_m1 {n b0 b1 b2 b3 : Nat} (h : 2 ≤ begB n b0 b1 b2 b3) : 128 ≤ b1 := by
  unfold begB at h
  split at h
  · rename_i h1; exact ((mayB_iff _ _ _).1 h1.2.2).1.1
  · omega
theorem beg_m2 {n b0 b1 b2 b3 : Nat} (h : 3 ≤ begB n b0 b1 b2 b3) : 128 ≤ b2 := by
  unfold begB at h
  split at h
  · split at h
    · rename_i h1; exact ((mayB_iff _ _ _).1 h1.2.2).1.1
    · omega
  · omega
theorem beg_m3 {n b0 b1 b2 b3 : Nat} (h : 4 ≤ begB n b0 b1 b2 b3) : 128 ≤ b3 := by
  unfold begB at h
  split at h
  · split at h
    · split at h
      · rename_i h1; exact ((mayB_iff _ _ _).1 h1.2.2).1.1
      · omega
    · omega
  · omega
theorem wv2 (a b : Nat) (h0 : 194 ≤ a) (h1 : a ≤ 223) (h2 : 128 ≤ b) (h3 : b < 256) :
    wrap64 (wrap64 (wrap64 (wrap64 (wrap64 (a : Int) - 192) * 64) + wrap64 (b : Int)) - 128) = (((a - 192) * 64 + b - 128 : Nat) : Int) := by
  simp (disch := omega) only [IntWalk.wrap64_in]; omega
theorem wv3 (a b c : Nat) (h0 : 224 ≤ a) (h1 : a ≤ 239) (h2 : 128 ≤ b) (h3 : b < 256) (h4 : 128 ≤ c) (h5 : c < 256) :
    wrap64 (wrap64 (wrap64 (wrap64 (wrap64 (wrap64 (wrap64 (wrap64 (a : Int) - 224) * 64) + wrap64 (b : Int)) - 128) * 64) + wrap64 (c : Int)) - 128) = ((((a - 224) * 64 + b - 128) * 64 + c - 128 : Nat) : Int) := by
  simp (disch := omega) only [IntWalk.wrap64_in]; omega
theorem wv4 (a b c d : Nat) (h0 : 240 ≤ a) (h1 : a ≤ 244) (h2 : 128 ≤ b) (h3 : b < 256) (h4 : 128 ≤ c) (h5 : c < 256) (h6 : 128 ≤ d) (h7 : d < 256) :
    wrap64 (wrap64 (wrap64 (wrap64 (wrap64 (wrap64 (wrap64 (wrap64 (wrap64 (wrap64 (wrap64 (a : Int) - 240) * 64) + wrap64 (b : Int)) - 128) * 64) + wrap64 (c : Int)) - 128) * 64) + wrap64 (d : Int)) - 128) = (((((a - 240) * 64 + b - 128) * 64 + c - 128) * 64 + d - 128 : Nat) : Int) := by
  simp (disch := omega) only [IntWalk.wrap64_in]; omega
set_option maxRecDepth 100000 in
set_option maxHeartbeats 4000000 in
theorem one_ref (s : ByteArray) (w : World) (hs : 0 < s.size) (hs' : s.size ≤ 1000000) : Calls Tryd.prog 33 #[.string s] w fun e w' => e = .returned (.tuple #[.int .i64 ((vAt s 0).1 : Int), .int .i64 ((vAt s 0).2 : Int)]) ∧ ∃ n, w' = w.drewN n := by
  have Bg := Lib.hid fun w => begins_ref s w hs hs'
  have S0 := fun w => size_ref (s[0]) w
  have hv := vAt_one s hs
  have hb := begS_B s
  have hr := begS_rng s hs
  rw [get_get s 0 hs] at hv hb
  have hlt := (s[0]).toNat_lt
  have h0 := sizeB_cases (s[0]).toNat (by omega)
  generalize hz : sizeB (s[0]).toNat = z at *
  generalize hm : begS s = m at *
  have Hm := Lib.hid hm
  by_cases hne : m = z
  · subst hne
    have hmm : ((m : Int) != (m : Int)) = false := by simp
    have hz' : sizeB (s[0]).toNat = m := hz
    have hm4 : m = 1 ∨ m = 2 ∨ m = 3 ∨ m = 4 := by omega
    rcases hm4 with rfl | rfl | rfl | rfl
    · have Hv : Hid (vAt s 0 = ((s[0]).toNat, 1)) := Lib.hid (by rw [hv]; exact one_1 hb.symm hz')
      have hw : wrap64 (((s[0]).toNat : Nat) : Int) = (((s[0]).toNat : Nat) : Int) := by unfold wrap64; omega
      have Hw := Lib.hid hw
      replace S0 := Lib.hid S0
      clear hv hb hw hz hz' hm h0 hlt
      go_enter Tryd.func33, Tryd.ntmps33
      go_wp2_with (first | (go_at_call 50; refine (Bg.out _).mono ?_; rintro e w1 ⟨rfl, n, rfl⟩) | (go_at_call 51; refine (S0.out _).mono ?_; rintro e w1 ⟨rfl, rfl⟩))
      refine wp_loop_rounds 1 ?_
      rw [rounds_succ]
      go_wp2
      go_ret2
      rw [Hv.out]
      exact ⟨ret_ii Hw.out rfl, _, rfl⟩
    · rw [get_get s 1 (by omega)] at hv hb
      have k1 := beg_m1 (n := s.size) (b0 := (s[0]).toNat) (b1 := _) (b2 := _) (b3 := _) (by rw [← hb]; omega)
      have l1 := (s[1]'(by omega)).toNat_lt
      have hv2 := hv.trans (one_2 hb.symm hz')
      have hw := wv2 (s[0]'(by omega)).toNat (s[1]'(by omega)).toNat (by omega) (by omega) (by omega) (by omega)
      have Hv := Lib.hid hv2; have Hw := Lib.hid hw
      have hs4 : 2 ≤ s.size := by omega
      replace S0 := Lib.hid S0
      clear hv hb hw hz hz' hm h0 hlt hv2 k1 l1
      go_enter Tryd.func33, Tryd.ntmps33
      go_wp2_with (first | (go_at_call 50; refine (Bg.out _).mono ?_; rintro e w1 ⟨rfl, n, rfl⟩) | (go_at_call 51; refine (S0.out _).mono ?_; rintro e w1 ⟨rfl, rfl⟩))
      refine wp_loop_rounds 2 ?_
      rw [rounds_succ]
      go_wp2
      rw [rounds_succ]
      go_wp2
      go_ret2
      rw [Hv.out]
      exact ⟨ret_ii Hw.out rfl, _, rfl⟩
    · rw [get_get s 1 (by omega)] at hv hb
      rw [get_get s 2 (by omega)] at hv hb
      have k1 := beg_m1 (n := s.size) (b0 := (s[0]).toNat) (b1 := _) (b2 := _) (b3 := _) (by rw [← hb]; omega)
      have l1 := (s[1]'(by omega)).toNat_lt
      have k2 := beg_m2 (n := s.size) (b0 := (s[0]).toNat) (b1 := _) (b2 := _) (b3 := _) (by rw [← hb]; omega)
      have l2 := (s[2]'(by omega)).toNat_lt
      have hv2 := hv.trans (one_3 hb.symm hz')
      have hw := wv3 (s[0]'(by omega)).toNat (s[1]'(by omega)).toNat (s[2]'(by omega)).toNat (by omega) (by omega) (by omega) (by omega) (by omega) (by omega)
      have Hv := Lib.hid hv2; have Hw := Lib.hid hw
      have hs4 : 3 ≤ s.size := by omega
      replace S0 := Lib.hid S0
      clear hv hb hw hz hz' hm h0 hlt hv2 k1 l1 k2 l2
      go_enter Tryd.func33, Tryd.ntmps33
      go_wp2_with (first | (go_at_call 50; refine (Bg.out _).mono ?_; rintro e w1 ⟨rfl, n, rfl⟩) | (go_at_call 51; refine (S0.out _).mono ?_; rintro e w1 ⟨rfl, rfl⟩))
      refine wp_loop_rounds 3 ?_
      rw [rounds_succ]
      go_wp2
      rw [rounds_succ]
      go_wp2
      rw [rounds_succ]
      go_wp2
      go_ret2
      rw [Hv.out]
      exact ⟨ret_ii Hw.out rfl, _, rfl⟩
    · rw [get_get s 1 (by omega)] at hv hb
      rw [get_get s 2 (by omega)] at hv hb
      rw [get_get s 3 (by omega)] at hv hb
      have k1 := beg_m1 (n := s.size) (b0 := (s[0]).toNat) (b1 := _) (b2 := _) (b3 := _) (by rw [← hb]; omega)
      have l1 := (s[1]'(by omega)).toNat_lt
      have k2 := beg_m2 (n := s.size) (b0 := (s[0]).toNat) (b1 := _) (b2 := _) (b3 := _) (by rw [← hb]; omega)
      have l2 := (s[2]'(by omega)).toNat_lt
      have k3 := beg_m3 (n := s.size) (b0 := (s[0]).toNat) (b1 := _) (b2 := _) (b3 := _) (by rw [← hb]; omega)
      have l3 := (s[3]'(by omega)).toNat_lt
      have hv2 := hv.trans (one_4 hb.symm hz')
      have hw := wv4 (s[0]'(by omega)).toNat (s[1]'(by omega)).toNat (s[2]'(by omega)).toNat (s[3]'(by omega)).toNat (by omega) (by omega) (by omega) (by omega) (by omega) (by omega) (by omega) (by omega)
      have Hv := Lib.hid hv2; have Hw := Lib.hid hw
      have hs4 : 4 ≤ s.size := by omega
      replace S0 := Lib.hid S0
      clear hv hb hw hz hz' hm h0 hlt hv2 k1 l1 k2 l2 k3 l3
      go_enter Tryd.func33, Tryd.ntmps33
      go_wp2_with (first | (go_at_call 50; refine (Bg.out _).mono ?_; rintro e w1 ⟨rfl, n, rfl⟩) | (go_at_call 51; refine (S0.out _).mono ?_; rintro e w1 ⟨rfl, rfl⟩))
      refine wp_loop_rounds 4 ?_
      rw [rounds_succ]
      go_wp2
      rw [rounds_succ]
      go_wp2
      rw [rounds_succ]
      go_wp2
      rw [rounds_succ]
      go_wp2
      go_ret2
      rw [Hv.out]
      exact ⟨ret_ii Hw.out rfl, _, rfl⟩
  · have hne2 : ((m : Int) != (z : Int)) = true := by rw [bne_iff_ne]; omega
    have Hv : Hid (vAt s 0 = (1114112 + (s[0]).toNat, 1)) := Lib.hid (by rw [hv]; unfold oneB; rw [if_pos (by rw [← hb, hz]; exact hne)])
    have hw : wrap64 (1114112 + wrap64 (((s[0]).toNat : Nat) : Int)) = ((1114112 + (s[0]).toNat : Nat) : Int) := by unfold wrap64; omega
    have Hw := Lib.hid hw
    replace S0 := Lib.hid S0
    clear hv hb hw hz hm h0 hlt hne
    go_enter Tryd.func33, Tryd.ntmps33
    go_wp2_with (first | (go_at_call 50; refine (Bg.out _).mono ?_; rintro e w1 ⟨rfl, n, rfl⟩) | (go_at_call 51; refine (S0.out _).mono ?_; rintro e w1 ⟨rfl, rfl⟩))
    go_ret2
    rw [Hv.out]
    exact ⟨ret_ii Hw.out rfl, _, rfl⟩
end Go.Proofs.YtmnjafceenckpaaDoor
namespace Go.Proofs.YtmnjafceenckpaaDoor
open Go.RowKit
theorem ext_size (s : ByteArray) (n : Nat) : (s.extract n s.size).size = s.size - n := by simp
theorem ext_get (s : ByteArray) (n j : Nat) (h : n + j < s.size) : (s.extract n s.size).get! j = s.get! (n + j) := by
  rw [get_get _ j (by rw [ext_size]; omega), get_get _ (n + j) h]
  simp [ByteArray.getElem_extract]
theorem vAt_tail (s : ByteArray) (n j : Nat) (h : n + j < s.size) : vAt (s.extract n s.size) j = vAt s (n + j) := by
  unfold vAt; rw [Lib.tail_decode, ext_get s n j h]
theorem valsF_tail (s : ByteArray) (n : Nat) : ∀ f j, valsF (s.extract n s.size) f j = valsF s f (n + j) := by
  intro f
  induction f with
  | zero => intro j; rfl
  | succ f ih =>
    intro j
    by_cases h : n + j < s.size
    · rw [valsF_step _ f j (by rw [ext_size]; omega), valsF_step s f (n + j) h, vAt_tail s n j h, Lib.tail_decode, ih, Nat.add_assoc]
    · rw [valsF_end _ _ _ (by rw [ext_size]; omega), valsF_end _ _ _ h]
theorem valsF_fuel (s : ByteArray) : ∀ f f' i, s.size ≤ i + f → s.size ≤ i + f' → valsF s f i = valsF s f' i := by
  intro f
  induction f with
  | zero => intro f' i h h'; rw [valsF_end s 0 i (by omega), valsF_end s f' i (by omega)]
  | succ f ih =>
    intro f' i h h'
    by_cases hi : i < s.size
    · obtain ⟨g, rfl⟩ : ∃ g, f' = g + 1 := ⟨f' - 1, by omega⟩
      have := (dec_pos s i hi).1
      rw [valsF_step s f i hi, valsF_step s g i hi, ih g _ (by omega) (by omega)]
    · rw [valsF_end _ _ _ hi, valsF_end _ _ _ hi]
theorem valsS_cons (s : ByteArray) (h : 0 < s.size) : valsS s = ((vAt s 0).1 : Int) :: valsS (s.extract (vAt s 0).2 s.size) := by
  have hp := dec_pos s 0 h
  obtain ⟨f, hf⟩ : ∃ f, s.size = f + 1 := ⟨s.size - 1, by omega⟩
  unfold valsS
  rw [vAt_size s 0 h, valsF_tail, Nat.add_zero]
  have e : valsF s s.size 0 = valsF s (f + 1) 0 := by rw [hf]
  rw [e, valsF_step s f 0 h, Nat.zero_add]
  rw [valsF_fuel s f (s.extract (Utf8.decode s 0).2 s.size).size _ (by omega) (by rw [ext_size]; omega)]
theorem valsS_nil (s : ByteArray) (h : ¬ 0 < s.size) : valsS s = [] := by unfold valsS; exact valsF_end s _ 0 h
theorem valsS_len (s : ByteArray) : (valsS s).length ≤ s.size := by
  rcases valsF_len s s.size 0 with h | h
  · exact h
  · unfold valsS; rw [h]; simp
def strSize : Value → Nat
  | .string t => t.size
  | _ => 0
structure DrInv (s : ByteArray) (w : World) (t : ByteArray) (acc : List Int) (v : Value) (wr : World) : Prop where
  sz : t.size + acc.length ≤ s.size
  own : wr.ownsRow w.heap.size 3 1 v acc.length (acc.map (Value.int .i64))
  ac : acc ++ valsS t = valsS s
  bl : Below w.heap.size w wr
theorem cut_nat (t : ByteArray) (n : Nat) : t.extract (n : Int).toNat t.size = t.extract n t.size := rfl
theorem cell_k (w : World) (k : Nat) (x : Int) : ((w.drewN k).alloc (Obj.cells #[Value.int IntKind.i64 x] 3)).cell? ({ block := w.heap.size, off := 0 } : Addr) = some (Value.int .i64 x) := cell_new (w.drewN k) _ _
set_option maxRecDepth 100000 in
set_option maxHeartbeats 2000000 in
theorem decode_ref (s : ByteArray) (w : World) (hs : s.size ≤ 1000000) :
    Calls Tryd.prog 56 #[.string s] w fun e w' => ∃ v, e = .returned v ∧ w'.ownsRow w.heap.size 3 1 v (valsS s).length ((valsS s).map (Value.int .i64)) ∧ Below w.heap.size w w' := by
  obtain ⟨i0, hi, hz0, hz1, hz2⟩ := info_parts infoInt
  go_enter Tryd.func56, Tryd.ntmps56
  go_wp2
  go_loopw [0, 3] (fun sv v wr => ∃ (t : ByteArray) (acc : List Int), sv = .string t ∧ DrInv s w t acc v wr) (fun sv _ _ => strSize sv)
  case atStart => exact ⟨s, [], rfl, by simp, World.ownsRow_nil _ _ _ _, rfl, Below.refl _ _⟩
  case round =>
    obtain ⟨t, acc, rfl, hI⟩ := hrel
    by_cases hlt : 0 < t.size
    · have hv := valsS_cons t hlt
      have hp := dec_pos t 0 hlt
      have hsz := hI.sz; have hown := hI.own; have hbw := hI.bl
      rw [← vAt_size t 0 hlt] at hp
      have O := one_ref t wr hlt (by omega)
      have hac2 := hI.ac
      clear hI
      rw [hv] at hac2
      generalize ((vAt t 0).1 : Int) = x at *
      generalize (vAt t 0).2 = n at *
      have hbk : ∀ k, Below wr.heap.size wr (wr.drewN k) := fun k => drewN_below (Below.refl _ _) k
      have hsw := hbw.size
      have Hac := Lib.hid hac2; have Ob := Lib.hid O
      clear hv hac2 O
      go_wp2_with (first
        | (go_at_call 33; refine Ob.out.mono ?_; rintro e w2 ⟨rfl, k, rfl⟩)
        | (at_builtin; refine wpList_append_own _ rfl _ _ 41 rfl w.heap.size 3 i0 (.int .i64 0) 1 8 Tryd.underlying41 hi hz0 hz1 hz2 rfl (by decide) _ _ _ rfl ((own_below hown (drewN_below (Below.refl _ _) k)).alloc _) ⟨wr.heap.size, 0, none⟩ 1 1 [.int .i64 x] rfl rfl ?c1 ?c2 ?c3 ?c4 ?c5 ?_)
        | fail)
      case c1 =>
        intro j u hj
        match j, hj with
        | 0, hj => simp at hj; subst hj; exact cell_k wr k x
      case c2 => intro u hu; simp at hu; subst hu; rfl
      case c3 => unfold maxLen; omega
      case c4 => omega
      case c5 => have := (hbk k).size; have := (below_alloc (wr.drewN k) (Obj.cells #[Value.int IntKind.i64 x] 3)).size; omega
      intro v' w3 hown3 hgrow3 _
      have hbl3 : Below w.heap.size w w3 := by
        have h1 : Below w.heap.size w (wr.drewN k) := hbw.trans ((hbk k).mono hbw.size)
        have h2 : Below w.heap.size w ((wr.drewN k).alloc (.cells #[.int .i64 x] 3)) := h1.alloc h1.size _
        exact h2.grown hgrow3 (by have := h1.size; simp; omega) (fun k hk => by have := (hown.lt k hk).1; exact this)
      have hown3' : w3.ownsRow w.heap.size 3 1 v' (acc ++ [x]).length ((acc ++ [x]).map (Value.int .i64)) := by
        have := hown3
        rw [iBuild] at this
        simpa using this
      clear hown3 hgrow3 hown hbw hbk
      go_wp2
      go_roundw
      case rel => exact ⟨t.extract n t.size, acc ++ [x], rfl, by rw [ext_size]; simp; omega, hown3', by rw [List.append_assoc]; exact Hac.out, hbl3⟩
      case measure => simp only [strSize, ext_size]; omega
    · have hac := hI.ac
      rw [valsS_nil t hlt, List.append_nil] at hac
      subst hac
      have hown := hI.own; have hbl := hI.bl
      clear hI
      go_wp2
      go_ret
      exact ⟨_, rfl, hown, hbl⟩
end Go.Proofs.YtmnjafceenckpaaDoor
set_option linter.unusedVariables false
set_option linter.unusedSimpArgs false
namespace Go.Proofs.YtmnjafceenckpaaDoor
open Go.RowKit
/-- The value at the front is the bytes that it took. -/
theorem val_bytes (n b0 b1 b2 b3 : Nat) (h0 : b0 < 256) (h1 : b1 < 256) (h2 : b2 < 256) (h3 : b3 < 256) :
    oneI ((valN n b0 b1 b2 b3).1 : Int) = ([b0, b1, b2, b3].take (valN n b0 b1 b2 b3).2).map Int.ofNat ∧ (valN n b0 b1 b2 b3).2 ≤ max n 1 := by
  have bad : valN n b0 b1 b2 b3 = (1114112 + b0, 1) → 128 ≤ b0 → oneI ((valN n b0 b1 b2 b3).1 : Int) = ([b0, b1, b2, b3].take (valN n b0 b1 b2 b3).2).map Int.ofNat ∧ (valN n b0 b1 b2 b3).2 ≤ max n 1 := by
    intro h hb; rw [h]
    refine ⟨?_, by simp; omega⟩
    rw [oneI_st ((stB_iff _).2 (by simp; omega))]
    simp; omega
  by_cases c0 : b0 < 128
  · have hv : valN n b0 b1 b2 b3 = (b0, 1) := val_ok (b0, 1) (by unfold Lib.decodeN; rw [if_pos c0]) (Or.inl (by simp; omega))
    rw [hv]
    refine ⟨?_, by simp; omega⟩
    rw [oneI_pt ((ptB_iff _).2 (Or.inl (by simp; omega))), Lib.encodeRuneZ_one (by simp) (by simp; omega)]
    simp
  · by_cases c1 : b0 / 32 = 6 ∧ (1 < n ∧ b1 / 64 = 2)
    · by_cases c2 : b0 % 32 * 64 + b1 % 64 ≥ 128
      · have hv : valN n b0 b1 b2 b3 = (b0 % 32 * 64 + b1 % 64, 2) := val_ok _ (by unfold Lib.decodeN; rw [if_neg c0, if_pos c1, if_pos c2]) (Or.inl (by simp; omega))
        rw [hv]
        refine ⟨?_, by simp; omega⟩
        rw [oneI_pt ((ptB_iff _).2 (Or.inl (by simp; omega))), Lib.encodeRuneZ_two (by simp; omega) (by simp; omega)]
        simp; omega
      · exact bad (val_bad (by unfold Lib.decodeN; rw [if_neg c0, if_pos c1, if_neg c2])) (by omega)
    · by_cases c3 : b0 / 16 = 14 ∧ (1 < n ∧ b1 / 64 = 2) ∧ (2 < n ∧ b2 / 64 = 2)
      · by_cases c2 : b0 % 16 * 4096 + b1 % 64 * 64 + b2 % 64 ≥ 2048 ∧ (b0 % 16 * 4096 + b1 % 64 * 64 + b2 % 64 < 55296 ∨ (57344 ≤ b0 % 16 * 4096 + b1 % 64 * 64 + b2 % 64 ∧ b0 % 16 * 4096 + b1 % 64 * 64 + b2 % 64 ≤ 1114111))
        · have hv : valN n b0 b1 b2 b3 = (b0 % 16 * 4096 + b1 % 64 * 64 + b2 % 64, 3) := val_ok _ (by unfold Lib.decodeN; rw [if_neg c0, if_neg c1, if_pos c3, if_pos c2]) (Or.inr (by simp))
          rw [hv]
          refine ⟨?_, by simp; omega⟩
          rw [oneI_pt ((ptB_iff _).2 (by simp; omega)), Lib.encodeRuneZ_three (by simp; omega)]
          simp; omega
        · exact bad (val_bad (by unfold Lib.decodeN; rw [if_neg c0, if_neg c1, if_pos c3, if_neg c2])) (by omega)
      · by_cases c4 : b0 / 8 = 30 ∧ (1 < n ∧ b1 / 64 = 2) ∧ (2 < n ∧ b2 / 64 = 2) ∧ (3 < n ∧ b3 / 64 = 2)
        · by_cases c2 : b0 % 8 * 262144 + b1 % 64 * 4096 + b2 % 64 * 64 + b3 % 64 ≥ 65536 ∧ (b0 % 8 * 262144 + b1 % 64 * 4096 + b2 % 64 * 64 + b3 % 64 < 55296 ∨ (57344 ≤ b0 % 8 * 262144 + b1 % 64 * 4096 + b2 % 64 * 64 + b3 % 64 ∧ b0 % 8 * 262144 + b1 % 64 * 4096 + b2 % 64 * 64 + b3 % 64 ≤ 1114111))
          · have hv : valN n b0 b1 b2 b3 = (b0 % 8 * 262144 + b1 % 64 * 4096 + b2 % 64 * 64 + b3 % 64, 4) := val_ok _ (by unfold Lib.decodeN; rw [if_neg c0, if_neg c1, if_neg c3, if_pos c4, if_pos c2]) (Or.inr (by simp))
            rw [hv]
            refine ⟨?_, by simp; omega⟩
            rw [oneI_pt ((ptB_iff _).2 (by simp; omega)), Lib.encodeRuneZ_four (by simp; omega) (by simp; omega)]
            simp; omega
          · exact bad (val_bad (by unfold Lib.decodeN; rw [if_neg c0, if_neg c1, if_neg c3, if_pos c4, if_neg c2])) (by omega)
        · exact bad (val_bad (by unfold Lib.decodeN; rw [if_neg c0, if_neg c1, if_neg c3, if_neg c4])) (by omega)
/-- .. and what a code point's bytes begin is that code point. -/
theorem bytes_val1 (n v b1 b2 b3 : Nat) (h : v < 128) : valN n v b1 b2 b3 = (v, 1) := val_ok (v, 1) (by unfold Lib.decodeN; rw [if_pos h]) (Or.inl (by simp; omega))
theorem bytes_val2 (n v b2 b3 : Nat) (h : 128 ≤ v) (h' : v < 2048) (hn : 2 ≤ n) : valN n (192 + v / 64) (128 + v % 64) b2 b3 = (v, 2) := by
  have e : (192 + v / 64) % 32 * 64 + (128 + v % 64) % 64 = v := by omega
  refine val_ok (v, 2) ?_ (Or.inl (by simp; omega))
  unfold Lib.decodeN
  rw [if_neg (by omega), if_pos (by omega), e, if_pos (by omega)]
theorem bytes_val3 (n v b3 : Nat) (h : 2048 ≤ v) (h' : v < 65536) (hs : v < 55296 ∨ 57344 ≤ v) (hn : 3 ≤ n) : valN n (224 + v / 4096) (128 + v / 64 % 64) (128 + v % 64) b3 = (v, 3) := by
  have e : (224 + v / 4096) % 16 * 4096 + (128 + v / 64 % 64) % 64 * 64 + (128 + v % 64) % 64 = v := by omega
  refine val_ok (v, 3) ?_ (Or.inr (by simp))
  unfold Lib.decodeN
  rw [if_neg (by omega), if_neg (by omega), if_pos (by omega), e, if_pos (by omega)]
theorem bytes_val4 (n v : Nat) (h : 65536 ≤ v) (h' : v ≤ 1114111) (hn : 4 ≤ n) : valN n (240 + v / 262144) (128 + v / 4096 % 64) (128 + v / 64 % 64) (128 + v % 64) = (v, 4) := by
  have e : (240 + v / 262144) % 8 * 262144 + (128 + v / 4096 % 64) % 64 * 4096 + (128 + v / 64 % 64) % 64 * 64 + (128 + v % 64) % 64 = v := by omega
  refine val_ok (v, 4) ?_ (Or.inr (by simp))
  unfold Lib.decodeN
  rw [if_neg (by omega), if_neg (by omega), if_neg (by omega), if_pos (by omega), e, if_pos (by omega)]
end Go.Proofs.YtmnjafceenckpaaDoor
namespace Go.Proofs.YtmnjafceenckpaaDoor
open Go.RowKit
theorem front (s : ByteArray) (i n : Nat) (hn : n ≤ 4) (h : i + n ≤ s.size) :
    ([(s.get! i).toNat, (s.get! (i + 1)).toNat, (s.get! (i + 2)).toNat, (s.get! (i + 3)).toNat].take n).map Int.ofNat = ((bytesOf s).drop i).take n := by
  apply List.ext_getElem
  · simp [bytesOf_size]; omega
  · intro j h1 h2
    have hj : j < n := by simp at h1; omega
    rw [List.getElem_map, List.getElem_take, List.getElem_take, List.getElem_drop, bytesOf_get s (i + j) (by omega)]
    match j, hj with
    | 0, _ => rfl
    | 1, _ => rfl
    | 2, _ => rfl
    | 3, _ => rfl
    | k + 4, hj => omega
theorem enc_valsF (s : ByteArray) : ∀ f i, s.size ≤ i + f → encI (valsF s f i) = (bytesOf s).drop i := by
  intro f
  induction f with
  | zero =>
    intro i h
    rw [valsF_end s 0 i (by omega), List.drop_of_length_le (by rw [bytesOf_size]; omega)]; rfl
  | succ f ih =>
    intro i h
    by_cases hi : i < s.size
    · have hp := dec_pos s i hi
      rw [valsF_step s f i hi, encI_cons, ih _ (by omega), ← vAt_size s i hi]
      have hv := (val_bytes (s.size - i) (s.get! i).toNat (s.get! (i + 1)).toNat (s.get! (i + 2)).toNat (s.get! (i + 3)).toNat (get0 _ _) (get0 _ _) (get0 _ _) (get0 _ _)).1
      rw [← vAt_val] at hv
      rw [← vAt_size s i hi] at hp
      rw [hv, front s i _ hp.2.1 hp.2.2, ← List.drop_drop, List.take_append_drop]
    · rw [valsF_end s _ i hi, List.drop_of_length_le (by rw [bytesOf_size]; omega)]; rfl
theorem enc_vals (s : ByteArray) : encI (valsS s) = bytesOf s := enc_valsF s _ 0 (by omega)
theorem encS_vals (s : ByteArray) : encS (valsS s) = s := by unfold encS; rw [enc_vals, txt_bytesOf]
theorem vAt_enc (v : Int) (r : List Int) (h : ptB v = true) : vAt (txt (oneI v ++ r)) 0 = (v.toNat, (oneI v).length) := by
  obtain ⟨n, rfl⟩ := nat_of_pt h
  have hp := (ptB_iff _).1 h
  rw [vAt_val, oneI_pt h, txt_size]
  rcases (by omega : n < 128 ∨ (128 ≤ n ∧ n < 2048) ∨ (2048 ≤ n ∧ n < 65536) ∨ (65536 ≤ n ∧ n ≤ 1114111)) with h1 | h1 | h1 | h1
  · rw [Lib.encodeRuneZ_one (by omega) (by omega)]
    rw [txt_get _ 0 (by simp)]
    have e0 : ((([(n : Int)] ++ r)[0]'(by simp)).toNat.toUInt8).toNat = n := u8n _ _ rfl (by omega)
    rw [e0, bytes_val1 _ n _ _ _ h1]; simp
  · rw [Lib.encodeRuneZ_two (by omega) (by omega)]
    rw [txt_get _ 0 (by simp), txt_get _ (0 + 1) (by simp)]
    have e0 : ((([192 + (n : Int) / 64, 128 + (n : Int) % 64] ++ r)[0]'(by simp)).toNat.toUInt8).toNat = 192 + n / 64 := u8n _ _ (by show 192 + (n : Int) / 64 = _; omega) (by omega)
    have e1 : ((([192 + (n : Int) / 64, 128 + (n : Int) % 64] ++ r)[0 + 1]'(by simp)).toNat.toUInt8).toNat = 128 + n % 64 := u8n _ _ (by show 128 + (n : Int) % 64 = _; omega) (by omega)
    rw [e0, e1, bytes_val2 _ n _ _ h1.1 h1.2 (by simp)]; simp
  · rw [Lib.encodeRuneZ_three (by omega)]
    rw [txt_get _ 0 (by simp), txt_get _ (0 + 1) (by simp), txt_get _ (0 + 2) (by simp)]
    have e0 : ((([224 + (n : Int) / 4096, 128 + (n : Int) / 64 % 64, 128 + (n : Int) % 64] ++ r)[0]'(by simp)).toNat.toUInt8).toNat = 224 + n / 4096 := u8n _ _ (by show 224 + (n : Int) / 4096 = _; omega) (by omega)
    have e1 : ((([224 + (n : Int) / 4096, 128 + (n : Int) / 64 % 64, 128 + (n : Int) % 64] ++ r)[0 + 1]'(by simp)).toNat.toUInt8).toNat = 128 + n / 64 % 64 := u8n _ _ (by show 128 + (n : Int) / 64 % 64 = _; omega) (by omega)
    have e2 : ((([224 + (n : Int) / 4096, 128 + (n : Int) / 64 % 64, 128 + (n : Int) % 64] ++ r)[0 + 2]'(by simp)).toNat.toUInt8).toNat = 128 + n % 64 := u8n _ _ (by show 128 + (n : Int) % 64 = _; omega) (by omega)
    rw [e0, e1, e2, bytes_val3 _ n _ h1.1 h1.2 (by omega) (by simp)]; simp
  · rw [Lib.encodeRuneZ_four (by omega) (by omega)]
    rw [txt_get _ 0 (by simp), txt_get _ (0 + 1) (by simp), txt_get _ (0 + 2) (by simp), txt_get _ (0 + 3) (by simp)]
    have e0 : ((([240 + (n : Int) / 262144, 128 + (n : Int) / 4096 % 64, 128 + (n : Int) / 64 % 64, 128 + (n : Int) % 64] ++ r)[0]'(by simp)).toNat.toUInt8).toNat = 240 + n / 262144 := u8n _ _ (by show 240 + (n : Int) / 262144 = _; omega) (by omega)
    have e1 : ((([240 + (n : Int) / 262144, 128 + (n : Int) / 4096 % 64, 128 + (n : Int) / 64 % 64, 128 + (n : Int) % 64] ++ r)[0 + 1]'(by simp)).toNat.toUInt8).toNat = 128 + n / 4096 % 64 := u8n _ _ (by show 128 + (n : Int) / 4096 % 64 = _; omega) (by omega)
    have e2 : ((([240 + (n : Int) / 262144, 128 + (n : Int) / 4096 % 64, 128 + (n : Int) / 64 % 64, 128 + (n : Int) % 64] ++ r)[0 + 2]'(by simp)).toNat.toUInt8).toNat = 128 + n / 64 % 64 := u8n _ _ (by show 128 + (n : Int) / 64 % 64 = _; omega) (by omega)
    have e3 : ((([240 + (n : Int) / 262144, 128 + (n : Int) / 4096 % 64, 128 + (n : Int) / 64 % 64, 128 + (n : Int) % 64] ++ r)[0 + 3]'(by simp)).toNat.toUInt8).toNat = 128 + n % 64 := u8n _ _ (by show 128 + (n : Int) % 64 = _; omega) (by omega)
    rw [e0, e1, e2, e3, bytes_val4 _ n h1.1 h1.2 (by simp)]; simp
theorem vals_enc1 (v : Int) (r : List Int) (h : ptB v = true) : valsS (txt (oneI v ++ r)) = v :: valsS (txt r) := by
  have hl : 1 ≤ (oneI v).length := by rw [oneI_pt h]; exact (Lib.encodeRuneZ_length v).1
  rw [valsS_cons _ (by rw [txt_size]; simp; omega), vAt_enc v r h, txt_ext]
  obtain ⟨n, rfl⟩ := nat_of_pt h
  simp
theorem vals_encs (a : List Int) (r : List Int) (h : ∀ v ∈ a, ptB v = true) : valsS (txt (encI a ++ r)) = a ++ valsS (txt r) := by
  induction a with
  | nil => rfl
  | cons v a ih =>
    rw [encI_cons, List.append_assoc, vals_enc1 v _ (h v (by simp)), ih (fun x hx => h x (by simp [hx]))]; rfl
theorem valsS_enc (a : List Int) (h : ∀ v ∈ a, ptB v = true) : valsS (encS a) = a := by
  have := vals_encs a [] h
  rw [List.append_nil] at this
  rw [encS, this, valsS_nil (txt []) (by rw [txt_size]; simp), List.append_nil]
/-- Values of a text: each may be. -/
theorem vals_right (s : ByteArray) : ∀ f i, ∀ v ∈ valsF s f i, ptB v = true ∨ stB v = true := by
  intro f
  induction f with
  | zero => intro i v hv; rw [valsF] at hv; cases hv
  | succ f ih =>
    intro i v hv
    by_cases hi : i < s.size
    · rw [valsF_step s f i hi] at hv
      rcases List.mem_cons.1 hv with rfl | hv
      · have hb := (val_bytes (s.size - i) (s.get! i).toNat (s.get! (i + 1)).toNat (s.get! (i + 2)).toNat (s.get! (i + 3)).toNat (get0 _ _) (get0 _ _) (get0 _ _) (get0 _ _)).1
        rw [← vAt_val] at hb
        have hp := dec_pos s i hi
        rw [← vAt_size s i hi] at hp
        cases h1 : ptB ((vAt s i).1 : Int)
        · cases h2 : stB ((vAt s i).1 : Int)
          · rw [oneI_no h1 h2] at hb
            have := congrArg List.length hb
            simp at this; omega
          · right; rfl
        · left; rfl
      · exact ih _ v hv
    · rw [valsF_end s _ i hi] at hv; cases hv
theorem pt_of_le {s : ByteArray} {v : Int} (h : v ∈ valsS s) (hl : v ≤ 1114111) : ptB v = true := by
  rcases vals_right s _ _ v h with h1 | h1
  · exact h1
  · have := (stB_iff v).1 h1; omega
theorem vals_join (s t : ByteArray) (h : ∀ v ∈ valsS s, v ≤ 1114111) : valsS (s ++ t) = valsS s ++ valsS t := by
  have e : s ++ t = txt (encI (valsS s) ++ bytesOf t) := by
    rw [enc_vals]
    conv => lhs; rw [← txt_bytesOf s, ← txt_bytesOf t]
    apply ByteArray.ext
    simp [txt]
  rw [e, vals_encs _ _ (fun v hv => pt_of_le hv (h v hv)), txt_bytesOf]
/-- How many. -/
theorem valsF_count (s : ByteArray) : ∀ f i, (valsF s f i).length = Lib.runeCountFrom s f i := by
  intro f
  induction f with
  | zero => intro i; rfl
  | succ f ih =>
    intro i
    by_cases hi : i < s.size
    · rw [valsF_step s f i hi, Lib.runeCountFrom, if_pos hi, ← ih]; simp; omega
    · rw [valsF_end s _ i hi, Lib.runeCountFrom_end s _ _ hi]; rfl
theorem vals_count (s : ByteArray) : (valsS s).length = Lib.runeCount s := valsF_count s _ _
end Go.Proofs.YtmnjafceenckpaaDoor
set_option linter.unusedVariables false
set_option linter.unusedSimpArgs false
namespace Go.Proofs.YtmnjafceenckpaaDoor
open Go.RowKit
end Go.Proofs.YtmnjafceenckpaaDoor
