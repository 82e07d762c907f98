/-
  Joined: Ap EsV Ki0 C9 C10 C11 C12 P1 P3 P4 Lo Sg3 M6 Ki1.
-/
import Derived.Test.YtgpcflpeddnfcaaDoorJA01
import Derived.Test.YtgpcflpeddnfcaaDoorJA03
import Derived.Laws.AppendOwnNone
import Derived.Maps.OwnSet
import Derived.Maps.Views
import Derived.Lib.QuietBelow
import Derived.Laws.StructEq
import Derived.Test.YtgpcflpeddnfcaaDoorProg
import Derived.Shelf.Strings.BuilderX
import Derived.Lib.Builder
import Derived.Lib.AppendStr
import Derived.Laws.Externs
import Derived.Lib.AppendZeros
import Derived.Lib.AppendZerosOnto
import Derived.Deep.Onto
import Derived.Deep.Cut
import Derived.Deep.CutRange
set_option linter.unusedVariables false
set_option linter.unusedSimpArgs false
set_option maxRecDepth 100000
set_option linter.unusedVariables false
set_option linter.unusedSimpArgs false
namespace Go.Proofs.YtgpcflpeddnfcaaDoor
open Go.RowKit
theorem apR_app (a b : List (Int × Int)) : (sRow (a ++ b)).toList = (sRow a).toList ++ (sRow b).toList := by simp [sRow]
theorem apR_one (l : List (Int × Int)) : ∀ u ∈ (sRow l).toList, u.oneCell' = true := by
  intro u hu
  simp only [sRow, List.toList_toArray, List.mem_flatMap] at hu
  obtain ⟨p, _, hp⟩ := hu
  simp at hp
  rcases hp with rfl | rfl <;> rfl
theorem apR_len (l : List (Int × Int)) : (sRow l).toList.length = l.length * 2 := by
  simp only [sRow, List.toList_toArray]
  induction l with
  | nil => rfl
  | cons x l ih => simp only [List.flatMap_cons, List.length_append, List.length_cons, List.length_nil, ih]; omega
theorem apR_news {w : World} {ad : Addr} {l : List (Int × Int)} (h : Signs w (some ad) l) : ∀ j u, (sRow l).toList[j]? = some u → w.cell? (ad.add j) = some u := by
  intro j u hj
  have hlen := apR_len l
  have hj2 : j < l.length * 2 := by
    rw [← hlen]
    exact (List.getElem?_eq_some_iff.1 hj).1
  obtain ⟨b, off, e, _, h1, h2⟩ := h (j / 2) (by omega)
  injection e with e
  subst e
  have hadd : (⟨b, off, none⟩ : Addr).add j = ⟨b, off + j, none⟩ := by unfold Addr.add; split <;> simp_all
  have hs := sRow_at l (j / 2) (by omega)
  have hj' : (l.flatMap fun p => [Value.int .i64 p.1, Value.int .i64 p.2])[j]? = some u := hj
  rw [hadd]
  rcases Nat.mod_two_eq_zero_or_one j with hm | hm
  · have e : j / 2 * 2 = j := by omega
    rw [e] at hs h1
    rw [hs.1] at hj'
    rw [h1]; exact hj'
  · have e : j / 2 * 2 + 1 = j := by omega
    rw [e] at hs
    rw [show off + j / 2 * 2 + 1 = off + j by omega] at h2
    rw [hs.2] at hj'
    rw [h2]; exact hj'
/-- A row of signs of the call's own. -/
def OwS (w : World) (B : Nat) (v : Value) (L : List (Int × Int)) : Prop := w.ownsRow B 70 2 v L.length (sRow L).toList
/-- A slice of signs, its room, and where its block is. -/
structure SlS (S : Nat → Prop) (w : World) (a : Option Addr) (L : List (Int × Int)) (c : Nat) : Prop where
  s : Signs w a L
  le : L.length ≤ c
  nl : a = none → c = 0
  st : ∀ ad, a = some ad → L ≠ [] → S ad.block
theorem SlS.mono {S T : Nat → Prop} {w : World} {a : Option Addr} {L : List (Int × Int)} {c : Nat} (h : SlS S w a L c) (hT : ∀ k, S k → T k) : SlS T w a L c := ⟨h.s, h.le, h.nl, fun ad e hn => hT _ (h.st ad e hn)⟩
theorem SlS.keep {S : Nat → Prop} {w w' : World} {a : Option Addr} {L : List (Int × Int)} {c : Nat} (h : SlS S w a L c) (hs : w.heap.size ≤ w'.heap.size) (hk : ∀ k, S k → w'.heap[k]? = w.heap[k]?) : SlS S w' a L c := by
  refine ⟨fun i hi => ?_, h.le, h.nl, h.st⟩
  obtain ⟨b, off, e, hb, h1, h2⟩ := h.s i hi
  have hS := h.st _ e (fun h0 => by rw [h0] at hi; simp at hi)
  have hkb : w'.heap[b]? = w.heap[b]? := hk b hS
  refine ⟨b, off, e, Nat.lt_of_lt_of_le hb hs, ?_, ?_⟩
  · rw [← h1]; unfold World.cell?; rw [hkb]
  · rw [← h2]; unfold World.cell?; rw [hkb]
theorem SlS.below {S : Nat → Prop} {w w' : World} {a : Option Addr} {L : List (Int × Int)} {c : Nat} (h : SlS S w a L c) (hb : Below w.heap.size w w') : SlS S w' a L c := ⟨h.s.below hb, h.le, h.nl, h.st⟩
/-- A part of a slice. -/
theorem SlS.sub {S : Nat → Prop} {w : World} {a : Option Addr} {L : List (Int × Int)} {c : Nat} (h : SlS S w a L c) (f t : Nat) (hf : f ≤ t) (ht : t ≤ L.length) : SlS S w (if c = f then a else a.map (·.add (f * 2))) ((L.drop f).take (t - f)) (c - f) ∧ ((L.drop f).take (t - f)).length = t - f := by
  have hlen : ((L.drop f).take (t - f)).length = t - f := by rw [List.length_take, List.length_drop]; omega
  have hle := h.le
  refine ⟨⟨fun i hi => ?_, by omega, fun h0 => ?_, fun ad e hn => ?_⟩, hlen⟩
  · rw [hlen] at hi
    obtain ⟨b, off, e, hb, h1, h2⟩ := h.s (f + i) (by omega)
    have hg : ((L.drop f).take (t - f)).getD i (0, 0) = L.getD (f + i) (0, 0) := by
      rw [List.getD, List.getElem?_take, if_pos hi, List.getElem?_drop, List.getD]
    rw [if_neg (by omega), e, hg]
    refine ⟨b, off + f * 2, ?_, hb, ?_, ?_⟩
    · have hadd : (⟨b, off, none⟩ : Addr).add (f * 2) = ⟨b, off + f * 2, none⟩ := by unfold Addr.add; split <;> simp_all
      simp only [Option.map_some, hadd]
    · rw [show off + f * 2 + i * 2 = off + (f + i) * 2 by omega]; exact h1
    · rw [show off + f * 2 + i * 2 + 1 = off + (f + i) * 2 + 1 by omega]; exact h2
  · have : a = none := by
      by_cases hc : c = f
      · rw [if_pos hc] at h0; exact h0
      · rw [if_neg hc] at h0; cases a with
        | none => rfl
        | some x => cases h0
    have := h.nl this; omega
  · have hpos : 0 < ((L.drop f).take (t - f)).length := List.length_pos_iff.2 hn
    rw [hlen] at hpos
    have hL : L ≠ [] := fun h0 => by rw [h0] at ht; simp at ht; omega
    rw [if_neg (by omega)] at e
    cases a with
    | none => cases e
    | some x =>
      have := h.st x rfl hL
      simp only [Option.map_some, Option.some.injEq] at e
      rw [← e]
      unfold Addr.add; split <;> exact this
theorem elemSg : Tryd.prog.elem 28 = 70 := by kernel_rfl
theorem sizeSg (w : World) : (sizeOf 70).run Tryd.prog w = .ok 2 w := by kernel_rfl
/-- Slices of slices of signs. -/
theorem run_cutH (w : World) (a : Option Addr) (n c t : Nat) (h : t ≤ c) : (Instr.slice 28 (.slice a n c) none (some (.int .i64 (t : Int))) none).run Tryd.prog w = .ok (.slice (if c = 0 then a else a.map (·.add (0 * 2))) t c) w := by
  rw [run_slice_h (P := Tryd.prog) w 28 a n c (by kernel_rfl) .i64 (t : Int) (by omega) (by omega), elemSg, sizeSg]
  rfl
theorem run_cutL (w : World) (a : Option Addr) (n c f : Nat) (h : f ≤ n) : (Instr.slice 28 (.slice a n c) (some (.int .i64 (f : Int))) none none).run Tryd.prog w = .ok (.slice (if c = f then a else a.map (·.add (f * 2))) (n - f) (c - f)) w := by
  rw [run_slice_l (P := Tryd.prog) w 28 a n c (by kernel_rfl) .i64 (f : Int) (by omega) (by omega), elemSg, sizeSg]
  rfl
theorem run_cutLH (w : World) (a : Option Addr) (n c f t : Nat) (h : f ≤ t) (h2 : t ≤ c) : (Instr.slice 28 (.slice a n c) (some (.int .i64 (f : Int))) (some (.int .i64 (t : Int))) none).run Tryd.prog w = .ok (.slice (if c = f then a else a.map (·.add (f * 2))) (t - f) (c - f)) w := by
  rw [run_slice_lh (P := Tryd.prog) w 28 a n c (by kernel_rfl) .i64 .i64 (f : Int) (t : Int) (by omega) (by omega) (by omega), elemSg, sizeSg]
  rfl
theorem ows_new (w : World) : OwS (w.alloc (.cells #[] 70)) w.heap.size (.slice (some ⟨w.heap.size, 0, none⟩) 0 0) [] :=
  ⟨rfl, .inr ⟨w.heap.size, 0, #[], rfl, Nat.le_refl _, heap_alloc_new _ _, Nat.le_refl _, by decide, rfl, rfl⟩⟩
theorem OwS.sl {w : World} {B : Nat} {v : Value} {L : List (Int × Int)} (h : OwS w B v L) : ∃ a c, v = .slice a L.length c ∧ SlS (fun k => B ≤ k ∧ k < w.heap.size) w a L c := by
  unfold OwS at h
  rcases h.2 with ⟨rfl, h0⟩ | ⟨g, cap, cur, rfl, hB, hg, hle, _⟩
  · exact ⟨none, 0, by rw [h0], fun j hj => by omega, by omega, fun _ => rfl, fun ad e => by cases e⟩
  · refine ⟨_, cap, rfl, fun j hj => ⟨g, 0, rfl, blk_lt hg, ?_, ?_⟩, hle, fun e => (by cases e), fun ad e _ => (by cases e; exact ⟨hB, blk_lt hg⟩)⟩
    · have := sRow_at L j hj
      rw [Nat.zero_add, h.cellAt (j * 2) (by omega)]; exact this.1
    · have := sRow_at L j hj
      rw [Nat.zero_add, h.cellAt (j * 2 + 1) (by omega)]; exact this.2
/-- A row of the call's own is a slice. -/
theorem OwS.form {w : World} {B : Nat} {v : Value} {L : List (Int × Int)} {n : Nat} (h : OwS w B v L) (hn : L.length = n) : ∃ a c, v = .slice a n c := by
  obtain ⟨a, c, e, _⟩ := h.sl
  exact ⟨a, c, by rw [e, hn]⟩
/-- An append of signs to a row of the call's own. -/
theorem step_app_signs {w : World} {ops : Array Oper} {o : Oper} {a : Act} {K : Act → World → Prop} {Q : Exit → Act → World → Prop} {E : Prop} (hgd : Region.wanted o (yielded ops a.tmps) = true) (s x : Operand)
    (ho : o.op = .call { callee := .builtin .append, args := #[s, x], argTypes := #[28, 28] }) (base : Nat)
    (v : Value) (np : Nat) (p : List (Int × Int)) (hs : a.eval s = v) (hp : p.length = np) (hown : OwS w base v p) (ad : Option Addr) (n c : Nat) (l : List (Int × Int)) (hx : a.eval x = .slice ad n c) (hl : l.length = n) (hsg : Signs w ad l) (hnl : ad = none → c = 0)
    (hlen : np + n ≤ 1000000) (hbase : base ≤ w.heap.size)
    (h : ∀ ad' c' w', OwS w' base (.slice ad' (np + n) c') (p ++ l) → w.grownBy w' v.ownBlock → K (a.put o.dst (.slice ad' (np + n) c')) w') :
    if Region.wanted o (yielded ops a.tmps) = true then Oper.wp Tryd.prog o a w K Q else E := by
  obtain ⟨i0, hi, hz0, hz1, hz2⟩ := info_parts infoSign
  subst hl; subst hp
  rw [if_pos hgd]
  have hfin : ∀ v' w', OwS w' base v' (p ++ l) → w.grownBy w' v.ownBlock → K (a.put o.dst v') w' := by
    intro v' w' h1 h2
    obtain ⟨ad', c', rfl⟩ := h1.form (n := p.length + l.length) (by rw [List.length_append])
    exact h ad' c' w' h1 h2
  cases ad with
  | none =>
    obtain rfl := hnl rfl
    have hnil : l = [] := by
      cases l with
      | nil => rfl
      | cons x l => obtain ⟨_, _, e, _⟩ := hsg 0 (by simp); cases e
    subst hnil
    have hrun := run_append_owned_none (P := Tryd.prog) (w := w) base 28 o.type 70 i0 2 Tryd.underlying28 hi v p.length _ hown
    have h' := hfin v w (by rw [List.append_nil]; exact hown) ⟨rfl, rfl, rfl, Nat.le_refl _, fun _ _ _ => rfl⟩
    unfold Oper.wp
    simp only [List.length_nil] at hx
    simp [execOp, ho, resolve, invoke, builtin, hs, hx, hrun, Result.andThen]
    exact h'
  | some ad =>
    refine wp_append_own w s x 28 ho base 70 i0 _ 2 16 Tryd.underlying28 hi hz0 hz1 hz2 rfl (by decide) v p.length _ hs hown ad l.length c (sRow l).toList hx (apR_len l) (apR_news hsg) (apR_one l) (by unfold maxLen; omega) (by omega) hbase (fun v' w' a1 a2 _ => hfin v' w' ?_ a2)
    unfold OwS
    rw [List.length_append, apR_app]
    exact a1
theorem wpList_app_signs {w : World} {ops : Array Oper} {rest : List Oper} {o : Oper} {a : Act} {Q : Exit → Act → World → Prop} (hgd : Region.wanted o (yielded ops a.tmps) = true) (s x : Operand)
    (ho : o.op = .call { callee := .builtin .append, args := #[s, x], argTypes := #[28, 28] }) (base : Nat)
    (v : Value) (np : Nat) (p : List (Int × Int)) (hs : a.eval s = v) (hp : p.length = np) (hown : OwS w base v p) (ad : Option Addr) (n c : Nat) (l : List (Int × Int)) (hx : a.eval x = .slice ad n c) (hl : l.length = n) (hsg : Signs w ad l) (hnl : ad = none → c = 0)
    (hlen : np + n ≤ 1000000) (hbase : base ≤ w.heap.size)
    (h : ∀ ad' c' w', OwS w' base (.slice ad' (np + n) c') (p ++ l) → w.grownBy w' v.ownBlock → wpList Tryd.prog ops Q rest (a.put o.dst (.slice ad' (np + n) c')) w') : wpList Tryd.prog ops Q (o :: rest) a w :=
  wpList_step fun K hK => step_app_signs hgd s x ho base v np p hs hp hown ad n c l hx hl hsg hnl hlen hbase (fun ad' c' w' h1 h2 => hK _ _ (h ad' c' w' h1 h2))
set_option maxHeartbeats 4000000 in
theorem joinS_ref (S : Nat → Prop) (p l : List (Int × Int)) (a b : Option Addr) (c d n m : Nat) (w : World) (hn : p.length = n) (hm : l.length = m) (hp : n ≤ 100000) (hl : m ≤ 100000) (ha : SlS S w a p c) (hb : SlS S w b l d) :
    Calls Tryd.prog 131 #[.slice a n c, .slice b m d] w fun e w' => ∃ ad c', e = .returned (.slice ad (n + m) c') ∧ OwS w' w.heap.size (.slice ad (n + m) c') (p ++ l) ∧ Below w.heap.size w w' := by
  have N0 := below_alloc w (.cells #[] 70)
  have H0 := Lib.hid (ows_new w)
  have hsz : (w.alloc (.cells #[] 70)).heap.size = w.heap.size + 1 := by simp
  have HA := Lib.hid (ha.below N0)
  have HB := Lib.hid hb
  have HN := Lib.hid hn
  have HM := Lib.hid hm
  clear ha hb hn hm
  generalize hW : w.alloc (.cells #[] 70) = W at *
  go_enter Tryd.func131, Tryd.ntmps131
  go_wp2_with (at_builtin; refine wpList_app_signs rfl _ _ rfl w.heap.size _ 0 [] rfl rfl H0.out a n c p rfl HN.out HA.out.s HA.out.nl ?c3 ?c4 ?_)
  case c3 => omega
  case c4 => omega
  intro ad5 c5 w5 hown5 hgrow5
  have N5 := N0.grown hgrow5 (by omega) (fun j hj => by simp [Value.ownBlock] at hj; omega)
  have HB5 := Lib.hid (HB.out.s.below N5)
  have Hown := Lib.hid (show OwS w5 w.heap.size (.slice ad5 n c5) p from hown5)
  have HS5 := Lib.hid N5.size
  clear hown5 hgrow5
  go_wp2_with (at_builtin; refine wpList_app_signs rfl _ _ rfl w.heap.size _ n p rfl HN.out Hown.out b m d l rfl HM.out HB5.out HB.out.nl ?c3 ?c4 ?_)
  case c3 => omega
  case c4 => exact HS5.out
  intro ad6 c6 w6 hown6 hgrow6
  have N6 := N5.grown hgrow6 N5.size (fun j hj => (Hown.out.lt j hj).1)
  have HO := Lib.hid hown6
  clear hown6 hgrow6
  go_wp2
  go_ret
  exact ⟨_, _, rfl, HO.out, N6⟩
end Go.Proofs.YtgpcflpeddnfcaaDoor
set_option linter.unusedVariables false
set_option linter.unusedSimpArgs false
namespace Go.Proofs.YtgpcflpeddnfcaaDoor
open Go.RowKit
def esI (w : World) (B : Nat) (v : Value) (L : List Int) : Prop := w.ownsRow B 3 1 v L.length (L.map (Value.int .i64))
set_option maxHeartbeats 4000000 in
theorem esvals_ref (l : List (Int × Int)) (a : Option Addr) (c : Nat) (w : World) (hl : l.length ≤ 1000) (hs : Signs w a l) :
    Calls Tryd.prog 27 #[.slice a l.length c] w fun e w' => ∃ x, e = .returned x ∧ esI w' w.heap.size x (l.map (·.1)) ∧ Below w.heap.size w w' := by
  obtain ⟨i0, hi, hz0, hz1, hz2⟩ := info_parts infoIntS
  have HS := Lib.hid hs; clear hs
  go_enter Tryd.func27, Tryd.ntmps27
  go_wp2
  go_loopw [3, 4] (fun ov iv wr => ∃ k : Nat, k ≤ l.length ∧ iv = .int .i64 (k : Int) ∧ Hid (esI wr w.heap.size ov ((l.take k).map (·.1))) ∧ Below w.heap.size w wr) (fun _ iv _ => l.length - (intOf iv).toNat)
  case atStart => exact ⟨0, Nat.zero_le _, rfl, Lib.hid (World.ownsRow_nil _ _ _ _), Below.refl _ _⟩
  case round =>
    obtain ⟨k, hk, rfl, hO, hb⟩ := hrel
    by_cases hlt : k < l.length
    · obtain ⟨b, off, rfl, hblk, c1, c2⟩ := (HS.out.below hb) k hlt
      have hk1 : (k : Int) < l.length := by omega
      have hk0 : (0 : Int) ≤ k := by omega
      have hnext : (l.take (k + 1)).map (·.1) = (l.take k).map (·.1) ++ [(l.getD k (0, 0)).1] := by
        rw [List.take_add_one, List.getElem?_eq_getElem hlt, List.map_append]
        simp [List.getD, List.getElem?_eq_getElem hlt]
      have hlen : ((l.take k).map (·.1)).length ≤ 1000 := by simp; omega
      have Hn := Lib.hid hnext
      have hown := hO.out
      unfold esI at hown
      have hsz := hb.size
      clear hnext
      generalize (l.getD k (0, 0)).1 = v at *
      generalize (l.take k).map (·.1) = Y at *
      go_wp2_with (at_builtin; refine wpList_append_own _ rfl _ _ 53 rfl w.heap.size 3 i0 (.int .i64 0) 1 8 Tryd.underlying53 hi hz0 hz1 hz2 rfl (by decide) _ _ _ rfl (hown.alloc _) ⟨wr.heap.size, 0, none⟩ 1 1 [.int .i64 v] rfl rfl ?g1 ?g2 ?g3 ?g4 ?g5 ?_)
      case g1 => intro j x hj; exact app_cells rfl hj
      case g2 => simp [Value.oneCell']
      case g3 => unfold maxLen; omega
      case g4 => omega
      case g5 => simp; omega
      intro v' w5 hown5 hgrow5 _
      have N5 := (hb.alloc hb.size (.cells #[.int .i64 v] 3)).grown hgrow5 (by simp; omega) (fun j hj => (hown.lt j hj).1)
      have HO := Lib.hid (show esI w5 w.heap.size v' (Y ++ [v]) by unfold esI; rw [List.length_append, List.map_append]; exact hown5)
      clear hown5 hgrow5 hown
      go_wp2
      go_roundw
      case rel => exact ⟨k + 1, by omega, by go_num, by first | exact HO | (rw [Hn.out]; exact HO), N5⟩
      case measure => (simp [intOf]; try omega)
    · obtain rfl : k = l.length := by omega
      rw [List.take_length] at hO
      go_wp2
      go_ret
      exact ⟨_, rfl, hO.out, hb⟩
end Go.Proofs.YtgpcflpeddnfcaaDoor
set_option linter.unusedVariables false
set_option linter.unusedSimpArgs false
namespace Go.Proofs.YtgpcflpeddnfcaaDoor
open Go.RowKit
def encA : Option Addr → DataW Unit
  | none => .nil
  | some ⟨b, o, none⟩ => .agg [.lit (.int .i64 b), .lit (.int .i64 o)]
  | some ⟨b, o, some k⟩ => .agg [.lit (.int .i64 b), .lit (.int .i64 o), .lit (.int .i64 k)]
def slD (a : Option Addr) (n c : Nat) : DataW Unit := .agg [encA a, .lit (.int .i64 n), .lit (.int .i64 c)]
def slR : Value → Option (DataW Unit × List MemPlace)
  | .slice a n c => some (slD a n c, [])
  | _ => none
theorem encA_inj {a b : Option Addr} (h : encA a = encA b) : a = b := by
  match a, b, h with
  | none, none, _ => rfl
  | none, some ⟨b, o, none⟩, h => cases h
  | none, some ⟨b, o, some k⟩, h => cases h
  | some ⟨b, o, none⟩, none, h => cases h
  | some ⟨b, o, some k⟩, none, h => cases h
  | some ⟨b, o, none⟩, some ⟨b', o', none⟩, h => simp [encA] at h; obtain ⟨h1, h2⟩ := h; obtain rfl : b = b' := (by omega); obtain rfl : o = o' := (by omega); rfl
  | some ⟨b, o, none⟩, some ⟨b', o', some k⟩, h => simp [encA] at h
  | some ⟨b, o, some k⟩, some ⟨b', o', none⟩, h => simp [encA] at h
  | some ⟨b, o, some k⟩, some ⟨b', o', some k'⟩, h => simp [encA] at h; obtain ⟨h1, h2, h3⟩ := h; obtain rfl : b = b' := (by omega); obtain rfl : o = o' := (by omega); obtain rfl : k = k' := (by omega); rfl
theorem slR_inj {v : Value} {a : Option Addr} {n c : Nat} {ps : List MemPlace} (h : slR v = some (slD a n c, ps)) : v = .slice a n c := by
  cases v with
  | slice a' n' c' =>
    simp only [slR, Option.some.injEq, Prod.mk.injEq] at h
    have h1 := h.1
    simp only [slD, DataW.agg.injEq, List.cons.injEq, DataW.lit.injEq, Lit.int.injEq, and_true, true_and] at h1
    obtain ⟨e1, e2, e3⟩ := h1
    rw [encA_inj e1, show n' = n by omega, show c' = c by omega]
  | _ => cases h
/-- A slice's value. -/
abbrev SlV := Option Addr × Nat × Nat
def slV (s : SlV) : Value := .slice s.1 s.2.1 s.2.2
def sl0 : SlV := (none, 0, 0)
theorem slR_v (s : SlV) : slR (slV s) = some (slD s.1 s.2.1 s.2.2, []) := rfl
/-- Block b is a map that has vs, by numbers from o on. -/
structure MapF (w : World) (b : Nat) (o : Int) (vs : List SlV) : Prop where
  ex : ∃ D : DataW Unit, w.ownsMap Tryd.prog 3 slR b vs.length D ∧ Maps.size D = vs.length ∧ (∀ i : Int, Maps.has D (.int .i64 i) = decide (o ≤ i ∧ i < o + vs.length)) ∧ ∀ j, j < vs.length → ∀ z, D.atKey (.int .i64 (o + j)) z = slD (vs.getD j sl0).1 (vs.getD j sl0).2.1 (vs.getD j sl0).2.2
  lo : 0 ≤ o
  hi : o + vs.length ≤ 1000000000
theorem keyI : Maps.Keyed Tryd.prog 3 := Maps.int_keyed Tryd.underlying3
theorem keyI_mk {i : Int} (h0 : 0 ≤ i) (h1 : i ≤ 1000000000) : keyOf Tryd.prog 3 (.int .i64 i) = some (.int .i64 i) := Maps.keyOf_int_mk Tryd.underlying3 (by simp [Lit.wf, IntKind.min, IntKind.max, IntKind.signed, IntKind.bits]; omega)
theorem zeroSl (w : World) : (zeroValue 28).run Tryd.prog w = .ok (.slice none 0 0) w := by kernel_rfl
theorem litI_key {i : Int} : WideAt.IsKeyLit (Lit.int .i64 i) := trivial
theorem litI_ne {i j : Int} (h : i ≠ j) : Lit.int .i64 i ≠ Lit.int .i64 j := fun e => h (by injection e)
theorem MapF.kept {w w' : World} {b : Nat} {o : Int} {vs : List SlV} (h : MapF w b o vs) {row : Option Nat} (hg : w.grownBy w' row) (hne : some b ≠ row) : MapF w' b o vs := by
  obtain ⟨D, h1, h2⟩ := h.ex
  exact ⟨⟨D, h1.kept hg hne, h2⟩, h.lo, h.hi⟩
theorem MapF.below {w w' : World} {b : Nat} {o : Int} {vs : List SlV} (h : MapF w b o vs) (hb : Below w.heap.size w w') : MapF w' b o vs := h.kept (row := none) ⟨hb.os, hb.tape, hb.output, hb.size, fun k hk _ => hb.block k hk⟩ (by simp)
theorem MapF.blk {w w' : World} {b : Nat} {o : Int} {vs : List SlV} (h : MapF w b o vs) (hk : w'.heap[b]? = w.heap[b]?) : MapF w' b o vs := by
  obtain ⟨D, ⟨es, clock, hb, F, hs, hD⟩, h2⟩ := h.ex
  exact ⟨⟨D, ⟨es, clock, hk.trans hb, F, hs, hD⟩, h2⟩, h.lo, h.hi⟩
theorem MapF.lt {w : World} {b : Nat} {o : Int} {vs : List SlV} (h : MapF w b o vs) : b < w.heap.size := by
  obtain ⟨D, h1, _⟩ := h.ex; exact h1.lt
theorem MapF.made (w : World) : MapF (w.alloc (.map #[] 0)) w.heap.size 0 [] :=
  ⟨⟨.map [], World.ownsMap_made w _ _ _, rfl, fun i => by rw [decide_eq_false (by simp)]; rfl, fun j hj => absurd hj (Nat.not_lt_zero j)⟩, by omega, by simp⟩
theorem fit_size {w : World} {b n : Nat} {D : DataW Unit} (h : w.ownsMap Tryd.prog 3 slR b n D) {m : Nat} (hm : Maps.size D ≤ m) : w.ownsMap Tryd.prog 3 slR b m D := by
  obtain ⟨es, clock, hb, F, hs, rfl⟩ := h
  refine ⟨es, clock, hb, F, ?_, rfl⟩
  simpa [Maps.size, length_sorted] using hm
theorem getD_app1 (us : List SlV) (v : SlV) (j : Nat) : (us ++ [v]).getD j sl0 = if j < us.length then us.getD j sl0 else if j = us.length then v else sl0 := by
  rw [List.getD]
  split
  · rename_i h; rw [List.getElem?_append_left h, List.getD]
  · split
    · rename_i h; rw [h, List.getElem?_append_right (Nat.le_refl _), Nat.sub_self]; rfl
    · rw [List.getElem?_eq_none (by simp; omega)]; rfl
end Go.Proofs.YtgpcflpeddnfcaaDoor
set_option linter.unusedVariables false
set_option linter.unusedSimpArgs false
namespace Go.Proofs.YtgpcflpeddnfcaaDoor
open Go.RowKit
/-- One more of v's class. -/
def bump (f : Int → Int) (L : List Int) (v : Int) : List Int := L.set (f v).toNat (L.getD (f v).toNat 0 + 1)
def zer : List Int := List.replicate 13 0
/-- How many there are of each class. -/
def cnts (f : Int → Int) (l : List Int) : List Int := l.foldl (bump f) zer
theorem cnts_snoc (f : Int → Int) (l : List Int) (v : Int) : cnts f (l ++ [v]) = bump f (cnts f l) v := by simp [cnts]
theorem cnts_take (f : Int → Int) (l : List Int) (k : Nat) (h : k < l.length) : cnts f (l.take (k + 1)) = bump f (cnts f (l.take k)) (l.getD k 0) := by
  rw [List.take_succ_eq_append_getElem h, cnts_snoc, List.getD, List.getElem?_eq_getElem h]; rfl
theorem getD_set (L : List Int) (i j : Nat) (x : Int) : (L.set i x).getD j 0 = if i = j ∧ i < L.length then x else L.getD j 0 := by
  rw [List.getD, List.getD, List.getElem?_set]
  by_cases h : i = j
  · subst h
    by_cases h2 : i < L.length
    · simp [h2]
    · simp [h2]
  · simp [h]
theorem bump_le (f : Int → Int) (L : List Int) (v n : Int) (hn : 0 ≤ n) (h : L.length = 13 ∧ ∀ j, 0 ≤ L.getD j 0 ∧ L.getD j 0 ≤ n) : (bump f L v).length = 13 ∧ ∀ j, 0 ≤ (bump f L v).getD j 0 ∧ (bump f L v).getD j 0 ≤ n + 1 := by
  unfold bump
  refine ⟨by simp [h.1], fun j => ?_⟩
  rw [getD_set]
  have h1 := h.2 j; have h2 := h.2 (f v).toNat
  split <;> omega
theorem cnts_le (f : Int → Int) (l : List Int) : ∀ k, k ≤ l.length → (cnts f (l.take k)).length = 13 ∧ ∀ j, 0 ≤ (cnts f (l.take k)).getD j 0 ∧ (cnts f (l.take k)).getD j 0 ≤ k := by
  intro k
  induction k with
  | zero => intro _; refine ⟨rfl, fun j => ?_⟩
            have : cnts f (l.take 0) = zer := rfl
            rw [this]
            have : zer.getD j 0 = 0 := by
              unfold zer; rw [List.getD, List.getElem?_replicate]; split <;> rfl
            rw [this]; exact ⟨by omega, by omega⟩
  | succ k ih =>
    intro hk
    rw [cnts_take f l k hk]
    have := bump_le f _ (l.getD k 0) k (by omega) (ih (by omega))
    exact ⟨this.1, fun j => by have := this.2 j; omega⟩
theorem iRow_zer : iRow zer = #[.int .i64 0, .int .i64 0, .int .i64 0, .int .i64 0, .int .i64 0, .int .i64 0, .int .i64 0, .int .i64 0, .int .i64 0, .int .i64 0, .int .i64 0, .int .i64 0, .int .i64 0] := rfl
theorem below_setRow (w : World) (g : Nat) (cs : Array Value) : Below g w (w.setRow g cs) :=
  ⟨rfl, rfl, rfl, by simp, fun k hk => setRow_other _ _ _ _ (by omega)⟩
end Go.Proofs.YtgpcflpeddnfcaaDoor
set_option linter.unusedVariables false
set_option linter.unusedSimpArgs false
namespace Go.Proofs.YtgpcflpeddnfcaaDoor
open Go.RowKit Go.Sort
/-- Do they look alike? -/
def alk (x y : List Int) : Bool := x.length == y.length && (List.range x.length).all fun i => skel (x.getD i 0) == skel (y.getD i 0)
theorem alk_no {x y : List Int} {k : Nat} (hk : k < x.length) (h : (skel (x.getD k 0) != skel (y.getD k 0)) = true) : alk x y = false := by
  unfold alk
  have : ((List.range x.length).all fun i => skel (x.getD i 0) == skel (y.getD i 0)) = false := by
    rw [List.all_eq_false]; exact ⟨k, by simpa using hk, by simpa using h⟩
  rw [this, Bool.and_false]
theorem alk_yes {x y : List Int} (hl : x.length = y.length) (h : ∀ j, j < x.length → (skel (x.getD j 0) != skel (y.getD j 0)) = false) : alk x y = true := by
  unfold alk
  rw [Bool.and_eq_true]
  refine ⟨by simpa using hl, ?_⟩
  rw [List.all_eq_true]
  intro j hj
  have := h j (by simpa using hj)
  simpa using this
end Go.Proofs.YtgpcflpeddnfcaaDoor
set_option linter.unusedVariables false
set_option linter.unusedSimpArgs false
namespace Go.Proofs.YtgpcflpeddnfcaaDoor
open Go.RowKit
theorem cnt_awake : cnts cls [97, 19968, 8238, 7, -1] = [1, 1, 1, 0, 1, 0, 0, 1, 0, 0, 0, 0, 0] := by decide +kernel
theorem awake_facts : cls 97 = 1 ∧ cls 1072 = 3 ∧ skel 1072 = 97 ∧ wid 19968 = 2 ∧ dng 8203 = true ∧ dng 97 = false ∧ alk [1072] [97] = true := by decide +kernel
/-- The tables, and awake's counts at block B. -/
structure Awk (w : World) (B : Nat) : Prop where
  t : Tabs w
  b : B < w.heap.size
  c0 : w.cell? ⟨B, 0, none⟩ = some (.int .i64 1)
  c1 : w.cell? ⟨B, 1, none⟩ = some (.int .i64 1)
  c2 : w.cell? ⟨B, 2, none⟩ = some (.int .i64 1)
  c4 : w.cell? ⟨B, 4, none⟩ = some (.int .i64 1)
  c7 : w.cell? ⟨B, 7, none⟩ = some (.int .i64 1)
theorem Awk.below {w w' : World} {B : Nat} (h : Awk w B) (hb : Below w.heap.size w w') : Awk w' B :=
  ⟨h.t.below hb, Nat.lt_of_lt_of_le h.b hb.size, (hb.cell (p := ⟨B, 0, none⟩) h.b).trans h.c0, (hb.cell (p := ⟨B, 1, none⟩) h.b).trans h.c1, (hb.cell (p := ⟨B, 2, none⟩) h.b).trans h.c2, (hb.cell (p := ⟨B, 4, none⟩) h.b).trans h.c4, (hb.cell (p := ⟨B, 7, none⟩) h.b).trans h.c7⟩
theorem Awk.alloc {w : World} {B : Nat} (h : Awk w B) (o : Obj) : Awk (w.alloc o) B := h.below (below_alloc _ _)
end Go.Proofs.YtgpcflpeddnfcaaDoor
namespace Go.Proofs.YtgpcflpeddnfcaaDoor
open Go.RowKit
theorem look_idem_keys : ∀ j : Fin 51, skel (lks.getD (2 * j.val + 1) 0) = lks.getD (2 * j.val + 1) 0 ∧ cls (lks.getD (2 * j.val + 1) 0) = 1 := by decide +kernel
theorem skel_idem (v : Int) : skel (skel v) = skel v ∧ (skel v ≠ v → cls (skel v) = 1) := by
  cases h1 : (List.range 51).find? (hitL v) with
  | some j =>
    have ⟨hj, hp⟩ := find_some_lt h1
    have e : skel v = lks.getD (2 * j + 1) 0 := by unfold skel; rw [h1]
    have hk := look_idem_keys ⟨j, hj⟩
    rw [e]; exact ⟨hk.1, fun _ => hk.2⟩
  | none =>
    have e : skel v = v := by unfold skel; rw [h1]
    rw [e]; exact ⟨e, fun h => absurd rfl h⟩
end Go.Proofs.YtgpcflpeddnfcaaDoor
set_option linter.unusedVariables false
set_option linter.unusedSimpArgs false
namespace Go.Proofs.YtgpcflpeddnfcaaDoor
open Go.RowKit
/-- A value's kind. -/
def knd (v : Int) : Int := if v = 9 ∨ v = 10 ∨ v = 13 ∨ v = 32 then 0 else if 97 ≤ v ∧ v ≤ 122 ∨ 65 ≤ v ∧ v ≤ 90 ∨ 48 ≤ v ∧ v ≤ 57 ∨ v = 95 then 1 else if v < 128 then 2 else if cls v = 10 then 0 else if cls v = 1 ∨ cls v = 2 ∨ cls v = 3 then 1 else 2
theorem knd_rng (v : Int) : 0 ≤ knd v ∧ knd v ≤ 2 := by unfold knd; repeat' split
                                                        all_goals omega
theorem cls_lo (v : Int) (h : v < 128) : cls v ≠ 10 := by
  by_cases h0 : v < 0
  · have : cls v = 0 := by
      unfold cls rght
      rcases pnt_cases v with ⟨h1, h2⟩ | ⟨h1, h2⟩
      · omega
      rcases stry_cases v with ⟨h3, h4, h5⟩ | ⟨h3, h4⟩
      · omega
      rw [h1, h3]; rfl
    omega
  · have key : ∀ i : Fin 128, cls (i.val : Int) ≠ 10 := by decide +kernel
    have := key ⟨v.toNat, by omega⟩
    have e : ((v.toNat : Nat) : Int) = v := by omega
    simpa [e] using this
theorem knd_0 {v : Int} (h : v = 9 ∨ v = 10 ∨ v = 13 ∨ v = 32) : knd v = 0 := by unfold knd; rw [if_pos h]
theorem knd_1 {v : Int} (h0 : ¬ (v = 9 ∨ v = 10 ∨ v = 13 ∨ v = 32)) (h : 97 ≤ v ∧ v ≤ 122 ∨ 65 ≤ v ∧ v ≤ 90 ∨ 48 ≤ v ∧ v ≤ 57 ∨ v = 95) : knd v = 1 := by unfold knd; rw [if_neg h0, if_pos h]
theorem knd_2 {v : Int} (h0 : ¬ (v = 9 ∨ v = 10 ∨ v = 13 ∨ v = 32)) (h1 : ¬ (97 ≤ v ∧ v ≤ 122 ∨ 65 ≤ v ∧ v ≤ 90 ∨ 48 ≤ v ∧ v ≤ 57 ∨ v = 95)) (h : v < 128) : knd v = 2 := by unfold knd; rw [if_neg h0, if_neg h1, if_pos h]
theorem knd_far {v : Int} (h : 128 ≤ v) : knd v = if cls v = 10 then 0 else if cls v = 1 ∨ cls v = 2 ∨ cls v = 3 then 1 else 2 := by unfold knd; rw [if_neg (by omega), if_neg (by omega), if_neg (by omega)]
set_option maxRecDepth 100000 in
set_option maxHeartbeats 2000000 in
theorem kind_any (v : Int) (w : World) (hT : Tabs w) : Calls Tryd.prog 84 #[.int .i64 v] w fun e w' => e = .returned (.int .i64 (knd v)) ∧ Below w.heap.size w w' := by
  by_cases hv : v < 128
  · rcases (show v = 9 ∨ v = 10 ∨ v = 13 ∨ v = 32 ∨ v = 95 ∨ (97 ≤ v ∧ v ≤ 122) ∨ (65 ≤ v ∧ v ≤ 90) ∨ (48 ≤ v ∧ v ≤ 57) ∨ (v ≠ 9 ∧ v ≠ 10 ∧ v ≠ 13 ∧ v ≠ 32 ∧ v ≠ 95 ∧ (v < 48 ∨ 57 < v ∧ v < 65 ∨ 90 < v ∧ v < 97 ∨ 122 < v)) by omega) with rfl | rfl | rfl | rfl | rfl | ⟨h1, h2⟩ | ⟨h1, h2⟩ | ⟨h1, h2⟩ | ⟨n9, n10, n13, n32, n95, h⟩
    · have Hk : Hid (knd 9 = 0) := Lib.hid (knd_0 (by omega))
      go_enter Tryd.func84, Tryd.ntmps84
      go_wp2
      go_ret
      rw [Hk.out]; exact ⟨rfl, Below.refl _ _⟩
    · have Hk : Hid (knd 10 = 0) := Lib.hid (knd_0 (by omega))
      go_enter Tryd.func84, Tryd.ntmps84
      go_wp2
      go_ret
      rw [Hk.out]; exact ⟨rfl, Below.refl _ _⟩
    · have Hk : Hid (knd 13 = 0) := Lib.hid (knd_0 (by omega))
      go_enter Tryd.func84, Tryd.ntmps84
      go_wp2
      go_ret
      rw [Hk.out]; exact ⟨rfl, Below.refl _ _⟩
    · have Hk : Hid (knd 32 = 0) := Lib.hid (knd_0 (by omega))
      go_enter Tryd.func84, Tryd.ntmps84
      go_wp2
      go_ret
      rw [Hk.out]; exact ⟨rfl, Below.refl _ _⟩
    · have Hk : Hid (knd 95 = 1) := Lib.hid (knd_1 (by omega) (by omega))
      go_enter Tryd.func84, Tryd.ntmps84
      go_wp2
      go_ret
      rw [Hk.out]; exact ⟨rfl, Below.refl _ _⟩
    · have Hk : Hid (knd v = 1) := Lib.hid (knd_1 (by omega) (by omega))
      have e9 : (v == 9) = false := by rw [beq_eq_false_iff_ne]; omega
      have e10 : (v == 10) = false := by rw [beq_eq_false_iff_ne]; omega
      have e13 : (v == 13) = false := by rw [beq_eq_false_iff_ne]; omega
      have e32 : (v == 32) = false := by rw [beq_eq_false_iff_ne]; omega
      go_enter Tryd.func84, Tryd.ntmps84
      go_wp2
      go_ret
      rw [Hk.out]; exact ⟨rfl, Below.refl _ _⟩
    · have Hk : Hid (knd v = 1) := Lib.hid (knd_1 (by omega) (by omega))
      have e9 : (v == 9) = false := by rw [beq_eq_false_iff_ne]; omega
      have e10 : (v == 10) = false := by rw [beq_eq_false_iff_ne]; omega
      have e13 : (v == 13) = false := by rw [beq_eq_false_iff_ne]; omega
      have e32 : (v == 32) = false := by rw [beq_eq_false_iff_ne]; omega
      go_enter Tryd.func84, Tryd.ntmps84
      go_wp2
      go_ret
      rw [Hk.out]; exact ⟨rfl, Below.refl _ _⟩
    · have Hk : Hid (knd v = 1) := Lib.hid (knd_1 (by omega) (by omega))
      have e9 : (v == 9) = false := by rw [beq_eq_false_iff_ne]; omega
      have e10 : (v == 10) = false := by rw [beq_eq_false_iff_ne]; omega
      have e13 : (v == 13) = false := by rw [beq_eq_false_iff_ne]; omega
      have e32 : (v == 32) = false := by rw [beq_eq_false_iff_ne]; omega
      go_enter Tryd.func84, Tryd.ntmps84
      go_wp2
      go_ret
      rw [Hk.out]; exact ⟨rfl, Below.refl _ _⟩
    · have Hk : Hid (knd v = 2) := Lib.hid (knd_2 (by omega) (by omega) hv)
      have e9 : (v == 9) = false := by rw [beq_eq_false_iff_ne]; omega
      have e10 : (v == 10) = false := by rw [beq_eq_false_iff_ne]; omega
      have e13 : (v == 13) = false := by rw [beq_eq_false_iff_ne]; omega
      have e32 : (v == 32) = false := by rw [beq_eq_false_iff_ne]; omega
      have e95 : (v == 95) = false := by rw [beq_eq_false_iff_ne]; omega
      clear n9 n10 n13 n32 n95
      rcases h with h | ⟨h, h'⟩ | ⟨h, h'⟩ | h
      all_goals
        go_enter Tryd.func84, Tryd.ntmps84
        go_wp2
        go_ret
        rw [Hk.out]; exact ⟨rfl, Below.refl _ _⟩
  · have e9 : (v == 9) = false := by rw [beq_eq_false_iff_ne]; omega
    have e10 : (v == 10) = false := by rw [beq_eq_false_iff_ne]; omega
    have e13 : (v == 13) = false := by rw [beq_eq_false_iff_ne]; omega
    have e32 : (v == 32) = false := by rw [beq_eq_false_iff_ne]; omega
    have e95 : (v == 95) = false := by rw [beq_eq_false_iff_ne]; omega
    have O := fun w hT => of_any v w hT
    have hk := knd_far (v := v) (by omega)
    generalize cls v = c at *
    replace O := Lib.hid O
    have HT := Lib.hid hT; clear hT
    rcases (show c = 10 ∨ c = 1 ∨ c = 2 ∨ c = 3 ∨ (c ≠ 10 ∧ c ≠ 1 ∧ c ≠ 2 ∧ c ≠ 3) by omega) with rfl | rfl | rfl | rfl | ⟨n10, n1, n2, n3⟩
    · have Hk : Hid (knd v = 0) := Lib.hid (by rw [hk]; rfl)
      clear hk
      go_enter Tryd.func84, Tryd.ntmps84
      go_wp2_with (go_at_call 127; refine (O.out _ HT.out).mono ?_; rintro e w1 ⟨rfl, hb1⟩)
      go_ret
      rw [Hk.out]; exact ⟨rfl, hb1⟩
    · have Hk : Hid (knd v = 1) := Lib.hid (by rw [hk]; rfl)
      clear hk
      go_enter Tryd.func84, Tryd.ntmps84
      go_wp2_with (go_at_call 127; refine (O.out _ HT.out).mono ?_; rintro e w1 ⟨rfl, hb1⟩)
      go_ret
      rw [Hk.out]; exact ⟨rfl, hb1⟩
    · have Hk : Hid (knd v = 1) := Lib.hid (by rw [hk]; rfl)
      clear hk
      go_enter Tryd.func84, Tryd.ntmps84
      go_wp2_with (go_at_call 127; refine (O.out _ HT.out).mono ?_; rintro e w1 ⟨rfl, hb1⟩)
      go_ret
      rw [Hk.out]; exact ⟨rfl, hb1⟩
    · have Hk : Hid (knd v = 1) := Lib.hid (by rw [hk]; rfl)
      clear hk
      go_enter Tryd.func84, Tryd.ntmps84
      go_wp2_with (go_at_call 127; refine (O.out _ HT.out).mono ?_; rintro e w1 ⟨rfl, hb1⟩)
      go_ret
      rw [Hk.out]; exact ⟨rfl, hb1⟩
    · have Hk : Hid (knd v = 2) := Lib.hid (by rw [hk, if_neg n10, if_neg (by omega)])
      have c10 : (c == 10) = false := by rw [beq_eq_false_iff_ne]; omega
      have c1 : (c == 1) = false := by rw [beq_eq_false_iff_ne]; omega
      have c2 : (c == 2) = false := by rw [beq_eq_false_iff_ne]; omega
      have c3 : (c == 3) = false := by rw [beq_eq_false_iff_ne]; omega
      clear hk n10 n1 n2 n3
      go_enter Tryd.func84, Tryd.ntmps84
      go_wp2_with (go_at_call 127; refine (O.out _ HT.out).mono ?_; rintro e w1 ⟨rfl, hb1⟩)
      go_ret
      rw [Hk.out]; exact ⟨rfl, hb1⟩
end Go.Proofs.YtgpcflpeddnfcaaDoor
set_option linter.unusedVariables false
set_option linter.unusedSimpArgs false
namespace Go.Proofs.YtgpcflpeddnfcaaDoor
open Go.RowKit
/-- The kind at a place; -1: none. -/
def kAt (l : List (Int × Int)) (big : Bool) (i : Int) : Int := if i < 0 ∨ (l.length : Int) ≤ i then -1 else if big = true then min (knd (l.getD i.toNat (0, 0)).1) 1 else knd (l.getD i.toNat (0, 0)).1
theorem kAt_rng (l : List (Int × Int)) (big : Bool) (i : Int) : -1 ≤ kAt l big i ∧ kAt l big i ≤ 2 := by
  unfold kAt
  have := knd_rng (l.getD i.toNat (0, 0)).1
  repeat' split
  all_goals omega
/-- A closure's two blocks: the signs, and whether big kinds are asked for. -/
structure Kin (w : World) (p q : Nat) (a : Option Addr) (l : List (Int × Int)) (c : Nat) (big : Bool) : Prop where
  cp : w.cell? ⟨p, 0, none⟩ = some (.slice a l.length c)
  cq : w.cell? ⟨q, 0, none⟩ = some (.bool big)
  s : Signs w a l
  t : Tabs w
  pl : p < w.heap.size
  ql : q < w.heap.size
theorem Kin.below {w w' : World} {p q : Nat} {a : Option Addr} {l : List (Int × Int)} {c : Nat} {big : Bool} (h : Kin w p q a l c big) (hb : Below w.heap.size w w') : Kin w' p q a l c big :=
  ⟨(hb.cell (p := ⟨p, 0, none⟩) h.pl).trans h.cp, (hb.cell (p := ⟨q, 0, none⟩) h.ql).trans h.cq, h.s.below hb, h.t.below hb, Nat.lt_of_lt_of_le h.pl hb.size, Nat.lt_of_lt_of_le h.ql hb.size⟩
theorem kin_new {w : World} {a : Option Addr} {l : List (Int × Int)} (hT : Tabs w) (hs : Signs w a l) (c : Nat) (big : Bool) :
    Kin ((w.alloc (.cells #[.slice a l.length c] 28)).alloc (.cells #[.bool big] 4)) w.heap.size (w.heap.size + 1) a l c big := by
  have hb := seqB (below_alloc w (.cells #[.slice a l.length c] 28)) (below_alloc _ (.cells #[.bool big] 4))
  exact ⟨by simp, by simp, hs.below hb, hT.below hb, by simp; omega, by simp⟩
/-- A place that is handed in. -/
def plc (n : Nat) (i : Int) : Int := min (max i 0) n
end Go.Proofs.YtgpcflpeddnfcaaDoor
set_option linter.unusedVariables false
set_option linter.unusedSimpArgs false
namespace Go.Proofs.YtgpcflpeddnfcaaDoor
open Go.RowKit
theorem plc_cases (n : Nat) (i : Int) : ∃ m : Nat, plc n i = m ∧ m ≤ n := ⟨(plc n i).toNat, by unfold plc; omega, by unfold plc; omega⟩
def tNext (l : List (Int × Int)) (p : Int) : Bool := kAt l false (p - 1) == 1 && kAt l false p != 1
def tBack (l : List (Int × Int)) (p : Int) : Bool := kAt l false p == 1 && kAt l false (p - 1) != 1
def tRun (l : List (Int × Int)) (big : Bool) (p : Int) : Bool := kAt l big p != 0 && kAt l big p != kAt l big (p - 1)
def tEnd (l : List (Int × Int)) (big : Bool) (p : Int) : Bool := kAt l big p != 0 && kAt l big p != kAt l big (p + 1)
def nextM (l : List (Int × Int)) (i : Int) : Int := upF (tNext l) l.length (l.length - (plc l.length i).toNat - 1) (plc l.length i + 1)
def backM (l : List (Int × Int)) (i : Int) : Int := dnF (tBack l) 0 ((plc l.length i).toNat - 1) (plc l.length i - 1)
def startM (l : List (Int × Int)) (i : Int) (big : Bool) : Int := upF (tRun l big) l.length (l.length - (plc l.length i).toNat - 1) (plc l.length i + 1)
def prevM (l : List (Int × Int)) (i : Int) (big : Bool) : Int := dnF (tRun l big) 0 ((plc l.length i).toNat - 1) (plc l.length i - 1)
def endM (l : List (Int × Int)) (i : Int) (big : Bool) : Int := upF (tEnd l big) (plc l.length i) (l.length - (plc l.length i).toNat - 1) (plc l.length i + 1)
end Go.Proofs.YtgpcflpeddnfcaaDoor
set_option linter.unusedVariables false
set_option linter.unusedSimpArgs false
namespace Go.Proofs.YtgpcflpeddnfcaaDoor
open Go.RowKit
end Go.Proofs.YtgpcflpeddnfcaaDoor
set_option linter.unusedVariables false
set_option linter.unusedSimpArgs false
namespace Go.Proofs.YtgpcflpeddnfcaaDoor
open Go.RowKit
theorem strange_any (v l : Int) (w : World) : Calls Tryd.prog 151 #[.agg #[.int .i64 v, .int .i64 l]] w fun e w' => e = .returned (.bool (decide (2 ≤ l))) ∧ Below w.heap.size w w' := by
  have hb := below_alloc w (.cells #[.int .i64 v, .int .i64 l] 70)
  go_enter Tryd.func151, Tryd.ntmps151
  go_wp2
  go_ret
  exact ⟨rfl, hb⟩
theorem own_row {w : World} {B : Nat} {v : Value} {l : List Int} (h : w.ownsRow B 3 1 v l.length (l.map (Value.int .i64))) : ∃ a cap, v = .slice a l.length cap ∧ Row w a l := by
  rcases h.2 with ⟨rfl, h0⟩ | ⟨g, cap, cur, rfl, _, hg, _⟩
  · exact ⟨none, 0, by rw [h0], fun j hj => by omega⟩
  · refine ⟨_, cap, rfl, fun j hj => ⟨g, 0, rfl, ?_, blk_lt hg⟩⟩
    have := h.cells (g := g) rfl j (.int .i64 (l.getD j 0)) (by simp [List.getElem?_eq_getElem hj, List.getD])
    have hadd : (⟨g, 0, none⟩ : Addr).add j = ⟨g, 0 + j, none⟩ := by unfold Addr.add; split <;> simp_all
    rw [← hadd]; exact this
theorem row_below {w w' : World} {a : Option Addr} {l : List Int} (h : Row w a l) (hb : Below w.heap.size w w') : Row w' a l := fun j hj => by
  obtain ⟨b, off, e, h1, h2⟩ := h j hj
  exact ⟨b, off, e, (hb.cell (p := ⟨b, off + j, none⟩) h2).trans h1, Nat.lt_of_lt_of_le h2 hb.size⟩
/-- A text's signs. -/
def sOf (u : Int) (s : ByteArray) : List (Int × Int) := (valsS s).map fun v => (v, u)
def ofL (l : List Int) (u : Int) (k : Nat) : List (Int × Int) := (l.take k).map (fun v => (v, u)) ++ List.replicate (l.length - k) (0, 0)
theorem ofL_len (l : List Int) (u : Int) (k : Nat) (h : k ≤ l.length) : (ofL l u k).length = l.length := by simp [ofL]; omega
set_option maxRecDepth 100000 in
set_option maxHeartbeats 1000000 in
theorem sof_any (u : Int) (s : ByteArray) (w : World) (hT : UT w) (hs : s.size ≤ 1000000) (hv : (valsS s).length ≤ 1000000) :
    Calls Tryd.prog 60 #[.int .i64 u, .string s] w fun e w' => ∃ g, e = .returned (.slice (some ⟨g, 0, none⟩) (sOf u s).length (sOf u s).length) ∧ w.heap.size ≤ g ∧ w'.heap[g]? = some (.cells (sRow (sOf u s)) 70 (0, 0)) ∧ Below w.heap.size w w' := by
  obtain ⟨i0, hi, hz0, hz1, hz2⟩ := info_parts infoSign
  have D := Lib.hid (decode_any s w hT hs)
  have hso : sOf u s = (valsS s).map fun v => (v, u) := rfl
  generalize valsS s = l at *
  rw [hso, List.length_map]
  clear hso
  have hmk := make_rowN (P := Tryd.prog) 28 70 i0 _ Tryd.underlying28 hi hz0 l.length (by rw [hz2]; omega) (by omega)
  rw [hz1] at hmk
  have hmade : madeCells (Value.agg #[.int .i64 0, .int .i64 0]).cells (l.length * 2) = sRow (ofL l u 0) := by rw [show (Value.agg #[.int .i64 0, .int .i64 0]).cells = #[.int .i64 0, .int .i64 0] from rfl, made_signs]; simp [ofL]
  rw [hmade] at hmk
  go_enter Tryd.func60, Tryd.ntmps60
  go_wp2_with (go_at_call 117; refine D.out.mono ?_; rintro e w1 ⟨v, rfl, hown, hb1⟩; obtain ⟨a, cap, rfl, hr⟩ := own_row hown; have HR := Lib.hid hr; clear hr hown)
  have hsz := hb1.size
  go_loopw [16] (fun iv wr => ∃ k : Nat, k ≤ l.length ∧ iv = .int .i64 (k : Int) ∧ wr.heap[w1.heap.size]? = some (.cells (sRow (ofL l u k)) 70 (0, 0)) ∧ Below w1.heap.size w1 wr) (fun iv _ => l.length - (intOf iv).toNat)
  case atStart => exact ⟨0, Nat.zero_le _, rfl, heap_alloc_new _ _, below_alloc _ _⟩
  case round =>
    obtain ⟨k, hk, rfl, hown, hb⟩ := hrel
    by_cases hlt : k < l.length
    · obtain ⟨b, off, rfl, c1, hblk⟩ := (row_below HR.out hb) k hlt
      have hk1 : (k : Int) < l.length := by omega
      have hk0 : (0 : Int) ≤ k := by omega
      have hnext := put_snoc l (fun v : Int => (v, u)) (0, 0) 0 k hlt
      have hlen := ofL_len l u k hk
      have s12 := sg_cells hown (k := k) (by rw [hlen]; exact hlt)
      have s1 := s12.1
      have s2 := s12.2
      have f12 := fun i => frozen_of_row wr w1.heap.size i _ _ hown
      generalize l.getD k 0 = x at *
      generalize (ofL l u k).getD k (0, 0) = q at *
      have Hset : Hid ((ofL l u k).set k (x, u) = ofL l u (k + 1)) := Lib.hid hnext
      have Hset2 := Lib.hid (sRow_set (ofL l u k) k (x, u) (by rw [hlen]; exact hlt))
      have Hlen := Lib.hid hlen
      clear hnext hlen s12
      go_wp2
      go_roundw
      case rel => exact ⟨k + 1, by omega, by go_num, by rw [← Hset.out, ← Hset2.out]; exact blk_set (blk_set hown _ _) _ _, (hb.setCell (Nat.le_refl _) _).setCell (Nat.le_refl _) _⟩
      case measure => simp [intOf]; omega
    · obtain rfl : k = l.length := by omega
      have hfin : ofL l u l.length = l.map fun v => (v, u) := by unfold ofL; rw [List.take_length, Nat.sub_self, List.replicate_zero, List.append_nil]
      rw [hfin] at hown
      clear hfin hmade
      go_wp2
      go_ret
      exact ⟨w1.heap.size, rfl, hsz, hown, seqB hb1 hb⟩
/-- The same signs? -/
def sgS (a b : List (Int × Int)) : Bool := decide (a = b)
set_option maxRecDepth 100000 in
set_option maxHeartbeats 1000000 in
theorem same1_any (v u x y : Int) (w : World) : Calls Tryd.prog 157 #[.agg #[.int .i64 v, .int .i64 u], .agg #[.int .i64 x, .int .i64 y]] w fun e w' => e = .returned (.bool (decide ((v, u) = (x, y)))) ∧ Below w.heap.size w w' := by
  have hb := seqB (below_alloc w (.cells #[.int .i64 v, .int .i64 u] 70)) (below_alloc _ (.cells #[.int .i64 x, .int .i64 y] 70))
  by_cases h1 : v = x
  · by_cases h2 : u = y
    · have e : Hid (decide ((v, u) = (x, y)) = true) := Lib.hid (by rw [h1, h2]; simp)
      have b1 : (v == x) = true := by rw [h1]; simp
      have b2 : (u == y) = true := by rw [h2]; simp
      rw [e.out]
      clear h1 h2 e
      go_enter Tryd.func157, Tryd.ntmps157
      go_wp2
      go_ret
      exact ⟨rfl, hb⟩
    · have e : Hid (decide ((v, u) = (x, y)) = false) := Lib.hid (by simp; intro _; exact h2)
      have b1 : (v == x) = true := by rw [h1]; simp
      have b2 : (u == y) = false := by simpa using h2
      rw [e.out]
      clear h1 h2 e
      go_enter Tryd.func157, Tryd.ntmps157
      go_wp2
      go_ret
      exact ⟨rfl, hb⟩
  · have e : Hid (decide ((v, u) = (x, y)) = false) := Lib.hid (by simp; intro h; exact absurd h h1)
    have b1 : (v == x) = false := by simpa using h1
    rw [e.out]
    clear h1 e
    go_enter Tryd.func157, Tryd.ntmps157
    go_wp2
    go_ret
    exact ⟨rfl, hb⟩
end Go.Proofs.YtgpcflpeddnfcaaDoor
set_option linter.unusedVariables false
set_option linter.unusedSimpArgs false
namespace Go.Proofs.YtgpcflpeddnfcaaDoor
open Go.RowKit
/-- A builder of the call's own, at block b, that holds some bytes. -/
abbrev BldAt (B b : Nat) (p : Value) (bs : List Value) (w : World) : Prop := Lib.BuilderAt 181 5 B b p bs w
abbrev IsBld (B b : Nat) (bs : List Value) (w : World) : Prop := Lib.IsBuilder 181 5 B b bs w
theorem sizeBld : (Tryd.prog.info? 181).map (fun i => i.size) = some 2 := by kernel_rfl
theorem liesBld : liesAt Tryd.prog Tryd.prog.depth 181 (2 / Tryd.prog.cellsOf 181) 0 181 1 = true := by kernel_rfl
theorem infoU8 : (Tryd.prog.info? 5).map (fun i => (i.zero, i.size, i.bytes)) = some (some (.int .u8 0), 1, 1) := by kernel_rfl
set_option maxHeartbeats 1000000 in
set_option maxRecDepth 100000 in
theorem bcheck_used (b : Nat) (w : World) (h0 : w.cell? ⟨b, 0, none⟩ = some (.pointer (some ⟨b, 0, none⟩))) :
    Calls Tryd.prog 180 #[.pointer (some ⟨b, 0, none⟩)] w fun e w' => e = .returned (.tuple #[]) ∧ w = w' := by
  obtain ⟨j, hj, _⟩ := Option.map_eq_some_iff.1 sizeBld
  go_enter Tryd.func180, Tryd.ntmps180
  go_wp2
  rw [Lib.run_neq_ptr_same w _ Tryd.underlying178 hj]
  go_wp2
  go_end0
  exact ⟨rfl, rfl⟩
set_option maxHeartbeats 1000000 in
set_option maxRecDepth 100000 in
theorem bcheck_fresh (b : Nat) (w : World) (h0 : w.cell? ⟨b, 0, none⟩ = some (.pointer none)) (hsh : w.shape? b = some (181, 2)) (hfz : w.frozen? ⟨b, 0, none⟩ = false) :
    Calls Tryd.prog 180 #[.pointer (some ⟨b, 0, none⟩)] w fun e w' => e = .returned (.tuple #[]) ∧ w' = w.setCell ⟨b, 0, none⟩ (.pointer (some ⟨b, 0, none⟩)) := by
  obtain ⟨j, hj, hjs⟩ := Option.map_eq_some_iff.1 sizeBld
  go_enter Tryd.func180, Tryd.ntmps180
  go_wp2
  rw [Lib.run_to_unsafe w ⟨b, 0, none⟩ Tryd.underlying178 Tryd.underlying246 hj (by rw [hjs]; decide) hsh (Nat.zero_lt_succ 1)]
  simp only [Result.andThen]
  rw [Oper.upon_value]
  go_wp2
  rw [run_callFunc_extern Tryd.func217 (by kernel_rfl) (by kernel_rfl) (by kernel_rfl) (e := Extern.AbiNoEscape.same) (by kernel_rfl)]
  rw [Lib.run_noEscape]
  simp only [Result.andThen]
  rw [Oper.upon_value]
  go_wp2
  rw [Lib.run_from_unsafe w ⟨b, 0, none⟩ Tryd.underlying246 Tryd.underlying178 hj hsh liesBld]
  simp only [Result.andThen]
  rw [Oper.upon_value]
  go_wp2
  go_end0
  exact ⟨rfl, rfl⟩
theorem bcheck_any (B b : Nat) (bs : List Value) (w : World) (h : IsBld B b bs w) :
    Calls Tryd.prog 180 #[.pointer (some ⟨b, 0, none⟩)] w fun e w' => e = .returned (.tuple #[]) ∧ BldAt B b (.pointer (some ⟨b, 0, none⟩)) bs w' ∧ Below B w w' := by
  rcases h with h | h
  · refine (bcheck_fresh b w h.cell0 h.shape h.frozen0).mono ?_
    rintro e w' ⟨rfl, rfl⟩
    exact ⟨rfl, h.used _, (Below.refl B w).setCell (p := ⟨b, 0, none⟩) h.1 _⟩
  · refine (bcheck_used b w h.cell0).mono ?_
    rintro e w' ⟨rfl, rfl⟩
    exact ⟨rfl, h, Below.refl B _⟩
set_option maxHeartbeats 2000000 in
set_option maxRecDepth 100000 in
theorem bwrite_any (B b : Nat) (bs : List Value) (s : ByteArray) (w : World) (h : IsBld B b bs w) (hlen : bs.length + s.size ≤ 140737488355328) (hBw : B ≤ w.heap.size) :
    Calls Tryd.prog 136 #[.pointer (some ⟨b, 0, none⟩), .string s] w fun e w' => e = .returned (.tuple #[.int .i64 s.size, .nilIface]) ∧ BldAt B b (.pointer (some ⟨b, 0, none⟩)) (bs ++ Lib.strCells s) w' ∧ Below B w w' := by
  obtain ⟨i0, hi, hz0, hz1, hz2⟩ := info_parts infoU8
  have C := Lib.hid (bcheck_any B b bs w h)
  clear h
  go_enter Tryd.func136, Tryd.ntmps136
  go_wp2_with (go_at_call 180; refine C.out.mono ?_)
  rintro e w1 ⟨rfl, ⟨hB, v, hbk, hown, hne⟩, hb1⟩
  have c0 := Lib.cell_of_heap hbk 0; have c1 := Lib.cell_of_heap hbk 1
  dsimp at c0 c1
  go_wp2_with (at_builtin; refine Lib.wpList_append_own_string _ rfl _ _ 179 9 rfl B 5 i0 Tryd.underlying179 Tryd.underlying9 hi hz0 hz1 hz2 _ _ _ rfl hown s rfl ?g3 ?g4 ?g5 ?_)
  case g3 => unfold maxLen; omega
  case g4 => omega
  case g5 => have := hb1.size; omega
  intro v' w2 hown' hgrow _
  have hlt := blk_lt hbk
  have hb2 : w2.heap[b]? = some (.cells #[.pointer (some ⟨b, 0, none⟩), v] 181 (0, 0)) := (hgrow.block b hlt (fun e => hne e.symm)).trans hbk
  have d0 := Lib.cell_of_heap hb2 0
  have d1 := Lib.cell_of_heap hb2 1
  have f1 : w2.frozen? ⟨b, 1, none⟩ = false := Lib.frozen_of_heap hb2 1
  dsimp at d0 d1
  obtain ⟨ao, n', cap, rfl⟩ : ∃ ao n' cap, v' = .slice ao n' cap := by
    rcases hown'.2 with ⟨hv, _⟩ | ⟨g, cap, cur, hv, _⟩
    · exact ⟨_, _, _, hv⟩
    · exact ⟨_, _, _, hv⟩
  go_wp2
  go_ret2
  refine ⟨rfl, ?_, ?_⟩
  · exact Lib.BuilderAt.put (T := 181) (e := 5) hB hb2 (bs' := bs ++ Lib.strCells s) (by simpa [Lib.strCells_length] using hown') (by decide)
  · exact (hb1.grown hgrow (by have := hb1.size; omega) (fun k hk => (hown.lt k hk).1)).setCell (p := ⟨b, 1, none⟩) hB _
end Go.Proofs.YtgpcflpeddnfcaaDoor
set_option linter.unusedVariables false
set_option linter.unusedSimpArgs false
namespace Go.Proofs.YtgpcflpeddnfcaaDoor
open Go.RowKit
theorem OwS.mono {w : World} {B B' : Nat} {v : Value} {L : List (Int × Int)} (h : OwS w B v L) (hB : B' ≤ B) : OwS w B' v L := World.ownsRow.mono h hB
theorem ows_keep {w w' : World} {B : Nat} {v : Value} {L : List (Int × Int)} (h : OwS w B v L) (hb : Below w.heap.size w w') : OwS w' B v L := by
  refine World.ownsRow.kept h (row := none) ⟨hb.os, hb.tape, hb.output, hb.size, fun k hk _ => hb.block k hk⟩ ?_
  cases v.ownBlock <;> simp
theorem ows_nil (w : World) (B : Nat) : OwS w B (.slice none 0 0) [] := World.ownsRow_nil _ _ _ _
set_option maxHeartbeats 2000000 in
theorem clone_sg (l : List (Int × Int)) (a : Option Addr) (n c : Nat) (S : Nat → Prop) (w : World) (hn : l.length = n) (hl : n ≤ 100000) (hs : SlS S w a l c) :
    Calls Tryd.prog 65 #[.slice a n c] w fun e w' => ∃ b d, e = .returned (.slice b n d) ∧ OwS w' w.heap.size (.slice b n d) l ∧ Below w.heap.size w w' := by
  have q := fun (w : World) (a : Option Addr) (n c n' c' : Nat) => Lib.run_eql_slice_nil (P := Tryd.prog) w 28 70 a n c n' c' Tryd.underlying28
  cases a with
  | none =>
    have hc := hs.nl rfl
    have hl0 : l = [] := by
      cases l with
      | nil => rfl
      | cons x l => obtain ⟨_, _, e, _⟩ := hs.s 0 (by simp); cases e
    subst hl0
    obtain rfl : 0 = n := hn
    subst hc
    clear hs
    go_enter Tryd.func65, Tryd.ntmps65
    go_wp2
    go_ret
    exact ⟨none, 0, rfl, ows_nil _ _, Below.refl _ _⟩
  | some ad =>
    have N0 := below_alloc w (.cells #[] 70)
    have H0 := Lib.hid (ows_new w)
    have HA := Lib.hid (hs.below N0)
    have HN := Lib.hid hn
    have HB0 := Lib.hid N0
    clear hs hn N0
    obtain ⟨B, hB⟩ : ∃ B, w.heap.size = B := ⟨_, rfl⟩
    have HBq := Lib.hid hB
    rw [hB] at H0
    obtain ⟨W, hW⟩ : ∃ W, w.alloc (.cells #[] 70) = W := ⟨_, rfl⟩
    rw [hW] at H0 HA HB0
    go_enter Tryd.func65, Tryd.ntmps65
    go_wp2_with (at_builtin; refine wpList_app_signs rfl _ _ rfl B _ 0 [] rfl rfl H0.out (some ad) n c l rfl HN.out HA.out.s (fun e => (by cases e)) ?g3 ?g4 ?_)
    case g3 => omega
    case g4 => have := HB0.out.size; have := HBq.out; omega
    intro ad5 c5 w5 o5 g5
    have N5 := Lib.hid (HB0.out.grown g5 HB0.out.size (fun j hj => by simp [Value.ownBlock] at hj; have := HBq.out; omega))
    have HS := Lib.hid (show OwS w5 w.heap.size (.slice ad5 n c5) l by rw [HBq.out]; exact o5)
    clear o5 g5
    go_wp2
    go_ret
    exact ⟨ad5, c5, rfl, HS.out, N5.out⟩
set_option maxHeartbeats 2000000 in
theorem grow_sg (n : Nat) (w : World) (hn : 0 < n) (hl : n ≤ 100000) : Calls Tryd.prog 208 #[.slice none 0 0, .int .i64 (n : Int)] w fun e w' => ∃ b d, e = .returned (.slice b 0 d) ∧ OwS w' w.heap.size (.slice b 0 d) [] ∧ Below w.heap.size w w' := by
  obtain ⟨i0, hi, hz0, hz1, hz2⟩ := info_parts infoSign
  have h1 : ¬ ((n : Int) < 0) := by omega
  have h4 : (0 : Int) < (n : Int) := by omega
  obtain ⟨G, hG⟩ : ∃ G, grownCap w (0 + n) 0 70 = G := ⟨_, rfl⟩
  have hGn : 0 + n ≤ G := by rw [← hG]; exact grownCap_ge w _ _ _
  have hG63 : G ≤ maxLen := by rw [← hG]; exact grownCap_le_maxLen w (0 + n) 0 70 (by unfold maxLen; omega)
  obtain ⟨cs, hcs⟩ : ∃ cs, ([] : List Value).toArray ++ Builtin.zeroCells (Value.agg #[.int .i64 0, .int .i64 0]).cells n ++ Builtin.zeroCells (Value.agg #[.int .i64 0, .int .i64 0]).cells (grownCap w (0 + n) 0 70 - (0 + n)) = cs := ⟨_, rfl⟩
  have hsz : cs.size = G * 2 := by
    rw [← hcs, hG]
    simp only [Array.size_append, size_zeroCells, List.size_toArray, List.length_nil]
    have : (Value.agg #[.int .i64 0, .int .i64 0]).cells.size = 2 := rfl
    rw [this]
    omega
  have hrz : ∀ ty, (Builtin.append_ #[28, 3] ty #[.slice none 0 0, .int .i64 (n : Int)]).run Tryd.prog w = .ok (.slice (some ⟨w.heap.size, 0, none⟩) (0 + n) G) (w.drew.alloc (.cells cs 70)) := fun ty => by
    have h := Lib.run_append_grow_zeros (P := Tryd.prog) w 28 3 ty 70 i0 _ .i64 .i64 Tryd.underlying28 Tryd.underlying3 hi hz0 none 0 0 [] (run_firstCells_none w.drew i0.size 0 0 0) n hn (by omega) (by omega) (by omega) (by rw [hz2]; omega) (growslice_fits (by omega) (by rw [hz2]; omega))
    rw [hcs, hG] at h
    exact h
  have hnew := heap_alloc_new w.drew (.cells cs 70)
  have HB := Lib.hid ((Below.refl w.heap.size w).drew.trans (below_alloc w.drew (.cells cs 70)))
  have HO : Hid (OwS (w.drew.alloc (.cells cs 70)) w.heap.size (.slice (some ⟨w.heap.size, 0, none⟩) 0 G) []) := Lib.hid ⟨rfl, .inr ⟨w.heap.size, G, cs, rfl, Nat.le_refl _, hnew, Nat.zero_le _, hG63, hsz, rfl⟩⟩
  have hcut : ∀ w : World, (Instr.slice 28 (.slice (some ⟨w.heap.size, 0, none⟩) (0 + n) G) none (some (.int .i64 0)) none).run Tryd.prog w = .ok (.slice (some ⟨w.heap.size, 0, none⟩) 0 G) w := fun w => by
    have := run_cutH w (some ⟨w.heap.size, 0, none⟩) (0 + n) G 0 (by omega)
    rw [if_neg (by omega)] at this
    exact this
  clear hcs hsz hnew hG
  go_enter Tryd.func208, Tryd.ntmps208
  go_wp2_with (at_builtin; refine Lib.wpList_append_run _ rfl _ _ _ _ rfl _ _ rfl rfl _ _ (hrz _) ?_)
  all_goals (go_ret; exact ⟨_, _, rfl, HO.out, HB.out⟩)
set_option maxHeartbeats 4000000 in
theorem concat_sg (x y : List (Int × Int)) (A : Nat) (a1 a2 : Option Addr) (n1 n2 c1 c2 : Nat) (S : Nat → Prop) (w : World) (hA : w.heap[A]? = some (.cells #[.slice a1 n1 c1, .slice a2 n2 c2] 28 (0, 0))) (h1 : SlS S w a1 x c1) (h2 : SlS S w a2 y c2) (hx : x.length = n1) (hy : y.length = n2) (h0 : 0 < n1 + n2) (hl : n1 + n2 ≤ 100000) :
    Calls Tryd.prog 172 #[.slice (some ⟨A, 0, none⟩) 2 2] w fun e w' => ∃ b d, e = .returned (.slice b (n1 + n2) d) ∧ OwS w' w.heap.size (.slice b (n1 + n2) d) (x ++ y) ∧ Below w.heap.size w w' := by
  have yy := fun i => cell_of_row _ _ i _ _ _ hA
  have d0 := yy 0; have d1 := yy 1
  dsimp at d0 d1
  have HA := Lib.hid hA; have H1 := Lib.hid h1; have H2 := Lib.hid h2; have HX := Lib.hid hx; have HY := Lib.hid hy
  have GR := Lib.hid fun w => grow_sg (n1 + n2) w h0 hl
  clear yy hA h1 h2 hx hy
  go_enter Tryd.func172, Tryd.ntmps172
  go_wp2
  go_loopw [3, 11] (fun sv iv wr => w = wr ∧ ((sv = .int .i64 0 ∧ iv = .int .i64 0) ∨ (sv = .int .i64 (n1 : Int) ∧ iv = .int .i64 1) ∨ (sv = .int .i64 ((n1 + n2 : Nat) : Int) ∧ iv = .int .i64 2))) (fun _ iv _ => 2 - (intOf iv).toNat)
  case atStart => exact ⟨rfl, Or.inl ⟨rfl, rfl⟩⟩
  case round =>
    obtain ⟨rfl, ⟨rfl, rfl⟩ | ⟨rfl, rfl⟩ | ⟨rfl, rfl⟩⟩ := hrel
    · go_wp2
      go_roundw
      case rel => exact ⟨trivial, Or.inr (Or.inl ⟨rfl, rfl⟩)⟩
      case measure => simp [intOf]
    · go_wp2
      go_roundw
      case rel => exact ⟨trivial, Or.inr (Or.inr ⟨by simp, rfl⟩)⟩
      case measure => simp [intOf]
    · go_upto_region 11 with (go_at_call 208; refine (GR.out _).mono ?_; rintro e w1 ⟨b, d, rfl, ho, hb⟩; have O1 := Lib.hid ho; have B1 := Lib.hid hb; clear ho hb)
      go_loopw [6, 27] (fun sv iv wr => ∃ (b : Option Addr) (d : Nat), Hid (Below w.heap.size w wr) ∧ ((sv = .slice b 0 d ∧ iv = .int .i64 0 ∧ Hid (OwS wr w.heap.size (.slice b 0 d) [])) ∨ (sv = .slice b n1 d ∧ iv = .int .i64 1 ∧ Hid (OwS wr w.heap.size (.slice b n1 d) x)) ∨ (sv = .slice b (n1 + n2) d ∧ iv = .int .i64 2 ∧ Hid (OwS wr w.heap.size (.slice b (n1 + n2) d) (x ++ y))))) (fun _ iv _ => 2 - (intOf iv).toNat)
      case atStart => exact ⟨b, d, B1, Or.inl ⟨rfl, rfl, O1⟩⟩
      case round =>
        clear O1 B1
        obtain ⟨b, d, HB, ⟨rfl, rfl, HO⟩ | ⟨rfl, rfl, HO⟩ | ⟨rfl, rfl, HO⟩⟩ := hrel
        · have e0 := (HB.out.cell (p := ⟨A, 0, none⟩) (blk_lt HA.out)).trans d0
          have S1 := Lib.hid (H1.out.below HB.out)
          go_wp2_with (at_builtin; refine wpList_app_signs rfl _ _ rfl w.heap.size _ 0 [] rfl rfl HO.out a1 n1 c1 x rfl HX.out S1.out.s S1.out.nl ?g3 ?g4 ?_)
          case g3 => omega
          case g4 => exact HB.out.size
          intro ad5 c5 w5 o5 g5
          have N5 := Lib.hid (HB.out.grown g5 HB.out.size (fun j hj => (HO.out.lt j hj).1))
          have O5 := Lib.hid (show OwS w5 w.heap.size (.slice ad5 n1 c5) x by first | exact o5 | (rw [Nat.zero_add] at o5; exact o5))
          clear o5 g5
          go_wp2
          go_roundw
          case rel => exact ⟨ad5, c5, N5, Or.inr (Or.inl ⟨by first | rfl | simp, rfl, O5⟩)⟩
          case measure => simp [intOf]
        · have e1 := (HB.out.cell (p := ⟨A, 1, none⟩) (blk_lt HA.out)).trans d1
          have S2 := Lib.hid (H2.out.below HB.out)
          go_wp2_with (at_builtin; refine wpList_app_signs rfl _ _ rfl w.heap.size _ n1 x rfl HX.out HO.out a2 n2 c2 y rfl HY.out S2.out.s S2.out.nl ?g3 ?g4 ?_)
          case g3 => omega
          case g4 => exact HB.out.size
          intro ad5 c5 w5 o5 g5
          have N5 := Lib.hid (HB.out.grown g5 HB.out.size (fun j hj => (HO.out.lt j hj).1))
          have O5 := Lib.hid o5
          clear o5 g5
          go_wp2
          go_roundw
          case rel => exact ⟨ad5, c5, N5, Or.inr (Or.inr ⟨rfl, rfl, O5⟩)⟩
          case measure => simp [intOf]
        · go_wp2
          go_ret
          exact ⟨_, _, rfl, HO.out, HB.out⟩
end Go.Proofs.YtgpcflpeddnfcaaDoor
