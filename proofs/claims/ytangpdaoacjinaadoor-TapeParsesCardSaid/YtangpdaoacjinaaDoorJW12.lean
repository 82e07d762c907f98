/-
  Joined: Ma0 Ma1 Ma2 Ma3 Ma4 Ma5.
-/
import Derived.Test.YtangpdaoacjinaaDoorJW04
import Derived.Test.YtangpdaoacjinaaDoorJW06
import Derived.Test.YtangpdaoacjinaaDoorJW09
import Derived.Test.YtangpdaoacjinaaDoorJW11
import Derived.Deep.Onto
import Derived.Deep.RegionHeld3
import Derived.BigQuiet
import Derived.Lib.QuietBelow
import Derived.Deep.QuietTactic
set_option linter.unusedVariables false
set_option linter.unusedSimpArgs false
set_option maxRecDepth 100000
set_option linter.unusedVariables false
set_option linter.unusedSimpArgs false
namespace Go.Proofs.YtangpdaoacjinaaDoor
open Go.RowKit
def kC (L : List Ky) : List Value := L.flatMap fun p => [Value.int .i64 p.1, Value.int .i64 p.2.1, Value.string p.2.2.1, Value.bool p.2.2.2]
theorem kC_at (L : List Ky) : ∀ i, i < L.length → (kC L)[i * 4]? = some (.int .i64 (L.getD i k0).1) ∧ (kC L)[i * 4 + 1]? = some (.int .i64 (L.getD i k0).2.1) ∧ (kC L)[i * 4 + 2]? = some (.string (L.getD i k0).2.2.1) ∧ (kC L)[i * 4 + 3]? = some (.bool (L.getD i k0).2.2.2) := by
  induction L with
  | nil => intro i hi; simp at hi
  | cons x L ih =>
    intro i hi
    cases i with
    | zero => exact ⟨rfl, rfl, rfl, rfl⟩
    | succ i =>
      have h := ih i (by simpa using hi)
      rw [show (i + 1) * 4 = i * 4 + 1 + 1 + 1 + 1 by omega]
      exact h
theorem kC_len (L : List Ky) : (kC L).length = L.length * 4 := by
  unfold kC
  induction L with
  | nil => rfl
  | cons x L ih => simp only [List.flatMap_cons, List.length_append, List.length_cons, List.length_nil, ih]; omega
theorem kC_app (a b : List Ky) : kC (a ++ b) = kC a ++ kC b := by simp [kC]
theorem kC_one (l : List Ky) : ∀ u ∈ kC l, u.oneCell' = true := by
  intro u hu
  unfold kC at hu
  rw [List.mem_flatMap] at hu
  obtain ⟨p, _, hp⟩ := hu
  simp at hp
  rcases hp with rfl | rfl | rfl | rfl <;> rfl
theorem kC_news {w : World} {ad : Addr} {l : List Ky} (h : KeysIn w (some ad) l) : ∀ j u, (kC l)[j]? = some u → w.cell? (ad.add j) = some u := by
  intro j u hj
  have hlen := kC_len l
  have hj2 : j < l.length * 4 := by
    rw [← hlen]
    exact (List.getElem?_eq_some_iff.1 hj).1
  obtain ⟨b, off, e, _, h1, h2, h3, h4⟩ := h (j / 4) (by omega)
  injection e with e
  subst e
  have hadd : (⟨b, off, none⟩ : Addr).add j = ⟨b, off + j, none⟩ := by unfold Addr.add; split <;> simp_all
  have hs := kC_at l (j / 4) (by omega)
  rw [hadd]
  have hm : j % 4 = 0 ∨ j % 4 = 1 ∨ j % 4 = 2 ∨ j % 4 = 3 := by omega
  rcases hm with hm | hm | hm | hm
  · have e : j / 4 * 4 = j := by omega
    rw [e] at hs h1
    rw [hs.1] at hj
    rw [h1]; exact hj
  · have e : j / 4 * 4 + 1 = j := by omega
    rw [e] at hs
    rw [show off + j / 4 * 4 + 1 = off + j by omega] at h2
    rw [hs.2.1] at hj
    rw [h2]; exact hj
  · have e : j / 4 * 4 + 2 = j := by omega
    rw [e] at hs
    rw [show off + j / 4 * 4 + 2 = off + j by omega] at h3
    rw [hs.2.2.1] at hj
    rw [h3]; exact hj
  · have e : j / 4 * 4 + 3 = j := by omega
    rw [e] at hs
    rw [show off + j / 4 * 4 + 3 = off + j by omega] at h4
    rw [hs.2.2.2] at hj
    rw [h4]; exact hj
/-- A row of keys of the call's own. -/
def OwK (w : World) (B : Nat) (v : Value) (L : List Ky) : Prop := w.ownsRow B 171 4 v L.length (kC L)
/-- A slice of keys, its room, and where its block is. -/
structure SlK (S : Nat → Prop) (w : World) (a : Option Addr) (L : List Ky) (c : Nat) : Prop where
  s : KeysIn w a L
  le : L.length ≤ c
  nl : a = none → c = 0
  st : ∀ ad, a = some ad → L ≠ [] → S ad.block
theorem SlK.mono {S T : Nat → Prop} {w : World} {a : Option Addr} {L : List Ky} {c : Nat} (h : SlK S w a L c) (hT : ∀ k, S k → T k) : SlK T w a L c := ⟨h.s, h.le, h.nl, fun ad e hn => hT _ (h.st ad e hn)⟩
theorem SlK.keep {S : Nat → Prop} {w w' : World} {a : Option Addr} {L : List Ky} {c : Nat} (h : SlK S w a L c) (hs : w.heap.size ≤ w'.heap.size) (hk : ∀ k, S k → w'.heap[k]? = w.heap[k]?) : SlK S w' a L c := by
  refine ⟨fun i hi => ?_, h.le, h.nl, h.st⟩
  obtain ⟨b, off, e, hb, h1, h2, h3, h4⟩ := h.s i hi
  have hS := h.st _ e (fun h0 => by rw [h0] at hi; simp at hi)
  have hkb : w'.heap[b]? = w.heap[b]? := hk b hS
  refine ⟨b, off, e, Nat.lt_of_lt_of_le hb hs, ?_, ?_, ?_, ?_⟩
  · rw [← h1]; unfold World.cell?; rw [hkb]
  · rw [← h2]; unfold World.cell?; rw [hkb]
  · rw [← h3]; unfold World.cell?; rw [hkb]
  · rw [← h4]; unfold World.cell?; rw [hkb]
theorem SlK.below {S : Nat → Prop} {w w' : World} {a : Option Addr} {L : List Ky} {c : Nat} (h : SlK S w a L c) (hb : Below w.heap.size w w') : SlK S w' a L c := ⟨h.s.below hb, h.le, h.nl, h.st⟩
theorem SlK.none (S : Nat → Prop) (w : World) : SlK S w none [] 0 := ⟨fun j hj => absurd hj (Nat.not_lt_zero j), Nat.le_refl _, fun _ => rfl, fun ad e => by cases e⟩
theorem infoKey4 : (Tryd.prog.info? 171).map (fun i => (i.zero, i.size)) = some (some (.agg #[.int .i64 0, .int .i64 0, .string ByteArray.empty, .bool false]), 4) := by kernel_rfl
theorem bytesKey : ∃ b, (Tryd.prog.info? 171).map (fun i => (i.zero, i.size, i.bytes)) = some (some (.agg #[.int .i64 0, .int .i64 0, .string ByteArray.empty, .bool false]), 4, b) ∧ 1 ≤ b ∧ b ≤ 64 := ⟨40, by kernel_rfl, by decide, by decide⟩
theorem owk_nil (w : World) (B : Nat) : OwK w B (.slice none 0 0) [] := World.ownsRow_nil _ _ _ _
theorem owk_new (w : World) : OwK (w.alloc (.cells #[] 171)) w.heap.size (.slice (some ⟨w.heap.size, 0, none⟩) 0 0) [] :=
  ⟨rfl, .inr ⟨w.heap.size, 0, #[], rfl, Nat.le_refl _, heap_alloc_new _ _, Nat.le_refl _, by decide, rfl, rfl⟩⟩
theorem OwK.sl {w : World} {B : Nat} {v : Value} {L : List Ky} (h : OwK w B v L) : ∃ a c, v = .slice a L.length c ∧ SlK (fun k => B ≤ k ∧ k < w.heap.size ∧ v.ownBlock = some k) w a L c := by
  unfold OwK at h
  rcases h.2 with ⟨rfl, h0⟩ | ⟨g, cap, cur, rfl, hB, hg, hle, _⟩
  · exact ⟨none, 0, by rw [h0], fun j hj => by omega, by omega, fun _ => rfl, fun ad e => by cases e⟩
  · refine ⟨_, cap, rfl, fun j hj => ⟨g, 0, rfl, blk_lt hg, ?_, ?_, ?_, ?_⟩, hle, fun e => (by cases e), fun ad e _ => (by cases e; exact ⟨hB, blk_lt hg, rfl⟩)⟩
    all_goals have := kC_at L j hj
    · rw [Nat.zero_add, h.cellAt (j * 4) (by omega)]; exact this.1
    · rw [Nat.zero_add, h.cellAt (j * 4 + 1) (by omega)]; exact this.2.1
    · rw [Nat.zero_add, h.cellAt (j * 4 + 2) (by omega)]; exact this.2.2.1
    · rw [Nat.zero_add, h.cellAt (j * 4 + 3) (by omega)]; exact this.2.2.2
theorem OwK.form {w : World} {B : Nat} {v : Value} {L : List Ky} {n : Nat} (h : OwK w B v L) (hn : L.length = n) : ∃ a c, v = .slice a n c := by
  obtain ⟨a, c, e, _⟩ := h.sl
  exact ⟨a, c, by rw [e, hn]⟩
theorem OwK.mono {w : World} {B B' : Nat} {v : Value} {L : List Ky} (h : OwK w B v L) (hB : B' ≤ B) : OwK w B' v L := World.ownsRow.mono h hB
theorem OwK.below {w w' : World} {B : Nat} {v : Value} {L : List Ky} (h : OwK w B v L) (hb : Below w.heap.size w w') : OwK w' B v L := by
  refine h.kept (row := none) ⟨hb.os, hb.tape, hb.output, hb.size, fun k hk _ => hb.block k hk⟩ ?_
  cases v.ownBlock <;> simp
theorem run_append_place {P : Program} (w : World) (base : Nat) (t ty e : TypeId) (i : TypeInfo) (z : Value) (size bytes : Nat) (ht : P.underlying t = some (.slice e)) (hi : P.info? e = some i) (hz : i.zero = some z)
    (hsize : i.size = size) (hby : i.bytes = bytes) (hzs : z.cells.size = size) (hsz : 0 < size)
    (v : Value) (n : Nat) (xs : List Value) (hown : w.ownsRow base e size v n xs)
    (a : Addr) (m c : Nat) (news : List Value) (hl : news.length = m * size) (hnews : ∀ j u, news[j]? = some u → w.cell? (a.add j) = some u) (h1 : ∀ u ∈ news, u.oneCell' = true)
    (h63 : n + m ≤ maxLen) (hbytes : (n + m) * bytes ≤ 140737488355328) (hbase : base ≤ w.heap.size) :
    ∃ v' w', (Builtin.append_ #[t, t] ty #[v, .slice (some a) m c]).run P w = .ok v' w' ∧ w'.ownsRow base e size v' (n + m) (xs ++ news) ∧ w.grownBy w' v.ownBlock ∧
      (∀ k, v'.ownBlock = some k → v.ownBlock = some k ∨ w.heap.size ≤ k) := by
  obtain ⟨v', w', hr, h2, h3, _⟩ := run_append_own (P := P) w base t ty e i z size bytes ht hi hz hsize hby hzs hsz v n xs hown a m c news hl hnews h1 h63 hbytes hbase
  refine ⟨v', w', hr, h2, h3, fun k hk => ?_⟩
  rcases hown.2 with ⟨rfl, rfl⟩ | ⟨g, cap, cur, rfl, hbg, hg, hnc, hcm, hcs, htake⟩
  · obtain ⟨v2, w2, hr2, h4, _⟩ := run_append_own (P := P) w w.heap.size t ty e i z size bytes ht hi hz hsize hby hzs hsz _ 0 xs ⟨hown.1, .inl ⟨rfl, rfl⟩⟩ a m c news hl hnews h1 h63 hbytes (Nat.le_refl _)
    rw [hr] at hr2
    injection hr2 with e1 e2
    subst e1
    exact Or.inr (h4.lt k hk).1
  · subst hsize; subst hby
    by_cases hroom : n + m ≤ cap
    · have hr2 := run_append_room (P := P) w t ty e i ht hi g n cap cur hg a m c news hl hnews h1 hroom (by rw [hl, hcs, ← Nat.add_mul]; exact Nat.mul_le_mul_right _ hroom)
      rw [hr] at hr2
      injection hr2 with e1 e2
      subst e1
      exact Or.inl hk
    · have holds := hown.cells (g := g) rfl
      have hr2 := run_append_grow (P := P) w t ty e i z ht hi hz ⟨g, 0, none⟩ n cap xs hown.1 holds a m c news hl hnews (by omega) (by unfold maxLen at h63; omega) (growslice_fits (by omega) hbytes)
      rw [hr] at hr2
      injection hr2 with e1 e2
      subst e1
      simp [Value.ownBlock] at hk
      exact Or.inr (by omega)
/-- An append of keys to a row of the call's own. -/
theorem step_app_keys {w : World} {ops : Array Oper} {o : Oper} {a : Act} {K : Act → World → Prop} {Q : Exit → Act → World → Prop} {E : Prop} (hgd : Region.wanted o (yielded ops a.tmps) = true) (s x : Operand)
    (ho : o.op = .call { callee := .builtin .append, args := #[s, x], argTypes := #[223, 223] }) (base : Nat)
    (v : Value) (np : Nat) (p : List Ky) (hs : a.eval s = v) (hp : p.length = np) (hown : OwK w base v p) (ad : Option Addr) (n c : Nat) (l : List Ky) (hx : a.eval x = .slice ad n c) (hl : l.length = n) (hsg : KeysIn w ad l) (hnl : ad = none → c = 0)
    (hlen : np + n ≤ 1000000) (hbase : base ≤ w.heap.size)
    (h : ∀ ad' c' w', OwK w' base (.slice ad' (np + n) c') (p ++ l) → w.grownBy w' v.ownBlock → (∀ k, (Value.slice ad' (np + n) c').ownBlock = some k → v.ownBlock = some k ∨ w.heap.size ≤ k) → K (a.put o.dst (.slice ad' (np + n) c')) w') :
    if Region.wanted o (yielded ops a.tmps) = true then Oper.wp Tryd.prog o a w K Q else E := by
  obtain ⟨bb, hbb, hb1, hb2⟩ := bytesKey
  obtain ⟨i0, hi, hz0, hz1, hz2⟩ := info_parts hbb
  subst hl; subst hp
  rw [if_pos hgd]
  have hfin : ∀ v' w', OwK w' base v' (p ++ l) → w.grownBy w' v.ownBlock → (∀ k, v'.ownBlock = some k → v.ownBlock = some k ∨ w.heap.size ≤ k) → K (a.put o.dst v') w' := by
    intro v' w' h1 h2 h3
    obtain ⟨ad', c', rfl⟩ := h1.form (n := p.length + l.length) (by rw [List.length_append])
    exact h ad' c' w' h1 h2 h3
  cases ad with
  | none =>
    obtain rfl := hnl rfl
    have hnil : l = [] := by
      cases l with
      | nil => rfl
      | cons x l => obtain ⟨_, _, e, _⟩ := hsg 0 (by simp); cases e
    subst hnil
    have hrun := run_append_owned_none (P := Tryd.prog) (w := w) base 223 o.type 171 i0 4 Tryd.underlying223 hi v p.length _ hown
    have h' := hfin v w (by rw [List.append_nil]; exact hown) ⟨rfl, rfl, rfl, Nat.le_refl _, fun _ _ _ => rfl⟩ (fun k hk => Or.inl hk)
    unfold Oper.wp
    simp only [List.length_nil] at hx
    simp [execOp, ho, resolve, invoke, builtin, hs, hx, hrun, Result.andThen]
    exact h'
  | some ad =>
    obtain ⟨v', w', hr, a1, a2, a3⟩ := run_append_place (P := Tryd.prog) w base 223 o.type 171 i0 _ 4 bb Tryd.underlying223 hi hz0 hz1 hz2 rfl (by decide) v p.length _ hown ad l.length c (kC l) (kC_len l) (kC_news hsg) (kC_one l) (by unfold maxLen; omega) (Nat.le_trans (Nat.mul_le_mul hlen hb2) (by decide)) hbase
    have h' := hfin v' w' (by unfold OwK; rw [List.length_append, kC_app]; exact a1) a2 a3
    unfold Oper.wp execOp
    simp only [ho, resolve, invoke, builtin, Sem.run_bind, Sem.run_pure, Result.andThen_ok, List.map_toArray, List.map_cons, List.map_nil, hs, hx, hr]
    exact h'
theorem wpList_app_keys {w : World} {ops : Array Oper} {rest : List Oper} {o : Oper} {a : Act} {Q : Exit → Act → World → Prop} (hgd : Region.wanted o (yielded ops a.tmps) = true) (s x : Operand)
    (ho : o.op = .call { callee := .builtin .append, args := #[s, x], argTypes := #[223, 223] }) (base : Nat)
    (v : Value) (np : Nat) (p : List Ky) (hs : a.eval s = v) (hp : p.length = np) (hown : OwK w base v p) (ad : Option Addr) (n c : Nat) (l : List Ky) (hx : a.eval x = .slice ad n c) (hl : l.length = n) (hsg : KeysIn w ad l) (hnl : ad = none → c = 0)
    (hlen : np + n ≤ 1000000) (hbase : base ≤ w.heap.size)
    (h : ∀ ad' c' w', OwK w' base (.slice ad' (np + n) c') (p ++ l) → w.grownBy w' v.ownBlock → (∀ k, (Value.slice ad' (np + n) c').ownBlock = some k → v.ownBlock = some k ∨ w.heap.size ≤ k) → wpList Tryd.prog ops Q rest (a.put o.dst (.slice ad' (np + n) c')) w') : wpList Tryd.prog ops Q (o :: rest) a w :=
  wpList_step fun K hK => step_app_keys hgd s x ho base v np p hs hp hown ad n c l hx hl hsg hnl hlen hbase (fun ad' c' w' h1 h2 h3 => hK _ _ (h ad' c' w' h1 h2 h3))
end Go.Proofs.YtangpdaoacjinaaDoor
set_option linter.unusedVariables false
set_option linter.unusedSimpArgs false
namespace Go.Proofs.YtangpdaoacjinaaDoor
open Go.RowKit
/-- The blocks S stay as they are. -/
structure KeptM (S : Nat → Prop) (w w' : World) : Prop where
  os : w'.os = w.os
  tape : w'.tape = w.tape
  output : w'.output = w.output
  size : w.heap.size ≤ w'.heap.size
  block : ∀ k, S k → w'.heap[k]? = w.heap[k]?
theorem KeptM.trans {S : Nat → Prop} {w w1 w2 : World} (h : KeptM S w w1) (k : KeptM S w1 w2) : KeptM S w w2 :=
  ⟨k.os.trans h.os, k.tape.trans h.tape, k.output.trans h.output, Nat.le_trans h.size k.size, fun j hj => (k.block j hj).trans (h.block j hj)⟩
theorem KeptM.below {S : Nat → Prop} {w w' : World} (h : KeptM S w w') (B : Nat) (hS : ∀ k, k < B → S k) : Below B w w' :=
  ⟨h.os, h.tape, h.output, h.size, fun k hk => h.block k (hS k hk)⟩
theorem KeptM.of {S : Nat → Prop} {w w' : World} (h : Below w.heap.size w w') (hS : ∀ k, S k → k < w.heap.size) : KeptM S w w' := ⟨h.os, h.tape, h.output, h.size, fun k hk => h.block k (hS k hk)⟩
section
variable {S : Nat → Prop} {P : Nat} {M : Int} {K Nw : List Ky} {kp : Bool} {w w' : World}
theorem kept_set {S : Nat → Prop} {P : Nat} {w : World} (hP : ∀ k, S k → k ≠ P) (i : Nat) (v : Value) : KeptM S w (w.setCell ⟨P, i, none⟩ v) :=
  ⟨rfl, rfl, rfl, by simp [World.setCell], fun k hk => Below.heap_setCell _ _ _ _ (hP k hk)⟩
end
end Go.Proofs.YtangpdaoacjinaaDoor
set_option linter.unusedVariables false
set_option linter.unusedSimpArgs false
namespace Go.Proofs.YtangpdaoacjinaaDoor
open Go.RowKit Go.Sort
section
variable {S : Nat → Prop} {P : Nat} {M : Int} {K Nw : List Ky} {kp : Bool} {w w' : World}
end
end Go.Proofs.YtangpdaoacjinaaDoor
set_option linter.unusedVariables false
set_option linter.unusedSimpArgs false
namespace Go.Proofs.YtangpdaoacjinaaDoor
open Go.RowKit Go.Sort
section
variable {S : Nat → Prop} {P : Nat} {M : Int} {K Nw : List Ky} {kp : Bool} {w w' : World}
theorem key_new1 (w : World) (k : Ky) : KeysIn (w.alloc (.cells #[.int .i64 k.1, .int .i64 k.2.1, .string k.2.2.1, .bool k.2.2.2] 171)) (some ⟨w.heap.size, 0, none⟩) [k] := fun i hi => by
  obtain rfl : i = 0 := by simpa using hi
  have h := heap_alloc_new w (.cells #[.int .i64 k.1, .int .i64 k.2.1, .string k.2.2.1, .bool k.2.2.2] 171)
  refine ⟨_, _, rfl, by simp, ?_, ?_, ?_, ?_⟩ <;> (rw [cell_of_row _ _ _ _ _ _ h]; rfl)
end
end Go.Proofs.YtangpdaoacjinaaDoor
set_option linter.unusedVariables false
set_option linter.unusedSimpArgs false
namespace Go.Proofs.YtangpdaoacjinaaDoor
open Go.RowKit
/-- Keys, so many times over. -/
def rpK (K : List Ky) (n : Nat) : List Ky := (List.replicate n K).flatten
theorem rpK_zero (K : List Ky) : rpK K 0 = [] := rfl
theorem rpK_succ (K : List Ky) (n : Nat) : rpK K (n + 1) = rpK K n ++ K := by
  unfold rpK
  rw [show n + 1 = n + 1 from rfl, List.replicate_succ', List.flatten_append]
  simp
theorem rpK_len (K : List Ky) (n : Nat) : (rpK K n).length = n * K.length := by
  induction n with
  | zero => simp [rpK]
  | succ n ih => rw [rpK_succ, List.length_append, ih, Nat.succ_mul]
section
variable {S : Nat → Prop} {P : Nat} {M : Int} {K Nw : List Ky} {kp : Bool} {w w' : World}
end
end Go.Proofs.YtangpdaoacjinaaDoor
set_option linter.unusedVariables false
set_option linter.unusedSimpArgs false
namespace Go.Proofs.YtangpdaoacjinaaDoor
open Go.RowKit Go.Sort
/-- The document's macro as a value. -/
abbrev mV (la : Option Addr) (ln lc : Nat) (na : Option Addr) (nn nc : Nat) (kp : Bool) : Value := .agg #[.slice la ln lc, .slice na nn nc, .bool kp]
end Go.Proofs.YtangpdaoacjinaaDoor
