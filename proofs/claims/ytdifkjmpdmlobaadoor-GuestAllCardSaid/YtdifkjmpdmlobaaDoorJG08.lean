/-
  Joined: Ki4 Ki5 Ki6 Ki7 Ki8 Ki9 ArgS Sp4 Sp5.
-/
import Derived.Test.YtdifkjmpdmlobaaDoorJG01
import Derived.Test.YtdifkjmpdmlobaaDoorJG03
import Derived.Test.YtdifkjmpdmlobaaDoorJG04
import Derived.Test.YtdifkjmpdmlobaaDoorJG05
import Derived.Test.YtdifkjmpdmlobaaDoorJG06
import Derived.Test.YtdifkjmpdmlobaaDoorJG07
import Derived.Deep.RegionHeld3
import Derived.Deep.SlicePairs
import Derived.ChangeArms
import Derived.Lib.LaidTab
import Derived.Lib.LaidU8
import Derived.Lib.SmallJoins
import Derived.Test.YtdifkjmpdmlobaaDoorShelf
import Derived.Lib.UnsafeStr
set_option linter.unusedVariables false
set_option linter.unusedSimpArgs false
set_option maxRecDepth 100000
set_option linter.unusedVariables false
set_option linter.unusedSimpArgs false
namespace Go.Proofs.YtdifkjmpdmlobaaDoor
open Go.RowKit
/-- What is kept of texts. -/
def puT (M : Int) (T : List (List Sg2)) : List (List Sg2) := if M < T.length then T.tail else T
section
variable {S : Nat → Prop} {P : Nat} {M o : Int} {T : List (List Sg2)} {h : Nat} {w w' : World}
theorem slv_eta (s : SlV) : slV s = .slice s.1 s.2.1 s.2.2 := rfl
/-- The texts, one more. -/
theorem RiT.snoc {w w6 : World} {P b : Nat} {T : List (List Sg2)} {vs : List SlV} (h3 : RiT w P b T vs) (hs : w.heap.size ≤ w6.heap.size) (hk : ∀ k, k < w.heap.size → k ≠ P → k ≠ b → w6.heap[k]? = w.heap[k]?) {t : List Sg2} {bd : Option Addr} {n d : Nat} (hn : t.length = n) (hq : SlS (fun k => k < w6.heap.size ∧ k ≠ P ∧ k ≠ b) w6 bd t d) : RiT w6 P b (T ++ [t]) (vs ++ [(bd, n, d)]) := by
  have h4 := h3.keep hs hk
  have hl := h4.1
  refine ⟨by simp [hl], fun j hj => ?_⟩
  rw [List.length_append, List.length_singleton] at hj
  by_cases hlt : j < T.length
  · have := h4.2 j hlt
    rw [getD_app1, if_pos (by omega), show (T ++ [t]).getD j [] = T.getD j [] by rw [List.getD, List.getElem?_append_left hlt, List.getD]]
    exact this
  · obtain rfl : j = T.length := by omega
    rw [getD_app1, if_neg (by omega), if_pos hl.symm, show (T ++ [t]).getD T.length [] = t by rw [List.getD, List.getElem?_append_right (Nat.le_refl _), Nat.sub_self]; rfl]
    exact ⟨hn.symm, hq⟩
end
end Go.Proofs.YtdifkjmpdmlobaaDoor
set_option linter.unusedVariables false
set_option linter.unusedSimpArgs false
namespace Go.Proofs.YtdifkjmpdmlobaaDoor
open Go.RowKit
section
variable {S : Nat → Prop} {P : Nat} {M o : Int} {T : List (List Sg2)} {h : Nat} {w w' : World}
end
end Go.Proofs.YtdifkjmpdmlobaaDoor
set_option linter.unusedVariables false
set_option linter.unusedSimpArgs false
namespace Go.Proofs.YtdifkjmpdmlobaaDoor
open Go.RowKit
section
variable {S : Nat → Prop} {P : Nat} {M o : Int} {T : List (List Sg2)} {h : Nat} {w w' : World}
theorem RiT.split {w : World} {P b : Nat} {U : List (List Sg2)} {u : List Sg2} {vs : List SlV} (h3 : RiT w P b (U ++ [u]) vs) : ∃ us ua un uc, vs = us ++ [(ua, un, uc)] ∧ RiT w P b U us ∧ u.length = un ∧ SlS (fun k => k < w.heap.size ∧ k ≠ P ∧ k ≠ b) w ua u uc := by
  obtain ⟨hl, hf⟩ := h3
  have hne : vs ≠ [] := fun e => by rw [e] at hl; simp at hl
  obtain ⟨us, v, rfl⟩ : ∃ us v, vs = us ++ [v] := ⟨vs.dropLast, vs.getLast hne, (List.dropLast_concat_getLast hne).symm⟩
  have hus : us.length = U.length := by simpa using hl
  obtain ⟨ua, un, uc⟩ := v
  have := hf U.length (by simp)
  rw [← hus, getD_app1, if_neg (Nat.lt_irrefl _), if_pos rfl, hus, show (U ++ [u]).getD U.length [] = u by rw [List.getD, List.getElem?_append_right (Nat.le_refl _), Nat.sub_self]; rfl] at this
  refine ⟨us, ua, un, uc, rfl, ⟨hus, fun j hj => ?_⟩, this.1.symm, this.2⟩
  have := hf j (by simp; omega)
  rwa [getD_app1, if_pos (by omega), show (U ++ [u]).getD j [] = U.getD j [] by rw [List.getD, List.getElem?_append_left hj, List.getD]] at this
end
end Go.Proofs.YtdifkjmpdmlobaaDoor
set_option linter.unusedVariables false
set_option linter.unusedSimpArgs false
namespace Go.Proofs.YtdifkjmpdmlobaaDoor
open Go.RowKit
/-- The texts behind a call of Push. -/
def puK (M : Int) (T : List (List Sg2)) (l : List Sg2) (how : Int) : List (List Sg2) :=
  if l = [] then T else if how = 0 ∨ T = [] then puT M (T ++ [l]) else if how = 1 then T.dropLast ++ [T.getLastD [] ++ l] else T.dropLast ++ [l ++ T.getLastD []]
/-- The hand behind a call of Push. -/
def puH (M : Int) (T : List (List Sg2)) (l : List Sg2) (how : Int) (h : Nat) : Nat := if l = [] then h else (puK M T l how).length - 1
theorem snoc_of {T : List (List Sg2)} (h : T ≠ []) : ∃ U u, T = U ++ [u] := ⟨T.dropLast, T.getLast h, (List.dropLast_concat_getLast h).symm⟩
section
variable {S : Nat → Prop} {P : Nat} {M o : Int} {T : List (List Sg2)} {h : Nat} {w w' : World}
theorem puT_len (hM : 1 ≤ M) (T : List (List Sg2)) (hT : (T.length : Int) ≤ M + 1) : ((puT M T).length : Int) ≤ M := by
  unfold puT
  split
  · rw [List.length_tail]; omega
  · omega
theorem puK_len (hM : 1 ≤ M) (l : List Sg2) (how : Int) (hT : (T.length : Int) ≤ M) : ((puK M T l how).length : Int) ≤ M := by
  unfold puK
  split
  · exact hT
  · split
    · exact puT_len hM _ (by simp; omega)
    · rename_i h1 h2
      have : T ≠ [] := fun e => h2 (Or.inr e)
      have := List.length_pos_iff.2 this
      split <;> (rw [List.length_append, List.length_dropLast, List.length_singleton]; omega)
theorem puT_mem {x : List Sg2} (T : List (List Sg2)) (h : x ∈ puT M T) : x ∈ T := by
  unfold puT at h
  split at h
  · exact List.mem_of_mem_tail h
  · exact h
/-- How long texts are. -/
theorem puK_mem {l : List Sg2} {how : Int} {x : List Sg2} {m : Nat} (hT : ∀ t ∈ T, t.length ≤ m) (h : x ∈ puK M T l how) : x.length ≤ m + l.length := by
  unfold puK at h
  split at h
  · have := hT x h; omega
  · split at h
    · have := puT_mem _ h
      rcases List.mem_append.1 this with h1 | h1
      · have := hT x h1; omega
      · rw [List.mem_singleton] at h1; subst h1; omega
    · rename_i h1 h2
      have hne : T ≠ [] := fun e => h2 (Or.inr e)
      obtain ⟨U, u, rfl⟩ := snoc_of hne
      have hu := hT u (by simp)
      split at h
      · rcases List.mem_append.1 h with h3 | h3
        · have := hT x (by simp at h3; simp [h3]); omega
        · rw [List.mem_singleton] at h3; subst h3; simp; omega
      · rcases List.mem_append.1 h with h3 | h3
        · have := hT x (by simp at h3; simp [h3]); omega
        · rw [List.mem_singleton] at h3; subst h3; simp; omega
end
end Go.Proofs.YtdifkjmpdmlobaaDoor
set_option linter.unusedVariables false
set_option linter.unusedSimpArgs false
namespace Go.Proofs.YtdifkjmpdmlobaaDoor
open Go.RowKit
theorem run_append_placeK {P : Program} (w : World) (base : Nat) (t ty e : TypeId) (i : TypeInfo) (z : Value) (size bytes : Nat) (ht : P.underlying t = some (.slice e)) (hi : P.info? e = some i) (hz : i.zero = some z)
    (hsize : i.size = size) (hby : i.bytes = bytes) (hzs : z.cells.size = size) (hsz : 0 < size)
    (v : Value) (n : Nat) (xs : List Value) (hown : w.ownsRow base e size v n xs)
    (a : Addr) (m c : Nat) (news : List Value) (hl : news.length = m * size) (hnews : ∀ j u, news[j]? = some u → w.cell? (a.add j) = some u) (h1 : ∀ u ∈ news, u.oneCell' = true)
    (h63 : n + m ≤ maxLen) (hbytes : (n + m) * bytes ≤ 140737488355328) (hbase : base ≤ w.heap.size) :
    ∃ v' w', (Builtin.append_ #[t, t] ty #[v, .slice (some a) m c]).run P w = .ok v' w' ∧ w'.ownsRow base e size v' (n + m) (xs ++ news) ∧ w.grownBy w' v.ownBlock ∧
      (∀ k, v'.ownBlock = some k → v.ownBlock = some k ∨ w.heap.size ≤ k) := by
  obtain ⟨v', w', hr, h2, h3, _⟩ := run_append_own (P := P) w base t ty e i z size bytes ht hi hz hsize hby hzs hsz v n xs hown a m c news hl hnews h1 h63 hbytes hbase
  refine ⟨v', w', hr, h2, h3, fun k hk => ?_⟩
  rcases hown.2 with ⟨rfl, rfl⟩ | ⟨g, cap, cur, rfl, hbg, hg, hnc, hcm, hcs, htake⟩
  · obtain ⟨v2, w2, hr2, h4, _⟩ := run_append_own (P := P) w w.heap.size t ty e i z size bytes ht hi hz hsize hby hzs hsz _ 0 xs ⟨hown.1, .inl ⟨rfl, rfl⟩⟩ a m c news hl hnews h1 h63 hbytes (Nat.le_refl _)
    rw [hr] at hr2
    injection hr2 with e1 e2
    subst e1
    exact Or.inr (h4.lt k hk).1
  · subst hsize; subst hby
    by_cases hroom : n + m ≤ cap
    · have hr2 := run_append_room (P := P) w t ty e i ht hi g n cap cur hg a m c news hl hnews h1 hroom (by rw [hl, hcs, ← Nat.add_mul]; exact Nat.mul_le_mul_right _ hroom)
      rw [hr] at hr2
      injection hr2 with e1 e2
      subst e1
      exact Or.inl hk
    · have holds := hown.cells (g := g) rfl
      have hr2 := run_append_grow (P := P) w t ty e i z ht hi hz ⟨g, 0, none⟩ n cap xs hown.1 holds a m c news hl hnews (by omega) (by unfold maxLen at h63; omega) (growslice_fits (by omega) hbytes)
      rw [hr] at hr2
      injection hr2 with e1 e2
      subst e1
      simp [Value.ownBlock] at hk
      exact Or.inr (by omega)
/-- A row of slices of the call's own. -/
abbrev OwR1 (w : World) (B : Nat) (v : Value) (vs : List Value) : Prop := w.ownsRow B 28 1 v vs.length vs
theorem OwR1.form {w : World} {B n : Nat} {v : Value} {vs : List Value} (h : OwR1 w B v vs) (hn : vs.length = n) : ∃ a c, v = .slice a n c := by
  rcases h.2 with ⟨rfl, h0⟩ | ⟨g, cap, cur, rfl, _⟩
  · exact ⟨none, 0, by rw [← hn, h0]⟩
  · exact ⟨_, cap, by rw [hn]⟩
theorem OwR1.below {w w' : World} {B : Nat} {v : Value} {vs : List Value} (h : OwR1 w B v vs) (hb : Below w.heap.size w w') : OwR1 w' B v vs :=
  World.ownsRow.kept h (row := none) ⟨hb.os, hb.tape, hb.output, hb.size, fun k hk _ => hb.block k hk⟩ (by cases v.ownBlock <;> simp)
theorem step_app_sl {w : World} {ops : Array Oper} {o : Oper} {a : Act} {K : Act → World → Prop} {Q : Exit → Act → World → Prop} {E : Prop} (hgd : Region.wanted o (yielded ops a.tmps) = true) (s x : Operand)
    (ho : o.op = .call { callee := .builtin .append, args := #[s, x], argTypes := #[22, 22] }) (base : Nat)
    (v : Value) (np : Nat) (p : List Value) (hs : a.eval s = v) (hp : p.length = np) (hown : OwR1 w base v p) (ad : Option Addr) (n c : Nat) (l : List Value) (hx : a.eval x = .slice ad n c) (hl : l.length = n) (hsg : ∀ b, ad = some b → ∀ j u, l[j]? = some u → w.cell? (b.add j) = some u) (h1 : ∀ u ∈ l, u.oneCell' = true) (hnl : ad = none → c = 0 ∧ n = 0)
    (hlen : np + n ≤ 1000000) (hbase : base ≤ w.heap.size)
    (h : ∀ ad' c' w', OwR1 w' base (.slice ad' (np + n) c') (p ++ l) → w.grownBy w' v.ownBlock → (∀ k, (Value.slice ad' (np + n) c').ownBlock = some k → v.ownBlock = some k ∨ w.heap.size ≤ k) → K (a.put o.dst (.slice ad' (np + n) c')) w') :
    if Region.wanted o (yielded ops a.tmps) = true then Oper.wp Tryd.prog o a w K Q else E := by
  obtain ⟨i0, hi, hz0, hz1, hz2⟩ := info_parts infoSl
  subst hl; subst hp
  rw [if_pos hgd]
  have hfin : ∀ v' w', OwR1 w' base v' (p ++ l) → w.grownBy w' v.ownBlock → (∀ k, v'.ownBlock = some k → v.ownBlock = some k ∨ w.heap.size ≤ k) → K (a.put o.dst v') w' := by
    intro v' w' h1 h2 h3
    obtain ⟨ad', c', rfl⟩ := h1.form (n := p.length + l.length) (by rw [List.length_append])
    exact h ad' c' w' h1 h2 h3
  cases ad with
  | none =>
    obtain ⟨rfl, h0⟩ := hnl rfl
    have hnil : l = [] := List.eq_nil_of_length_eq_zero h0
    subst hnil
    have hrun := run_append_owned_none (P := Tryd.prog) (w := w) base 22 o.type 28 i0 1 Tryd.underlying22 hi v p.length _ hown
    have h' := hfin v w (by rw [List.append_nil]; exact hown) ⟨rfl, rfl, rfl, Nat.le_refl _, fun _ _ _ => rfl⟩ (fun k hk => Or.inl hk)
    unfold Oper.wp
    simp only [List.length_nil] at hx
    simp [execOp, ho, resolve, invoke, builtin, hs, hx, hrun, Result.andThen]
    exact h'
  | some ad =>
    obtain ⟨v', w', hr, a1, a2, a3⟩ := run_append_placeK (P := Tryd.prog) w base 22 o.type 28 i0 _ 1 24 Tryd.underlying22 hi hz0 hz1 hz2 rfl (by decide) v p.length _ hown ad l.length c l (Nat.mul_one _).symm (hsg _ rfl) h1 (by unfold maxLen; omega) (by omega) hbase
    have h' := hfin v' w' (by unfold OwR1; rw [List.length_append]; exact a1) a2 a3
    unfold Oper.wp execOp
    simp only [ho, resolve, invoke, builtin, Sem.run_bind, Sem.run_pure, Result.andThen_ok, List.map_toArray, List.map_cons, List.map_nil, hs, hx, hr]
    exact h'
theorem wpList_app_sl {w : World} {ops : Array Oper} {rest : List Oper} {o : Oper} {a : Act} {Q : Exit → Act → World → Prop} (hgd : Region.wanted o (yielded ops a.tmps) = true) (s x : Operand)
    (ho : o.op = .call { callee := .builtin .append, args := #[s, x], argTypes := #[22, 22] }) (base : Nat)
    (v : Value) (np : Nat) (p : List Value) (hs : a.eval s = v) (hp : p.length = np) (hown : OwR1 w base v p) (ad : Option Addr) (n c : Nat) (l : List Value) (hx : a.eval x = .slice ad n c) (hl : l.length = n) (hsg : ∀ b, ad = some b → ∀ j u, l[j]? = some u → w.cell? (b.add j) = some u) (h1 : ∀ u ∈ l, u.oneCell' = true) (hnl : ad = none → c = 0 ∧ n = 0)
    (hlen : np + n ≤ 1000000) (hbase : base ≤ w.heap.size)
    (h : ∀ ad' c' w', OwR1 w' base (.slice ad' (np + n) c') (p ++ l) → w.grownBy w' v.ownBlock → (∀ k, (Value.slice ad' (np + n) c').ownBlock = some k → v.ownBlock = some k ∨ w.heap.size ≤ k) → wpList Tryd.prog ops Q rest (a.put o.dst (.slice ad' (np + n) c')) w') : wpList Tryd.prog ops Q (o :: rest) a w :=
  wpList_step fun K hK => step_app_sl hgd s x ho base v np p hs hp hown ad n c l hx hl hsg h1 hnl hlen hbase (fun ad' c' w' h1 h2 h3 => hK _ _ (h ad' c' w' h1 h2 h3))
/-- The texts of a row of slices. -/
def Els (S : Nat → Prop) (w : World) (vs : List Value) (E : List (List Sg2)) : Prop := vs.length = E.length ∧ ∀ i, i < E.length → ∃ ai ci, vs[i]? = some (.slice ai (E.getD i []).length ci) ∧ SlS S w ai (E.getD i []) ci
theorem Els.keep {S : Nat → Prop} {w w' : World} {vs : List Value} {E : List (List Sg2)} (h : Els S w vs E) (hs : w.heap.size ≤ w'.heap.size) (hk : ∀ k, S k → w'.heap[k]? = w.heap[k]?) : Els S w' vs E :=
  ⟨h.1, fun i hi => by obtain ⟨ai, ci, e, hx⟩ := h.2 i hi; exact ⟨ai, ci, e, hx.keep hs hk⟩⟩
theorem Els.mono {S Q : Nat → Prop} {w : World} {vs : List Value} {E : List (List Sg2)} (h : Els S w vs E) (hQ : ∀ k, S k → Q k) : Els Q w vs E :=
  ⟨h.1, fun i hi => by obtain ⟨ai, ci, e, hx⟩ := h.2 i hi; exact ⟨ai, ci, e, hx.mono hQ⟩⟩
theorem Els.one {S : Nat → Prop} {w : World} {vs : List Value} {E : List (List Sg2)} (h : Els S w vs E) : ∀ u ∈ vs, u.oneCell' = true := by
  intro u hu
  obtain ⟨i, hi, rfl⟩ := List.getElem_of_mem hu
  obtain ⟨ai, ci, e, _⟩ := h.2 i (by rw [← h.1]; exact hi)
  rw [List.getElem?_eq_getElem hi] at e
  injection e with e
  rw [e]; rfl
theorem getD_snoc (E : List (List Sg2)) (l : List Sg2) (i : Nat) : (E ++ [l]).getD i [] = if i < E.length then E.getD i [] else if i = E.length then l else [] := by
  split
  · rename_i h; rw [List.getD, List.getElem?_append_left h, List.getD]
  · split
    · rename_i h1 h2; subst h2; rw [List.getD, List.getElem?_append_right (Nat.le_refl _), Nat.sub_self]; rfl
    · rename_i h1 h2; rw [List.getD, List.getElem?_eq_none (by simp; omega)]; rfl
theorem Els.snoc {S : Nat → Prop} {w : World} {vs : List Value} {E : List (List Sg2)} (h : Els S w vs E) {a : Option Addr} {n c : Nat} {l : List Sg2} (hn : l.length = n) (hl : SlS S w a l c) : Els S w (vs ++ [.slice a n c]) (E ++ [l]) := by
  refine ⟨by simp [h.1], fun i hi => ?_⟩
  rw [List.length_append, List.length_singleton] at hi
  rw [getD_snoc]
  by_cases hlt : i < E.length
  · rw [if_pos hlt]
    obtain ⟨ai, ci, e, hx⟩ := h.2 i hlt
    exact ⟨ai, ci, by rw [List.getElem?_append_left (by rw [h.1]; exact hlt)]; exact e, hx⟩
  · obtain rfl : i = E.length := by omega
    rw [if_neg hlt, if_pos rfl]
    exact ⟨a, c, by rw [List.getElem?_append_right (by rw [h.1]; exact Nat.le_refl _), h.1, Nat.sub_self, hn]; rfl, hl⟩
/-- The newest one, another. -/
theorem Els.last {S : Nat → Prop} {w : World} {vs : List Value} {U : List (List Sg2)} {u : List Sg2} (h : Els S w vs (U ++ [u])) {a : Option Addr} {n c : Nat} {l : List Sg2} (hn : l.length = n) (hl : SlS S w a l c) : Els S w (vs.set U.length (.slice a n c)) (U ++ [l]) := by
  refine ⟨by simpa using h.1, fun i hi => ?_⟩
  rw [List.length_append, List.length_singleton] at hi
  have hvl : U.length < vs.length := by have := h.1; simp at this; omega
  rw [getD_snoc]
  by_cases hlt : i < U.length
  · rw [if_pos hlt]
    obtain ⟨ai, ci, e, hx⟩ := h.2 i (by simp; omega)
    rw [getD_snoc, if_pos hlt] at e hx
    exact ⟨ai, ci, by rw [List.getElem?_set_ne (by omega)]; exact e, hx⟩
  · obtain rfl : i = U.length := by omega
    rw [if_neg hlt, if_pos rfl]
    exact ⟨a, c, by rw [List.getElem?_set_self hvl, hn], hl⟩
/-- Texts that lie, as a list of slices. -/
theorem SgsK.els {S : Nat → Prop} {w : World} {a : Option Addr} {H : List (List Sg2)} (s : SgsK S w a H) : ∃ vs, Els S w vs H ∧ ∀ b, a = some b → ∀ j u, vs[j]? = some u → w.cell? (b.add j) = some u := by
  cases H with
  | nil => exact ⟨[], ⟨rfl, fun i hi => absurd hi (Nat.not_lt_zero i)⟩, fun b _ j u h => by simp at h⟩
  | cons x H =>
    obtain ⟨b, off, _, _, rfl, _⟩ := s 0 (by simp)
    refine ⟨(List.range (x :: H).length).map (fun i => (w.cell? ⟨b, off + i, none⟩).getD (.int .i64 0)), ⟨by simp, fun i hi => ?_⟩, fun b' e j u hj => ?_⟩
    · obtain ⟨b2, off2, ai, ci, e, _, _, h1, h2⟩ := s i hi
      injection e with e; injection e with e1 e2; subst e1; subst e2
      exact ⟨ai, ci, by rw [List.getElem?_map, List.getElem?_range hi]; simp [h1], h2⟩
    · injection e with e; subst e
      have hjl : j < (x :: H).length := by
        have := (List.getElem?_eq_some_iff.1 hj).1
        simpa using this
      obtain ⟨b2, off2, ai, ci, e, _, _, h1, h2⟩ := s j hjl
      injection e with e; injection e with e1 e2; subst e1; subst e2
      rw [List.getElem?_map, List.getElem?_range hjl] at hj
      simp only [Option.map_some, h1, Option.getD_some] at hj
      rw [← hj]
      have hadd : (⟨b, off, none⟩ : Addr).add j = ⟨b, off + j, none⟩ := by unfold Addr.add; split <;> simp_all
      rw [hadd]; exact h1
end Go.Proofs.YtdifkjmpdmlobaaDoor
set_option linter.unusedVariables false
set_option linter.unusedSimpArgs false
namespace Go.Proofs.YtdifkjmpdmlobaaDoor
open Go.RowKit
/-- The document's texts as a value. -/
abbrev kV (a : Option Addr) (n c : Nat) (h : Int) : Value := .agg #[.slice a n c, .int .i64 h]
theorem tuH_mod (h n : Nat) (hl : h < n) : Int.tmod ((h : Int) + (n : Int) - 1) (n : Int) = (tuH h n : Nat) := by
  have e : (h : Int) + (n : Int) - 1 = ((h + n - 1 : Nat) : Int) := by omega
  rw [e]
  unfold tuH
  show ((h + n - 1 : Nat) : Int).tmod ((n : Nat) : Int) = _
  rw [← Int.ofNat_tmod]
  congr 1
  split
  · rename_i h0; subst h0; rw [Nat.zero_add, Nat.mod_eq_of_lt (by omega)]
  · rw [show h + n - 1 = (h - 1) + n by omega, Nat.add_mod_right, Nat.mod_eq_of_lt (by omega)]
theorem two_new (w : World) (c1 c2 : Array Value) (t1 t2 : TypeId) : ((w.alloc (.cells c1 t1)).alloc (.cells c2 t2)).heap[w.heap.size]? = some (.cells c1 t1 (0, 0)) ∧ ((w.alloc (.cells c1 t1)).alloc (.cells c2 t2)).heap[w.heap.size + 1]? = some (.cells c2 t2 (0, 0)) ∧ Below w.heap.size w ((w.alloc (.cells c1 t1)).alloc (.cells c2 t2)) := by
  have s1 : (w.alloc (.cells c1 t1)).heap.size = w.heap.size + 1 := by simp
  have b1 := below_alloc w (.cells c1 t1)
  have b2 := below_alloc (w.alloc (.cells c1 t1)) (.cells c2 t2)
  have h1 := heap_alloc_new w (.cells c1 t1)
  have h2 := heap_alloc_new (w.alloc (.cells c1 t1)) (.cells c2 t2)
  rw [s1] at h2
  exact ⟨blk_below h1 b2, h2, seqB b1 b2⟩
set_option maxHeartbeats 4000000 in
theorem rk_lists (S1 S2 : Nat → Prop) (T : List (List Sg2)) (a b : Option Addr) (n c d : Nat) (w : World) (hn : T.length = n) (hl : n ≤ 100000) (hz : ∀ t ∈ T, t.length ≤ 65536) (h1 : SgsK S1 w a T) (h2 : SgsK S2 w b T) :
    Calls Tryd.prog 36 #[.slice a n c, .slice b n d] w fun e w' => e = .returned (.bool true) ∧ Below w.heap.size w w' := by
  have H1 := Lib.hid h1
  have H2 := Lib.hid h2
  have HN := Lib.hid hn
  have HZ := Lib.hid hz
  clear h1 h2 hn hz
  go_enter Tryd.func36, Tryd.ntmps36
  go_wp2
  go_loopw [5] (fun iv wr => ∃ i : Nat, i ≤ n ∧ iv = .int .i64 (i : Int) ∧ Below w.heap.size w wr) (fun iv _ => n - (intOf iv).toNat)
  case atStart => exact ⟨0, Nat.zero_le _, rfl, Below.refl _ _⟩
  case round =>
    obtain ⟨i, hi, rfl, hb⟩ := hrel
    by_cases hlt : i < n
    · have hi1 : (i : Int) < (n : Int) := by omega
      have hi0 : (0 : Int) ≤ (i : Int) := by omega
      have hbd := (Below.refl wr.heap.size wr).drew
      have hb' := hb.trans (hbd.mono hb.size)
      obtain ⟨ba, oa, ai, ci, rfl, _, hla, ca, sa⟩ := (H1.out.below hb') i (by rw [HN.out]; exact hlt)
      obtain ⟨bb, ob, bi, di, rfl, _, hlb, cb, sb⟩ := (H2.out.below hb') i (by rw [HN.out]; exact hlt)
      have hlen := HZ.out _ (getD_memT (show i < T.length by rw [HN.out]; exact hlt))
      obtain ⟨m, hm⟩ : ∃ m, (T.getD i []).length = m := ⟨_, rfl⟩
      have hSA := Lib.hid (sgsame_ref (T.getD i []) (T.getD i []) ai bi ci di wr.drew (by omega) (by omega) sa.s sb.s)
      rw [hm] at ca cb hSA
      have hBd := Lib.hid hb'
      clear sa sb hm hb hb' hlen hbd
      go_upto_region 6 with fail
      go_region_held3 (fun w' => w'.cell? ⟨ba, oa + i, none⟩ = some (.slice ai m ci) ∧ w'.cell? ⟨bb, ob + i, none⟩ = some (.slice bi m di)) (first | exact ⟨ca, cb⟩ | exact ⟨ca2, cb2⟩ | go_keep)
        (first | (go_at_call 14; refine hSA.out.mono ?_; rintro e w4 ⟨rfl, hb4⟩; have ca2 := (hb4.cell (p := ⟨ba, oa + i, none⟩) hla).trans ca; have cb2 := (hb4.cell (p := ⟨bb, ob + i, none⟩) hlb).trans cb; have hB4 := Lib.hid (hBd.out.trans (hb4.mono hBd.out.size)); clear hb4))
      all_goals go_wp2
      all_goals go_roundw
      all_goals first | exact ⟨i + 1, by omega, by go_num, hB4.out⟩ | (simp [intOf]; try omega)
    · have hge : i = n := by omega
      subst hge
      go_wp2
      go_ret
      exact ⟨rfl, hb⟩
end Go.Proofs.YtdifkjmpdmlobaaDoor
set_option linter.unusedVariables false
set_option linter.unusedSimpArgs false
namespace Go.Proofs.YtdifkjmpdmlobaaDoor
open Go.ChangeShapes Go.WideShapes Go.ChangeAt Go.RowKit Go.Deep Go.Joins
section
variable {H : Type} {enc : TypeId × Value → H} {W : World}
theorem addS_none (b off k : Nat) : (⟨b, off, none⟩ : Addr).add k = ⟨b, off + k, none⟩ := by unfold Addr.add; split <;> simp_all
set_option maxRecDepth 100000 in
theorem cellsIntS : Tryd.prog.cellsOf 3 = 1 := by kernel_rfl
set_option maxRecDepth 100000 in
theorem cellsSign : Tryd.prog.cellsOf 89 = 2 := by kernel_rfl
set_option maxRecDepth 100000 in
theorem arg_signs0 {base : Nat} {v0 : Value} {d0 : DataW H} {p : List MemPlace} (hv : Value.okWide Tryd.prog W .any base 28 v0) (h : DataW.Trod enc Tryd.prog W 0 (fun _ => true) true 28 v0 d0 p) :
    ∃ (l : List (Int × Int)) (a : Option Addr) (c : Nat), v0 = .slice a l.length c ∧ Signs W a l ∧ l.length ≤ 9223372036854775807 ∧ (a = none → c = 0) := by
  obtain ⟨a0, len, cap, rfl⟩ := okWide_slice Tryd.underlying28 hv
  obtain ⟨fuel, hf⟩ := h
  rcases open_slice_pairs Tryd.underlying28 Tryd.underlying89 cellsSign rfl rfl cellsIntS cellsIntS hf with ⟨hcs, _⟩ | ⟨a, len', cap', m, n, V0, V1, D0, D1, P0, P1, hcs, _, hl, hm, hmm, _, hcell⟩
  · simp [Value.cells] at hcs
    obtain ⟨rfl, rfl, rfl⟩ := hcs
    exact ⟨[], none, 0, rfl, fun j hj => absurd hj (Nat.not_lt_zero j), by simp, fun _ => rfl⟩
  · simp [Value.cells] at hcs
    obtain ⟨rfl, rfl, rfl⟩ := hcs
    have hlm : len ≤ m := by rw [hmm]; split <;> omega
    have key : ∀ i, i < len → ∃ q : Int × Int, V0 i = .int .i64 q.1 ∧ V1 i = .int .i64 q.2 := fun i hi => by
      obtain ⟨_, _, h1, h2⟩ := hcell i (by omega)
      obtain ⟨x, hx, _, _⟩ := DataW.trod_int Tryd.underlying3 h1
      obtain ⟨y, hy, _, _⟩ := DataW.trod_int Tryd.underlying3 h2
      exact ⟨(x, y), by simpa using hx, by simpa using hy⟩
    obtain ⟨F, hF⟩ : ∃ F : Nat → Int × Int, ∀ i, i < len → V0 i = .int .i64 (F i).1 ∧ V1 i = .int .i64 (F i).2 :=
      ⟨fun i => if h : i < len then (key i h).choose else (0, 0), fun i hi => by simp only [dif_pos hi]; exact (key i hi).choose_spec⟩
    clear key
    refine ⟨(List.range len).map F, some a, cap, by simp, ?_, by simp; unfold maxLen at hm; omega, fun h => by cases h⟩
    intro j hj
    have hj2 : j < len := by simpa using hj
    obtain ⟨c0, c1, _, _⟩ := hcell j (by omega)
    have hk := hF j hj2
    obtain ⟨b, off, sp⟩ := a
    have hsp : sp = none := by
      obtain ⟨c00, _⟩ := hcell 0 (by omega)
      have h1 : W.cell? ⟨b, off, sp⟩ = some (V0 0) := by simpa [Addr.add] using c00
      exact cell_spot h1
    subst hsp
    rw [addS_none] at c0 c1
    have hg : ((List.range len).map F).getD j (0, 0) = F j := by
      rw [List.getD, List.getElem?_map, List.getElem?_range hj2]; rfl
    rw [hg]
    refine ⟨b, off, rfl, block_lt_of_cell c0, ?_, ?_⟩
    · rw [c0, hk.1]
    · rw [show off + j * 2 + 1 = off + (j * 2 + 1) by omega, c1, hk.2]
theorem arg_signs {base : Nat} {v0 : Value} {d0 : DataW H} {p : List MemPlace} (hv : Value.okWide Tryd.prog W .any base 28 v0) (h : DataW.Trod enc Tryd.prog W 0 (fun _ => true) true 28 v0 d0 p) :
    ∃ (l : List (Int × Int)) (a : Option Addr) (c : Nat), v0 = .slice a l.length c ∧ Signs W a l ∧ l.length ≤ 9223372036854775807 := by
  obtain ⟨l, a, c, h1, h2, h3, _⟩ := arg_signs0 hv h
  exact ⟨l, a, c, h1, h2, h3⟩
theorem arg_sign {base : Nat} {v0 : Value} {d0 : DataW H} {p : List MemPlace} (hv : Value.okWide Tryd.prog W .any base 89 v0) (h : DataW.Trod enc Tryd.prog W 0 (fun _ => true) true 89 v0 d0 p) :
    ∃ (x y : Int), v0 = .agg #[.int .i64 x, .int .i64 y] := by
  obtain ⟨a0, a1, y0, y1, n, rfl, rfl, rfl, h0, h1⟩ := open_agg2 Tryd.underlying89 (by kernel_rfl) cellsSign hv h
  obtain ⟨x, hx, _, _⟩ := DataW.trod_int Tryd.underlying3 h0
  obtain ⟨y, hy, _, _⟩ := DataW.trod_int Tryd.underlying3 h1
  obtain rfl : a0 = .int .i64 x := by simpa using hx
  obtain rfl : a1 = .int .i64 y := by simpa using hy
  exact ⟨x, y, rfl⟩
end
end Go.Proofs.YtdifkjmpdmlobaaDoor
set_option linter.unusedVariables false
set_option linter.unusedSimpArgs false
namespace Go.Proofs.YtdifkjmpdmlobaaDoor
open Go.RowKit
theorem blS_below {B b : Nat} {bs : List Value} {w w' : World} (h : IsBld B b bs w) (hb : Below w.heap.size w w') : IsBld B b bs w' := by
  rcases h with ⟨hB, v, h1, h2, h3⟩ | ⟨hB, v, h1, h2, h3⟩
  · exact Or.inl ⟨hB, v, blk_below h1 hb, own_below h2 hb, h3⟩
  · exact Or.inr ⟨hB, v, blk_below h1 hb, own_below h2 hb, h3⟩
theorem blS_new (w : World) : IsBld w.heap.size w.heap.size [] (w.alloc (.cells #[.pointer none, .slice none 0 0] 185)) :=
  Or.inl ⟨Nat.le_refl _, _, heap_alloc_new w _, World.ownsRow_nil _ _ _ _, by simp [Value.ownBlock]⟩
/-- A builder whose row's block is not another one. -/
theorem blS_iter {B b : Nat} {bs : List Value} {w : World} {R : Nat} {s : ByteArray} {i : Nat} (h : IsBld B b bs w) (hb : w.heap[R]? = some (.stringIter s i)) (j : Nat) : IsBld B b bs (w.iterAt R s j) := by
  have hne : ∀ v p, w.heap[b]? = some (.cells #[p, v] 185 (0, 0)) → b ≠ R := fun v p h1 e => by rw [e, hb] at h1; cases h1
  rcases h with ⟨hB, v, h1, h2, h3⟩ | ⟨hB, v, h1, h2, h3⟩
  · exact Or.inl ⟨hB, v, (Lib.iterAt_other w R b s j (hne _ _ h1)).trans h1, own_iter h2 hb j, h3⟩
  · exact Or.inr ⟨hB, v, (Lib.iterAt_other w R b s j (hne _ _ h1)).trans h1, own_iter h2 hb j, h3⟩
theorem bldAt_apart {B b : Nat} {p : Value} {bs : List Value} {w : World} {R : Nat} {s : ByteArray} {i : Nat} (h : BldAt B b p bs w) (hb : w.heap[R]? = some (.stringIter s i)) : b ≠ R := by
  obtain ⟨hB, v, h1, h2, h3⟩ := h
  intro e; rw [e, hb] at h1; cases h1
theorem bcheck_iter (B b : Nat) (bs : List Value) (w : World) (h : IsBld B b bs w) :
    Calls Tryd.prog 142 #[.pointer (some ⟨b, 0, none⟩)] w fun e w' => e = .returned (.tuple #[]) ∧ BldAt B b (.pointer (some ⟨b, 0, none⟩)) bs w' ∧ Below B w w' ∧ ∀ R, R ≠ b → w'.heap[R]? = w.heap[R]? := by
  rcases h with h | h
  · refine (bcheck_fresh b w h.cell0 h.shape h.frozen0).mono ?_
    rintro e w' ⟨rfl, rfl⟩
    exact ⟨rfl, h.used _, (Below.refl B w).setCell (p := ⟨b, 0, none⟩) h.1 _, fun R hR => Below.heap_setCell _ _ _ _ hR⟩
  · refine (bcheck_used b w h.cell0).mono ?_
    rintro e w' ⟨rfl, rfl⟩
    exact ⟨rfl, h, Below.refl B _, fun _ _ => rfl⟩
set_option maxHeartbeats 2000000 in
set_option maxRecDepth 100000 in
/-- A text comes behind what a builder has; an iterator stays. -/
theorem bwrite_iter (B b : Nat) (bs : List Value) (s : ByteArray) (w : World) (h : IsBld B b bs w) (R : Nat) (t : ByteArray) (i : Nat) (hR : w.heap[R]? = some (.stringIter t i)) (hlen : bs.length + s.size ≤ 140737488355328) (hBw : B ≤ w.heap.size) :
    Calls Tryd.prog 134 #[.pointer (some ⟨b, 0, none⟩), .string s] w fun e w' => e = .returned (.tuple #[.int .i64 s.size, .nilIface]) ∧ IsBld B b (bs ++ Lib.strCells s) w' ∧ Below B w w' ∧ w'.heap[R]? = some (.stringIter t i) := by
  obtain ⟨i0, hi, hz0, hz1, hz2⟩ := info_parts infoU8
  have C := Lib.hid (bcheck_iter B b bs w h)
  have hRb : R ≠ b := fun e => by
    rcases h with ⟨_, v, h1, _⟩ | ⟨_, v, h1, _⟩
    · rw [← e, hR] at h1; cases h1
    · rw [← e, hR] at h1; cases h1
  have HR := Lib.hid hR
  have hRl := blk_lt hR
  clear h hR
  go_enter Tryd.func134, Tryd.ntmps134
  go_wp2_with (go_at_call 142; refine C.out.mono ?_)
  rintro e w1 ⟨rfl, hB1, hb1, hk1⟩
  obtain ⟨hB, v, hbk, hown, hne⟩ := hB1
  have hR1 := (hk1 R hRb).trans HR.out
  have c0 := Lib.cell_of_heap hbk 0; have c1 := Lib.cell_of_heap hbk 1
  dsimp at c0 c1
  have HR1 := Lib.hid hR1
  have hap := Lib.hid (own_apart hown hR1)
  clear hR1 hk1
  go_wp2_with (at_builtin; refine Lib.wpList_append_own_string _ rfl _ _ 148 9 rfl B 5 i0 Tryd.underlying148 Tryd.underlying9 hi hz0 hz1 hz2 _ _ _ rfl hown s rfl ?g3 ?g4 ?g5 ?_)
  case g3 => unfold maxLen; omega
  case g4 => omega
  case g5 => have := hb1.size; omega
  intro v' w2 hown' hgrow _
  have hlt := blk_lt hbk
  have hb2 : w2.heap[b]? = some (.cells #[.pointer (some ⟨b, 0, none⟩), v] 185 (0, 0)) := (hgrow.block b hlt (fun e => hne e.symm)).trans hbk
  have hR2 : Hid (w2.heap[R]? = some (.stringIter t i)) := Lib.hid ((hgrow.block R (blk_lt HR1.out) (fun e => hap.out e.symm)).trans HR1.out)
  have d0 := Lib.cell_of_heap hb2 0
  have d1 := Lib.cell_of_heap hb2 1
  have f1 : w2.frozen? ⟨b, 1, none⟩ = false := Lib.frozen_of_heap hb2 1
  dsimp at d0 d1
  obtain ⟨ao, n', cap, rfl⟩ : ∃ ao n' cap, v' = .slice ao n' cap := by
    rcases hown'.2 with ⟨hv, _⟩ | ⟨g, cap, cur, hv, _⟩
    · exact ⟨_, _, _, hv⟩
    · exact ⟨_, _, _, hv⟩
  go_wp2
  go_ret2
  refine ⟨rfl, Or.inr ?_, ?_, (Below.heap_setCell _ _ _ _ hRb).trans hR2.out⟩
  · exact Lib.BuilderAt.put (T := 185) (e := 5) hB hb2 (bs' := bs ++ Lib.strCells s) (by simpa [Lib.strCells_length] using hown') (by decide)
  · exact (hb1.grown hgrow (by have := hb1.size; omega) (fun k hk => (hown.lt k hk).1)).setCell (p := ⟨b, 1, none⟩) hB _
end Go.Proofs.YtdifkjmpdmlobaaDoor
set_option linter.unusedVariables false
set_option linter.unusedSimpArgs false
namespace Go.Proofs.YtdifkjmpdmlobaaDoor
open Go.RowKit
structure SpInv (f : Int → List UInt8) (s : ByteArray) (w : World) (R : Nat) (i n : Nat) (acc : List Int) (wr : World) : Prop where
  b : IsBld w.heap.size w.heap.size (Lib.byteCells (tellL f acc)) wr
  it : wr.heap[R]? = some (.stringIter s i)
  bel : Below w.heap.size w wr
  ac : acc ++ valsF s n i = valsS s
  le : i ≤ s.size
  fu : s.size ≤ i + n
  al : acc.length ≤ i
end Go.Proofs.YtdifkjmpdmlobaaDoor
