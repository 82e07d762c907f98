/-
  Joined: In6 In7 In8 In9 In10 In11 In12 In13 In14 In15 Itm.
-/
import Derived.Test.YtmnjafceenckpaaDoorJQ10
import Derived.Test.YtmnjafceenckpaaDoorJQ19
import Derived.Test.YtmnjafceenckpaaDoorJQ20
import Derived.WalkMore
import Derived.ScopeJumps
set_option linter.unusedVariables false
set_option linter.unusedSimpArgs false
set_option maxRecDepth 100000
set_option linter.unusedVariables false
set_option linter.unusedSimpArgs false
namespace Go.Proofs.YtmnjafceenckpaaDoor
open Go.RowKit
/-- A byte behind the beginning of a value: what waits, the keys, whether it is to be taken anew. -/
def buW (l : List UInt8) (b : UInt8) : List UInt8 := if pB (mkL (l ++ [b])) = true then l ++ [b] else []
def buK (l : List UInt8) (b : UInt8) : List Ky := if pB (mkL (l ++ [b])) = true then [] else if (oneS (mkL (l ++ [b]))).2 = l.length + 1 then [kv0 1 ((oneS (mkL (l ++ [b]))).1 : Int)] else stK l
def buB (l : List UInt8) (b : UInt8) : Bool := !(pB (mkL (l ++ [b])) || decide ((oneS (mkL (l ++ [b]))).2 = l.length + 1))
section
variable {S : Nat → Prop} {p q B : Nat} {s : IS} {K : List Ky} {w w' : World}
end
end Go.Proofs.YtmnjafceenckpaaDoor
set_option linter.unusedVariables false
set_option linter.unusedSimpArgs false
namespace Go.Proofs.YtmnjafceenckpaaDoor
open Go.RowKit
/-- What may wait. -/
def WOk (l : List UInt8) : Prop := l = [27] ∨ l = [27, 79] ∨ (∃ g, l = 27 :: 91 :: g ∧ g.length ≤ 4) ∨ (l ≠ [] ∧ l.getD 0 0 ≠ 27 ∧ l.length ≤ 3)
/-- A byte behind what waits: the object, the keys, whether it is to be taken anew. -/
def bhR (s : IS) (b : UInt8) : IS × List Ky × Bool :=
  if s.wait = [27] then ({ s with wait := (beS b).1 }, (beS b).2.1, (beS b).2.2)
  else if s.wait = [27, 79] then ({ s with wait := [] }, lkK b, decide (b.toNat < 32 ∨ 126 < b.toNat))
  else if s.wait.getD 0 0 = 27 then (bcS s (s.wait.drop 2) b, bcK (s.wait.drop 2) b, bcB b)
  else ({ s with wait := buW s.wait b }, buK s.wait b, buB s.wait b)
section
variable {S : Nat → Prop} {p q B : Nat} {s : IS} {K : List Ky} {w w' : World}
/-- Behind what waits, a byte to be taken anew leaves nothing. -/
theorem bh_anew (s : IS) (b : UInt8) (h : (bhR s b).2.2 = true) : (bhR s b).1 = { s with wait := [] } := by
  unfold bhR at h ⊢
  by_cases h1 : s.wait = [27]
  · rw [if_pos h1] at h ⊢
    dsimp only at h ⊢
    unfold beS at h ⊢
    split at h
    · simp at h
    · rename_i hh
      rw [if_neg hh]
      split at h
      · simp at h
      · rename_i h2
        rw [if_neg h2]
  rw [if_neg h1] at h ⊢
  by_cases h2 : s.wait = [27, 79]
  · rw [if_pos h2]
  rw [if_neg h2] at h ⊢
  by_cases h3 : s.wait.getD 0 0 = 27
  · rw [if_pos h3] at h ⊢
    dsimp only at h ⊢
    unfold bcB at h
    have h4 : ¬ (32 ≤ b.toNat ∧ b.toNat ≤ 126) := by simp at h; omega
    unfold bcS bcW
    rw [if_neg (by omega), if_neg (by omega)]
  · rw [if_neg h3] at h ⊢
    dsimp only at h ⊢
    unfold buB at h
    unfold buW
    have h4 : ¬ pB (mkL (s.wait ++ [b])) = true := fun h5 => by rw [h5] at h; simp at h
    rw [if_neg h4]
end
end Go.Proofs.YtmnjafceenckpaaDoor
set_option linter.unusedVariables false
set_option linter.unusedSimpArgs false
namespace Go.Proofs.YtmnjafceenckpaaDoor
open Go.RowKit
/-- A byte outside of pastes: the object and the keys. -/
def tkR (s : IS) (b : UInt8) : IS × List Ky :=
  if b.toNat = 13 ∨ b.toNat = 10 then ({ s with wait := [] }, stK s.wait ++ [kv0 4 b.toNat])
  else if b.toNat = 27 then ({ s with wait := [27] }, stK s.wait)
  else if s.wait = [] then ({ s with wait := frW b }, frK b)
  else if (bhR s b).2.2 = true then ({ s with wait := frW b }, (bhR s b).2.1 ++ frK b)
  else ((bhR s b).1, (bhR s b).2.1)
section
variable {S : Nat → Prop} {p q B : Nat} {s : IS} {K : List Ky} {w w' : World}
theorem stK_len {l : List UInt8} (h : l.length ≤ 9) : (stK l).length ≤ 9 := by
  unfold stK
  split
  · simp
  · split
    · rw [List.length_map]; exact h
    · simp
theorem dnK_len (g : List UInt8) (b : UInt8) : (dnK g b).length ≤ 9 := by
  unfold dnK sgK lkK
  repeat' split
  all_goals simp
theorem bhK_len (s : IS) (b : UInt8) (h : s.wait.length ≤ 9) : (bhR s b).2.1.length ≤ 9 := by
  unfold bhR
  split
  · unfold beS; repeat' split
    all_goals simp
  split
  · unfold lkK; split <;> simp
  split
  · dsimp only
    unfold bcK; split
    · exact dnK_len _ _
    · simp
  · dsimp only
    unfold buK
    split
    · simp
    · split
      · simp
      · exact stK_len h
end
end Go.Proofs.YtmnjafceenckpaaDoor
set_option linter.unusedVariables false
set_option linter.unusedSimpArgs false
namespace Go.Proofs.YtmnjafceenckpaaDoor
open Go.RowKit
theorem u8L_len (l : List UInt8) : (u8L l).length = l.length := by simp [u8L]
theorem OwU.form {w : World} {v : Value} {l : List UInt8} {n : Nat} (h : OwU w v l) (hn : l.length = n) : ∃ a c, v = .slice a n c := by
  unfold OwU at h
  rcases h.2 with ⟨rfl, h0⟩ | ⟨g, cap, cur, rfl, _⟩
  · exact ⟨none, 0, by rw [← hn, h0]⟩
  · exact ⟨_, cap, by rw [hn]⟩
/-- An append of a byte to a row of the object's own. -/
theorem wpList_app_u8 {w : World} {ops : Array Oper} {rest : List Oper} {o : Oper} {a : Act} {Q : Exit → Act → World → Prop} (hgd : Region.wanted o (yielded ops a.tmps) = true) (s x : Operand)
    (ho : o.op = .call { callee := .builtin .append, args := #[s, x], argTypes := #[54, 54] })
    (v : Value) (np : Nat) (p : List UInt8) (hs : a.eval s = v) (hp : p.length = np) (hown : OwU w v p) (ad : Addr) (b : UInt8) (hx : a.eval x = .slice (some ad) 1 1) (hc : w.cell? (ad.add 0) = some (.int .u8 (b.toNat : Int)))
    (hlen : np + 1 ≤ 1000000)
    (h : ∀ ad' c' w', OwU w' (.slice ad' (np + 1) c') (p ++ [b]) → w.grownBy w' v.ownBlock → (∀ k, (Value.slice ad' (np + 1) c').ownBlock = some k → v.ownBlock = some k ∨ w.heap.size ≤ k) → wpList Tryd.prog ops Q rest (a.put o.dst (.slice ad' (np + 1) c')) w') : wpList Tryd.prog ops Q (o :: rest) a w := by
  refine wpList_step fun K hK => ?_
  obtain ⟨i0, hi, hz0, hz1, hz2⟩ := info_parts infoU8
  subst hp
  rw [if_pos hgd]
  obtain ⟨v', w', hr, a1, a2, a3⟩ := run_append_place (P := Tryd.prog) w 0 54 o.type 5 i0 _ 1 1 Tryd.underlying54 hi hz0 hz1 hz2 rfl (by decide) v p.length _ hown ad 1 1 [.int .u8 (b.toNat : Int)] rfl
    (fun j u hj => by
      match j with
      | 0 => simp at hj; rw [← hj]; exact hc
      | j + 1 => simp at hj) (by simp [Value.oneCell']) (by unfold maxLen; omega) (by omega) (Nat.zero_le _)
  have a1' : OwU w' v' (p ++ [b]) := by
    unfold OwU
    rw [List.length_append, show u8L (p ++ [b]) = u8L p ++ [.int .u8 (b.toNat : Int)] by simp [u8L]]
    exact a1
  obtain ⟨ad', c', rfl⟩ := a1'.form (n := p.length + 1) (by rw [List.length_append]; rfl)
  have h' := hK _ _ (h ad' c' w' a1' a2 a3)
  unfold Oper.wp execOp
  simp only [ho, resolve, invoke, builtin, Sem.run_bind, Sem.run_pure, Result.andThen_ok, List.map_toArray, List.map_cons, List.map_nil, hs, hx, hr]
  exact h'
section
variable {S : Nat → Prop} {p q B : Nat} {s : IS} {K : List Ky} {w w' : World}
/-- The text of the first bytes of a row. -/
theorem conv_ownU {w : World} {v : Value} {l : List UInt8} (h : OwU w v l) (hne : l ≠ []) : ∃ g c, v = .slice (some ⟨g, 0, none⟩) l.length c ∧ l.length ≤ c ∧
    ∀ k, k ≤ l.length → ∀ c' dst, Tryd.prog.underlying dst = some .string → (convert 54 dst (.slice (some ⟨g, 0, none⟩) k c')).run Tryd.prog w = .ok (.string (mkL (l.take k))) w := by
  unfold OwU at h
  rcases h.2 with ⟨rfl, h0⟩ | ⟨g, cap, cur, rfl, hB, hg, hle, hr⟩
  · exact absurd (by simpa [u8L] using h0) hne
  · refine ⟨g, cap, rfl, ?_, fun k hk c' dst hd => ?_⟩
    · have := h.1
      omega
    · have hl : (l.take k).length = k := by rw [List.length_take]; omega
      have := run_convert_bytes_back (P := Tryd.prog) w 54 dst 5 ⟨g, 0, none⟩ c' (l.take k) Tryd.underlying54 Tryd.underlying5 hd (fun j hj => by
        rw [hl] at hj
        have hc := h.cellAt j (by omega)
        have e : (⟨g, 0, none⟩ : Addr).add j = ⟨g, j, none⟩ := by unfold Addr.add; split <;> simp_all
        rw [e, hc]
        have hj2 : j < l.length := by omega
        simp [u8L, List.getElem?_eq_getElem hj2])
      rw [hl] at this
      exact this
end
end Go.Proofs.YtmnjafceenckpaaDoor
set_option linter.unusedVariables false
set_option linter.unusedSimpArgs false
namespace Go.Proofs.YtmnjafceenckpaaDoor
open Go.RowKit
/-- What a paste ends with. -/
def peL : List UInt8 := [27, 91, 50, 48, 49, 126]
def ipM (m : Nat) (b : UInt8) : Nat := if b = peL.getD m 0 then m + 1 else if b = 27 then 1 else 0
def ipB (s : IS) (b : UInt8) : List UInt8 := if (s.pb.length : Int) < s.most + 6 then s.pb ++ [b] else s.pb
/-- A byte in a paste: the object and the keys. -/
def ipR (s : IS) (b : UInt8) : IS × List Ky :=
  if ipM s.mt b < 6 then ({ s with pb := ipB s b, ct := s.ct + 1, mt := ipM s.mt b }, [])
  else ({ s with pas := false, pb := [], ct := 0, mt := 0 }, [(15, 0, mkL ((ipB s b).take (min ((s.ct : Int) + 1 - 6) s.most).toNat), decide (min ((s.ct : Int) + 1 - 6) s.most < (s.ct : Int) + 1 - 6))])
theorem wrap_id0 (x : Int) (h0 : -9223372036854775808 ≤ x) (h1 : x ≤ 9223372036854775807) : IntKind.i64.wrap x = x := by
  rw [IntKind.wrap_i64]; omega
section
variable {S : Nat → Prop} {p q B : Nat} {s : IS} {K : List Ky} {w w' : World}
end
end Go.Proofs.YtmnjafceenckpaaDoor
set_option linter.unusedVariables false
set_option linter.unusedSimpArgs false
namespace Go.Proofs.YtmnjafceenckpaaDoor
open Go.RowKit
/-- An item: the object and the keys. -/
def itR (s : IS) (x : Bool × UInt8) : IS × List Ky :=
  if s.pas = true then (if x.1 = true then (s, []) else ipR s x.2) else if x.1 = true then ({ s with wait := [] }, stK s.wait) else tkR s x.2
/-- Items, one after another. -/
def doR (s : IS) : List (Bool × UInt8) → IS × List Ky
  | [] => (s, [])
  | x :: l => ((doR (itR s x).1 l).1, (itR s x).2 ++ (doR (itR s x).1 l).2)
theorem doR_snoc (s : IS) (l : List (Bool × UInt8)) (x : Bool × UInt8) : doR s (l ++ [x]) = ((itR (doR s l).1 x).1, (doR s l).2 ++ (itR (doR s l).1 x).2) := by
  induction l generalizing s with
  | nil => simp [doR]
  | cons y l ih => rw [List.cons_append, doR, ih, doR]; simp
/-- An object as it may be, N bytes of a paste behind. -/
structure GS (N : Nat) (s : IS) : Prop where
  m : 1 ≤ s.most ∧ s.most ≤ 65536
  w : s.wait = [] ∨ WOk s.wait
  p : s.pas = true → s.wait = [] ∧ s.mt < 6 ∧ s.mt ≤ s.ct ∧ s.ct ≤ N ∧ (s.pb.length : Int) = min (s.ct : Int) (s.most + 6)
theorem sizeB_four (n : Nat) : sizeB n ≤ 4 := by
  unfold sizeB
  repeat' split
  all_goals omega
theorem pB_len {l : List UInt8} (h : pB (mkL l) = true) : l.length ≤ 3 := by
  unfold pB at h
  rw [Bool.and_eq_true] at h
  have h2 := ((partB_iff _).1 h.2).2
  have h3 := sizeB_four ((mkL l).get! 0).toNat
  rw [mkL_size] at h2
  omega
theorem u8_eq {b : UInt8} {n : Nat} (h : b.toNat = n) (hn : n < 256) : b = UInt8.ofNat n := UInt8.toNat_inj.1 (by rw [h]; show n = n % 256; omega)
theorem fr_ok (b : UInt8) : frW b = [] ∨ WOk (frW b) := by
  unfold frW
  split
  · rename_i h
    refine Or.inr (Or.inr (Or.inr (Or.inr ⟨by simp, fun e => ?_, by simp⟩)))
    have e' : b = 27 := e
    rw [e'] at h
    exact absurd h.1 (by decide)
  · exact Or.inl rfl
theorem be_ok (b : UInt8) : (beS b).1 = [] ∨ WOk (beS b).1 := by
  unfold beS
  split
  · rename_i h
    rcases h with h | h
    · obtain rfl : b = 91 := u8_eq h (by decide)
      exact Or.inr (Or.inr (Or.inr (Or.inl ⟨[], rfl, by simp⟩)))
    · obtain rfl : b = 79 := u8_eq h (by decide)
      exact Or.inr (Or.inr (Or.inl rfl))
  · split <;> exact Or.inl rfl
theorem bc_ok (g : List UInt8) (b : UInt8) (hg : g.length ≤ 4) : bcW g b = [] ∨ WOk (bcW g b) := by
  unfold bcW
  split
  · split
    · exact Or.inr (Or.inr (Or.inr (Or.inl ⟨g ++ [b], rfl, by rw [List.length_append, List.length_singleton]; omega⟩)))
    · exact Or.inr (Or.inr (Or.inr (Or.inl ⟨g, rfl, hg⟩)))
  · exact Or.inl rfl
theorem bu_ok (l : List UInt8) (b : UInt8) (h0 : l ≠ []) (h1 : l.getD 0 0 ≠ 27) : buW l b = [] ∨ WOk (buW l b) := by
  unfold buW
  split
  · rename_i h
    refine Or.inr (Or.inr (Or.inr (Or.inr ⟨by simp, ?_, pB_len h⟩)))
    cases l with
    | nil => exact absurd rfl h0
    | cons c l => exact h1
  · exact Or.inl rfl
theorem gs_wait {N : Nat} {s : IS} (h : GS N s) (hp : s.pas = false) {l : List UInt8} (hl : l = [] ∨ WOk l) : GS N { s with wait := l } :=
  ⟨h.m, hl, fun e => absurd e (by show ¬ s.pas = true; rw [hp]; decide)⟩
theorem gs_dn {N : Nat} {s : IS} (h : GS N s) (hp : s.pas = false) (g : List UInt8) (b : UInt8) (hw : s.wait = []) : GS N (dnS s g b) := by
  unfold dnS
  split
  · have hm := h.m
    exact ⟨h.m, h.w, fun _ => ⟨hw, by show (0 : Nat) < 6; decide, Nat.le_refl _, Nat.zero_le _, by show ((0 : Nat) : Int) = min ((0 : Nat) : Int) (s.most + 6); omega⟩⟩
  · exact h
theorem gs_bh {N : Nat} {s : IS} (h : GS N s) (hp : s.pas = false) (hW : WOk s.wait) (b : UInt8) : GS N (bhR s b).1 := by
  unfold bhR
  split
  · exact gs_wait h hp (be_ok b)
  split
  · exact gs_wait h hp (Or.inl rfl)
  split
  · rename_i n1 n2 h27
    have hg : (s.wait.drop 2).length ≤ 4 := by
      rcases hW with e | e | ⟨g, e, hg⟩ | ⟨_, e, _⟩
      · exact absurd e n1
      · exact absurd e n2
      · rw [e]; exact hg
      · exact absurd h27 e
    dsimp only
    unfold bcS
    split
    · exact gs_dn (gs_wait h hp (Or.inl rfl)) hp _ _ rfl
    · exact gs_wait h hp (bc_ok _ b hg)
  · rename_i n1 n2 n27
    have h0 : s.wait ≠ [] := by
      rcases hW with e | e | ⟨g, e, hg⟩ | ⟨e, _, _⟩
      · rw [e]; simp
      · rw [e]; simp
      · rw [e]; simp
      · exact e
    exact gs_wait h hp (bu_ok _ b h0 n27)
theorem gs_tk {N : Nat} {s : IS} (h : GS N s) (hp : s.pas = false) (b : UInt8) : GS N (tkR s b).1 := by
  unfold tkR
  split
  · exact gs_wait h hp (Or.inl rfl)
  split
  · exact gs_wait h hp (Or.inr (Or.inl rfl))
  split
  · exact gs_wait h hp (fr_ok b)
  rename_i hne
  split
  · exact gs_wait h hp (fr_ok b)
  · rcases h.w with e | e
    · exact absurd e hne
    · exact gs_bh h hp e b
theorem ipM_le {m : Nat} (h : m < 6) (b : UInt8) : ipM m b ≤ m + 1 := by
  unfold ipM
  split
  · exact Nat.le_refl _
  split <;> omega
theorem gs_ip {N : Nat} {s : IS} (h : GS N s) (hp : s.pas = true) (b : UInt8) : GS (N + 1) (ipR s b).1 := by
  obtain ⟨h1, h2, h3, h4, h5⟩ := h.p hp
  have hm := h.m
  unfold ipR
  split
  · rename_i h6
    have := ipM_le h2 b
    refine ⟨h.m, Or.inl h1, fun _ => ⟨h1, h6, by show ipM s.mt b ≤ s.ct + 1; omega, by show s.ct + 1 ≤ N + 1; omega, ?_⟩⟩
    show ((ipB s b).length : Int) = min ((s.ct + 1 : Nat) : Int) (s.most + 6)
    unfold ipB
    split
    · rw [List.length_append, List.length_singleton]; omega
    · omega
  · exact ⟨h.m, Or.inl h1, fun e => by cases e⟩
theorem GS.mono {N M : Nat} {s : IS} (h : GS N s) (hN : N ≤ M) : GS M s := ⟨h.m, h.w, fun e => by
  obtain ⟨h1, h2, h3, h4, h5⟩ := h.p e
  exact ⟨h1, h2, h3, by omega, h5⟩⟩
theorem gs_it {N : Nat} {s : IS} (h : GS N s) (x : Bool × UInt8) : GS (N + 1) (itR s x).1 := by
  unfold itR
  split
  · rename_i hp
    split
    · exact h.mono (by omega)
    · exact gs_ip h hp _
  · rename_i hp
    have hp' : s.pas = false := by simpa using hp
    split
    · exact (gs_wait h hp' (Or.inl rfl)).mono (by omega)
    · exact (gs_tk h hp' _).mono (by omega)
theorem gs_do {N : Nat} {s : IS} (h : GS N s) (l : List (Bool × UInt8)) : GS (N + l.length) (doR s l).1 := by
  induction l generalizing N s with
  | nil => exact h
  | cons x l ih =>
    have := ih (gs_it h x)
    exact this.mono (by rw [List.length_cons]; omega)
end Go.Proofs.YtmnjafceenckpaaDoor
set_option linter.unusedVariables false
set_option linter.unusedSimpArgs false
namespace Go.Proofs.YtmnjafceenckpaaDoor
open Go.RowKit
/-- Items lie in memory, in blocks of S. -/
def ItemsIn (S : Nat → Prop) (w : World) (a : Option Addr) (l : List (Bool × UInt8)) : Prop :=
  ∀ i, i < l.length → ∃ b off, a = some ⟨b, off, none⟩ ∧ S b ∧ w.cell? ⟨b, off + i * 2, none⟩ = some (.bool (l.getD i (false, 0)).1) ∧ w.cell? ⟨b, off + i * 2 + 1, none⟩ = some (.int .u8 ((l.getD i (false, 0)).2.toNat : Int))
theorem cellb_in {w w' : World} {b : Nat} (h : w'.heap[b]? = w.heap[b]?) (i : Nat) : w'.cell? ⟨b, i, none⟩ = w.cell? ⟨b, i, none⟩ := by unfold World.cell?; rw [h]
theorem ItemsIn.kept {S : Nat → Prop} {w w' : World} {a : Option Addr} {l : List (Bool × UInt8)} (h : ItemsIn S w a l) (k : KeptM S w w') : ItemsIn S w' a l := fun i hi => by
  obtain ⟨b, off, e, hS, h1, h2⟩ := h i hi
  exact ⟨b, off, e, hS, (cellb_in (k.block b hS) _).trans h1, (cellb_in (k.block b hS) _).trans h2⟩
section
variable {S : Nat → Prop} {p : Nat} {s : IS} {w w' : World}
theorem ipK_len (s : IS) (b : UInt8) : (ipR s b).2.length ≤ 10 := by
  unfold ipR; split <;> simp
theorem frK_len (b : UInt8) : (frK b).length ≤ 1 := by
  unfold frK; repeat' split
  all_goals simp
theorem tkK_len (s : IS) (b : UInt8) (h : s.wait.length ≤ 9) : (tkR s b).2.length ≤ 10 := by
  have h1 := stK_len h; have h2 := bhK_len s b h; have h3 := frK_len b
  unfold tkR
  repeat' split
  all_goals (dsimp only; try rw [List.length_append])
  all_goals (try simp only [List.length_singleton])
  all_goals omega
theorem GS.w9 {N : Nat} (h : GS N s) : s.wait.length ≤ 9 := by
  rcases h.w with h | h | h | ⟨g, h, hg⟩ | ⟨_, _, h⟩
  · rw [h]; simp
  · rw [h]; simp
  · rw [h]; simp
  · rw [h]; simp; omega
  · omega
theorem itK_len {N : Nat} (h : GS N s) (x : Bool × UInt8) : (itR s x).2.length ≤ 10 := by
  have h1 := stK_len h.w9
  unfold itR
  split
  · split
    · simp
    · exact ipK_len _ _
  · split
    · dsimp only; omega
    · exact tkK_len _ _ h.w9
theorem doK_len {N : Nat} (h : GS N s) (l : List (Bool × UInt8)) : (doR s l).2.length ≤ 10 * l.length := by
  induction l generalizing N s with
  | nil => simp [doR]
  | cons x l ih =>
    have h1 := ih (gs_it h x)
    have h2 := itK_len h x
    unfold doR
    rw [List.length_append, List.length_cons]; omega
end
end Go.Proofs.YtmnjafceenckpaaDoor
set_option linter.unusedVariables false
set_option linter.unusedSimpArgs false
namespace Go.Proofs.YtmnjafceenckpaaDoor
open Go.RowKit
/-- A new input. -/
def in0 (m : Int) : IS := ⟨m, [], false, [], 0, 0⟩
theorem gs_in0 {m : Int} (h : 1 ≤ m ∧ m ≤ 65536) : GS 0 (in0 m) := ⟨h, Or.inl rfl, fun e => by cases e⟩
section
variable {S : Nat → Prop} {p : Nat} {s : IS} {w w' : World}
end
end Go.Proofs.YtmnjafceenckpaaDoor
set_option linter.unusedVariables false
set_option linter.unusedSimpArgs false
namespace Go.Proofs.YtmnjafceenckpaaDoor
open Go.RowKit
/-- The document's keys of what waits, settled. -/
def rsK (P : List UInt8) : List Ky := if P = [27] then [kv0 5 0] else if P.getD 0 0 = 27 then [] else P.map (fun b => kv0 1 (1114112 + (b.toNat : Int)))
/-- The keys of a key: none, if it is none. -/
def keK (k : Ky) : List Ky := if k.1 = 0 then [] else [k]
end Go.Proofs.YtmnjafceenckpaaDoor
set_option linter.unusedVariables false
set_option linter.unusedSimpArgs false
namespace Go.Proofs.YtmnjafceenckpaaDoor
open Go.RowKit
def nmL : List (List UInt8) := [[65], [66], [67], [68], [72], [70], [49, 126], [55, 126], [52, 126], [56, 126], [51, 126], [53, 126], [54, 126]]
def kdL : List Int := [7, 8, 9, 10, 11, 12, 11, 11, 12, 12, 13, 14, 14]
/-- The key of what stands behind a bracket, from a place of the names on. -/
def knF (g : List UInt8) : Nat → Ky
  | 0 => kv0 0 0
  | n + 1 => if nmL.getD (13 - (n + 1)) [] = g then kv0 (kdL.getD (13 - (n + 1)) 0) (if g = [54, 126] then 1 else 0) else knF g n
def knK (g : List UInt8) : Ky := knF g 13
/-- A name that is behind all others stays so. -/
theorem knF_no (g : List UInt8) (k : Nat) (hk : k < 13) (h : nmL.getD k [] ≠ g) : knF g (13 - k) = knF g (13 - (k + 1)) := by
  obtain ⟨m, hm⟩ : ∃ m, 13 - k = m + 1 := ⟨12 - k, by omega⟩
  rw [hm, show 13 - (k + 1) = m by omega]
  show (if nmL.getD (13 - (m + 1)) [] = g then _ else _) = _
  rw [show 13 - (m + 1) = k by omega, if_neg h]
theorem knF_yes (g : List UInt8) (k : Nat) (hk : k < 13) (h : nmL.getD k [] = g) : knF g (13 - k) = kv0 (kdL.getD k 0) (if g = [54, 126] then 1 else 0) := by
  obtain ⟨m, hm⟩ : ∃ m, 13 - k = m + 1 := ⟨12 - k, by omega⟩
  rw [hm]
  show (if nmL.getD (13 - (m + 1)) [] = g then _ else _) = _
  rw [show 13 - (m + 1) = k by omega, if_pos h]
end Go.Proofs.YtmnjafceenckpaaDoor
set_option linter.unusedVariables false
set_option linter.unusedSimpArgs false
namespace Go.Proofs.YtmnjafceenckpaaDoor
open Go.RowKit
abbrev It := Bool × UInt8
def itC (L : List It) : List Value := L.flatMap fun p => [Value.bool p.1, Value.int .u8 (p.2.toNat : Int)]
theorem itC_at (L : List It) : ∀ i, i < L.length → (itC L)[i * 2]? = some (.bool (L.getD i (false, 0)).1) ∧ (itC L)[i * 2 + 1]? = some (.int .u8 ((L.getD i (false, 0)).2.toNat : Int)) := by
  induction L with
  | nil => intro i hi; simp at hi
  | cons x L ih =>
    intro i hi
    cases i with
    | zero => exact ⟨rfl, rfl⟩
    | succ i =>
      have h := ih i (by simpa using hi)
      rw [show (i + 1) * 2 = i * 2 + 1 + 1 by omega]
      exact h
theorem itC_len (L : List It) : (itC L).length = L.length * 2 := by
  unfold itC
  induction L with
  | nil => rfl
  | cons x L ih => simp only [List.flatMap_cons, List.length_append, List.length_cons, List.length_nil, ih]; omega
theorem itC_app (a b : List It) : itC (a ++ b) = itC a ++ itC b := by simp [itC]
theorem itC_one (l : List It) : ∀ u ∈ itC l, u.oneCell' = true := by
  intro u hu
  unfold itC at hu
  rw [List.mem_flatMap] at hu
  obtain ⟨p, _, hp⟩ := hu
  simp at hp
  rcases hp with rfl | rfl <;> rfl
theorem itC_news {w : World} {ad : Addr} {l : List It} (h : ItsIn w (some ad) l) : ∀ j u, (itC l)[j]? = some u → w.cell? (ad.add j) = some u := by
  intro j u hj
  have hlen := itC_len l
  have hj2 : j < l.length * 2 := by
    rw [← hlen]
    exact (List.getElem?_eq_some_iff.1 hj).1
  obtain ⟨b, off, e, _, h1, h2⟩ := h (j / 2) (by omega)
  injection e with e
  subst e
  have hadd : (⟨b, off, none⟩ : Addr).add j = ⟨b, off + j, none⟩ := by unfold Addr.add; split <;> simp_all
  have hs := itC_at l (j / 2) (by omega)
  rw [hadd]
  have hm : j % 2 = 0 ∨ j % 2 = 1 := by omega
  rcases hm with hm | hm
  · have e : j / 2 * 2 = j := by omega
    rw [e] at hs h1
    rw [hs.1] at hj
    rw [h1]; exact hj
  · have e : j / 2 * 2 + 1 = j := by omega
    rw [e] at hs
    rw [show off + j / 2 * 2 + 1 = off + j by omega] at h2
    rw [hs.2] at hj
    rw [h2]; exact hj
/-- A row of items of the call's own. -/
def OwI (w : World) (B : Nat) (v : Value) (L : List It) : Prop := w.ownsRow B 56 2 v L.length (itC L)
theorem bytesItem : ∃ b, (Tryd.prog.info? 56).map (fun i => (i.zero, i.size, i.bytes)) = some (some (.agg #[.bool false, .int .u8 0]), 2, b) ∧ 1 ≤ b ∧ b ≤ 64 := ⟨2, by kernel_rfl, by decide, by decide⟩
theorem owi_nil (w : World) (B : Nat) : OwI w B (.slice none 0 0) [] := World.ownsRow_nil _ _ _ _
theorem OwI.at {w : World} {B : Nat} {v : Value} {L : List It} (h : OwI w B v L) : ∃ a c, v = .slice a L.length c ∧ (a = none → c = 0) ∧ ItsIn w a L ∧ ItemsIn (fun k => v.ownBlock = some k) w a L := by
  unfold OwI at h
  rcases h.2 with ⟨rfl, h0⟩ | ⟨g, cap, cur, rfl, hB, hg, hle, _⟩
  · exact ⟨none, 0, by rw [h0], fun _ => rfl, fun j hj => by omega, fun j hj => by omega⟩
  · have hc : ∀ j, j < L.length → w.cell? ⟨g, 0 + j * 2, none⟩ = some (.bool (L.getD j (false, 0)).1) ∧ w.cell? ⟨g, 0 + j * 2 + 1, none⟩ = some (.int .u8 ((L.getD j (false, 0)).2.toNat : Int)) := fun j hj => by
      have := itC_at L j hj
      refine ⟨?_, ?_⟩
      · rw [Nat.zero_add, h.cellAt (j * 2) (by omega)]; exact this.1
      · rw [Nat.zero_add, h.cellAt (j * 2 + 1) (by omega)]; exact this.2
    exact ⟨_, cap, rfl, fun e => (by cases e), fun j hj => ⟨g, 0, rfl, blk_lt hg, hc j hj⟩, fun j hj => ⟨g, 0, rfl, rfl, hc j hj⟩⟩
theorem OwI.form {w : World} {B : Nat} {v : Value} {L : List It} {n : Nat} (h : OwI w B v L) (hn : L.length = n) : ∃ a c, v = .slice a n c := by
  obtain ⟨a, c, e, _⟩ := h.at
  exact ⟨a, c, by rw [e, hn]⟩
theorem OwI.mono {w : World} {B B' : Nat} {v : Value} {L : List It} (h : OwI w B v L) (hB : B' ≤ B) : OwI w B' v L := World.ownsRow.mono h hB
theorem OwI.below {w w' : World} {B : Nat} {v : Value} {L : List It} (h : OwI w B v L) (hb : Below w.heap.size w w') : OwI w' B v L := by
  refine h.kept (row := none) ⟨hb.os, hb.tape, hb.output, hb.size, fun k hk _ => hb.block k hk⟩ ?_
  cases v.ownBlock <;> simp
theorem its_new1 (w : World) (t : Bool) (b : UInt8) : ItsIn (w.alloc (.cells #[.bool t, .int .u8 (b.toNat : Int)] 56)) (some ⟨w.heap.size, 0, none⟩) [(t, b)] := fun i hi => by
  have hi0 : i = 0 := by simpa using hi
  subst hi0
  have h := heap_alloc_new w (.cells #[.bool t, .int .u8 (b.toNat : Int)] 56)
  exact ⟨w.heap.size, 0, rfl, blk_lt h, by rw [cell_of_row _ _ _ _ _ _ h]; rfl, by rw [cell_of_row _ _ _ _ _ _ h]; rfl⟩
theorem its_newS (S : Nat → Prop) (w : World) (t : Bool) (b : UInt8) (hS : S w.heap.size) : ItemsIn S (w.alloc (.cells #[.bool t, .int .u8 (b.toNat : Int)] 56)) (some ⟨w.heap.size, 0, none⟩) [(t, b)] := fun i hi => by
  have hi0 : i = 0 := by simpa using hi
  subst hi0
  have h := heap_alloc_new w (.cells #[.bool t, .int .u8 (b.toNat : Int)] 56)
  exact ⟨w.heap.size, 0, rfl, hS, by rw [cell_of_row _ _ _ _ _ _ h]; rfl, by rw [cell_of_row _ _ _ _ _ _ h]; rfl⟩
theorem its_below {W w : World} {a : Option Addr} {l : List It} (h : ItsIn W a l) (hb : Below W.heap.size W w) : ItemsIn (fun k => k < W.heap.size) w a l := fun i hi => by
  obtain ⟨b, off, e, hlt, h1, h2⟩ := h i hi
  exact ⟨b, off, e, hlt, (hb.cell (p := ⟨b, off + i * 2, none⟩) hlt).trans h1, (hb.cell (p := ⟨b, off + i * 2 + 1, none⟩) hlt).trans h2⟩
/-- An append of items to a row of the call's own. -/
theorem step_app_items {w : World} {ops : Array Oper} {o : Oper} {a : Act} {K : Act → World → Prop} {Q : Exit → Act → World → Prop} {E : Prop} (hgd : Region.wanted o (yielded ops a.tmps) = true) (s x : Operand)
    (ho : o.op = .call { callee := .builtin .append, args := #[s, x], argTypes := #[37, 37] }) (base : Nat)
    (v : Value) (np : Nat) (p : List It) (hs : a.eval s = v) (hp : p.length = np) (hown : OwI w base v p) (ad : Addr) (n c : Nat) (l : List It) (hx : a.eval x = .slice (some ad) n c) (hl : l.length = n) (hsg : ItsIn w (some ad) l)
    (hlen : np + n ≤ 1000000) (hbase : base ≤ w.heap.size)
    (h : ∀ ad' c' w', OwI w' base (.slice ad' (np + n) c') (p ++ l) → w.grownBy w' v.ownBlock → (∀ k, (Value.slice ad' (np + n) c').ownBlock = some k → v.ownBlock = some k ∨ w.heap.size ≤ k) → K (a.put o.dst (.slice ad' (np + n) c')) w') :
    if Region.wanted o (yielded ops a.tmps) = true then Oper.wp Tryd.prog o a w K Q else E := by
  obtain ⟨bb, hbb, hb1, hb2⟩ := bytesItem
  obtain ⟨i0, hi, hz0, hz1, hz2⟩ := info_parts hbb
  subst hl; subst hp
  rw [if_pos hgd]
  have hfin : ∀ v' w', OwI w' base v' (p ++ l) → w.grownBy w' v.ownBlock → (∀ k, v'.ownBlock = some k → v.ownBlock = some k ∨ w.heap.size ≤ k) → K (a.put o.dst v') w' := by
    intro v' w' h1 h2 h3
    obtain ⟨ad', c', rfl⟩ := h1.form (n := p.length + l.length) (by rw [List.length_append])
    exact h ad' c' w' h1 h2 h3
  obtain ⟨v', w', hr, a1, a2, a3⟩ := run_append_place (P := Tryd.prog) w base 37 o.type 56 i0 _ 2 bb Tryd.underlying37 hi hz0 hz1 hz2 rfl (by decide) v p.length _ hown ad l.length c (itC l) (itC_len l) (itC_news hsg) (itC_one l) (by unfold maxLen; omega) (Nat.le_trans (Nat.mul_le_mul hlen hb2) (by decide)) hbase
  have h' := hfin v' w' (by unfold OwI; rw [List.length_append, itC_app]; exact a1) a2 a3
  unfold Oper.wp execOp
  simp only [ho, resolve, invoke, builtin, Sem.run_bind, Sem.run_pure, Result.andThen_ok, List.map_toArray, List.map_cons, List.map_nil, hs, hx, hr]
  exact h'
theorem wpList_app_items {w : World} {ops : Array Oper} {rest : List Oper} {o : Oper} {a : Act} {Q : Exit → Act → World → Prop} (hgd : Region.wanted o (yielded ops a.tmps) = true) (s x : Operand)
    (ho : o.op = .call { callee := .builtin .append, args := #[s, x], argTypes := #[37, 37] }) (base : Nat)
    (v : Value) (np : Nat) (p : List It) (hs : a.eval s = v) (hp : p.length = np) (hown : OwI w base v p) (ad : Addr) (n c : Nat) (l : List It) (hx : a.eval x = .slice (some ad) n c) (hl : l.length = n) (hsg : ItsIn w (some ad) l)
    (hlen : np + n ≤ 1000000) (hbase : base ≤ w.heap.size)
    (h : ∀ ad' c' w', OwI w' base (.slice ad' (np + n) c') (p ++ l) → w.grownBy w' v.ownBlock → (∀ k, (Value.slice ad' (np + n) c').ownBlock = some k → v.ownBlock = some k ∨ w.heap.size ≤ k) → wpList Tryd.prog ops Q rest (a.put o.dst (.slice ad' (np + n) c')) w') : wpList Tryd.prog ops Q (o :: rest) a w :=
  wpList_step fun K hK => step_app_items hgd s x ho base v np p hs hp hown ad n c l hx hl hsg hlen hbase (fun ad' c' w' h1 h2 h3 => hK _ _ (h ad' c' w' h1 h2 h3))
/-- The items of bytes. -/
def biL (l : List UInt8) : List It := l.map fun b => (false, b)
set_option maxHeartbeats 4000000 in
theorem rof_ref (P : List UInt8) (w : World) (hl : P.length ≤ 1000) :
    Calls Tryd.prog 11 #[.string (mkL P)] w fun e w' => ∃ v, e = .returned v ∧ OwI w' w.heap.size v (biL P) ∧ Below w.heap.size w w' := by
  obtain ⟨n, hn⟩ : ∃ n, P.length = n := ⟨_, rfl⟩
  have HZ : Hid ((mkL P).size = n) := Lib.hid (by rw [mkL_size, hn])
  have HN := Lib.hid hn
  have IX := Lib.hid (fun k (hk : k < n) wx => idx_run P k (by omega) wx)
  have hl' : Hid (n ≤ 1000) := Lib.hid (by omega)
  clear hn hl
  go_enter Tryd.func11, Tryd.ntmps11
  go_upto_region 3 with fail
  go_loopw [3, 4] (fun sv iv wr => ∃ (k : Nat), k ≤ n ∧ iv = .int .i64 (k : Int) ∧ Hid (OwI wr w.heap.size sv (biL (P.take k))) ∧ Hid (Below w.heap.size w wr)) (fun _ iv _ => n - (intOf iv).toNat)
  case atStart => exact ⟨0, Nat.zero_le _, rfl, Lib.hid (owi_nil _ _), Lib.hid (Below.refl _ _)⟩
  case round =>
    obtain ⟨k, hk, rfl, HO, HB⟩ := hrel
    have hkl : (biL (P.take k)).length = k := by unfold biL; rw [List.length_map, List.length_take, HN.out]; omega
    obtain ⟨ad, cp, rfl⟩ := HO.out.form hkl
    have HKL := Lib.hid hkl
    by_cases hlt : k < n
    · have hk1 : (k : Int) < ((mkL P).size : Int) := by rw [HZ.out]; omega
      have hix := IX.out k hlt
      have hk9 : k < 1000 := by have := hl'.out; omega
      have hkl2 : k < P.length := by rw [HN.out]; exact hlt
      have htk : Hid (biL (P.take k) ++ [(false, P.getD k 0)] = biL (P.take (k + 1))) := Lib.hid (by
        unfold biL
        rw [List.take_succ_eq_append_getElem hkl2, List.map_append, List.getD, List.getElem?_eq_getElem hkl2]; rfl)
      clear hkl hkl2
      generalize P.getD k 0 = b at *
      have B2 := below_alloc wr (.cells #[.bool false, .int .u8 (b.toNat : Int)] 56)
      have O2 := Lib.hid (HO.out.below B2)
      have S2 := Lib.hid (its_new1 wr false b)
      have N2 := Lib.hid (seqB HB.out B2)
      clear B2
      generalize b.toNat = x at *
      go_wp2_with (at_builtin; refine wpList_app_items rfl _ _ rfl w.heap.size _ k _ rfl HKL.out O2.out ⟨wr.heap.size, 0, none⟩ 1 1 [(false, b)] rfl rfl S2.out ?g3 ?g4 ?_)
      case g3 => omega
      case g4 => exact N2.out.size
      intro ad5 c5 w5 o5 g5 p5
      have N5 := Lib.hid (N2.out.grown g5 N2.out.size (fun k e => (O2.out.lt k e).1))
      rw [htk.out] at o5
      have O5 := Lib.hid o5
      clear o5 g5 p5
      go_wp2
      go_roundw
      case rel => exact ⟨k + 1, by omega, by go_num, O5, N5⟩
      case measure => (simp [intOf]; try omega)
    · have hk1 : ¬ ((k : Int) < ((mkL P).size : Int)) := by rw [HZ.out]; omega
      obtain rfl : k = n := by omega
      have HT : P.take k = P := by rw [← HN.out, List.take_length]
      rw [HT] at HO
      go_wp2
      go_ret
      exact ⟨_, rfl, HO.out, HB.out⟩
end Go.Proofs.YtmnjafceenckpaaDoor
