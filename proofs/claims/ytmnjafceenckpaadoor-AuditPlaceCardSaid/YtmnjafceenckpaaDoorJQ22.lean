/-
  Joined: In16 In17 In18 InB In28 In29 Fr1.
-/
import Derived.Test.YtmnjafceenckpaaDoorJQ13
import Derived.Test.YtmnjafceenckpaaDoorJQ21
set_option linter.unusedVariables false
set_option linter.unusedSimpArgs false
set_option maxRecDepth 100000
set_option linter.unusedVariables false
set_option linter.unusedSimpArgs false
namespace Go.Proofs.YtmnjafceenckpaaDoor
open Go.RowKit
theorem nm_cell {W : World} {N : Nat} (h : W.heap[N]? = some (.cells #[.string ⟨#[65]⟩, .string ⟨#[66]⟩, .string ⟨#[67]⟩, .string ⟨#[68]⟩, .string ⟨#[72]⟩, .string ⟨#[70]⟩, .string ⟨#[49, 126]⟩, .string ⟨#[55, 126]⟩, .string ⟨#[52, 126]⟩, .string ⟨#[56, 126]⟩, .string ⟨#[51, 126]⟩, .string ⟨#[53, 126]⟩, .string ⟨#[54, 126]⟩] 9 (0, 0))) (k : Nat) (hk : k < 13) : W.cell? ⟨N, k, none⟩ = some (.string (mkL (nmL.getD k []))) := by
  rw [cell_of_row _ _ _ _ _ _ h]
  rcases (by omega : k = 0 ∨ k = 1 ∨ k = 2 ∨ k = 3 ∨ k = 4 ∨ k = 5 ∨ k = 6 ∨ k = 7 ∨ k = 8 ∨ k = 9 ∨ k = 10 ∨ k = 11 ∨ k = 12) with rfl | rfl | rfl | rfl | rfl | rfl | rfl | rfl | rfl | rfl | rfl | rfl | rfl <;> rfl
theorem kd_cell {W : World} {N : Nat} (h : W.heap[N]? = some (.cells #[.int .i64 7, .int .i64 8, .int .i64 9, .int .i64 10, .int .i64 11, .int .i64 12, .int .i64 11, .int .i64 11, .int .i64 12, .int .i64 12, .int .i64 13, .int .i64 14, .int .i64 14] 3 (0, 0))) (k : Nat) (hk : k < 13) : W.cell? ⟨N, k, none⟩ = some (.int .i64 (kdL.getD k 0)) := by
  rw [cell_of_row _ _ _ _ _ _ h]
  rcases (by omega : k = 0 ∨ k = 1 ∨ k = 2 ∨ k = 3 ∨ k = 4 ∨ k = 5 ∨ k = 6 ∨ k = 7 ∨ k = 8 ∨ k = 9 ∨ k = 10 ∨ k = 11 ∨ k = 12) with rfl | rfl | rfl | rfl | rfl | rfl | rfl | rfl | rfl | rfl | rfl | rfl | rfl <;> rfl
end Go.Proofs.YtmnjafceenckpaaDoor
set_option linter.unusedVariables false
set_option linter.unusedSimpArgs false
namespace Go.Proofs.YtmnjafceenckpaaDoor
open Go.RowKit
/-- What waits and whether it is of a paste, and keys. -/
abbrev RG := (List UInt8 × Bool) × List Ky
/-- A byte where nothing waits. -/
def rbA (b : UInt8) : RG :=
  if b.toNat = 13 ∨ b.toNat = 10 then (([], false), [kv0 4 b.toNat]) else if b.toNat = 27 then (([27], false), []) else ((frW b, false), frK b)
def rbN (P : List UInt8) (b : UInt8) : RG := ((rbA b).1, rsK P ++ (rbA b).2)
/-- A byte where 27, and more, waits. -/
def rbE (P : List UInt8) (b : UInt8) : RG :=
  if P = [27] then (if b.toNat = 91 ∨ b.toNat = 79 then ((P ++ [b], false), []) else if b.toNat ≤ 127 then (([], false), [kv0 3 b.toNat]) else rbN P b)
  else if P = [27, 79] then (if (64 ≤ b.toNat ∧ b.toNat ≤ 72) ∧ (knK [b]).1 ≠ 0 then (([], false), keK (knK [b])) else if 32 ≤ b.toNat ∧ b.toNat ≤ 126 then (([], false), []) else rbN P b)
  else if 32 ≤ b.toNat ∧ b.toNat ≤ 63 then ((P ++ [b], false), [])
  else if 64 ≤ b.toNat ∧ b.toNat ≤ 126 then (if (P ++ [b]).drop 2 = [50, 48, 48, 126] then (([], true), []) else (([], false), keK (knK ((P ++ [b]).drop 2))))
  else rbN P b
/-- A byte where the beginning of a value waits. -/
def rbU (P : List UInt8) (b : UInt8) : RG :=
  if partB (mkL (P ++ [b])) = true then ((P ++ [b], false), [])
  else if (vAt (mkL (P ++ [b])) 0).2 ≠ P.length + 1 then rbN P b
  else (([], false), [kv0 1 (vAt (mkL (P ++ [b])) 0).1])
/-- A byte outside a paste. -/
def rbR (P : List UInt8) (b : UInt8) : RG :=
  if P = [] then rbA b
  else if b.toNat = 13 ∨ b.toNat = 10 then (([], false), rsK P ++ [kv0 4 b.toNat])
  else if b.toNat = 27 then (([27], false), rsK P)
  else if P.getD 0 0 = 27 then rbE P b
  else rbU P b
/-- A byte in a paste. -/
def rbP (m : Int) (P : List UInt8) (b : UInt8) : RG :=
  if peL <:+ P ++ [b] then (([], false), [(15, 0, mkL ((P ++ [b]).take (min ((P.length : Int) + 1 - 6) m).toNat), decide (min ((P.length : Int) + 1 - 6) m < (P.length : Int) + 1 - 6))])
  else ((P ++ [b], true), [])
/-- An item. -/
def riR (m : Int) (r : List UInt8 × Bool) (x : Bool × UInt8) : RG :=
  if r.2 = true then (if x.1 = true then (r, []) else rbP m r.1 x.2) else if x.1 = true then (([], false), rsK r.1) else rbR r.1 x.2
/-- How much of a paste's end stands behind. -/
def JM (P : List UInt8) (m : Nat) : Prop := m < 6 ∧ ∀ k, k ≤ 5 → (peL.take k <:+ P ↔ k = 0 ∨ k = m)
/-- What an input holds, and what the document says. -/
structure Rl (s : IS) (r : List UInt8 × Bool) : Prop where
  p : s.pas = r.2
  w : r.2 = false → (r.1 = [] ∧ s.wait = []) ∨ (r.1 = [27] ∧ s.wait = [27]) ∨ (r.1 = [27, 79] ∧ s.wait = [27, 79]) ∨ (∃ g, r.1 = 27 :: 91 :: g ∧ s.wait = 27 :: 91 :: g.take 4) ∨ (pB (mkL r.1) = true ∧ r.1.getD 0 0 ≠ 27 ∧ s.wait = r.1)
  q : r.2 = true → s.wait = [] ∧ s.pb = r.1.take (s.most + 6).toNat ∧ s.ct = r.1.length ∧ JM r.1 s.mt
theorem snoc_suffix (l P : List UInt8) (a b : UInt8) : l ++ [a] <:+ P ++ [b] ↔ a = b ∧ l <:+ P := by
  constructor
  · rintro ⟨t, h⟩
    rw [← List.append_assoc] at h
    obtain ⟨h1, h2⟩ := List.append_inj' h rfl
    exact ⟨by simpa using h2, ⟨t, h1⟩⟩
  · rintro ⟨rfl, t, h⟩
    exact ⟨t, by rw [← List.append_assoc, h]⟩
theorem jm_nil : JM [] 0 := ⟨by decide, fun k hk => by
  rcases (by omega : k = 0 ∨ k = 1 ∨ k = 2 ∨ k = 3 ∨ k = 4 ∨ k = 5) with rfl | rfl | rfl | rfl | rfl | rfl <;> simp [peL]⟩
theorem peL_take (k : Nat) (h : k < 6) : peL.take (k + 1) = peL.take k ++ [peL.getD k 0] := by
  rcases (by omega : k = 0 ∨ k = 1 ∨ k = 2 ∨ k = 3 ∨ k = 4 ∨ k = 5) with rfl | rfl | rfl | rfl | rfl | rfl <;> rfl
theorem peL_27 (k : Nat) (h : k < 6) : peL.getD k 0 = 27 ↔ k = 0 := by
  rcases (by omega : k = 0 ∨ k = 1 ∨ k = 2 ∨ k = 3 ∨ k = 4 ∨ k = 5) with rfl | rfl | rfl | rfl | rfl | rfl <;> decide
theorem jm_step {P : List UInt8} {m : Nat} (h : JM P m) (b : UInt8) (j : Nat) (hj : j ≤ 6) : peL.take j <:+ P ++ [b] ↔ j = 0 ∨ j = ipM m b := by
  rcases j with _ | k
  · simp
  · rw [peL_take k (by omega), snoc_suffix, h.2 k (by omega)]
    have h27 := peL_27 k (by omega)
    have h27m := peL_27 m h.1
    unfold ipM
    constructor
    · rintro ⟨rfl, rfl | rfl⟩
      · right
        have e : peL.getD 0 0 = 27 := rfl
        by_cases hm : peL.getD 0 0 = peL.getD m 0
        · rw [if_pos hm]
          rw [e] at hm
          have := h27m.1 hm.symm
          omega
        · rw [if_neg hm, if_pos e]
      · right; rw [if_pos rfl]
    · rintro (h0 | h0)
      · omega
      · split at h0
        · rename_i e
          obtain rfl : k = m := by omega
          exact ⟨e.symm, Or.inr rfl⟩
        · split at h0
          · rename_i e
            obtain rfl : k = 0 := by omega
            exact ⟨e.symm, Or.inl rfl⟩
          · omega
theorem take_take6 (l : List UInt8) (b : UInt8) (n : Nat) : (if (l.take n).length < n then l.take n ++ [b] else l.take n) = (l ++ [b]).take n := by
  rw [List.length_take]
  split
  · rename_i h
    rw [List.take_of_length_le (by omega : l.length ≤ n), List.take_of_length_le (by rw [List.length_append, List.length_singleton]; omega)]
  · rename_i h
    rw [List.take_append_of_le_length (by omega)]
theorem kn_one (b : UInt8) : knK [b] = kv0 (letF b.toNat) 0 := by
  have : ∀ n : Fin 256, knK [UInt8.ofNat n.val] = kv0 (letF ((UInt8.ofNat n.val).toNat : Int)) 0 := by decide +kernel
  have h := this ⟨b.toNat, b.toNat_lt⟩
  simpa using h
theorem kn_two (c b : UInt8) (hb : 64 ≤ b.toNat) : keK (knK [c, b]) = dnK [c] b := by
  by_cases hb2 : b.toNat = 126
  · obtain rfl : b = 126 := u8_eq hb2 (by decide)
    have : ∀ n : Fin 256, keK (knK [UInt8.ofNat n.val, 126]) = dnK [UInt8.ofNat n.val] 126 := by decide +kernel
    have h := this ⟨c.toNat, c.toNat_lt⟩
    simpa using h
  · have hne : b ≠ 126 := fun e => hb2 (by rw [e]; rfl)
    have e1 : dnK [c] b = [] := by unfold dnK; rw [if_neg hb2, if_neg (by simp)]
    have e2 : knK [c, b] = kv0 0 0 := by
      have h1 : ∀ a : UInt8, ([a, 126] : List UInt8) ≠ [c, b] := fun a e => hne (by simp at e; exact e.2.symm)
      have h2 : ∀ a : UInt8, ([a] : List UInt8) ≠ [c, b] := fun a e => by simp at e
      simp [knK, knF, nmL, h1, h2]
    rw [e1, e2]; rfl
theorem kn_long (g : List UInt8) (hg : 3 ≤ g.length) : knK g = kv0 0 0 := by
  have h1 : ∀ a : UInt8, ([a] : List UInt8) ≠ g := fun a e => by rw [← e] at hg; simp at hg
  have h2 : ∀ a c : UInt8, ([a, c] : List UInt8) ≠ g := fun a c e => by rw [← e] at hg; simp at hg
  simp [knK, knF, nmL, h1, h2]
theorem kn_dn (g : List UInt8) (b : UInt8) (hb : 64 ≤ b.toNat) : keK (knK (g ++ [b])) = dnK (g.take 4) b := by
  rcases g with _ | ⟨c, _ | ⟨d, g⟩⟩
  · have e : knK ([] ++ [b]) = kv0 (letF b.toNat) 0 := kn_one b
    rw [e, List.take_nil]
    unfold dnK
    by_cases h : b.toNat = 126
    · rw [if_pos h, h]; rfl
    · rw [if_neg h, if_pos rfl]; rfl
  · exact kn_two c b hb
  · rw [kn_long _ (by simp)]
    have e : (c :: d :: g).take 4 = c :: d :: g.take 2 := rfl
    rw [e]
    unfold dnK sgK
    simp
    rfl
end Go.Proofs.YtmnjafceenckpaaDoor
set_option linter.unusedVariables false
set_option linter.unusedSimpArgs false
namespace Go.Proofs.YtmnjafceenckpaaDoor
open Go.RowKit
theorem pB_27 (P : List UInt8) (h : P.getD 0 0 = 27) : pB (mkL P) = false := by
  rw [← Bool.not_eq_true]
  intro hp
  unfold pB at hp
  rw [Bool.and_eq_true] at hp
  obtain ⟨h1, h2⟩ := hp
  have h3 := ((partB_iff _).1 h2).2
  rcases P with _ | ⟨c, P⟩
  · cases h
  have hc : c = 27 := h
  subst hc
  rw [show (mkL (27 :: P)).get! 0 = 27 from rfl] at h3
  rw [mkL_size] at h3
  have : sizeB (27 : UInt8).toNat = 1 := by decide
  rw [this, List.length_cons] at h3
  omega
theorem pB_nil : pB (mkL []) = false := by decide
theorem rs_st {s : IS} {r : List UInt8 × Bool} (h : Rl s r) (hr : r.2 = false) : rsK r.1 = stK s.wait := by
  rcases h.w hr with ⟨h1, h2⟩ | ⟨h1, h2⟩ | ⟨h1, h2⟩ | ⟨g, h1, h2⟩ | ⟨h1, h2, h3⟩
  · rw [h1, h2]; unfold rsK stK; rw [if_neg (by simp), if_neg (by decide), if_neg (by simp), if_neg (by rw [pB_nil]; decide)]; rfl
  · rw [h1, h2]; rfl
  · rw [h1, h2]; unfold rsK stK; rw [if_neg (by decide), if_pos (show ([27, 79] : List UInt8).getD 0 0 = 27 from rfl), if_neg (by decide), if_neg (by rw [pB_27 _ rfl]; decide)]
  · rw [h1, h2]; unfold rsK stK; rw [if_neg (by simp), if_pos (show (27 :: 91 :: g).getD 0 0 = 27 from rfl), if_neg (by simp), if_neg (by rw [pB_27 _ rfl]; decide)]
  · rw [h3]
    have h27 : r.1 ≠ [27] := fun e => h2 (by rw [e]; rfl)
    unfold rsK stK; rw [if_neg h27, if_neg h2, if_neg h27, if_pos h1]
/-- The relation where nothing is pasted. -/
theorem rl_of {s : IS} {P : List UInt8} (hp : s.pas = false) (h : (P = [] ∧ s.wait = []) ∨ (P = [27] ∧ s.wait = [27]) ∨ (P = [27, 79] ∧ s.wait = [27, 79]) ∨ (∃ g, P = 27 :: 91 :: g ∧ s.wait = 27 :: 91 :: g.take 4) ∨ (pB (mkL P) = true ∧ P.getD 0 0 ≠ 27 ∧ s.wait = P)) : Rl s (P, false) :=
  ⟨hp, fun _ => h, fun e => by cases e⟩
theorem rl_fr {s : IS} (hp : s.pas = false) (b : UInt8) : Rl { s with wait := frW b } (frW b, false) := by
  refine rl_of hp ?_
  unfold frW
  split
  · rename_i h
    refine Or.inr (Or.inr (Or.inr (Or.inr ⟨h.2, fun e => ?_, rfl⟩)))
    have e' : b = 27 := e
    rw [e'] at h
    exact absurd h.1 (by decide)
  · exact Or.inl ⟨rfl, rfl⟩
theorem pB_part (P : List UInt8) (b : UInt8) : pB (mkL (P ++ [b])) = partB (mkL (P ++ [b])) := by
  unfold pB
  rw [decide_eq_true (by rw [mkL_size, List.length_append, List.length_singleton]; omega)]; rfl
theorem oneS_v (P : List UInt8) (b : UInt8) : oneS (mkL (P ++ [b])) = vAt (mkL (P ++ [b])) 0 := by
  unfold oneS
  rw [if_neg (by rw [mkL_size, List.length_append, List.length_singleton]; omega)]
theorem getD_app (P : List UInt8) (b : UInt8) (h : P ≠ []) : (P ++ [b]).getD 0 0 = P.getD 0 0 := by
  rcases P with _ | ⟨c, P⟩
  · exact absurd rfl h
  · rfl
section
variable {P : List UInt8} {b : UInt8}
/-- What is answered behind 27 alone. -/
theorem rbE_27 (hP : P = [27]) : rbE P b = (if b.toNat = 91 ∨ b.toNat = 79 then ((P ++ [b], false), []) else if b.toNat ≤ 127 then (([], false), [kv0 3 b.toNat]) else rbN P b) := by unfold rbE; rw [if_pos hP]
theorem rbE_79 (hP : P = [27, 79]) : rbE P b = (if (64 ≤ b.toNat ∧ b.toNat ≤ 72) ∧ (knK [b]).1 ≠ 0 then (([], false), keK (knK [b])) else if 32 ≤ b.toNat ∧ b.toNat ≤ 126 then (([], false), []) else rbN P b) := by
  unfold rbE; rw [if_neg (by rw [hP]; decide), if_pos hP]
theorem rbE_no (h1 : P ≠ [27]) (h2 : P ≠ [27, 79]) : rbE P b = (if 32 ≤ b.toNat ∧ b.toNat ≤ 63 then ((P ++ [b], false), []) else if 64 ≤ b.toNat ∧ b.toNat ≤ 126 then (if (P ++ [b]).drop 2 = [50, 48, 48, 126] then (([], true), []) else (([], false), keK (knK ((P ++ [b]).drop 2)))) else rbN P b) := by
  unfold rbE; rw [if_neg h1, if_neg h2]
end
/-- What a byte behind what waits leaves. -/
def bhG (s : IS) (b : UInt8) : IS × List Ky := if (bhR s b).2.2 = true then ({ s with wait := frW b }, (bhR s b).2.1 ++ frK b) else ((bhR s b).1, (bhR s b).2.1)
theorem bhG_t {s : IS} {b : UInt8} {x : IS} {K : List Ky} (h : bhR s b = (x, K, true)) : bhG s b = ({ s with wait := frW b }, K ++ frK b) := by
  unfold bhG; rw [h]; rfl
theorem bhG_f {s : IS} {b : UInt8} {x : IS} {K : List Ky} (h : bhR s b = (x, K, false)) : bhG s b = (x, K) := by
  unfold bhG; rw [h]; rfl
def rbG (P : List UInt8) (b : UInt8) : RG := if P.getD 0 0 = 27 then rbE P b else rbU P b
/-- A byte behind what waits, which is no Enter and no 27. -/
theorem rl_bh {s : IS} {P : List UInt8} (h : Rl s (P, false)) (hP : P ≠ []) (b : UInt8) (h13 : ¬ (b.toNat = 13 ∨ b.toNat = 10)) (h27 : ¬ b.toNat = 27) :
    Rl (bhG s b).1 (rbG P b).1 ∧ (bhG s b).2 = (rbG P b).2 ∧ (bhG s b).1.most = s.most := by
  have hp : s.pas = false := h.p
  have hst : rsK P = stK s.wait := rs_st h rfl
  have hA : rbA b = ((frW b, false), frK b) := by unfold rbA; rw [if_neg h13, if_neg h27]
  have hN : rbN P b = ((frW b, false), stK s.wait ++ frK b) := by unfold rbN; rw [hA, hst]
  have hlt := b.toNat_lt
  have hC1 : P.getD 0 0 = 27 → rbG P b = rbE P b := fun e => if_pos e
  rcases h.w rfl with ⟨h1, h2⟩ | ⟨h1, h2⟩ | ⟨h1, h2⟩ | ⟨g, h1, h2⟩ | ⟨h1, h2, h3⟩
  · exact absurd h1 hP
  · dsimp only at h1
    have e : bhR s b = ({ s with wait := (beS b).1 }, (beS b).2.1, (beS b).2.2) := by unfold bhR; rw [if_pos h2]
    rw [hC1 (by rw [h1]; rfl), rbE_27 h1, hN, h2]
    by_cases c1 : b.toNat = 91 ∨ b.toNat = 79
    · have hb : beS b = ([27, b], [], false) := by unfold beS; rw [if_pos c1]
      rw [hb] at e
      rw [bhG_f e, if_pos c1]
      refine ⟨rl_of hp ?_, rfl, rfl⟩
      rw [h1]
      rcases c1 with c | c
      · obtain rfl : b = 91 := u8_eq c (by decide)
        exact Or.inr (Or.inr (Or.inr (Or.inl ⟨[], rfl, rfl⟩)))
      · obtain rfl : b = 79 := u8_eq c (by decide)
        exact Or.inr (Or.inr (Or.inl ⟨rfl, rfl⟩))
    · rw [if_neg c1]
      by_cases c2 : b.toNat ≤ 127
      · have hb : beS b = ([], [kv0 3 b.toNat], false) := by unfold beS; rw [if_neg c1, if_pos c2]
        rw [hb] at e
        rw [bhG_f e, if_pos c2]
        exact ⟨rl_of hp (Or.inl ⟨rfl, rfl⟩), rfl, rfl⟩
      · have hb : beS b = ([], [kv0 5 0], true) := by unfold beS; rw [if_neg c1, if_neg c2]
        rw [hb] at e
        rw [bhG_t e, if_neg c2]
        exact ⟨rl_fr hp b, rfl, rfl⟩
  · dsimp only at h1
    have e : bhR s b = ({ s with wait := [] }, lkK b, decide (b.toNat < 32 ∨ 126 < b.toNat)) := by unfold bhR; rw [if_neg (by rw [h2]; decide), if_pos h2]
    have hs0 : stK s.wait = [] := by rw [h2]; unfold stK; rw [if_neg (by decide), if_neg (by rw [pB_27 _ rfl]; decide)]
    rw [hC1 (by rw [h1]; rfl), rbE_79 h1, hN, hs0, kn_one]
    by_cases c1 : b.toNat < 32 ∨ 126 < b.toNat
    · have hl : letF b.toNat = 0 := letF_none (by omega) (by omega) (by omega) (by omega) (by omega) (by omega)
      have hk : lkK b = [] := by unfold lkK; rw [if_pos hl]
      rw [decide_eq_true c1, hk] at e
      rw [bhG_t e, if_neg (by omega), if_neg (by omega)]
      exact ⟨rl_fr hp b, rfl, rfl⟩
    · rw [decide_eq_false c1] at e
      rw [bhG_f e]
      by_cases c2 : letF b.toNat = 0
      · have hk : lkK b = [] := by unfold lkK; rw [if_pos c2]
        rw [if_neg (fun hh => hh.2 c2), if_pos (by omega), hk]
        exact ⟨rl_of hp (Or.inl ⟨rfl, rfl⟩), rfl, rfl⟩
      · have hb : 64 ≤ b.toNat ∧ b.toNat ≤ 72 := by
          refine Decidable.byContradiction fun hn => c2 (letF_none ?_ ?_ ?_ ?_ ?_ ?_) <;> omega
        have hk : lkK b = [kv0 (letF b.toNat) 0] := by unfold lkK; rw [if_neg c2]
        have hk2 : keK (kv0 (letF b.toNat) 0) = [kv0 (letF b.toNat) 0] := by unfold keK; rw [if_neg (show ¬ (kv0 (letF b.toNat) 0).1 = 0 from c2)]
        rw [if_pos ⟨hb, c2⟩, hk, hk2]
        exact ⟨rl_of hp (Or.inl ⟨rfl, rfl⟩), rfl, rfl⟩
  · dsimp only at h1
    have n1 : s.wait ≠ [27] := by rw [h2]; simp
    have n2 : s.wait ≠ [27, 79] := by rw [h2]; simp
    have e : bhR s b = (bcS s (g.take 4) b, bcK (g.take 4) b, bcB b) := by unfold bhR; rw [if_neg n1, if_neg n2, if_pos (by rw [h2]; rfl), h2]; rfl
    have hs0 : stK s.wait = [] := by rw [h2]; unfold stK; rw [if_neg (by simp), if_neg (by rw [pB_27 _ rfl]; decide)]
    have hd : (P ++ [b]).drop 2 = g ++ [b] := by rw [h1]; rfl
    rw [hC1 (by rw [h1]; rfl), rbE_no (by rw [h1]; simp) (by rw [h1]; simp), hN, hs0, hd]
    by_cases c1 : 32 ≤ b.toNat ∧ b.toNat ≤ 63
    · have e1 : bcS s (g.take 4) b = { s with wait := bcW (g.take 4) b } := by unfold bcS; rw [if_neg (by omega)]
      have e2 : bcK (g.take 4) b = [] := by unfold bcK; rw [if_neg (by omega)]
      have e3 : bcB b = false := by unfold bcB; rw [decide_eq_true (by omega)]; rfl
      rw [e1, e2, e3] at e
      rw [bhG_f e, if_pos c1]
      refine ⟨rl_of hp ?_, rfl, rfl⟩
      refine Or.inr (Or.inr (Or.inr (Or.inl ⟨g ++ [b], by rw [h1]; rfl, ?_⟩)))
      have := take_take6 g b 4
      dsimp only
      rw [← this]
      unfold bcW
      rw [if_pos c1]
      split <;> rfl
    · rw [if_neg c1]
      by_cases c2 : 64 ≤ b.toNat ∧ b.toNat ≤ 126
      · have e1 : bcS s (g.take 4) b = dnS { s with wait := [] } (g.take 4) b := by unfold bcS; rw [if_pos c2]
        have e2 : bcK (g.take 4) b = dnK (g.take 4) b := by unfold bcK; rw [if_pos c2]
        have e3 : bcB b = false := by unfold bcB; rw [decide_eq_true (by omega)]; rfl
        have hkd := kn_dn g b c2.1
        rw [e1, e2, e3] at e
        rw [bhG_f e, if_pos c2]
        refine ⟨?_, ?_, ?_⟩
        · unfold dnS
          by_cases c3 : g ++ [b] = [50, 48, 48, 126]
          · have c4 : g = [50, 48, 48] ∧ b = 126 := by
              have := List.append_inj' (s₁ := g) (t₁ := [b]) (s₂ := [50, 48, 48]) (t₂ := [126]) c3 rfl
              exact ⟨this.1, by simpa using this.2⟩
            obtain ⟨rfl, rfl⟩ := c4
            exact ⟨rfl, fun e => (by cases e), fun _ => ⟨rfl, by simp, rfl, jm_nil⟩⟩
          · rw [if_neg c3]
            by_cases c5 : b.toNat = 126 ∧ g.take 4 = [50, 48, 48]
            · refine absurd ?_ c3
              have h4 : g = [50, 48, 48] := by
                have hl := congrArg List.length c5.2
                rw [List.length_take] at hl
                have hl2 : g.length ≤ 4 := by simp at hl; omega
                have h6 := c5.2
                rw [List.take_of_length_le hl2] at h6
                exact h6
              rw [h4, u8_eq c5.1 (by decide)]; rfl
            · rw [if_neg c5]
              exact rl_of hp (Or.inl ⟨rfl, rfl⟩)
        · by_cases c3 : g ++ [b] = [50, 48, 48, 126]
          · rw [if_pos c3, ← hkd, c3]; rfl
          · rw [if_neg c3, hkd]
        · unfold dnS; split <;> rfl
      · have e1 : bcS s (g.take 4) b = { s with wait := bcW (g.take 4) b } := by unfold bcS; rw [if_neg (by omega)]
        have e2 : bcK (g.take 4) b = [] := by unfold bcK; rw [if_neg (by omega)]
        have e3 : bcB b = true := by unfold bcB; rw [decide_eq_false (by omega)]; rfl
        rw [e1, e2, e3] at e
        rw [bhG_t e, if_neg c2]
        exact ⟨rl_fr hp b, rfl, rfl⟩
  · dsimp only at h1 h2 h3
    have e : bhR s b = ({ s with wait := buW s.wait b }, buK s.wait b, buB s.wait b) := by
      unfold bhR
      rw [h3, if_neg (fun e => h2 (by rw [e]; rfl)), if_neg (fun e => h2 (by rw [e]; rfl)), if_neg h2]
    have hC2 : rbG P b = rbU P b := if_neg h2
    rw [hC2]
    unfold rbU
    rw [hN]
    by_cases c1 : partB (mkL (P ++ [b])) = true
    · have e1 : buW s.wait b = P ++ [b] := by unfold buW; rw [h3, pB_part, if_pos c1]
      have e2 : buK s.wait b = [] := by unfold buK; rw [h3, pB_part, if_pos c1]
      have e3 : buB s.wait b = false := by unfold buB; rw [h3, pB_part, c1]; rfl
      rw [e1, e2, e3] at e
      rw [bhG_f e, if_pos c1]
      refine ⟨rl_of hp ?_, rfl, rfl⟩
      exact Or.inr (Or.inr (Or.inr (Or.inr ⟨by rw [pB_part]; exact c1, by rw [getD_app P b hP]; exact h2, rfl⟩)))
    · have c1' : partB (mkL (P ++ [b])) = false := by simpa using c1
      have e1 : buW s.wait b = [] := by unfold buW; rw [h3, pB_part, if_neg c1]
      rw [if_neg c1]
      by_cases c2 : (vAt (mkL (P ++ [b])) 0).2 = P.length + 1
      · have e2 : buK s.wait b = [kv0 1 ((vAt (mkL (P ++ [b])) 0).1 : Int)] := by unfold buK; rw [h3, pB_part, if_neg c1, oneS_v, if_pos c2]
        have e3 : buB s.wait b = false := by unfold buB; rw [h3, pB_part, c1', oneS_v, decide_eq_true c2]; rfl
        rw [e1, e2, e3] at e
        rw [bhG_f e, if_neg (fun hh => hh c2)]
        exact ⟨rl_of hp (Or.inl ⟨rfl, rfl⟩), rfl, rfl⟩
      · have e2 : buK s.wait b = stK s.wait := by unfold buK; rw [h3, pB_part, if_neg c1, oneS_v, if_neg c2]
        have e3 : buB s.wait b = true := by unfold buB; rw [h3, pB_part, c1', oneS_v, decide_eq_false c2]; rfl
        rw [e1, e2, e3] at e
        rw [bhG_t e, if_pos c2]
        exact ⟨rl_fr hp b, rfl, rfl⟩
/-- A byte outside a paste. -/
theorem rl_tk {s : IS} {P : List UInt8} (h : Rl s (P, false)) (b : UInt8) : (tkR s b).2 = (rbR P b).2 ∧ Rl (tkR s b).1 (rbR P b).1 ∧ (tkR s b).1.most = s.most := by
  have hp : s.pas = false := h.p
  have hst : rsK P = stK s.wait := rs_st h rfl
  unfold tkR rbR
  by_cases hP : P = []
  · have hw : s.wait = [] := by
      rcases h.w rfl with ⟨h1, h2⟩ | ⟨h1, h2⟩ | ⟨h1, h2⟩ | ⟨g, h1, h2⟩ | ⟨h1, h2, h3⟩
      · exact h2
      · dsimp only at h1; rw [hP] at h1; cases h1
      · dsimp only at h1; rw [hP] at h1; cases h1
      · dsimp only at h1; rw [hP] at h1; cases h1
      · dsimp only at h3; rw [h3, hP]
    have hs0 : stK s.wait = [] := by rw [← hst, hP]; unfold rsK; rw [if_neg (by simp), if_neg (by decide)]; rfl
    rw [if_pos hP, hs0]
    unfold rbA
    by_cases c1 : b.toNat = 13 ∨ b.toNat = 10
    · rw [if_pos c1, if_pos c1]; exact ⟨rfl, rl_of hp (Or.inl ⟨rfl, rfl⟩), rfl⟩
    rw [if_neg c1, if_neg c1]
    by_cases c2 : b.toNat = 27
    · rw [if_pos c2, if_pos c2]; exact ⟨rfl, rl_of hp (Or.inr (Or.inl ⟨rfl, rfl⟩)), rfl⟩
    rw [if_neg c2, if_neg c2, if_pos hw]
    exact ⟨rfl, rl_fr hp b, rfl⟩
  · rw [if_neg hP, hst]
    by_cases c1 : b.toNat = 13 ∨ b.toNat = 10
    · rw [if_pos c1, if_pos c1]; exact ⟨rfl, rl_of hp (Or.inl ⟨rfl, rfl⟩), rfl⟩
    rw [if_neg c1, if_neg c1]
    by_cases c2 : b.toNat = 27
    · rw [if_pos c2, if_pos c2]; exact ⟨rfl, rl_of hp (Or.inr (Or.inl ⟨rfl, rfl⟩)), rfl⟩
    have hw : s.wait ≠ [] := by
      rcases h.w rfl with ⟨h1, h2⟩ | ⟨h1, h2⟩ | ⟨h1, h2⟩ | ⟨g, h1, h2⟩ | ⟨h1, h2, h3⟩
      · exact absurd h1 hP
      · rw [h2]; simp
      · rw [h2]; simp
      · rw [h2]; simp
      · dsimp only at h3; rw [h3]; exact hP
    rw [if_neg c2, if_neg c2, if_neg hw]
    obtain ⟨e1, e2, e3⟩ := rl_bh h hP b c1 c2
    exact ⟨e2, e1, e3⟩
/-- A byte in a paste. -/
theorem rl_ip {s : IS} {P : List UInt8} (h : Rl s (P, true)) (hm : 1 ≤ s.most) (b : UInt8) : (ipR s b).2 = (rbP s.most P b).2 ∧ Rl (ipR s b).1 (rbP s.most P b).1 ∧ (ipR s b).1.most = s.most := by
  have hp : s.pas = true := h.p
  obtain ⟨h1, h2, h3, h4⟩ := h.q rfl
  dsimp only at h2 h3 h4
  have h5 := jm_step h4 b
  have h6 := h5 6 (by omega)
  have hB : ipB s b = (P ++ [b]).take (s.most + 6).toNat := by
    unfold ipB
    rw [h2, ← take_take6]
    have hx : (((P.take (s.most + 6).toNat).length : Int) < s.most + 6) ↔ ((P.take (s.most + 6).toNat).length < (s.most + 6).toNat) := by omega
    by_cases c : (P.take (s.most + 6).toNat).length < (s.most + 6).toNat
    · rw [if_pos c, if_pos (hx.2 c)]
    · rw [if_neg c, if_neg (fun hh => c (hx.1 hh))]
  have hle : ipM s.mt b ≤ 6 := by
    have h41 := h4.1
    have := ipM_le h41 b
    omega
  rw [show peL.take 6 = peL from rfl] at h6
  unfold ipR rbP
  rw [hB]
  by_cases c : ipM s.mt b < 6
  · rw [if_pos c, if_neg (fun hh => by have := h6.1 hh; omega)]
    refine ⟨rfl, ⟨hp, fun e => (by cases e), fun _ => ⟨h1, rfl, ?_, c, fun k hk => h5 k (by omega)⟩⟩, rfl⟩
    show s.ct + 1 = (P ++ [b]).length
    rw [List.length_append, List.length_singleton, h3]
  · rw [if_neg c, if_pos (h6.2 (by omega)), h3]
    refine ⟨?_, rl_of rfl (Or.inl ⟨rfl, h1⟩), rfl⟩
    dsimp only
    rw [List.take_take]
    have : min (min ((P.length : Int) + 1 - 6) s.most).toNat (s.most + 6).toNat = (min ((P.length : Int) + 1 - 6) s.most).toNat := by omega
    rw [this]
/-- An item. -/
theorem rl_it {s : IS} {r : List UInt8 × Bool} (h : Rl s r) (hm : 1 ≤ s.most) (x : Bool × UInt8) : (itR s x).2 = (riR s.most r x).2 ∧ Rl (itR s x).1 (riR s.most r x).1 ∧ (itR s x).1.most = s.most := by
  obtain ⟨P, pas⟩ := r
  obtain ⟨t, b⟩ := x
  have hp : s.pas = pas := h.p
  cases pas
  · have hn : ¬ s.pas = true := by rw [hp]; decide
    cases t
    · have e1 : itR s (false, b) = tkR s b := by unfold itR; rw [if_neg hn]; rfl
      have e2 : riR s.most (P, false) (false, b) = rbR P b := rfl
      rw [e1, e2]
      exact rl_tk h _
    · have e1 : itR s (true, b) = ({ s with wait := [] }, stK s.wait) := by unfold itR; rw [if_neg hn]; rfl
      have e2 : riR s.most (P, false) (true, b) = (([], false), rsK P) := rfl
      rw [e1, e2]
      exact ⟨(rs_st h rfl).symm, rl_of hp (Or.inl ⟨rfl, rfl⟩), rfl⟩
  · cases t
    · have e1 : itR s (false, b) = ipR s b := by unfold itR; rw [if_pos hp]; rfl
      have e2 : riR s.most (P, true) (false, b) = rbP s.most P b := rfl
      rw [e1, e2]
      exact rl_ip h hm _
    · have e1 : itR s (true, b) = (s, []) := by unfold itR; rw [if_pos hp]; rfl
      have e2 : riR s.most (P, true) (true, b) = ((P, true), []) := rfl
      rw [e1, e2]
      exact ⟨rfl, h, rfl⟩
theorem rl_0 (m : Int) : Rl (in0 m) ([], false) := rl_of rfl (Or.inl ⟨rfl, rfl⟩)
/-- Items: what the document says of all of them. -/
def raR (m : Int) (r : List UInt8 × Bool) : List (Bool × UInt8) → RG
  | [] => (r, [])
  | x :: l => ((raR m (riR m r x).1 l).1, (riR m r x).2 ++ (raR m (riR m r x).1 l).2)
theorem rl_do {s : IS} {r : List UInt8 × Bool} (h : Rl s r) (hm : 1 ≤ s.most) (l : List (Bool × UInt8)) : (doR s l).2 = (raR s.most r l).2 ∧ Rl (doR s l).1 (raR s.most r l).1 ∧ (doR s l).1.most = s.most := by
  induction l generalizing s r with
  | nil => exact ⟨rfl, h, rfl⟩
  | cons x l ih =>
    obtain ⟨h1, h2, h3⟩ := rl_it h hm x
    obtain ⟨k1, k2, k3⟩ := ih h2 (by rw [h3]; exact hm)
    unfold doR raR
    rw [h3] at k1 k2 k3
    exact ⟨by rw [h1, k1], k2, k3⟩
/-- What waits is told. -/
theorem rl_waits {s : IS} {r : List UInt8 × Bool} (h : Rl s r) : (decide (s.wait ≠ []) || s.pas) = (r.2 || decide (r.1 ≠ [])) := by
  obtain ⟨P, pas⟩ := r
  have hp : s.pas = pas := h.p
  rw [hp]
  cases pas
  · dsimp only
    rw [Bool.or_false, Bool.false_or]
    rcases h.w rfl with ⟨h1, h2⟩ | ⟨h1, h2⟩ | ⟨h1, h2⟩ | ⟨g, h1, h2⟩ | ⟨h1, h2, h3⟩
    · dsimp only at h1; rw [h1, h2]
    · dsimp only at h1; rw [h1, h2]
    · dsimp only at h1; rw [h1, h2]
    · dsimp only at h1; rw [h1, h2]; simp
    · dsimp only at h3; rw [h3]
  · simp
end Go.Proofs.YtmnjafceenckpaaDoor
set_option linter.unusedVariables false
set_option linter.unusedSimpArgs false
namespace Go.Proofs.YtmnjafceenckpaaDoor
open Go.RowKit
theorem ra_app (m : Int) (r : List UInt8 × Bool) (a b : List (Bool × UInt8)) : raR m r (a ++ b) = ((raR m (raR m r a).1 b).1, (raR m r a).2 ++ (raR m (raR m r a).1 b).2) := by
  induction a generalizing r with
  | nil => simp [raR]
  | cons x a ih => rw [List.cons_append, raR, ih, raR]; simp
def iyB (l : List UInt8) : List (Bool × UInt8) := l.map fun b => (false, b)
/-- The items of a key: its bytes, and a tick. -/
def iyK (k : Ky) : List (Bool × UInt8) := iyB (byR k) ++ [(true, 0)]
def iyL (K : List Ky) : List (Bool × UInt8) := K.flatMap fun k => if keyB k = true then iyK k else []
/-- Does a paste's end stand within? -/
def inB (t : List UInt8) : Bool := (List.range t.length).any fun i => decide (((t ++ peL).drop i).take 6 = peL)
def tyB (k : Ky) : Bool := keyB k && !(decide (k.1 = 3) && decide (k.2.1 = 91 ∨ k.2.1 = 79)) && (decide (k.1 ≠ 15) || (!inB k.2.2.1.data.toList && !k.2.2.2 && decide (k.2.2.1.size ≤ 50)))
theorem no_end {t : List UInt8} (h : ∀ i, i < t.length → ((t ++ peL).drop i).take 6 ≠ peL) (k : Nat) : ¬ peL <:+ (t ++ peL.take 5).take k := by
  rintro ⟨u, hu⟩
  have hl := congrArg List.length hu
  have h5 : (peL.take 5).length = 5 := rfl
  have h6 : peL.length = 6 := rfl
  rw [List.length_append, List.length_take, List.length_append, h5, h6] at hl
  refine h u.length (by omega) ?_
  have e : (t ++ peL.take 5).take k = (t ++ peL).take (u.length + 6) := by
    rw [hl]
    have e2 : t ++ peL.take 5 = (t ++ peL).take (t.length + 5) := by
      rw [List.take_append, List.take_of_length_le (show t.length ≤ t.length + 5 by omega), Nat.add_sub_cancel_left]
    rw [e2, List.take_take]
  rw [e] at hu
  have e3 : ((t ++ peL).drop u.length).take 6 = ((t ++ peL).take (u.length + 6)).drop u.length := by
    rw [List.drop_take, Nat.add_sub_cancel_left]
  rw [e3, ← hu, List.drop_left]
theorem ra_in (m : Int) (l P : List UInt8) (h : ∀ k, ¬ peL <:+ P ++ l.take k) : raR m (P, true) (iyB l) = ((P ++ l, true), []) := by
  induction l generalizing P with
  | nil => simp [iyB, raR]
  | cons b l ih =>
    have e : riR m (P, true) (false, b) = ((P ++ [b], true), []) := by
      show rbP m P b = _
      unfold rbP
      rw [if_neg (show ¬ peL <:+ P ++ [b] from h 1)]
    rw [show iyB (b :: l) = (false, b) :: iyB l from rfl, raR, e, ih (P ++ [b]) (fun k => by rw [List.append_assoc]; exact h (k + 1))]
    simp
theorem ra_paste (t : List UInt8) (ht : t.length ≤ 50) (h : ∀ i, i < t.length → ((t ++ peL).drop i).take 6 ≠ peL) :
    raR 50 ([], true) (iyB (t ++ peL)) = (([], false), [(15, 0, mkL t, false)]) := by
  have e : t ++ peL = (t ++ peL.take 5) ++ [126] := by rw [List.append_assoc]; rfl
  rw [e, show iyB ((t ++ peL.take 5) ++ [126]) = iyB (t ++ peL.take 5) ++ iyB [126] from List.map_append .., ra_app, ra_in _ _ _ (fun k => by rw [List.nil_append]; exact no_end h k), List.nil_append]
  have e2 : riR 50 (t ++ peL.take 5, true) (false, 126) = (([], false), [(15, 0, mkL t, false)]) := by
    show rbP 50 (t ++ peL.take 5) 126 = _
    unfold rbP
    have hl : ((t ++ peL.take 5).length : Int) + 1 - 6 = (t.length : Int) := by
      rw [List.length_append]; show ((t.length + 5 : Nat) : Int) + 1 - 6 = _; omega
    rw [if_pos (by rw [← e]; exact ⟨t, rfl⟩)]
    rw [hl, show min (t.length : Int) 50 = (t.length : Int) by omega, Int.toNat_natCast, ← e, List.take_left, decide_eq_false (by omega)]
  rw [show iyB [126] = [(false, 126)] from rfl, raR, e2, raR]
  rfl
/-- A byte that no paste has, and no key begins with, where nothing waits. -/
theorem ri_low (m : Int) (b : UInt8) (h : ¬ (b.toNat = 13 ∨ b.toNat = 10)) (h2 : ¬ b.toNat = 27) : riR m ([], false) (false, b) = ((frW b, false), frK b) := by
  show rbR [] b = _
  unfold rbR rbA
  rw [if_pos rfl, if_neg h, if_neg h2]
theorem ra_one (m : Int) (b : UInt8) (h : ¬ (b.toNat = 13 ∨ b.toNat = 10)) (h2 : ¬ b.toNat = 27) (v : Int) (hv : v = if b.toNat < 128 then (b.toNat : Int) else 1114112 + (b.toNat : Int)) (h32 : 32 ≤ b.toNat) (h127 : b.toNat ≠ 127) :
    raR m ([], false) (iyB [b] ++ [(true, 0)]) = (([], false), [kv0 1 v]) := by
  have key : frK b ++ rsK (frW b) = [kv0 1 v] := by
    have hn : ¬ b.toNat < 32 := by omega
    by_cases hlt : b.toNat < 128
    · have e1 : frW b = [] := by unfold frW; rw [if_neg (fun hh => by omega)]
      have e2 : frK b = [kv0 1 b.toNat] := by unfold frK; rw [if_neg hn, if_neg h127, if_pos (by omega)]
      rw [e1, e2, hv, if_pos hlt]; rfl
    · rw [if_neg hlt] at hv
      by_cases hp : pB (mkL [b]) = true
      · have e1 : frW b = [b] := by unfold frW; rw [if_pos ⟨by omega, hp⟩]
        have e2 : frK b = [] := by unfold frK; rw [if_neg hn, if_neg h127, if_neg (by omega), if_pos hp]
        have e3 : rsK [b] = [kv0 1 (1114112 + (b.toNat : Int))] := by
          unfold rsK
          rw [if_neg (fun e => h2 (by simp at e; rw [e]; rfl)), if_neg (fun e => h2 (by have e' : b = 27 := e; rw [e']; rfl))]
          rfl
        rw [e1, e2, e3, hv]; rfl
      · have e1 : frW b = [] := by unfold frW; rw [if_neg (fun hh => hp hh.2)]
        have e2 : frK b = [kv0 1 (1114112 + (b.toNat : Int))] := by unfold frK; rw [if_neg hn, if_neg h127, if_neg (by omega), if_neg hp]
        rw [e1, e2, hv]; rfl
  rw [show iyB [b] ++ [(true, 0)] = [(false, b), (true, 0)] from rfl, raR, ri_low m b h h2, raR, raR]
  have ht : riR m (frW b, false) (true, 0) = (([], false), rsK (frW b)) := rfl
  rw [ht]
  dsimp only
  rw [List.append_nil, key]
/-- The beginning of a value waits. -/
theorem ri_part (m : Int) (P : List UInt8) (b : UInt8) (hP : P ≠ []) (h0 : P.getD 0 0 ≠ 27) (hb : 128 ≤ b.toNat) (hp : partB (mkL (P ++ [b])) = true) : riR m (P, false) (false, b) = ((P ++ [b], false), []) := by
  show rbR P b = _
  unfold rbR rbU
  rw [if_neg hP, if_neg (show ¬ (b.toNat = 13 ∨ b.toNat = 10) by omega), if_neg (show ¬ b.toNat = 27 by omega), if_neg h0, if_pos hp]
theorem ri_done (m : Int) (P : List UInt8) (b : UInt8) (hP : P ≠ []) (h0 : P.getD 0 0 ≠ 27) (hb : 128 ≤ b.toNat) (hp : partB (mkL (P ++ [b])) = false) (v : Nat) (hv : vAt (mkL (P ++ [b])) 0 = (v, P.length + 1)) : riR m (P, false) (false, b) = (([], false), [kv0 1 v]) := by
  show rbR P b = _
  unfold rbR rbU
  rw [if_neg hP, if_neg (show ¬ (b.toNat = 13 ∨ b.toNat = 10) by omega), if_neg (show ¬ b.toNat = 27 by omega), if_neg h0, if_neg (by rw [hp]; decide), hv, if_neg (by simp)]
theorem ri_tick0 (m : Int) : riR m ([], false) (true, 0) = (([], false), []) := rfl
theorem part2 (a b : UInt8) : partB (mkL [a, b]) = (decide (begB 2 a.toNat b.toNat 0 0 = 2) && decide (2 < sizeB a.toNat)) := by
  unfold partB; rw [begS_B]; rfl
theorem part1 (a : UInt8) : partB (mkL [a]) = (decide (begB 1 a.toNat 0 0 0 = 1) && decide (1 < sizeB a.toNat)) := by
  unfold partB; rw [begS_B]; rfl
theorem part3 (a b c : UInt8) : partB (mkL [a, b, c]) = (decide (begB 3 a.toNat b.toNat c.toNat 0 = 3) && decide (3 < sizeB a.toNat)) := by
  unfold partB; rw [begS_B]; rfl
theorem part4 (a b c d : UInt8) : partB (mkL [a, b, c, d]) = (decide (begB 4 a.toNat b.toNat c.toNat d.toNat = 4) && decide (4 < sizeB a.toNat)) := by
  unfold partB; rw [begS_B]; rfl
theorem fr_part {a : UInt8} (h : 128 ≤ a.toNat) (hs : 1 < sizeB a.toNat) : frW a = [a] ∧ frK a = [] := by
  have hp : partB (mkL [a]) = true := by
    rw [part1, decide_eq_true hs]
    unfold begB
    rw [if_neg (by omega)]; rfl
  have hp2 : pB (mkL [a]) = true := by rw [← hp]; exact pB_part [] a
  unfold frW frK
  rw [if_pos ⟨h, hp2⟩, if_neg (by omega), if_neg (by omega), if_neg (by omega), if_pos hp2]
  exact ⟨rfl, rfl⟩
theorem getD_27 {a : UInt8} (l : List UInt8) (h : 128 ≤ a.toNat) : (a :: l).getD 0 0 ≠ 27 := fun e => by
  have e' : a = 27 := e
  rw [e'] at h
  exact absurd h (by decide)
theorem ra_two (m : Int) (a b : UInt8) (ha : sizeB a.toNat = 2) (hm : mayB a.toNat b.toNat 1 = true) (v : Nat) (hv : v = (a.toNat - 192) * 64 + b.toNat - 128) :
    raR m ([], false) (iyB [a, b] ++ [(true, 0)]) = (([], false), [kv0 1 v]) := by
  have ha2 : 128 ≤ a.toNat := by unfold sizeB at ha; split at ha <;> omega
  have hb2 : 128 ≤ b.toNat := ((mayB_iff _ _ _).1 hm).1.1
  have hbg : begB 2 a.toNat b.toNat 0 0 = 2 := beg2 ⟨by omega, by omega, hm⟩ (by omega)
  obtain ⟨f1, f2⟩ := fr_part ha2 (by omega)
  rw [show iyB [a, b] ++ [(true, 0)] = [(false, a), (false, b), (true, 0)] from rfl, raR, ri_low m a (by omega) (by omega), f1, f2, raR, ri_done m [a] b (by simp) (getD_27 _ ha2) hb2 (by show partB (mkL [a, b]) = false; rw [part2, ha]; simp) v (by
    show vAt (mkL [a, b]) 0 = _
    rw [vAt_one _ (by rw [mkL_size]; simp)]
    show oneB 2 a.toNat b.toNat 0 0 = _
    rw [one_2 hbg ha, hv]; rfl), raR, ri_tick0]
  rfl
theorem ra_three (m : Int) (a b c : UInt8) (ha : sizeB a.toNat = 3) (hm : mayB a.toNat b.toNat 1 = true) (hm2 : mayB a.toNat c.toNat 2 = true) (v : Nat) (hv : v = ((a.toNat - 224) * 64 + b.toNat - 128) * 64 + c.toNat - 128) :
    raR m ([], false) (iyB [a, b, c] ++ [(true, 0)]) = (([], false), [kv0 1 v]) := by
  have ha2 : 128 ≤ a.toNat := by unfold sizeB at ha; split at ha <;> omega
  have hb2 : 128 ≤ b.toNat := ((mayB_iff _ _ _).1 hm).1.1
  have hc2 : 128 ≤ c.toNat := ((mayB_iff _ _ _).1 hm2).1.1
  have hbg2 : begB 2 a.toNat b.toNat 0 0 = 2 := beg2 ⟨by omega, by omega, hm⟩ (by omega)
  have hbg : begB 3 a.toNat b.toNat c.toNat 0 = 3 := beg3 ⟨by omega, by omega, hm⟩ ⟨by omega, by omega, hm2⟩ (by omega)
  obtain ⟨f1, f2⟩ := fr_part ha2 (by omega)
  rw [show iyB [a, b, c] ++ [(true, 0)] = [(false, a), (false, b), (false, c), (true, 0)] from rfl, raR, ri_low m a (by omega) (by omega), f1, f2, raR, ri_part m [a] b (by simp) (getD_27 _ ha2) hb2 (by show partB (mkL [a, b]) = true; rw [part2, hbg2, ha]; rfl), raR,
    ri_done m ([a] ++ [b]) c (by simp) (getD_27 _ ha2) hc2 (by show partB (mkL [a, b, c]) = false; rw [part3, ha]; simp) v (by
    show vAt (mkL [a, b, c]) 0 = _
    rw [vAt_one _ (by rw [mkL_size]; simp)]
    show oneB 3 a.toNat b.toNat c.toNat 0 = _
    rw [one_3 hbg ha, hv]; rfl), raR, ri_tick0]
  rfl
theorem ra_four (m : Int) (a b c d : UInt8) (ha : sizeB a.toNat = 4) (hm : mayB a.toNat b.toNat 1 = true) (hm2 : mayB a.toNat c.toNat 2 = true) (hm3 : mayB a.toNat d.toNat 3 = true) (v : Nat) (hv : v = (((a.toNat - 240) * 64 + b.toNat - 128) * 64 + c.toNat - 128) * 64 + d.toNat - 128) :
    raR m ([], false) (iyB [a, b, c, d] ++ [(true, 0)]) = (([], false), [kv0 1 v]) := by
  have ha2 : 128 ≤ a.toNat := by unfold sizeB at ha; split at ha <;> omega
  have hb2 : 128 ≤ b.toNat := ((mayB_iff _ _ _).1 hm).1.1
  have hc2 : 128 ≤ c.toNat := ((mayB_iff _ _ _).1 hm2).1.1
  have hd2 : 128 ≤ d.toNat := ((mayB_iff _ _ _).1 hm3).1.1
  have hbg2 : begB 2 a.toNat b.toNat 0 0 = 2 := beg2 ⟨by omega, by omega, hm⟩ (by omega)
  have hbg3 : begB 3 a.toNat b.toNat c.toNat 0 = 3 := beg3 ⟨by omega, by omega, hm⟩ ⟨by omega, by omega, hm2⟩ (by omega)
  have hbg : begB 4 a.toNat b.toNat c.toNat d.toNat = 4 := beg4 ⟨by omega, by omega, hm⟩ ⟨by omega, by omega, hm2⟩ ⟨by omega, by omega, hm3⟩
  obtain ⟨f1, f2⟩ := fr_part ha2 (by omega)
  rw [show iyB [a, b, c, d] ++ [(true, 0)] = [(false, a), (false, b), (false, c), (false, d), (true, 0)] from rfl, raR, ri_low m a (by omega) (by omega), f1, f2, raR, ri_part m [a] b (by simp) (getD_27 _ ha2) hb2 (by show partB (mkL [a, b]) = true; rw [part2, hbg2, ha]; rfl), raR,
    ri_part m ([a] ++ [b]) c (by simp) (getD_27 _ ha2) hc2 (by show partB (mkL [a, b, c]) = true; rw [part3, hbg3, ha]; rfl), raR,
    ri_done m ([a] ++ [b] ++ [c]) d (by simp) (getD_27 _ ha2) hd2 (by show partB (mkL [a, b, c, d]) = false; rw [part4, ha]; simp) v (by
    show vAt (mkL [a, b, c, d]) 0 = _
    rw [vAt_one _ (by rw [mkL_size]; simp)]
    show oneB 4 a.toNat b.toNat c.toNat d.toNat = _
    rw [one_4 hbg ha, hv]; rfl), raR, ri_tick0]
  rfl
theorem u8i {x : Int} (h0 : 0 ≤ x) (h1 : x < 256) : ((x.toNat.toUInt8).toNat : Int) = x := by rw [u8_nat h0 h1]; omega
theorem sizeB_2 {c : Nat} (h : 194 ≤ c ∧ c ≤ 223) : sizeB c = 2 := by unfold sizeB; rw [if_neg (by omega), if_pos h]
theorem sizeB_3 {c : Nat} (h : 224 ≤ c ∧ c ≤ 239) : sizeB c = 3 := by unfold sizeB; rw [if_neg (by omega), if_neg (by omega), if_pos h]
theorem sizeB_4 {c : Nat} (h : 240 ≤ c ∧ c ≤ 244) : sizeB c = 4 := by unfold sizeB; rw [if_neg (by omega), if_neg (by omega), if_neg (by omega), if_pos h]
/-- A sign. -/
theorem ra_sign (m v : Int) (h32 : 32 ≤ v) (h127 : v ≠ 127) (hr : rightB v = true) : raR m ([], false) (iyB (txt (oneI v)).data.toList ++ [(true, 0)]) = (([], false), [kv0 1 v]) := by
  have hd : ∀ l : List Int, (txt l).data.toList = l.map fun x => x.toNat.toUInt8 := fun l => by simp [txt]
  by_cases hp : ptB v = true
  · rw [oneI_pt hp, hd]
    have hp2 := (ptB_iff v).1 hp
    by_cases c1 : v ≤ 127
    · rw [Lib.encodeRuneZ_one (by omega) c1]
      have hb := u8_nat (x := v) (by omega) (by omega)
      exact ra_one m v.toNat.toUInt8 (by rw [hb]; omega) (by rw [hb]; omega) v (by rw [hb, if_pos (by omega)]; omega) (by rw [hb]; omega) (by rw [hb]; omega)
    by_cases c2 : v ≤ 2047
    · rw [Lib.encodeRuneZ_two (by omega) c2]
      have e1 := u8_nat (x := 192 + v / 64) (by omega) (by omega)
      have e2 := u8_nat (x := 128 + v % 64) (by omega) (by omega)
      have := ra_two m (192 + v / 64).toNat.toUInt8 (128 + v % 64).toNat.toUInt8 (by rw [e1]; exact sizeB_2 (by omega)) (by rw [e1, e2, mayB_iff]; omega) v.toNat (by rw [e1, e2]; omega)
      rw [Int.toNat_of_nonneg (by omega)] at this
      exact this
    by_cases c3 : v ≤ 65535
    · rw [Lib.encodeRuneZ_three (by omega)]
      have e1 := u8_nat (x := 224 + v / 4096) (by omega) (by omega)
      have e2 := u8_nat (x := 128 + v / 64 % 64) (by omega) (by omega)
      have e3 := u8_nat (x := 128 + v % 64) (by omega) (by omega)
      have := ra_three m (224 + v / 4096).toNat.toUInt8 (128 + v / 64 % 64).toNat.toUInt8 (128 + v % 64).toNat.toUInt8 (by rw [e1]; exact sizeB_3 (by omega)) (by rw [e1, e2, mayB_iff]; omega) (by rw [e1, e3, mayB_iff]; omega) v.toNat (by rw [e1, e2, e3]; omega)
      rw [Int.toNat_of_nonneg (by omega)] at this
      exact this
    · rw [Lib.encodeRuneZ_four (by omega) (by omega)]
      have e1 := u8_nat (x := 240 + v / 262144) (by omega) (by omega)
      have e2 := u8_nat (x := 128 + v / 4096 % 64) (by omega) (by omega)
      have e3 := u8_nat (x := 128 + v / 64 % 64) (by omega) (by omega)
      have e4 := u8_nat (x := 128 + v % 64) (by omega) (by omega)
      have := ra_four m (240 + v / 262144).toNat.toUInt8 (128 + v / 4096 % 64).toNat.toUInt8 (128 + v / 64 % 64).toNat.toUInt8 (128 + v % 64).toNat.toUInt8 (by rw [e1]; exact sizeB_4 (by omega)) (by rw [e1, e2, mayB_iff]; omega) (by rw [e1, e3, mayB_iff]; omega) (by rw [e1, e4, mayB_iff]; omega) v.toNat (by rw [e1, e2, e3, e4]; omega)
      rw [Int.toNat_of_nonneg (by omega)] at this
      exact this
  · have hs : stB v = true := by
      unfold rightB at hr
      rw [Bool.or_eq_true] at hr
      rcases hr with h | h
      · exact absurd h hp
      · exact h
    have hs2 := (stB_iff v).1 hs
    rw [oneI_st hs, hd]
    have hb := u8_nat (x := v - 1114112) (by omega) (by omega)
    exact ra_one m (v - 1114112).toNat.toUInt8 (by rw [hb]; omega) (by rw [hb]; omega) v (by rw [hb, if_neg (by omega)]; omega) (by rw [hb]; omega) (by rw [hb]; omega)
theorem ra_ctl (v : Int) (h : ctB v = true) : raR 50 ([], false) (iyB (txt (oneI v)).data.toList ++ [(true, 0)]) = (([], false), [kv0 2 v]) := by
  have h0 : 0 ≤ v ∧ v ≤ 31 := by
    unfold ctB at h; rw [Bool.and_eq_true] at h; exact of_decide_eq_true h.1
  have : ∀ n : Fin 32, ctB (n.val : Int) = true → raR 50 ([], false) (iyB (txt (oneI (n.val : Int))).data.toList ++ [(true, 0)]) = (([], false), [kv0 2 (n.val : Int)]) := by decide +kernel
  have e : ((v.toNat : Nat) : Int) = v := by omega
  have := this ⟨v.toNat, by omega⟩
  rw [e] at this
  exact this h
theorem ra_meta (v : Int) (h0 : 0 ≤ v ∧ v < 128) (h : lnB v = false) (h2 : ¬ (v = 91 ∨ v = 79)) : raR 50 ([], false) (iyB (27 :: (txt (oneI v)).data.toList) ++ [(true, 0)]) = (([], false), [kv0 3 v]) := by
  have : ∀ n : Fin 128, lnB (n.val : Int) = false → ¬ ((n.val : Int) = 91 ∨ (n.val : Int) = 79) → raR 50 ([], false) (iyB (27 :: (txt (oneI (n.val : Int))).data.toList) ++ [(true, 0)]) = (([], false), [kv0 3 (n.val : Int)]) := by decide +kernel
  have e : ((v.toNat : Nat) : Int) = v := by omega
  have := this ⟨v.toNat, by omega⟩
  rw [e] at this
  exact this h h2
theorem ra_tab : ∀ r ∈ kTab, raR 50 ([], false) (iyB r.2.2.2 ++ [(true, 0)]) = (([], false), [kv0 r.1 r.2.1]) := by decide +kernel
/-- A key that can be typed comes back. -/
theorem ra_key (k : Ky) (h : tyB k = true) : raR 50 ([], false) (iyK k) = (([], false), [k]) := by
  unfold tyB at h
  rw [Bool.and_eq_true, Bool.and_eq_true] at h
  obtain ⟨⟨hk, h3⟩, h15⟩ := h
  obtain ⟨a, v, t, c⟩ := k
  dsimp only at h3 h15
  unfold iyK byR
  rw [if_pos hk]
  unfold keyB at hk
  dsimp only at hk
  unfold byN
  dsimp only
  by_cases e15 : a = 15
  · subst e15
    rw [if_pos rfl, Bool.and_eq_true] at hk
    obtain ⟨hv, _⟩ := hk
    obtain rfl : v = 0 := of_decide_eq_true hv
    rw [decide_eq_false (by simp), Bool.false_or, Bool.and_eq_true, Bool.and_eq_true] at h15
    obtain ⟨⟨hi, hc⟩, hl⟩ := h15
    obtain rfl : c = false := by simpa using hc
    have hl' : t.data.toList.length ≤ 50 := by have := of_decide_eq_true hl; rw [Array.length_toList]; exact this
    have hi' : ∀ i, i < t.data.toList.length → ((t.data.toList ++ peL).drop i).take 6 ≠ peL := fun i hil e => by
      have : inB t.data.toList = true := by
        unfold inB
        exact List.any_eq_true.2 ⟨i, List.mem_range.2 hil, decide_eq_true e⟩
      rw [this] at hi; cases hi
    rw [if_neg (by omega), if_neg (by omega), if_pos rfl]
    have e1 : iyB ([27, 91, 50, 48, 48, 126] ++ t.data.toList ++ [27, 91, 50, 48, 49, 126]) ++ [(true, 0)] = iyB [27, 91, 50, 48, 48, 126] ++ (iyB (t.data.toList ++ peL) ++ [(true, 0)]) := by
      unfold iyB; rw [List.append_assoc, List.map_append, List.append_assoc]; rfl
    have e2 : raR 50 ([], false) (iyB [27, 91, 50, 48, 48, 126]) = (([], true), []) := by decide +kernel
    rw [e1, ra_app, e2, ra_app, ra_paste _ hl' hi', raR, ri_tick0, raR]
    rfl
  · rw [if_neg e15, Bool.and_eq_true, Bool.and_eq_true] at hk
    obtain ⟨⟨ht, hc⟩, hm⟩ := hk
    obtain rfl : t = ⟨#[]⟩ := kzero (of_decide_eq_true ht)
    obtain rfl : c = false := by simpa using hc
    unfold kmB at hm
    by_cases e1 : a = 1
    · subst e1
      rw [if_pos rfl, Bool.and_eq_true, Bool.and_eq_true] at hm
      rw [if_pos (Or.inl rfl)]
      exact ra_sign 50 v (of_decide_eq_true hm.1.1) (of_decide_eq_true hm.1.2) hm.2
    rw [if_neg e1] at hm
    by_cases e2 : a = 2
    · subst e2
      rw [if_pos rfl] at hm
      rw [if_pos (Or.inr rfl)]
      exact ra_ctl v hm
    rw [if_neg e2] at hm
    rw [if_neg (by omega)]
    by_cases e3 : a = 3
    · subst e3
      rw [if_pos rfl, Bool.and_eq_true] at hm
      rw [if_pos rfl]
      refine ra_meta v (of_decide_eq_true hm.1) (by simpa using hm.2) ?_
      intro hh
      rw [decide_eq_true rfl, decide_eq_true hh] at h3
      cases h3
    rw [if_neg e3] at hm
    rw [if_neg e3, if_neg e15]
    unfold kRowOf
    cases hf : kFind a v with
    | none => rw [hf] at hm; cases hm
    | some r =>
      have h1 := List.mem_of_find?_eq_some hf
      have h2 := List.find?_some hf
      unfold kIs at h2
      rw [Bool.and_eq_true] at h2
      have := ra_tab r h1
      rw [show r.1 = a by simpa using h2.1, show r.2.1 = v by simpa using h2.2] at this
      exact this
/-- Keys that can be typed come back. -/
theorem ra_keys (K : List Ky) (h : ∀ k ∈ K, tyB k = true) : raR 50 ([], false) (iyL K) = (([], false), K) := by
  induction K with
  | nil => rfl
  | cons k K ih =>
    have hk := h k (List.mem_cons_self ..)
    have hkb : keyB k = true := by unfold tyB at hk; rw [Bool.and_eq_true, Bool.and_eq_true] at hk; exact hk.1.1
    have e : iyL (k :: K) = iyK k ++ iyL K := by unfold iyL; rw [List.flatMap_cons, if_pos hkb]
    rw [e, ra_app, ra_key k hk, ih (fun x hx => h x (List.mem_cons_of_mem _ hx))]
    rfl
end Go.Proofs.YtmnjafceenckpaaDoor
set_option linter.unusedVariables false
set_option linter.unusedSimpArgs false
namespace Go.Proofs.YtmnjafceenckpaaDoor
open Go.RowKit
theorem biL_len (l : List UInt8) : (biL l).length = l.length := by unfold biL; rw [List.length_map]
/-- The items of one key. -/
def iy1 (k : Ky) : List It := if keyB k = true then biL (byR k) ++ [(true, 0)] else []
theorem iyL_snoc (K : List Ky) (k : Ky) : iyL (K ++ [k]) = iyL K ++ iy1 k := by
  unfold iyL
  rw [List.flatMap_append, List.flatMap_singleton]
  rfl
theorem iy1_len (k : Ky) (h : (byR k).length ≤ 62) : (iy1 k).length ≤ 63 := by
  unfold iy1
  split
  · rw [List.length_append, biL_len, List.length_singleton]; omega
  · simp
theorem iyL_len (K : List Ky) (h : ∀ k ∈ K, (byR k).length ≤ 62) : (iyL K).length ≤ 63 * K.length := by
  induction K with
  | nil => simp [iyL]
  | cons k K ih =>
    have h1 := iy1_len k (h k (List.mem_cons_self ..))
    have h2 := ih (fun x hx => h x (List.mem_cons_of_mem _ hx))
    have e : iyL (k :: K) = iy1 k ++ iyL K := by unfold iyL; rw [List.flatMap_cons]; rfl
    rw [e, List.length_append, List.length_cons]; omega
theorem mkS_mkL (l : List UInt8) : mkS l = mkL l := rfl
end Go.Proofs.YtmnjafceenckpaaDoor
set_option linter.unusedVariables false
set_option linter.unusedSimpArgs false
namespace Go.Proofs.YtmnjafceenckpaaDoor
open Go.RowKit
theorem KeptM.mono {S T : Nat → Prop} {w w' : World} (h : KeptM T w w') (hS : ∀ k, S k → T k) : KeptM S w w' := ⟨h.os, h.tape, h.output, h.size, fun k hk => h.block k (hS k hk)⟩
section
variable {S : Nat → Prop} {p : Nat} {s : IS} {w : World}
theorem US.mono {T : Nat → Prop} (h : US S w) (hT : ∀ k, S k → T k) : US T w := ⟨h.u, hT _ h.a, hT _ h.b⟩
end
def awA : List UInt8 := [27, 91, 65, 120, 27, 91, 50, 48, 48, 126, 97, 98, 99, 13, 27, 91, 50, 48, 49, 126, 13]
def awK : List Ky := [kv0 7 0, kv0 1 120, (15, 0, ⟨#[97, 98]⟩, true), kv0 4 13]
theorem aw_a : doR (in0 2) (biL awA) = (in0 2, awK) := by kernel_rfl
theorem aw_b : doR (in0 2) (biL [27]) = ({ in0 2 with wait := [27] }, []) := by kernel_rfl
theorem aw_c : itR { in0 2 with wait := [27] } (true, 0) = (in0 2, [kv0 5 0]) := by kernel_rfl
theorem aw_d : iyL [kv0 5 0] = [(false, 27), (true, 0)] := by kernel_rfl
end Go.Proofs.YtmnjafceenckpaaDoor
set_option linter.unusedVariables false
set_option linter.unusedSimpArgs false
namespace Go.Proofs.YtmnjafceenckpaaDoor
open Go.RowKit
def beL : List UInt8 := [27, 91, 50, 48, 48, 126]
def fuR (L : List UInt8) (m : Nat) (b : UInt8) : Nat := if b = L.getD m 0 then m + 1 else if b = L.getD 0 0 then 1 else 0
def mkM (ins : Bool) : List UInt8 := if ins = true then peL else beL
/-- How much of a mark stands behind an item. -/
def wkS (s : Bool × Nat) (x : It) : Nat := if x.1 = false then fuR (mkM s.1) s.2 x.2 else if s.1 = true then s.2 else 0
def wkN (s : Bool × Nat) (x : It) : Bool × Nat := if wkS s x = 6 then (!s.1, 0) else (s.1, wkS s x)
/-- What is told of an item: inside, begins, ends. -/
def wkP (s : Bool × Nat) (x : It) : Bool × Bool × Bool := (s.1, decide (wkS s x = 6) && !s.1, decide (wkS s x = 6) && s.1)
def wkA (s : Bool × Nat) : List It → Bool × Nat
  | [] => s
  | x :: l => wkA (wkN s x) l
theorem wkA_app (s : Bool × Nat) (a b : List It) : wkA s (a ++ b) = wkA (wkA s a) b := by
  induction a generalizing s with
  | nil => rfl
  | cons x a ih => exact ih _
theorem wkA_snoc (s : Bool × Nat) (a : List It) (x : It) : wkA s (a ++ [x]) = wkN (wkA s a) x := by rw [wkA_app]; rfl
theorem fuR_le {L : List UInt8} {m : Nat} (h : m < 6) (b : UInt8) : fuR L m b ≤ 6 := by
  unfold fuR
  repeat' split
  all_goals omega
theorem wkN_lt {s : Bool × Nat} (h : s.2 < 6) (x : It) : (wkN s x).2 < 6 := by
  have h1 : wkS s x ≤ 6 := by
    unfold wkS
    split
    · exact fuR_le h _
    · split <;> omega
  unfold wkN
  split
  · show 0 < 6; omega
  · rename_i h2; show wkS s x < 6; omega
theorem wkA_lt {s : Bool × Nat} (h : s.2 < 6) (l : List It) : (wkA s l).2 < 6 := by
  induction l generalizing s with
  | nil => exact h
  | cons x l ih => exact ih (wkN_lt h x)
/-- What is told of the item at a place. -/
def plA (l : List It) (i : Nat) : Bool × Bool × Bool := wkP (wkA (false, 0) (l.take i)) (l.getD i (false, 0))
theorem further_any (L : List UInt8) (hL : L.length = 6) (m : Nat) (hm : m < 6) (b : UInt8) (w : World) :
    Calls Tryd.prog 48 #[.string (mkL L), .int .i64 (m : Int), .int .u8 (b.toNat : Int)] w fun e w' => e = .returned (.int .i64 (fuR L m b : Int)) ∧ w = w' := by
  have i1 := fun w => idx_run L m (by omega) w
  have i0 := fun w => idx_run L 0 (by omega) w
  rw [show ((0 : Nat) : Int) = 0 from rfl] at i0
  unfold fuR
  by_cases h1 : b = L.getD m 0
  · rw [if_pos h1, h1]
    go_enter Tryd.func48, Tryd.ntmps48
    go_wp2
    go_ret
    exact ⟨rfl, rfl⟩
  · have e1 : ((b.toNat : Int) == ((L.getD m 0).toNat : Int)) = false := by
      have : b.toNat ≠ (L.getD m 0).toNat := fun e => h1 (UInt8.toNat_inj.1 e)
      rw [beq_eq_false_iff_ne]; omega
    rw [if_neg h1]
    by_cases h2 : b = L.getD 0 0
    · rw [if_pos h2]
      have e2 : ((b.toNat : Int) == ((L.getD 0 0).toNat : Int)) = true := by rw [h2]; simp
      clear h1 h2
      generalize (L.getD m 0).toNat = x at *
      generalize (L.getD 0 0).toNat = y at *
      generalize b.toNat = z at *
      go_enter Tryd.func48, Tryd.ntmps48
      go_wp2
      go_ret
      exact ⟨rfl, rfl⟩
    · rw [if_neg h2]
      have e2 : ((b.toNat : Int) == ((L.getD 0 0).toNat : Int)) = false := by
        have : b.toNat ≠ (L.getD 0 0).toNat := fun e => h2 (UInt8.toNat_inj.1 e)
        rw [beq_eq_false_iff_ne]; omega
      clear h1 h2
      generalize (L.getD m 0).toNat = x at *
      generalize (L.getD 0 0).toNat = y at *
      generalize b.toNat = z at *
      go_enter Tryd.func48, Tryd.ntmps48
      go_wp2
      go_ret
      exact ⟨rfl, rfl⟩
theorem other_any (ins : Bool) (w : World) : Calls Tryd.prog 49 #[.string (mkL (mkM ins))] w fun e w' => e = .returned (.string (mkL (mkM (!ins)))) ∧ w = w' := by
  cases ins
  · rw [show mkL (mkM false) = ⟨#[27, 91, 50, 48, 48, 126]⟩ from rfl, show mkL (mkM (!false)) = ⟨#[27, 91, 50, 48, 49, 126]⟩ from rfl]
    go_enter Tryd.func49, Tryd.ntmps49
    go_wp2
    go_ret
    exact ⟨rfl, rfl⟩
  · rw [show mkL (mkM true) = ⟨#[27, 91, 50, 48, 49, 126]⟩ from rfl, show mkL (mkM (!true)) = ⟨#[27, 91, 50, 48, 48, 126]⟩ from rfl]
    go_enter Tryd.func49, Tryd.ntmps49
    go_wp2
    go_ret
    exact ⟨rfl, rfl⟩
end Go.Proofs.YtmnjafceenckpaaDoor
