/-
  Joined: Ct0 Ct1.
-/
import Derived.Test.YteolfbamcehcpaaDoorKy7
import Derived.Test.YteolfbamcehcpaaDoorKy16
set_option maxRecDepth 100000
set_option linter.unusedVariables false
set_option linter.unusedSimpArgs false
namespace Go.Proofs.YteolfbamcehcpaaDoor
set_option linter.unusedVariables false
set_option linter.unusedSimpArgs false
open Go.RowKit
/-- A count: whether it has begun, and has digits; its number; whether it is below 0. -/
abbrev Cs := Bool × Bool × Int × Bool
def cs0 : Cs := (false, false, 0, false)
def csBg (s : Cs) : Bool := decide (s ≠ cs0)
def csWith (s : Cs) (d : Int) : Cs := (true, true, min (s.2.2.1 * 10 + d) 9999, s.2.2.2)
def csMinus (s : Cs) : Cs := (true, s.2.1, s.2.2.1, !s.2.2.2)
def csStep (s : Cs) (b : UInt8) : Cs := if b = 45 then csMinus s else csWith s ((b.toNat : Int) - 48)
def csOf (l : List UInt8) : Cs := l.foldl csStep cs0
def csNum (s : Cs) : Int := if s.2.1 then s.2.2.1 else 1
def csVal (s : Cs) : Int := if csBg s then (if s.2.2.2 then -csNum s else csNum s) else 1
def rdB (k : Ky) (kind : Int) : Bool := decide (k.1 = kind ∧ 48 ≤ k.2.1 ∧ k.2.1 ≤ 57)
def rdV (k : Ky) (kind : Int) : Int := if rdB k kind then k.2.1 - 48 else 0
def doC (s : Cs) (k : Ky) : Cs × Bool :=
  if keyB k = false then (s, false)
  else if rdB k 3 = true then (csWith s (k.2.1 - 48), true)
  else if rdB k 1 = true ∧ csBg s = true then (csWith s (k.2.1 - 48), true)
  else if k.1 = 3 ∧ k.2.1 = 45 ∧ s.2.1 = false then (csMinus s, true)
  else (s, false)
def dash (l : List UInt8) : Bool := l.all (· == 45)
def doR (l : List UInt8) (k : Ky) : List UInt8 × Bool :=
  if (k.1 ≠ 3 ∧ (k.1 ≠ 1 ∨ l = [])) ∨ k.2.2.1 ≠ ⟨#[]⟩ ∨ k.2.2.2 = true then (l, false)
  else if 48 ≤ k.2.1 ∧ k.2.1 ≤ 57 then (l ++ [k.2.1.toNat.toUInt8], true)
  else if k.1 ≠ 3 ∨ k.2.1 ≠ 45 then (l, false)
  else if dash l then (l ++ [45], true) else (l, false)
/-- The bytes of a count: lines, and digits. -/
def CsG (l : List UInt8) : Prop := ∀ b ∈ l, b = 45 ∨ (48 ≤ b.toNat ∧ b.toNat ≤ 57)
theorem CsG.snoc {l : List UInt8} {b : UInt8} (h : CsG l) (hb : b = 45 ∨ (48 ≤ b.toNat ∧ b.toNat ≤ 57)) : CsG (l ++ [b]) := fun x hx => by
  rcases List.mem_append.1 hx with hx | hx
  · exact h x hx
  · rw [List.mem_singleton] at hx; subst hx; exact hb
theorem csOf_snoc (l : List UInt8) (b : UInt8) : csOf (l ++ [b]) = csStep (csOf l) b := by unfold csOf; rw [List.foldl_append]; rfl
theorem csStep_begun (s : Cs) (b : UInt8) : (csStep s b).1 = true := by unfold csStep; split <;> rfl
theorem csOf_nil : csOf [] = cs0 := rfl
theorem snoc_cases {α : Type} (l : List α) : l = [] ∨ ∃ r x, l = r ++ [x] := by
  rcases List.eq_nil_or_concat l with h | ⟨r, x, h⟩
  · exact Or.inl h
  · exact Or.inr ⟨r, x, by rw [h, List.concat_eq_append]⟩
theorem cs_bg (l : List UInt8) : csBg (csOf l) = decide (l ≠ []) := by
  rcases snoc_cases l with rfl | ⟨r, x, rfl⟩
  · decide
  · have h := csStep_begun (csOf r) x
    rw [csOf_snoc]
    unfold csBg
    rw [decide_eq_true (show csStep (csOf r) x ≠ cs0 from fun e => by rw [e] at h; cases h), decide_eq_true (by simp)]
theorem cs_digits (l : List UInt8) : (csOf l).2.1 = !dash l := by
  have key : ∀ n (l : List UInt8), l.length = n → (csOf l).2.1 = !dash l := by
    intro n
    induction n with
    | zero => intro l hl; rw [List.length_eq_zero_iff] at hl; subst hl; rfl
    | succ n ih =>
      intro l hl
      rcases snoc_cases l with rfl | ⟨r, x, rfl⟩
      · cases hl
      · have := ih r (by simpa using hl)
        rw [csOf_snoc]
        unfold csStep dash
        rw [List.all_append]
        by_cases h : x = 45
        · rw [if_pos h]; show (csOf r).2.1 = _; rw [this, h]; unfold dash; simp
        · rw [if_neg h]; show true = _; simp [h]
  exact key _ l rfl
theorem cs_num {l : List UInt8} (h : CsG l) : 0 ≤ (csOf l).2.2.1 ∧ (csOf l).2.2.1 ≤ 9999 := by
  have key : ∀ n (l : List UInt8), l.length = n → CsG l → 0 ≤ (csOf l).2.2.1 ∧ (csOf l).2.2.1 ≤ 9999 := by
    intro n
    induction n with
    | zero => intro l hl _; rw [List.length_eq_zero_iff] at hl; subst hl; exact ⟨by decide, by decide⟩
    | succ n ih =>
      intro l hl hg
      rcases snoc_cases l with rfl | ⟨r, x, rfl⟩
      · cases hl
      · have := ih r (by simpa using hl) (fun b hb => hg b (List.mem_append_left _ hb))
        have hx := hg x (by simp)
        rw [csOf_snoc]
        unfold csStep
        by_cases hd : x = 45
        · rw [if_pos hd]; exact this
        · rw [if_neg hd]
          rcases hx with hx | hx
          · exact absurd hx hd
          · show 0 ≤ min ((csOf r).2.2.1 * 10 + ((x.toNat : Int) - 48)) 9999 ∧ min ((csOf r).2.2.1 * 10 + ((x.toNat : Int) - 48)) 9999 ≤ 9999
            omega
  exact key _ l rfl h
theorem cs_val {l : List UInt8} (h : CsG l) : -9999 ≤ csVal (csOf l) ∧ csVal (csOf l) ≤ 9999 := by
  have := cs_num h
  unfold csVal csNum
  repeat' split
  all_goals omega
theorem u8_digit {v : Int} (h0 : 48 ≤ v) (h1 : v ≤ 57) : ((v.toNat.toUInt8).toNat : Int) = v ∧ v.toNat.toUInt8 ≠ 45 := by
  have e := u8_of v (by omega) (by omega)
  refine ⟨e, fun h => ?_⟩
  rw [h] at e
  have : ((45 : UInt8).toNat : Int) = 45 := by decide
  omega
/-- A key's text and cut, where its kind is a sign's or a meta's. -/
theorem key_plain {k : Ky} (h : keyB k = true) (hk : k.1 = 3 ∨ k.1 = 1) : k.2.2.1 = ⟨#[]⟩ ∧ k.2.2.2 = false := by
  have hf := kyF_of h
  cases hf with
  | paste t c h => rcases hk with h | h <;> cases h
  | sign => exact ⟨rfl, rfl⟩
  | ctrl => exact ⟨rfl, rfl⟩
  | meta1 => exact ⟨rfl, rfl⟩
  | meta0 => exact ⟨rfl, rfl⟩
  | named => exact ⟨rfl, rfl⟩
theorem do_both (l : List UInt8) (k : Ky) (h : keyB k = true) : doC (csOf l) k = (csOf (doR l k).1, (doR l k).2) := by
  have hbg := cs_bg l
  have hdg := cs_digits l
  unfold doC
  rw [if_neg (by rw [h]; decide)]
  by_cases h3 : k.1 = 3
  · have ⟨ht, hc⟩ := key_plain h (Or.inl h3)
    have hr1 : ¬ ((k.1 ≠ 3 ∧ (k.1 ≠ 1 ∨ l = [])) ∨ k.2.2.1 ≠ ⟨#[]⟩ ∨ k.2.2.2 = true) := by simp [h3, ht, hc]
    unfold doR
    rw [if_neg hr1]
    by_cases hd : 48 ≤ k.2.1 ∧ k.2.1 ≤ 57
    · rw [if_pos (show rdB k 3 = true from decide_eq_true ⟨h3, hd⟩), if_pos hd]
      have ⟨e1, e2⟩ := u8_digit hd.1 hd.2
      show _ = (csOf (l ++ [k.2.1.toNat.toUInt8]), true)
      rw [csOf_snoc]; unfold csStep; rw [if_neg e2, e1]
    · rw [if_neg (show ¬ rdB k 3 = true from fun hh => hd (of_decide_eq_true hh).2), if_neg hd, if_neg (show ¬ (rdB k 1 = true ∧ csBg (csOf l) = true) from fun hh => by have := (of_decide_eq_true hh.1).1; omega)]
      by_cases h45 : k.2.1 = 45
      · rw [if_neg (show ¬ (k.1 ≠ 3 ∨ k.2.1 ≠ 45) by simp [h3, h45])]
        cases hds : dash l with
        | true =>
          rw [if_pos ⟨h3, h45, by rw [hdg, hds]; rfl⟩, if_pos rfl]
          show _ = (csOf (l ++ [45]), true)
          rw [csOf_snoc]; rfl
        | false =>
          rw [if_neg (show ¬ (k.1 = 3 ∧ k.2.1 = 45 ∧ (csOf l).2.1 = false) by rw [hdg, hds]; simp), if_neg (by simp)]
      · rw [if_pos (show (k.1 ≠ 3 ∨ k.2.1 ≠ 45) from Or.inr h45), if_neg (fun hh => h45 hh.2.1)]
  · have hn3 : ¬ rdB k 3 = true := fun hh => h3 (of_decide_eq_true hh).1
    rw [if_neg hn3]
    have hm : ¬ (k.1 = 3 ∧ k.2.1 = 45 ∧ (csOf l).2.1 = false) := fun hh => h3 hh.1
    by_cases h1 : k.1 = 1
    · have ⟨ht, hc⟩ := key_plain h (Or.inr h1)
      by_cases hl : l = []
      · have hr1 : (k.1 ≠ 3 ∧ (k.1 ≠ 1 ∨ l = [])) ∨ k.2.2.1 ≠ ⟨#[]⟩ ∨ k.2.2.2 = true := Or.inl ⟨h3, Or.inr hl⟩
        rw [if_neg (show ¬ (rdB k 1 = true ∧ csBg (csOf l) = true) by rw [hbg]; simp [hl]), if_neg hm]
        unfold doR
        rw [if_pos hr1]
      · have hr1 : ¬ ((k.1 ≠ 3 ∧ (k.1 ≠ 1 ∨ l = [])) ∨ k.2.2.1 ≠ ⟨#[]⟩ ∨ k.2.2.2 = true) := by simp [h1, ht, hc, hl]
        unfold doR
        rw [if_neg hr1]
        by_cases hd : 48 ≤ k.2.1 ∧ k.2.1 ≤ 57
        · rw [if_pos (show (rdB k 1 = true ∧ csBg (csOf l) = true) from ⟨decide_eq_true ⟨h1, hd⟩, by rw [hbg]; exact decide_eq_true hl⟩), if_pos hd]
          have ⟨e1, e2⟩ := u8_digit hd.1 hd.2
          show _ = (csOf (l ++ [k.2.1.toNat.toUInt8]), true)
          rw [csOf_snoc]; unfold csStep; rw [if_neg e2, e1]
        · rw [if_neg (show ¬ (rdB k 1 = true ∧ csBg (csOf l) = true) from fun hh => hd (of_decide_eq_true hh.1).2), if_neg hm, if_neg hd, if_pos (Or.inl h3)]
    · have hr1 : (k.1 ≠ 3 ∧ (k.1 ≠ 1 ∨ l = [])) ∨ k.2.2.1 ≠ ⟨#[]⟩ ∨ k.2.2.2 = true := Or.inl ⟨h3, Or.inl h1⟩
      rw [if_neg (show ¬ (rdB k 1 = true ∧ csBg (csOf l) = true) from fun hh => h1 (of_decide_eq_true hh.1).1), if_neg hm]
      unfold doR
      rw [if_pos hr1]
theorem do_bad (s : Cs) (k : Ky) (h : keyB k = false) : doC s k = (s, false) := by unfold doC; rw [if_pos h]
theorem doR_good {l : List UInt8} (k : Ky) (h : CsG l) : CsG (doR l k).1 := by
  unfold doR
  split
  · exact h
  · split
    · rename_i hd
      have ⟨e1, e2⟩ := u8_digit hd.1 hd.2
      exact h.snoc (Or.inr ⟨by omega, by omega⟩)
    · split
      · exact h
      · split
        · exact h.snoc (Or.inl rfl)
        · exact h
theorem doR_len (l : List UInt8) (k : Ky) : (doR l k).1.length ≤ l.length + 1 := by
  unfold doR
  repeat' split
  all_goals simp
end Go.Proofs.YteolfbamcehcpaaDoor
namespace Go.Proofs.YteolfbamcehcpaaDoor
open Go.RowKit
def csRow (s : Cs) : Array Value := #[.bool s.1, .bool s.2.1, .int .i64 s.2.2.1, .bool s.2.2.2]
/-- A count lies at a block. -/
def CtAt (p : Nat) (s : Cs) (w : World) : Prop := w.heap[p]? = some (.cells (csRow s) 93 (0, 0))
theorem ctnew_any (w : World) : Calls Tryd.prog 22 #[] w fun e w' => e = .returned (.pointer (some ⟨w.heap.size, 0, none⟩)) ∧ w.alloc (.cells #[.bool false, .bool false, .int .i64 0, .bool false] 93) = w' := by
  go_enter Tryd.func22, Tryd.ntmps22
  go_wp2
  go_ret
  exact ⟨rfl, rfl⟩
set_option maxHeartbeats 1000000 in
theorem neqSt (a b : Bool) (n : Int) (c a' b' : Bool) (n' : Int) (c' : Bool) (w : World) : (binOp .neq 91 (.agg #[.bool a, .bool b, .int .i64 n, .bool c]) (.agg #[.bool a', .bool b', .int .i64 n', .bool c'])).run Tryd.prog w = .ok (.bool (decide (((a, b, n, c) : Cs) ≠ (a', b', n', c')))) w := by
  by_cases h1 : a = a'
  · by_cases h2 : b = b'
    · by_cases h3 : n = n'
      · by_cases h4 : c = c'
        · subst h1; subst h2; subst h3; subst h4
          simp [go_sem]
        · simp [go_sem, h1, h2, h3, h4]
      · simp [go_sem, h1, h2, h3]
    · simp [go_sem, h1, h2]
  · simp [go_sem, h1]
theorem ctbg_any (s : Cs) (w : World) : Calls Tryd.prog 60 #[.agg #[.bool s.1, .bool s.2.1, .int .i64 s.2.2.1, .bool s.2.2.2]] w fun e w' => e = .returned (.bool (csBg s)) ∧ Below w.heap.size w w' := by
  have NE := neqSt s.1 s.2.1 s.2.2.1 s.2.2.2 false false 0 false
  rw [show decide (((s.1, s.2.1, s.2.2.1, s.2.2.2) : Cs) ≠ (false, false, 0, false)) = csBg s from rfl] at NE
  generalize csBg s = b at *
  go_enter Tryd.func60, Tryd.ntmps60
  go_wp2
  go_ret
  exact ⟨rfl, below_alloc _ _⟩
theorem ctreader_any (k : Ky) (w : World) : Calls Tryd.prog 58 #[.agg #[.int .i64 k.1, .int .i64 k.2.1, .string k.2.2.1, .bool k.2.2.2]] w fun e w' => e = .returned (.func (.func 86) #[] #[.pointer (some ⟨w.heap.size, 0, none⟩)]) ∧ w.alloc (.cells #[.int .i64 k.1, .int .i64 k.2.1, .string k.2.2.1, .bool k.2.2.2] 23) = w' := by
  have hmf : ∀ (fn : Fn) (first cap : Array Value) (w : World), (Instr.makeFunc fn first cap).run Tryd.prog w = .ok (.func fn first cap) w := fun _ _ _ _ => rfl
  go_enter Tryd.func58, Tryd.ntmps58
  go_wp2
  go_ret
  exact ⟨rfl, rfl⟩
theorem ctdigit_any (k : Ky) (kind : Int) (q : Nat) (w : World) (h0 : w.cell? ⟨q, 0, none⟩ = some (.int .i64 k.1)) (h1 : w.cell? ⟨q, 1, none⟩ = some (.int .i64 k.2.1)) : Calls Tryd.prog 86 #[.int .i64 kind, .pointer (some ⟨q, 0, none⟩)] w fun e w' => e = .returned (.tuple #[.int .i64 (rdV k kind), .bool (rdB k kind)]) ∧ w = w' := by
  have no : ¬ (k.1 = kind ∧ 48 ≤ k.2.1 ∧ k.2.1 ≤ 57) → rdB k kind = false ∧ rdV k kind = 0 := fun h => by
    have : rdB k kind = false := decide_eq_false h
    exact ⟨this, by unfold rdV; rw [this]; rfl⟩
  by_cases h : k.1 = kind
  · by_cases ha : 48 ≤ k.2.1
    · by_cases hb : k.2.1 ≤ 57
      · have e1 : rdB k kind = true := decide_eq_true ⟨h, ha, hb⟩
        have e2 : rdV k kind = k.2.1 - 48 := by unfold rdV; rw [e1]; rfl
        rw [e1, e2]
        clear no e1 e2
        subst h
        go_enter Tryd.func86, Tryd.ntmps86
        go_wp2
        go_ret2
        exact ⟨rfl, rfl⟩
      · rw [(no (by omega)).1, (no (by omega)).2]
        clear no
        subst h
        go_enter Tryd.func86, Tryd.ntmps86
        go_wp2
        go_ret2
        exact ⟨rfl, rfl⟩
    · rw [(no (by omega)).1, (no (by omega)).2]
      clear no
      subst h
      go_enter Tryd.func86, Tryd.ntmps86
      go_wp2
      go_ret2
      exact ⟨rfl, rfl⟩
  · rw [(no (by omega)).1, (no (by omega)).2]
    clear no
    go_enter Tryd.func86, Tryd.ntmps86
    go_wp2
    go_ret2
    exact ⟨rfl, rfl⟩
set_option maxHeartbeats 2000000 in
set_option maxRecDepth 100000 in
theorem ctwith_any (a b c : Bool) (n d : Int) (w : World) (hn0 : 0 ≤ n) (hn1 : n ≤ 9999) (hd0 : 0 ≤ d) (hd1 : d ≤ 9) : Calls Tryd.prog 59 #[.agg #[.bool a, .bool b, .int .i64 n, .bool c], .int .i64 d] w fun e w' => e = .returned (.agg #[.bool true, .bool true, .int .i64 (min (n * 10 + d) 9999), .bool c]) ∧ Below w.heap.size w w' := by
  go_enter Tryd.func59, Tryd.ntmps59
  go_wp2
  refine bodyPost_ret (v := .agg #[.bool true, .bool true, .int .i64 (min (n * 10 + d) 9999), .bool c]) (by simp [results, Tryd.results59, go_sem]) rfl ?_
  exact ⟨rfl, seqB (below_alloc _ _) (below_alloc _ _)⟩
end Go.Proofs.YteolfbamcehcpaaDoor
