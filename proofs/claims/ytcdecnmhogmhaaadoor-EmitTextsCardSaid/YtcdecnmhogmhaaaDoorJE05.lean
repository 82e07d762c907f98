/-
  Joined: M3 M24 M4 M5 M7.
-/
import Derived.Test.YtcdecnmhogmhaaaDoorJE02
import Derived.Test.YtcdecnmhogmhaaaDoorJE03
import Derived.Test.YtcdecnmhogmhaaaDoorJE04
import Derived.Deep.RegionHeld3
import Derived.Deep.CutRange
import Derived.Deep.QuietTactic
import Derived.BigQuiet
set_option linter.unusedVariables false
set_option linter.unusedSimpArgs false
set_option maxRecDepth 100000
set_option linter.unusedVariables false
set_option linter.unusedSimpArgs false
namespace Go.Proofs.YtcdecnmhogmhaaaDoor
open Go.RowKit
def mayAll (l : List Ot) : Bool := l.all mayP
/-- The bytes of pieces. -/
def txOut : List Ot → ByteArray
  | [] => mt
  | o :: l => bt o ++ txOut l
theorem txO_app (a b : List Ot) : txOut (a ++ b) = txOut a ++ txOut b := by
  induction a with
  | nil => exact (mt_app _).symm
  | cons x a ih => show bt x ++ txOut (a ++ b) = _; rw [ih]; show _ = bt x ++ txOut a ++ txOut b; rw [ba_asc]
theorem txO_one (o : Ot) : txOut [o] = bt o := app_mt _
/-- No two texts side by side. -/
def noad : List Ot → Bool
  | [] => true
  | o :: l => (match l with | [] => true | p :: _ => !(decide (o.1 = 0) && decide (p.1 = 0))) && noad l
/-- The pieces of a text. -/
def prs : Nat → ByteArray → Option (List Ot)
  | 0, s => if s.size = 0 then some [] else none
  | f + 1, s => if s.size = 0 then some [] else if (oneP s).2 = 0 then none else (prs f (s.extract (oneP s).2 s.size)).map ((oneP s).1 :: ·)
theorem tail_size (s : ByteArray) (n : Nat) : (s.extract n s.size).size = s.size - n := by rw [ByteArray.size_extract]; omega
theorem prs_fuel : ∀ f g s, s.size ≤ f → s.size ≤ g → prs f s = prs g s
  | 0, 0, _, _, _ => rfl
  | 0, g + 1, s, h, _ => by rw [prs, prs, if_pos (by omega), if_pos (by omega)]
  | f + 1, 0, s, _, h => by rw [prs, prs, if_pos (by omega), if_pos (by omega)]
  | f + 1, g + 1, s, h, h' => by
    rw [prs, prs]
    split
    · rfl
    · split
      · rfl
      · rename_i hn
        rw [prs_fuel f g _ (by rw [tail_size]; omega) (by rw [tail_size]; omega)]
def prsS (s : ByteArray) : Option (List Ot) := prs s.size s
theorem prsS_nil {s : ByteArray} (h : s.size = 0) : prsS s = some [] := by unfold prsS; rw [h, prs, if_pos h]
theorem prsS_none {s : ByteArray} (h : 0 < s.size) (hn : (oneP s).2 = 0) : prsS s = none := by
  unfold prsS
  obtain ⟨f, hf⟩ : ∃ f, s.size = f + 1 := ⟨s.size - 1, by omega⟩
  rw [hf, prs, if_neg (by omega), if_pos hn]
theorem prsS_some {s : ByteArray} (h : 0 < s.size) (hn : (oneP s).2 ≠ 0) : prsS s = (prsS (s.extract (oneP s).2 s.size)).map ((oneP s).1 :: ·) := by
  unfold prsS
  obtain ⟨f, hf⟩ : ∃ f, s.size = f + 1 := ⟨s.size - 1, by omega⟩
  have e : prs s.size s = prs (f + 1) s := by rw [hf]
  rw [e, prs, if_neg (by omega), if_neg hn, prs_fuel f _ _ (by rw [tail_size]; omega) (Nat.le_refl _)]
theorem prs_sound : ∀ f s L, s.size ≤ f → prs f s = some L → mayAll L = true ∧ txOut L = s ∧ noad L = true ∧ (tl s = 0 → ∀ o l, L = o :: l → o.1 ≠ 0)
  | 0, s, L, hs, h => by
    rw [prs, if_pos (by omega)] at h
    obtain rfl := Option.some.inj h
    exact ⟨rfl, (size0 (by omega)).symm, rfl, fun _ o l e => by cases e⟩
  | f + 1, s, L, hs, h => by
    rw [prs] at h
    split at h
    · rename_i h0
      obtain rfl := Option.some.inj h
      exact ⟨rfl, (size0 h0).symm, rfl, fun _ o l e => by cases e⟩
    · split at h
      · cases h
      · rename_i h0 hn
        obtain ⟨hm, hb, hle, hk⟩ := one_sound hn
        cases hr : prs f (s.extract (oneP s).2 s.size) with
        | none => rw [hr] at h; cases h
        | some R =>
          rw [hr] at h
          obtain rfl := Option.some.inj h
          obtain ⟨i1, i2, i3, i4⟩ := prs_sound f _ R (by rw [tail_size]; omega) hr
          refine ⟨?_, ?_, ?_, ?_⟩
          · unfold mayAll at i1 ⊢; rw [List.all_cons, hm, i1]; rfl
          · show bt _ ++ txOut R = s
            rw [i2, hb, ext_join s _ hle]
          · unfold noad
            rw [i3, Bool.and_true]
            cases R with
            | nil => rfl
            | cons p R' =>
              dsimp only
              by_cases h1 : (oneP s).1.1 = 0
              · have ht : tl (s.extract (oneP s).2 s.size) = 0 := by rw [(hk h1).2]; exact tl_rest s
                have := i4 ht p R' rfl
                rw [decide_eq_true h1, decide_eq_false this]; rfl
              · rw [decide_eq_false h1]; rfl
          · intro ht o l e
            obtain ⟨rfl, rfl⟩ := List.cons.inj e
            intro h1
            have := (hk h1).1; omega
theorem prsS_sound {s : ByteArray} {L : List Ot} (h : prsS s = some L) : mayAll L = true ∧ txOut L = s ∧ noad L = true := by
  obtain ⟨h1, h2, h3, _⟩ := prs_sound _ _ _ (Nat.le_refl _) h
  exact ⟨h1, h2, h3⟩
theorem prsS_full : ∀ L, mayAll L = true → noad L = true → prsS (txOut L) = some L
  | [], _, _ => rfl
  | o :: L, h1, h2 => by
    unfold mayAll at h1
    rw [List.all_cons, Bool.and_eq_true] at h1
    unfold noad at h2
    rw [Bool.and_eq_true] at h2
    have hp := bt_pos h1.1
    have ht : o.1 = 0 → tl (txOut L) = 0 := fun h0 => by
      cases L with
      | nil => rfl
      | cons p L' =>
        have h3 := h2.1
        dsimp only at h3
        rw [decide_eq_true h0, Bool.true_and] at h3
        have h4 : p.1 ≠ 0 := by simpa using h3
        have h5 : mayP p = true := by have := h1.2; rw [List.all_cons, Bool.and_eq_true] at this; exact this.1
        exact bt_low h5 h4 _
    have e := one_full (txOut L) h1.1 ht
    show prsS (bt o ++ txOut L) = _
    have hs : (bt o ++ txOut L).size = (bt o).size + (txOut L).size := ByteArray.size_append
    rw [prsS_some (by omega) (by rw [e]; show (bt o).size ≠ 0; omega), e]
    dsimp only
    rw [ext_back, prsS_full L h1.2 h2.2]; rfl
/-- Joined: texts side by side are one. -/
def jn1 (acc : List Ot) (o : Ot) : List Ot :=
  match acc.getLast? with
  | some x => if o.1 = 0 ∧ x.1 = 0 then acc.dropLast ++ [(x.1, x.2.1, x.2.2.1, x.2.2.2 ++ o.2.2.2)] else acc ++ [o]
  | none => acc ++ [o]
def jn (l : List Ot) : List Ot := l.foldl jn1 []
theorem jn_snoc (l : List Ot) (o : Ot) : jn (l ++ [o]) = jn1 (jn l) o := by unfold jn; rw [List.foldl_append]; rfl
theorem snocO {P : List Ot → Prop} (h0 : P []) (h1 : ∀ l o, P l → P (l ++ [o])) : ∀ l, P l := by
  intro l
  have h : ∀ r : List Ot, P r.reverse := by
    intro r
    induction r with
    | nil => exact h0
    | cons c r ih => rw [List.reverse_cons]; exact h1 _ _ ih
  have := h l.reverse
  rwa [List.reverse_reverse] at this
theorem last_form {acc : List Ot} {x : Ot} (h : acc.getLast? = some x) : acc = acc.dropLast ++ [x] := by
  obtain ⟨ys, rfl⟩ := List.getLast?_eq_some_iff.1 h
  rw [List.dropLast_concat]
theorem jn1_cases (acc : List Ot) (o : Ot) : (∃ b x, acc = b ++ [x] ∧ o.1 = 0 ∧ x.1 = 0 ∧ jn1 acc o = b ++ [(x.1, x.2.1, x.2.2.1, x.2.2.2 ++ o.2.2.2)]) ∨ (jn1 acc o = acc ++ [o] ∧ ∀ b x, acc = b ++ [x] → ¬ (x.1 = 0 ∧ o.1 = 0)) := by
  unfold jn1
  cases h : acc.getLast? with
  | none =>
    right
    refine ⟨rfl, fun b x e => ?_⟩
    rw [e] at h; simp at h
  | some x =>
    dsimp only
    have hf := last_form h
    by_cases hk : o.1 = 0 ∧ x.1 = 0
    · left
      exact ⟨acc.dropLast, x, hf, hk.1, hk.2, by rw [if_pos hk]⟩
    · right
      refine ⟨by rw [if_neg hk], fun b y e hc => ?_⟩
      rw [e] at h
      simp at h
      subst h
      exact hk ⟨hc.2, hc.1⟩
theorem mayAll_app (a b : List Ot) : mayAll (a ++ b) = (mayAll a && mayAll b) := by unfold mayAll; rw [List.all_append]
theorem mayAll_one (o : Ot) : mayAll [o] = mayP o := by unfold mayAll; simp
theorem may_text {o : Ot} (h : mayP o = true) (hk : o.1 = 0) : o = (0, 0, 0, o.2.2.2) ∧ 0 < o.2.2.2.size ∧ allW o.2.2.2 = true := by
  have hpc := pc_of h
  cases hpc with
  | text t h1 h2 => exact ⟨rfl, h1, h2⟩
  | move n m h1 h2 h3 h4 => exact absurd hk (show ¬ (1 : Int) = 0 by decide)
  | looks n h1 h2 => exact absurd hk (show ¬ (4 : Int) = 0 by decide)
  | _ => exact absurd hk (by decide)
theorem jn_may : ∀ l, mayAll l = true → mayAll (jn l) = true := by
  refine snocO (fun _ => rfl) (fun l o ih h => ?_)
  rw [mayAll_app, Bool.and_eq_true, mayAll_one] at h
  have hj := ih h.1
  rw [jn_snoc]
  rcases jn1_cases (jn l) o with ⟨b, x, e, h1, h2, e2⟩ | ⟨e2, _⟩
  · rw [e2, mayAll_app, mayAll_one]
    rw [e, mayAll_app, mayAll_one, Bool.and_eq_true] at hj
    obtain ⟨ex, x1, x2⟩ := may_text hj.2 h2
    obtain ⟨eo, o1, o2⟩ := may_text h.2 h1
    rw [hj.1, Bool.true_and]
    have e1 : x.2.1 = 0 ∧ x.2.2.1 = 0 := by rw [ex]; exact ⟨rfl, rfl⟩
    rw [h2, e1.1, e1.2]
    exact may_of (.text _ (by rw [ByteArray.size_append]; omega) (allW_app x2 o2))
  · rw [e2, mayAll_app, mayAll_one, hj, h.2]; rfl
theorem jn_tx : ∀ l, txOut (jn l) = txOut l := by
  refine snocO rfl (fun l o ih => ?_)
  rw [jn_snoc, txO_app, txO_one, ← ih]
  rcases jn1_cases (jn l) o with ⟨b, x, e, h1, h2, e2⟩ | ⟨e2, _⟩
  · rw [e2, e, txO_app, txO_app, txO_one, txO_one, ba_asc]
    congr 1
    obtain ⟨k, n, m, t⟩ := o
    obtain ⟨k', n', m', t'⟩ := x
    dsimp only at h1 h2 ⊢
    subst h1; subst h2
    rw [by_text, by_text, by_text]
  · rw [e2, txO_app, txO_one]
theorem noad_snoc : ∀ (b : List Ot) (o : Ot), noad (b ++ [o]) = true ↔ (noad b = true ∧ ∀ c x, b = c ++ [x] → ¬ (x.1 = 0 ∧ o.1 = 0))
  | [], o => by simp [noad]
  | [y], o => by
    simp only [List.cons_append, List.nil_append, noad, Bool.and_true, Bool.true_and]
    constructor
    · intro h
      refine ⟨trivial, fun c x e => ?_⟩
      have hcx : y = x := by
        cases c with
        | nil => simpa using e
        | cons a c => have := congrArg List.length e; simp at this
      subst hcx
      simp at h
      exact fun hc => h.elim (fun h => h hc.1) (fun h => h hc.2)
    · intro h
      have := h.2 [] y rfl
      simp
      by_cases h1 : y.1 = 0
      · exact Or.inr fun h2 => this ⟨h1, h2⟩
      · exact Or.inl h1
  | y :: z :: b, o => by
    have ih := noad_snoc (z :: b) o
    have e1 : noad (y :: z :: b ++ [o]) = (!(decide (y.1 = 0) && decide (z.1 = 0)) && noad (z :: b ++ [o])) := rfl
    have e2 : noad (y :: z :: b) = (!(decide (y.1 = 0) && decide (z.1 = 0)) && noad (z :: b)) := rfl
    rw [e1, e2, Bool.and_eq_true, Bool.and_eq_true, ih]
    constructor
    · rintro ⟨h1, h2, h3⟩
      refine ⟨⟨h1, h2⟩, fun c x e => ?_⟩
      cases c with
      | nil => have := congrArg List.length e; simp at this
      | cons a c =>
        rw [List.cons_append] at e
        exact h3 c x (List.cons.inj e).2
    · rintro ⟨⟨h1, h2⟩, h3⟩
      exact ⟨h1, h2, fun c x e => h3 (y :: c) x (by rw [List.cons_append, e])⟩
theorem jn_noad : ∀ l, noad (jn l) = true := by
  refine snocO rfl (fun l o ih => ?_)
  rw [jn_snoc]
  rcases jn1_cases (jn l) o with ⟨b, x, e, h1, h2, e2⟩ | ⟨e2, h3⟩
  · rw [e2, noad_snoc]
    rw [e, noad_snoc] at ih
    exact ⟨ih.1, fun c y hy => ih.2 c y hy⟩
  · rw [e2, noad_snoc]; exact ⟨ih, h3⟩
theorem jn_id : ∀ l, noad l = true → jn l = l := by
  refine snocO (fun _ => rfl) (fun l o ih h => ?_)
  rw [noad_snoc] at h
  rw [jn_snoc, ih h.1]
  rcases jn1_cases l o with ⟨b, x, e, h1, h2, e2⟩ | ⟨e2, h3⟩
  · exact absurd ⟨h2, h1⟩ (h.2 b x e)
  · exact e2
/-- The bytes of pieces, read again. -/
theorem prs_text {l : List Ot} (h : mayAll l = true) : prsS (txOut l) = some (jn l) := by
  rw [← jn_tx l]; exact prsS_full _ (jn_may l h) (jn_noad l)
theorem prs_join {s : ByteArray} {L : List Ot} (h : prsS s = some L) : jn L = L := jn_id L (prsS_sound h).2.2
theorem prs_both {s t : ByteArray} {L M : List Ot} (h : prsS s = some L) (h2 : prsS t = some M) : prsS (s ++ t) = some (jn (L ++ M)) := by
  obtain ⟨a1, a2, _⟩ := prsS_sound h
  obtain ⟨b1, b2, _⟩ := prsS_sound h2
  rw [← a2, ← b2, ← txO_app]
  exact prs_text (by rw [mayAll_app, a1, b1]; rfl)
/-- How many columns a text has. -/
def colW (t : ByteArray) : Int := ((valsS t).map wid).sum
theorem colW_app {t r : ByteArray} (h : allW t = true) : colW (t ++ r) = colW t + colW r := by unfold colW; rw [vals_join t r (allW_pt h), List.map_append, List.sum_append]
theorem wid_nn (v : Int) : 0 ≤ wid v ∧ wid v ≤ 2 := by unfold wid; split; omega; split <;> omega
theorem sum_wid (l : List Int) : 0 ≤ (l.map wid).sum ∧ (l.map wid).sum ≤ 2 * l.length := by
  induction l with
  | nil => exact ⟨Int.le_refl _, Int.le_refl _⟩
  | cons x l ih => have := wid_nn x; rw [List.map_cons, List.sum_cons, List.length_cons]; omega
theorem colW_rng (t : ByteArray) : 0 ≤ colW t ∧ colW t ≤ 2 * t.size := by
  have h := sum_wid (valsS t); have h2 := valsS_len t; unfold colW; omega
/-- A run of columns. -/
def fl (c : Int) : List Ot := if 0 < c then [(0, c, 0, mt)] else []
/-- The skeleton's making: bones, and columns of the run under way. -/
def sk1 (q : List Ot × Int) (o : Ot) : List Ot × Int := if o.1 = 0 then (q.1, q.2 + colW o.2.2.2) else (q.1 ++ fl q.2 ++ [o], 0)
def skS (l : List Ot) : List Ot × Int := l.foldl sk1 ([], 0)
def skE (l : List Ot) : List Ot := (skS l).1 ++ fl (skS l).2
def bone (o : Ot) : List Ot := if o.1 ≠ 0 then [o] else fl (colW o.2.2.2)
def skR (l : List Ot) : List Ot := (jn l).flatMap bone
theorem skS_snoc (l : List Ot) (o : Ot) : skS (l ++ [o]) = sk1 (skS l) o := by unfold skS; rw [List.foldl_append]; rfl
theorem sk_inv : ∀ l, mayAll l = true → (skE l = skR l ∧ (∀ b x, jn l = b ++ [x] → x.1 = 0 → (skS l).1 = b.flatMap bone ∧ (skS l).2 = colW x.2.2.2) ∧ ((∀ b x, jn l = b ++ [x] → x.1 ≠ 0) → (skS l).1 = skR l ∧ (skS l).2 = 0)) := by
  refine snocO (fun _ => ⟨rfl, fun b x e => by simp [jn] at e, fun _ => ⟨rfl, rfl⟩⟩) (fun l o ih h => ?_)
  rw [mayAll_app, Bool.and_eq_true, mayAll_one] at h
  obtain ⟨i1, i2, i3⟩ := ih h.1
  have hj := jn_may l h.1
  by_cases hk : o.1 = 0
  · -- a text
    rcases jn1_cases (jn l) o with ⟨b, x, e, h1, h2, e2⟩ | ⟨e2, h3⟩
    · obtain ⟨j1, j2⟩ := i2 b x e h2
      rw [e, mayAll_app, mayAll_one, Bool.and_eq_true] at hj
      obtain ⟨_, _, x2⟩ := may_text hj.2 h2
      have es : skS (l ++ [o]) = (b.flatMap bone, colW (x.2.2.2 ++ o.2.2.2)) := by
        rw [skS_snoc]; unfold sk1; rw [if_pos hk, j1, j2, colW_app x2]
      have ej : jn (l ++ [o]) = b ++ [(x.1, x.2.1, x.2.2.1, x.2.2.2 ++ o.2.2.2)] := by rw [jn_snoc, e2]
      refine ⟨?_, ?_, ?_⟩
      · unfold skE skR
        rw [es, ej, List.flatMap_append]
        simp [bone, h2]
      · intro c y ec hy
        rw [ej] at ec
        obtain ⟨rfl, e4⟩ := List.append_inj' ec rfl
        obtain rfl := (List.cons.inj e4).1
        rw [es]; exact ⟨rfl, rfl⟩
      · intro hn
        exact absurd h2 (hn b (x.1, x.2.1, x.2.2.1, x.2.2.2 ++ o.2.2.2) ej)
    · have hnt : ∀ b x, jn l = b ++ [x] → x.1 ≠ 0 := fun b x e hx => h3 b x e ⟨hx, hk⟩
      obtain ⟨j1, j2⟩ := i3 hnt
      have es : skS (l ++ [o]) = (skR l, colW o.2.2.2) := by
        rw [skS_snoc]; unfold sk1; rw [if_pos hk, j1, j2, Int.zero_add]
      have ej : jn (l ++ [o]) = jn l ++ [o] := by rw [jn_snoc, e2]
      refine ⟨?_, ?_, ?_⟩
      · unfold skE
        rw [es]
        unfold skR
        rw [ej, List.flatMap_append]
        simp [bone, hk]
      · intro c y ec hy
        rw [ej] at ec
        obtain ⟨rfl, e4⟩ := List.append_inj' ec rfl
        obtain rfl := (List.cons.inj e4).1
        rw [es]; exact ⟨rfl, rfl⟩
      · intro hn
        exact absurd hk (hn _ _ ej)
  · have ej : jn (l ++ [o]) = jn l ++ [o] := by
      rw [jn_snoc]
      rcases jn1_cases (jn l) o with ⟨b, x, e, h1, h2, e2⟩ | ⟨e2, h3⟩
      · exact absurd h1 hk
      · exact e2
    have es : skS (l ++ [o]) = (skR l ++ [o], 0) := by
      rw [skS_snoc]; unfold sk1; rw [if_neg hk]
      show ((skS l).1 ++ fl (skS l).2 ++ [o], (0 : Int)) = _
      have : (skS l).1 ++ fl (skS l).2 = skR l := i1
      rw [this]
    have er : skR (l ++ [o]) = skR l ++ [o] := by
      unfold skR; rw [ej, List.flatMap_append]; simp [bone, hk]
    refine ⟨?_, ?_, ?_⟩
    · unfold skE; rw [es, er]; simp [fl]
    · intro c y ec hy
      rw [ej] at ec
      obtain ⟨rfl, e4⟩ := List.append_inj' ec rfl
      obtain rfl := (List.cons.inj e4).1
      exact absurd hy hk
    · intro _; rw [es, er]; exact ⟨rfl, rfl⟩
theorem sk_eq {l : List Ot} (h : mayAll l = true) : skE l = skR l := (sk_inv l h).1
end Go.Proofs.YtcdecnmhogmhaaaDoor
set_option linter.unusedVariables false
set_option linter.unusedSimpArgs false
namespace Go.Proofs.YtcdecnmhogmhaaaDoor
open Go.RowKit
/-- May a byte stand ahead of others? -/
def okC (c : Nat) (nx : Option UInt8) : Bool := decide (c ≠ 127) && (decide (32 ≤ c) || decide (c = 7) || decide (c = 10) || decide (c = 13) || (decide (c = 27) && decide (nx = some 91)))
def okL : List UInt8 → Bool
  | [] => true
  | c :: l => okC c.toNat l.head? && okL l
theorem okL_app : ∀ (a b : List UInt8), okL a = true → okL b = true → okL (a ++ b) = true
  | [], b, _, h => h
  | c :: a, b, h, h2 => by
    rw [okL, Bool.and_eq_true] at h
    rw [List.cons_append, okL, Bool.and_eq_true]
    refine ⟨?_, okL_app a b h.2 h2⟩
    cases a with
    | cons d a => exact h.1
    | nil =>
      have h1 : okC c.toNat none = true := h.1
      show okC c.toNat b.head? = true
      unfold okC at h1 ⊢
      generalize c.toNat = x at *
      simp at h1 ⊢
      exact ⟨h1.1, Or.inl h1.2⟩
theorem okL_hi : ∀ l : List UInt8, (∀ c ∈ l, 32 ≤ c.toNat ∧ c.toNat ≠ 127) → okL l = true
  | [], _ => rfl
  | c :: l, h => by
    rw [okL, okL_hi l fun d hd => h d (List.mem_cons_of_mem _ hd), Bool.and_true]
    have := h c List.mem_cons_self
    unfold okC
    rw [decide_eq_true this.2, decide_eq_true this.1]; rfl
theorem okL_at : ∀ (l : List UInt8) (i : Nat), okL l = true → i < l.length → okC (l.getD i 0).toNat l[i + 1]? = true
  | [], i, _, h => absurd h (by simp)
  | c :: l, 0, h, _ => by
    rw [okL, Bool.and_eq_true] at h
    have e : (c :: l)[0 + 1]? = l.head? := by cases l <;> rfl
    rw [e]; exact h.1
  | c :: l, i + 1, h, hi => by
    rw [okL, Bool.and_eq_true] at h
    exact okL_at l i h.2 (by simpa using hi)
theorem shwB_rng {v : Int} (h : shwB v = true) : 32 ≤ v ∧ v ≠ 127 := by
  have h1 : ¬ v < 32 := fun hv => by rw [shwB_low v hv] at h; cases h
  refine ⟨by omega, fun e => ?_⟩
  subst e
  have : shwB 127 = false := by decide
  rw [this] at h; cases h
theorem oneI_hi {v : Int} (h : shwB v = true) : ∀ x ∈ oneI v, 32 ≤ x ∧ x ≠ 127 := by
  obtain ⟨h1, h2⟩ := shwB_rng h
  have hp := shwB_pt h
  have hle := pt_le hp
  rw [oneI_pt hp]
  intro x hx
  unfold Lib.encodeRuneZ at hx
  repeat' split at hx
  all_goals simp at hx; omega
theorem text_ok {t : ByteArray} (h : allW t = true) : ∀ c ∈ bL t, 32 ≤ c.toNat ∧ c.toNat ≠ 127 := by
  intro c hc
  have h1 : (c.toNat : Int) ∈ bytesOf t := by rw [bytesOf_bL]; exact List.mem_map.2 ⟨c, hc, rfl⟩
  rw [← enc_vals] at h1
  unfold encI at h1
  obtain ⟨v, hv, hx⟩ := List.mem_flatMap.1 h1
  have := oneI_hi (List.all_eq_true.1 h v hv) _ hx
  omega
theorem dec_bytes (n : Int) (h1 : 1 ≤ n) (h2 : n ≤ 1000) : ∀ c ∈ decS n, 32 ≤ c.toNat ∧ c.toNat < 127 := by
  have key : ∀ k : Fin 1001, ((decS (k.val : Int)).all fun c => decide (32 ≤ c.toNat) && decide (c.toNat < 127)) = true := by decide +kernel
  obtain ⟨k, rfl⟩ := Int.eq_ofNat_of_zero_le (show 0 ≤ n by omega)
  intro c hc
  have h := List.all_eq_true.1 (key ⟨k, by omega⟩) c hc
  simpa using h
theorem piece_ok {o : Ot} (h : mayP o = true) : okL (byL o) = true ∧ (o.1 ≠ 0 → ∀ c ∈ byL o, c.toNat < 127) := by
  have hpc := pc_of h
  cases hpc with
  | text t h1 h2 => exact ⟨okL_hi _ (text_ok h2), fun e => absurd rfl e⟩
  | move n m h1 h2 h3 h4 =>
    have hb := dec_bytes n h1 h2
    have hc := dec_bytes m h3 h4
    have e : byL (1, n, m, mt) = 27 :: 91 :: (decS n ++ 59 :: (decS m ++ [72])) := rfl
    rw [e]
    have hin : ∀ c ∈ 91 :: (decS n ++ 59 :: (decS m ++ [72])), 32 ≤ c.toNat ∧ c.toNat < 127 := by
      intro c hx
      rcases List.mem_cons.1 hx with rfl | hx
      · decide
      rcases List.mem_append.1 hx with hx | hx
      · exact hb c hx
      rcases List.mem_cons.1 hx with rfl | hx
      · decide
      rcases List.mem_append.1 hx with hx | hx
      · exact hc c hx
      · obtain rfl : c = 72 := by simpa using hx
        decide
    refine ⟨?_, fun _ c hx => ?_⟩
    · rw [okL, okL_hi _ fun c hx => ⟨(hin c hx).1, by have := (hin c hx).2; omega⟩]; rfl
    · rcases List.mem_cons.1 hx with rfl | hx
      · decide
      · exact (hin c hx).2
  | looks n h1 h2 =>
    obtain ⟨k, rfl⟩ := Int.eq_ofNat_of_zero_le h1
    have key : ∀ k : Fin 8, okL (byL (4, (k.val : Int), 0, mt)) = true ∧ ((byL (4, (k.val : Int), 0, mt)).all fun c => decide (c.toNat < 127)) = true := by decide +kernel
    have := key ⟨k, by omega⟩
    exact ⟨this.1, fun _ c hc => by have h := List.all_eq_true.1 this.2 c hc; simpa using h⟩
  | erase => exact ⟨by decide, fun _ => by decide⟩
  | rest => exact ⟨by decide, fun _ => by decide⟩
  | paste1 => exact ⟨by decide, fun _ => by decide⟩
  | paste0 => exact ⟨by decide, fun _ => by decide⟩
  | bell => exact ⟨by decide, fun _ => by decide⟩
  | cr => exact ⟨by decide, fun _ => by decide⟩
  | lf => exact ⟨by decide, fun _ => by decide⟩
theorem tx_ok : ∀ L, mayAll L = true → okL (bL (txOut L)) = true
  | [], _ => rfl
  | o :: L, h => by
    unfold mayAll at h
    rw [List.all_cons, Bool.and_eq_true] at h
    show okL (bL (bt o ++ txOut L)) = true
    rw [bL_app]
    unfold bt
    rw [bL_mkB]
    exact okL_app _ _ (piece_ok h.1).1 (tx_ok L h.2)
theorem enc_ascii : ∀ l : List UInt8, (∀ c ∈ l, c.toNat < 128) → encI (l.map fun c => (c.toNat : Int)) = l.map fun c => (c.toNat : Int)
  | [], _ => rfl
  | c :: l, h => by
    have hc := h c List.mem_cons_self
    rw [List.map_cons, encI_cons, enc_ascii l fun d hd => h d (List.mem_cons_of_mem _ hd)]
    have hp : ptB (c.toNat : Int) = true := (ptB_iff _).2 (Or.inl ⟨by omega, by omega⟩)
    rw [oneI_pt hp]
    unfold Lib.encodeRuneZ
    rw [if_pos (by omega)]; rfl
theorem vals_ascii (l : List UInt8) (h : ∀ c ∈ l, c.toNat < 128) : valsS (mkB l) = l.map fun c => (c.toNat : Int) := by
  have e : mkB l = encS (l.map fun c => (c.toNat : Int)) := by
    unfold encS
    rw [enc_ascii l h, ← txt_bytesOf (mkB l), bytesOf_bL, bL_mkB]
  rw [e]
  refine valsS_enc _ fun v hv => ?_
  obtain ⟨c, hc, rfl⟩ := List.mem_map.1 hv
  have := h c hc
  exact (ptB_iff _).2 (Or.inl ⟨by omega, by omega⟩)
theorem cls_ascii (v : Int) (h0 : 0 ≤ v) (h : v < 127) : cls v ≤ 4 := by
  have hr : rght v = true := by unfold rght pnt; rw [decide_eq_true (by omega)]; rfl
  unfold cls
  rw [if_neg (by rw [hr]; simp), if_neg (by omega)]
  split
  · omega
  · rw [if_neg (by omega), if_neg (by omega), if_pos (by omega)]; omega
theorem piece_vals {o : Ot} (h : mayP o = true) : ∀ v ∈ valsS (bt o), v ≤ 1114111 ∧ cls v ≤ 4 := by
  by_cases hk : o.1 = 0
  · obtain ⟨e, h1, h2⟩ := may_text h hk
    intro v hv
    rw [e, by_text] at hv
    have hs := List.all_eq_true.1 h2 v hv
    refine ⟨pt_le (shwB_pt hs), ?_⟩
    unfold shwB at hs
    simp only [Bool.and_eq_true, decide_eq_true_eq] at hs
    omega
  · intro v hv
    have hb := (piece_ok h).2 hk
    unfold bt at hv
    rw [vals_ascii _ fun c hc => by have := hb c hc; omega] at hv
    obtain ⟨c, hc, rfl⟩ := List.mem_map.1 hv
    have := hb c hc
    exact ⟨by omega, cls_ascii _ (by omega) (by omega)⟩
theorem tx_vals : ∀ L, mayAll L = true → ∀ v ∈ valsS (txOut L), cls v ≤ 4
  | [], _ => fun v hv => by rw [show txOut [] = mt from rfl, vals_mt] at hv; cases hv
  | o :: L, h => by
    unfold mayAll at h
    rw [List.all_cons, Bool.and_eq_true] at h
    intro v hv
    rw [show txOut (o :: L) = bt o ++ txOut L from rfl, vals_join _ _ fun v hv => (piece_vals h.1 v hv).1] at hv
    rcases List.mem_append.1 hv with hv | hv
    · exact (piece_vals h.1 v hv).2
    · exact tx_vals L h.2 v hv
/-- What a clean text has. -/
theorem clean_ok {s : ByteArray} (h : (prsS s).isSome = true) : okL (bL s) = true ∧ ∀ v ∈ valsS s, cls v ≤ 4 := by
  obtain ⟨L, hL⟩ := Option.isSome_iff_exists.1 h
  obtain ⟨h1, h2, _⟩ := prsS_sound hL
  rw [← h2]
  exact ⟨tx_ok L h1, tx_vals L h1⟩
end Go.Proofs.YtcdecnmhogmhaaaDoor
set_option linter.unusedVariables false
set_option linter.unusedSimpArgs false
namespace Go.Proofs.YtcdecnmhogmhaaaDoor
open Go.RowKit
/-- The tables that are read. -/
structure ET (w : World) : Prop where
  c : Tabs w
  u : UT w
theorem ET.below {w w' : World} (h : ET w) (hb : Below w.heap.size w w') : ET w' := ⟨h.c.below hb, h.u.below hb⟩
theorem enc_head {s : ByteArray} (h : 0 < s.size) : (oneI (vAt s 0).1).length = (vAt s 0).2 := by
  have h1 := enc_vals s
  rw [valsS_cons s h, encI_cons, enc_vals] at h1
  have h2 := congrArg List.length h1
  rw [List.length_append, bytesOf_size, bytesOf_size, tail_size] at h2
  have h3 := dec_pos s 0 h
  rw [← vAt_size s 0 h] at h3
  omega
theorem tl_step (s : ByteArray) (h : 0 < s.size) : tl s = if shwB (vAt s 0).1 = true then (vAt s 0).2 + tl (s.extract (vAt s 0).2 s.size) else 0 := by
  conv => lhs; unfold tl
  rw [valsS_cons s h, List.takeWhile_cons]
  split
  · rw [encI_cons, List.length_append, enc_head h]; rfl
  · rfl
theorem ext_ext (s : ByteArray) (a b : Nat) : (s.extract a s.size).extract b (s.extract a s.size).size = s.extract (a + b) s.size := bL_inj (by
  rw [bL_ext, List.take_of_length_le (Nat.le_of_eq (bL_len _)), bL_ext, bL_ext, List.drop_drop])
theorem oneS_pos {s : ByteArray} (h : 0 < s.size) : oneS s = vAt s 0 := by unfold oneS; rw [if_neg (by omega)]
theorem vAt_rng {s : ByteArray} (h : 0 < s.size) : 1 ≤ (vAt s 0).2 ∧ (vAt s 0).2 ≤ 4 ∧ (vAt s 0).2 ≤ s.size := by
  have h3 := dec_pos s 0 h
  rw [← vAt_size s 0 h] at h3
  omega
set_option maxHeartbeats 1000000 in
theorem shown_any (v : Int) (w : World) (hT : ET w) : Calls Tryd.prog 125 #[.int .i64 v] w fun e w' => e = .returned (.bool (shwB v)) ∧ Below w.heap.size w w' := by
  have O := of_any v w hT.c
  have e : shwB v = decide (1 ≤ cls v ∧ cls v ≤ 3) := by unfold shwB; simp
  rw [e]
  generalize cls v = c at *
  have HO := Lib.hid O; clear O e hT
  by_cases h1 : c = 1
  · subst h1
    go_enter Tryd.func125, Tryd.ntmps125
    go_wp2_with (go_at_call 117; refine HO.out.mono ?_; rintro e w1 ⟨rfl, hb1⟩)
    go_ret
    exact ⟨rfl, hb1⟩
  by_cases h2 : c = 2
  · subst h2
    go_enter Tryd.func125, Tryd.ntmps125
    go_wp2_with (go_at_call 117; refine HO.out.mono ?_; rintro e w1 ⟨rfl, hb1⟩)
    go_ret
    exact ⟨rfl, hb1⟩
  by_cases h3 : c = 3
  · subst h3
    go_enter Tryd.func125, Tryd.ntmps125
    go_wp2_with (go_at_call 117; refine HO.out.mono ?_; rintro e w1 ⟨rfl, hb1⟩)
    go_ret
    exact ⟨rfl, hb1⟩
  rw [decide_eq_false (by omega)]
  go_enter Tryd.func125, Tryd.ntmps125
  go_wp2_with (go_at_call 117; refine HO.out.mono ?_; rintro e w1 ⟨rfl, hb1⟩)
  go_ret
  exact ⟨rfl, hb1⟩
set_option maxHeartbeats 2000000 in
theorem textLen_any (s : ByteArray) (w : World) (hT : ET w) (hs : s.size ≤ 1000000) :
    Calls Tryd.prog 82 #[.string s] w fun e w' => e = .returned (.int .i64 (tl s : Int)) ∧ Below w.heap.size w w' := by
  have HT := Lib.hid hT; clear hT
  go_enter Tryd.func82, Tryd.ntmps82
  go_wp2
  go_loopw [3] (fun iv wr => ∃ k : Nat, k ≤ s.size ∧ iv = .int .i64 (k : Int) ∧ Hid (k + tl (s.extract k s.size) = tl s) ∧ Below w.heap.size w wr) (fun iv _ => s.size - (intOf iv).toNat)
  case atStart => exact ⟨0, Nat.zero_le _, rfl, Lib.hid (by rw [Nat.zero_add, ext_all]), Below.refl _ _⟩
  case round =>
    obtain ⟨k, hk, rfl, HE, hb⟩ := hrel
    by_cases hlt : k < s.size
    · have hk1 : (k : Int) < s.size := by omega
      have hk0 : (0 : Int) ≤ k := by omega
      have hsz := tail_size s k
      have hp : 0 < (s.extract k s.size).size := by omega
      have hstep := tl_step _ hp
      have hr := vAt_rng hp
      have O := fun w hT => one_any (s.extract k s.size) w hT (by omega)
      rw [oneS_pos hp] at O
      rw [ext_ext] at hstep
      obtain ⟨v, n, hv⟩ : ∃ v n, vAt (s.extract k s.size) 0 = (v, n) := ⟨_, _, rfl⟩
      rw [hv] at O hstep hr
      dsimp only at O hstep hr
      have hn : k + n ≤ s.size := by omega
      have hn1 : 1 ≤ n := hr.1
      have SH := fun w hT => shown_any (v : Int) w hT
      have HT1 := Lib.hid (HT.out.below hb)
      replace O := Lib.hid O
      cases hsh : shwB (v : Int)
      · rw [hsh] at SH hstep
        have HE' : Hid (tl s = k) := Lib.hid (by have := HE.out; rw [hstep] at this; simpa using this.symm)
        replace SH := Lib.hid SH
        clear hstep hv hp hsz hr hsh HE
        go_wp2_with (first
          | (go_at_call 124; refine (O.out _ HT1.out.u).mono ?_; rintro e w1 ⟨rfl, hb1⟩; have HT2 := Lib.hid (HT1.out.below hb1))
          | (go_at_call 125; refine (SH.out _ HT2.out).mono ?_; rintro e w2 ⟨rfl, hb2⟩))
        go_ret
        rw [HE'.out]
        exact ⟨rfl, (hb.trans (hb1.mono hb.size)).trans (hb2.mono (Nat.le_trans hb.size hb1.size))⟩
      · rw [hsh] at SH hstep
        have HE' : Hid ((k + n) + tl (s.extract (k + n) s.size) = tl s) := Lib.hid (by have := HE.out; rw [hstep, if_pos rfl] at this; omega)
        replace SH := Lib.hid SH
        clear hstep hv hp hsz hr hsh HE
        go_wp2_with (first
          | (go_at_call 124; refine (O.out _ HT1.out.u).mono ?_; rintro e w1 ⟨rfl, hb1⟩; have HT2 := Lib.hid (HT1.out.below hb1))
          | (go_at_call 125; refine (SH.out _ HT2.out).mono ?_; rintro e w2 ⟨rfl, hb2⟩))
        go_roundw
        case rel => exact ⟨k + n, hn, by go_num, HE', (hb.trans (hb1.mono hb.size)).trans (hb2.mono (Nat.le_trans hb.size hb1.size))⟩
        case measure => (simp [intOf]; try omega)
    · obtain rfl : k = s.size := by omega
      have HE' : Hid (tl s = s.size) := Lib.hid (by
        have := HE.out
        have h0 : s.extract s.size s.size = mt := size0 (by rw [tail_size]; omega)
        rw [h0, tl_mt] at this; omega)
      clear HE
      go_wp2
      go_ret
      rw [HE'.out]
      exact ⟨rfl, hb⟩
set_option maxHeartbeats 1000000 in
theorem eside_any (n : Int) (w : World) : Calls Tryd.prog 83 #[.int .i64 n] w fun e w' => e = .returned (.bool (sideI n)) ∧ w = w' := by
  unfold sideI
  by_cases h1 : 1 ≤ n
  · by_cases h2 : n ≤ 1000
    · rw [decide_eq_true h1, decide_eq_true h2]
      go_enter Tryd.func83, Tryd.ntmps83
      go_wp2
      go_ret
      exact ⟨rfl, rfl⟩
    · rw [decide_eq_true h1, decide_eq_false h2]
      go_enter Tryd.func83, Tryd.ntmps83
      go_wp2
      go_ret
      exact ⟨rfl, rfl⟩
  · rw [decide_eq_false h1]
    go_enter Tryd.func83, Tryd.ntmps83
    go_wp2
    go_ret
    exact ⟨rfl, rfl⟩
/-- May the first number of a piece of a kind be? -/
def numK (k n : Int) : Bool := if k = 1 then sideI n else if k = 4 then decide (0 ≤ n) && decide (n ≤ 7) else decide (n = 0) || decide (n = 1)
set_option maxHeartbeats 1000000 in
theorem number_any (k n : Int) (w : World) : Calls Tryd.prog 84 #[.int .i64 k, .int .i64 n] w fun e w' => e = .returned (.bool (numK k n)) ∧ w = w' := by
  have SI := Lib.hid (fun w => eside_any n w)
  unfold numK
  by_cases k1 : k = 1
  · subst k1
    rw [if_pos rfl]
    go_enter Tryd.func84, Tryd.ntmps84
    go_wp2_with (go_at_call 83; refine (SI.out _).mono ?_; rintro e w1 ⟨rfl, rfl⟩)
    go_ret
    exact ⟨rfl, rfl⟩
  rw [if_neg k1]
  by_cases k4 : k = 4
  · subst k4
    rw [if_pos rfl]
    by_cases h1 : 0 ≤ n
    · by_cases h2 : n ≤ 7
      · rw [decide_eq_true h1, decide_eq_true h2]
        go_enter Tryd.func84, Tryd.ntmps84
        go_wp2
        go_ret
        exact ⟨rfl, rfl⟩
      · rw [decide_eq_true h1, decide_eq_false h2]
        go_enter Tryd.func84, Tryd.ntmps84
        go_wp2
        go_ret
        exact ⟨rfl, rfl⟩
    · rw [decide_eq_false h1]
      go_enter Tryd.func84, Tryd.ntmps84
      go_wp2
      go_ret
      exact ⟨rfl, rfl⟩
  rw [if_neg k4]
  by_cases h0 : n = 0
  · subst h0
    go_enter Tryd.func84, Tryd.ntmps84
    go_wp2
    go_ret
    exact ⟨rfl, rfl⟩
  · rw [decide_eq_false h0]
    by_cases h1 : n = 1
    · subst h1
      go_enter Tryd.func84, Tryd.ntmps84
      go_wp2
      go_ret
      exact ⟨rfl, rfl⟩
    · rw [decide_eq_false h1]
      go_enter Tryd.func84, Tryd.ntmps84
      go_wp2
      go_ret
      exact ⟨by simp [h0, h1], rfl⟩
end Go.Proofs.YtcdecnmhogmhaaaDoor
set_option linter.unusedVariables false
set_option linter.unusedSimpArgs false
namespace Go.Proofs.YtcdecnmhogmhaaaDoor
open Go.RowKit
def chk (o : Ot) : Int := if mayP o = true then 0 else 2
theorem chk_yes {o : Ot} (h : mayP o = true) : chk o = 0 := by unfold chk; rw [h]; rfl
theorem chk_no {o : Ot} (h : mayP o = false) : chk o = 2 := by unfold chk; rw [h]; rfl
theorem str_ne {t : ByteArray} (h : t.size ≠ 0) : t.toList.isEmpty = false ∧ ¬ t.toList = [] := by
  have h2 : ¬ t.toList = [] := by
    rw [ByteArray.toList_eq]
    intro e
    have := congrArg List.length e
    rw [Array.length_toList] at this
    exact h this
  exact ⟨by simpa using h2, h2⟩
theorem size0' {t : ByteArray} (h : t.size = 0) : t = ⟨#[]⟩ := size0 h
theorem allW_no {t : ByteArray} (h : tl t < t.size) : allW t = false := by
  cases h2 : allW t
  · rfl
  · rw [tl_all h2] at h; omega
set_option maxHeartbeats 2000000 in
theorem check_2 (n m : Int) (t : ByteArray) (w : World) : Calls Tryd.prog 32 #[.agg #[.int .i64 2, .int .i64 n, .int .i64 m, .string t]] w fun e w' => e = .returned (.int .i64 (chk (2, n, m, t))) ∧ Below w.heap.size w w' := by
  have B0 := below_alloc w (.cells #[.int .i64 2, .int .i64 n, .int .i64 m, .string t] 61)
  by_cases ht : t.size = 0
  · obtain rfl := size0' ht
    by_cases hn : n = 0
    · subst hn
      by_cases hm : m = 0
      · subst hm
        rw [chk_yes (by rfl)]
        go_enter Tryd.func32, Tryd.ntmps32
        go_wp2
        go_ret
        first | exact ⟨rfl, B0⟩ | exact ⟨rfl, below_alloc _ _⟩ | exact ⟨rfl, B0.setCell (p := ⟨w.heap.size, 1, none⟩) (Nat.le_refl _) _⟩ | exact ⟨rfl, B0.setCell (p := ⟨w.heap.size, 2, none⟩) (Nat.le_refl _) _⟩ | exact ⟨rfl, (B0.setCell (p := ⟨w.heap.size, 2, none⟩) (Nat.le_refl _) _).setCell (p := ⟨w.heap.size, 1, none⟩) (Nat.le_refl _) _⟩
      · rw [chk_no (by simp [mayP, hm])]
        go_enter Tryd.func32, Tryd.ntmps32
        go_wp2
        go_ret
        first | exact ⟨rfl, B0⟩ | exact ⟨rfl, below_alloc _ _⟩ | exact ⟨rfl, B0.setCell (p := ⟨w.heap.size, 1, none⟩) (Nat.le_refl _) _⟩ | exact ⟨rfl, B0.setCell (p := ⟨w.heap.size, 2, none⟩) (Nat.le_refl _) _⟩ | exact ⟨rfl, (B0.setCell (p := ⟨w.heap.size, 2, none⟩) (Nat.le_refl _) _).setCell (p := ⟨w.heap.size, 1, none⟩) (Nat.le_refl _) _⟩
    · rw [chk_no (by simp [mayP, hn])]
      go_enter Tryd.func32, Tryd.ntmps32
      go_wp2
      go_ret
      first | exact ⟨rfl, B0⟩ | exact ⟨rfl, below_alloc _ _⟩ | exact ⟨rfl, B0.setCell (p := ⟨w.heap.size, 1, none⟩) (Nat.le_refl _) _⟩ | exact ⟨rfl, B0.setCell (p := ⟨w.heap.size, 2, none⟩) (Nat.le_refl _) _⟩ | exact ⟨rfl, (B0.setCell (p := ⟨w.heap.size, 2, none⟩) (Nat.le_refl _) _).setCell (p := ⟨w.heap.size, 1, none⟩) (Nat.le_refl _) _⟩
  · obtain ⟨he, he2⟩ := str_ne ht
    rw [chk_no (by simp [mayP, ht])]
    by_cases hn : n = 0
    · subst hn
      by_cases hm : m = 0
      · subst hm
        go_enter Tryd.func32, Tryd.ntmps32
        go_wp2
        go_ret
        first | exact ⟨rfl, B0⟩ | exact ⟨rfl, below_alloc _ _⟩ | exact ⟨rfl, B0.setCell (p := ⟨w.heap.size, 1, none⟩) (Nat.le_refl _) _⟩ | exact ⟨rfl, B0.setCell (p := ⟨w.heap.size, 2, none⟩) (Nat.le_refl _) _⟩ | exact ⟨rfl, (B0.setCell (p := ⟨w.heap.size, 2, none⟩) (Nat.le_refl _) _).setCell (p := ⟨w.heap.size, 1, none⟩) (Nat.le_refl _) _⟩
      · skip
        go_enter Tryd.func32, Tryd.ntmps32
        go_wp2
        go_ret
        first | exact ⟨rfl, B0⟩ | exact ⟨rfl, below_alloc _ _⟩ | exact ⟨rfl, B0.setCell (p := ⟨w.heap.size, 1, none⟩) (Nat.le_refl _) _⟩ | exact ⟨rfl, B0.setCell (p := ⟨w.heap.size, 2, none⟩) (Nat.le_refl _) _⟩ | exact ⟨rfl, (B0.setCell (p := ⟨w.heap.size, 2, none⟩) (Nat.le_refl _) _).setCell (p := ⟨w.heap.size, 1, none⟩) (Nat.le_refl _) _⟩
    · skip
      go_enter Tryd.func32, Tryd.ntmps32
      go_wp2
      go_ret
      first | exact ⟨rfl, B0⟩ | exact ⟨rfl, below_alloc _ _⟩ | exact ⟨rfl, B0.setCell (p := ⟨w.heap.size, 1, none⟩) (Nat.le_refl _) _⟩ | exact ⟨rfl, B0.setCell (p := ⟨w.heap.size, 2, none⟩) (Nat.le_refl _) _⟩ | exact ⟨rfl, (B0.setCell (p := ⟨w.heap.size, 2, none⟩) (Nat.le_refl _) _).setCell (p := ⟨w.heap.size, 1, none⟩) (Nat.le_refl _) _⟩
set_option maxHeartbeats 2000000 in
theorem check_3 (n m : Int) (t : ByteArray) (w : World) : Calls Tryd.prog 32 #[.agg #[.int .i64 3, .int .i64 n, .int .i64 m, .string t]] w fun e w' => e = .returned (.int .i64 (chk (3, n, m, t))) ∧ Below w.heap.size w w' := by
  have B0 := below_alloc w (.cells #[.int .i64 3, .int .i64 n, .int .i64 m, .string t] 61)
  by_cases ht : t.size = 0
  · obtain rfl := size0' ht
    by_cases hn : n = 0
    · subst hn
      by_cases hm : m = 0
      · subst hm
        rw [chk_yes (by rfl)]
        go_enter Tryd.func32, Tryd.ntmps32
        go_wp2
        go_ret
        first | exact ⟨rfl, B0⟩ | exact ⟨rfl, below_alloc _ _⟩ | exact ⟨rfl, B0.setCell (p := ⟨w.heap.size, 1, none⟩) (Nat.le_refl _) _⟩ | exact ⟨rfl, B0.setCell (p := ⟨w.heap.size, 2, none⟩) (Nat.le_refl _) _⟩ | exact ⟨rfl, (B0.setCell (p := ⟨w.heap.size, 2, none⟩) (Nat.le_refl _) _).setCell (p := ⟨w.heap.size, 1, none⟩) (Nat.le_refl _) _⟩
      · rw [chk_no (by simp [mayP, hm])]
        go_enter Tryd.func32, Tryd.ntmps32
        go_wp2
        go_ret
        first | exact ⟨rfl, B0⟩ | exact ⟨rfl, below_alloc _ _⟩ | exact ⟨rfl, B0.setCell (p := ⟨w.heap.size, 1, none⟩) (Nat.le_refl _) _⟩ | exact ⟨rfl, B0.setCell (p := ⟨w.heap.size, 2, none⟩) (Nat.le_refl _) _⟩ | exact ⟨rfl, (B0.setCell (p := ⟨w.heap.size, 2, none⟩) (Nat.le_refl _) _).setCell (p := ⟨w.heap.size, 1, none⟩) (Nat.le_refl _) _⟩
    · rw [chk_no (by simp [mayP, hn])]
      go_enter Tryd.func32, Tryd.ntmps32
      go_wp2
      go_ret
      first | exact ⟨rfl, B0⟩ | exact ⟨rfl, below_alloc _ _⟩ | exact ⟨rfl, B0.setCell (p := ⟨w.heap.size, 1, none⟩) (Nat.le_refl _) _⟩ | exact ⟨rfl, B0.setCell (p := ⟨w.heap.size, 2, none⟩) (Nat.le_refl _) _⟩ | exact ⟨rfl, (B0.setCell (p := ⟨w.heap.size, 2, none⟩) (Nat.le_refl _) _).setCell (p := ⟨w.heap.size, 1, none⟩) (Nat.le_refl _) _⟩
  · obtain ⟨he, he2⟩ := str_ne ht
    rw [chk_no (by simp [mayP, ht])]
    by_cases hn : n = 0
    · subst hn
      by_cases hm : m = 0
      · subst hm
        go_enter Tryd.func32, Tryd.ntmps32
        go_wp2
        go_ret
        first | exact ⟨rfl, B0⟩ | exact ⟨rfl, below_alloc _ _⟩ | exact ⟨rfl, B0.setCell (p := ⟨w.heap.size, 1, none⟩) (Nat.le_refl _) _⟩ | exact ⟨rfl, B0.setCell (p := ⟨w.heap.size, 2, none⟩) (Nat.le_refl _) _⟩ | exact ⟨rfl, (B0.setCell (p := ⟨w.heap.size, 2, none⟩) (Nat.le_refl _) _).setCell (p := ⟨w.heap.size, 1, none⟩) (Nat.le_refl _) _⟩
      · skip
        go_enter Tryd.func32, Tryd.ntmps32
        go_wp2
        go_ret
        first | exact ⟨rfl, B0⟩ | exact ⟨rfl, below_alloc _ _⟩ | exact ⟨rfl, B0.setCell (p := ⟨w.heap.size, 1, none⟩) (Nat.le_refl _) _⟩ | exact ⟨rfl, B0.setCell (p := ⟨w.heap.size, 2, none⟩) (Nat.le_refl _) _⟩ | exact ⟨rfl, (B0.setCell (p := ⟨w.heap.size, 2, none⟩) (Nat.le_refl _) _).setCell (p := ⟨w.heap.size, 1, none⟩) (Nat.le_refl _) _⟩
    · skip
      go_enter Tryd.func32, Tryd.ntmps32
      go_wp2
      go_ret
      first | exact ⟨rfl, B0⟩ | exact ⟨rfl, below_alloc _ _⟩ | exact ⟨rfl, B0.setCell (p := ⟨w.heap.size, 1, none⟩) (Nat.le_refl _) _⟩ | exact ⟨rfl, B0.setCell (p := ⟨w.heap.size, 2, none⟩) (Nat.le_refl _) _⟩ | exact ⟨rfl, (B0.setCell (p := ⟨w.heap.size, 2, none⟩) (Nat.le_refl _) _).setCell (p := ⟨w.heap.size, 1, none⟩) (Nat.le_refl _) _⟩
set_option maxHeartbeats 2000000 in
theorem check_6 (n m : Int) (t : ByteArray) (w : World) : Calls Tryd.prog 32 #[.agg #[.int .i64 6, .int .i64 n, .int .i64 m, .string t]] w fun e w' => e = .returned (.int .i64 (chk (6, n, m, t))) ∧ Below w.heap.size w w' := by
  have B0 := below_alloc w (.cells #[.int .i64 6, .int .i64 n, .int .i64 m, .string t] 61)
  by_cases ht : t.size = 0
  · obtain rfl := size0' ht
    by_cases hn : n = 0
    · subst hn
      by_cases hm : m = 0
      · subst hm
        rw [chk_yes (by rfl)]
        go_enter Tryd.func32, Tryd.ntmps32
        go_wp2
        go_ret
        first | exact ⟨rfl, B0⟩ | exact ⟨rfl, below_alloc _ _⟩ | exact ⟨rfl, B0.setCell (p := ⟨w.heap.size, 1, none⟩) (Nat.le_refl _) _⟩ | exact ⟨rfl, B0.setCell (p := ⟨w.heap.size, 2, none⟩) (Nat.le_refl _) _⟩ | exact ⟨rfl, (B0.setCell (p := ⟨w.heap.size, 2, none⟩) (Nat.le_refl _) _).setCell (p := ⟨w.heap.size, 1, none⟩) (Nat.le_refl _) _⟩
      · rw [chk_no (by simp [mayP, hm])]
        go_enter Tryd.func32, Tryd.ntmps32
        go_wp2
        go_ret
        first | exact ⟨rfl, B0⟩ | exact ⟨rfl, below_alloc _ _⟩ | exact ⟨rfl, B0.setCell (p := ⟨w.heap.size, 1, none⟩) (Nat.le_refl _) _⟩ | exact ⟨rfl, B0.setCell (p := ⟨w.heap.size, 2, none⟩) (Nat.le_refl _) _⟩ | exact ⟨rfl, (B0.setCell (p := ⟨w.heap.size, 2, none⟩) (Nat.le_refl _) _).setCell (p := ⟨w.heap.size, 1, none⟩) (Nat.le_refl _) _⟩
    · rw [chk_no (by simp [mayP, hn])]
      go_enter Tryd.func32, Tryd.ntmps32
      go_wp2
      go_ret
      first | exact ⟨rfl, B0⟩ | exact ⟨rfl, below_alloc _ _⟩ | exact ⟨rfl, B0.setCell (p := ⟨w.heap.size, 1, none⟩) (Nat.le_refl _) _⟩ | exact ⟨rfl, B0.setCell (p := ⟨w.heap.size, 2, none⟩) (Nat.le_refl _) _⟩ | exact ⟨rfl, (B0.setCell (p := ⟨w.heap.size, 2, none⟩) (Nat.le_refl _) _).setCell (p := ⟨w.heap.size, 1, none⟩) (Nat.le_refl _) _⟩
  · obtain ⟨he, he2⟩ := str_ne ht
    rw [chk_no (by simp [mayP, ht])]
    by_cases hn : n = 0
    · subst hn
      by_cases hm : m = 0
      · subst hm
        go_enter Tryd.func32, Tryd.ntmps32
        go_wp2
        go_ret
        first | exact ⟨rfl, B0⟩ | exact ⟨rfl, below_alloc _ _⟩ | exact ⟨rfl, B0.setCell (p := ⟨w.heap.size, 1, none⟩) (Nat.le_refl _) _⟩ | exact ⟨rfl, B0.setCell (p := ⟨w.heap.size, 2, none⟩) (Nat.le_refl _) _⟩ | exact ⟨rfl, (B0.setCell (p := ⟨w.heap.size, 2, none⟩) (Nat.le_refl _) _).setCell (p := ⟨w.heap.size, 1, none⟩) (Nat.le_refl _) _⟩
      · skip
        go_enter Tryd.func32, Tryd.ntmps32
        go_wp2
        go_ret
        first | exact ⟨rfl, B0⟩ | exact ⟨rfl, below_alloc _ _⟩ | exact ⟨rfl, B0.setCell (p := ⟨w.heap.size, 1, none⟩) (Nat.le_refl _) _⟩ | exact ⟨rfl, B0.setCell (p := ⟨w.heap.size, 2, none⟩) (Nat.le_refl _) _⟩ | exact ⟨rfl, (B0.setCell (p := ⟨w.heap.size, 2, none⟩) (Nat.le_refl _) _).setCell (p := ⟨w.heap.size, 1, none⟩) (Nat.le_refl _) _⟩
    · skip
      go_enter Tryd.func32, Tryd.ntmps32
      go_wp2
      go_ret
      first | exact ⟨rfl, B0⟩ | exact ⟨rfl, below_alloc _ _⟩ | exact ⟨rfl, B0.setCell (p := ⟨w.heap.size, 1, none⟩) (Nat.le_refl _) _⟩ | exact ⟨rfl, B0.setCell (p := ⟨w.heap.size, 2, none⟩) (Nat.le_refl _) _⟩ | exact ⟨rfl, (B0.setCell (p := ⟨w.heap.size, 2, none⟩) (Nat.le_refl _) _).setCell (p := ⟨w.heap.size, 1, none⟩) (Nat.le_refl _) _⟩
set_option maxHeartbeats 2000000 in
theorem check_7 (n m : Int) (t : ByteArray) (w : World) : Calls Tryd.prog 32 #[.agg #[.int .i64 7, .int .i64 n, .int .i64 m, .string t]] w fun e w' => e = .returned (.int .i64 (chk (7, n, m, t))) ∧ Below w.heap.size w w' := by
  have B0 := below_alloc w (.cells #[.int .i64 7, .int .i64 n, .int .i64 m, .string t] 61)
  by_cases ht : t.size = 0
  · obtain rfl := size0' ht
    by_cases hn : n = 0
    · subst hn
      by_cases hm : m = 0
      · subst hm
        rw [chk_yes (by rfl)]
        go_enter Tryd.func32, Tryd.ntmps32
        go_wp2
        go_ret
        first | exact ⟨rfl, B0⟩ | exact ⟨rfl, below_alloc _ _⟩ | exact ⟨rfl, B0.setCell (p := ⟨w.heap.size, 1, none⟩) (Nat.le_refl _) _⟩ | exact ⟨rfl, B0.setCell (p := ⟨w.heap.size, 2, none⟩) (Nat.le_refl _) _⟩ | exact ⟨rfl, (B0.setCell (p := ⟨w.heap.size, 2, none⟩) (Nat.le_refl _) _).setCell (p := ⟨w.heap.size, 1, none⟩) (Nat.le_refl _) _⟩
      · rw [chk_no (by simp [mayP, hm])]
        go_enter Tryd.func32, Tryd.ntmps32
        go_wp2
        go_ret
        first | exact ⟨rfl, B0⟩ | exact ⟨rfl, below_alloc _ _⟩ | exact ⟨rfl, B0.setCell (p := ⟨w.heap.size, 1, none⟩) (Nat.le_refl _) _⟩ | exact ⟨rfl, B0.setCell (p := ⟨w.heap.size, 2, none⟩) (Nat.le_refl _) _⟩ | exact ⟨rfl, (B0.setCell (p := ⟨w.heap.size, 2, none⟩) (Nat.le_refl _) _).setCell (p := ⟨w.heap.size, 1, none⟩) (Nat.le_refl _) _⟩
    · rw [chk_no (by simp [mayP, hn])]
      go_enter Tryd.func32, Tryd.ntmps32
      go_wp2
      go_ret
      first | exact ⟨rfl, B0⟩ | exact ⟨rfl, below_alloc _ _⟩ | exact ⟨rfl, B0.setCell (p := ⟨w.heap.size, 1, none⟩) (Nat.le_refl _) _⟩ | exact ⟨rfl, B0.setCell (p := ⟨w.heap.size, 2, none⟩) (Nat.le_refl _) _⟩ | exact ⟨rfl, (B0.setCell (p := ⟨w.heap.size, 2, none⟩) (Nat.le_refl _) _).setCell (p := ⟨w.heap.size, 1, none⟩) (Nat.le_refl _) _⟩
  · obtain ⟨he, he2⟩ := str_ne ht
    rw [chk_no (by simp [mayP, ht])]
    by_cases hn : n = 0
    · subst hn
      by_cases hm : m = 0
      · subst hm
        go_enter Tryd.func32, Tryd.ntmps32
        go_wp2
        go_ret
        first | exact ⟨rfl, B0⟩ | exact ⟨rfl, below_alloc _ _⟩ | exact ⟨rfl, B0.setCell (p := ⟨w.heap.size, 1, none⟩) (Nat.le_refl _) _⟩ | exact ⟨rfl, B0.setCell (p := ⟨w.heap.size, 2, none⟩) (Nat.le_refl _) _⟩ | exact ⟨rfl, (B0.setCell (p := ⟨w.heap.size, 2, none⟩) (Nat.le_refl _) _).setCell (p := ⟨w.heap.size, 1, none⟩) (Nat.le_refl _) _⟩
      · skip
        go_enter Tryd.func32, Tryd.ntmps32
        go_wp2
        go_ret
        first | exact ⟨rfl, B0⟩ | exact ⟨rfl, below_alloc _ _⟩ | exact ⟨rfl, B0.setCell (p := ⟨w.heap.size, 1, none⟩) (Nat.le_refl _) _⟩ | exact ⟨rfl, B0.setCell (p := ⟨w.heap.size, 2, none⟩) (Nat.le_refl _) _⟩ | exact ⟨rfl, (B0.setCell (p := ⟨w.heap.size, 2, none⟩) (Nat.le_refl _) _).setCell (p := ⟨w.heap.size, 1, none⟩) (Nat.le_refl _) _⟩
    · skip
      go_enter Tryd.func32, Tryd.ntmps32
      go_wp2
      go_ret
      first | exact ⟨rfl, B0⟩ | exact ⟨rfl, below_alloc _ _⟩ | exact ⟨rfl, B0.setCell (p := ⟨w.heap.size, 1, none⟩) (Nat.le_refl _) _⟩ | exact ⟨rfl, B0.setCell (p := ⟨w.heap.size, 2, none⟩) (Nat.le_refl _) _⟩ | exact ⟨rfl, (B0.setCell (p := ⟨w.heap.size, 2, none⟩) (Nat.le_refl _) _).setCell (p := ⟨w.heap.size, 1, none⟩) (Nat.le_refl _) _⟩
set_option maxHeartbeats 2000000 in
theorem check_8 (n m : Int) (t : ByteArray) (w : World) : Calls Tryd.prog 32 #[.agg #[.int .i64 8, .int .i64 n, .int .i64 m, .string t]] w fun e w' => e = .returned (.int .i64 (chk (8, n, m, t))) ∧ Below w.heap.size w w' := by
  have B0 := below_alloc w (.cells #[.int .i64 8, .int .i64 n, .int .i64 m, .string t] 61)
  by_cases ht : t.size = 0
  · obtain rfl := size0' ht
    by_cases hn : n = 0
    · subst hn
      by_cases hm : m = 0
      · subst hm
        rw [chk_yes (by rfl)]
        go_enter Tryd.func32, Tryd.ntmps32
        go_wp2
        go_ret
        first | exact ⟨rfl, B0⟩ | exact ⟨rfl, below_alloc _ _⟩ | exact ⟨rfl, B0.setCell (p := ⟨w.heap.size, 1, none⟩) (Nat.le_refl _) _⟩ | exact ⟨rfl, B0.setCell (p := ⟨w.heap.size, 2, none⟩) (Nat.le_refl _) _⟩ | exact ⟨rfl, (B0.setCell (p := ⟨w.heap.size, 2, none⟩) (Nat.le_refl _) _).setCell (p := ⟨w.heap.size, 1, none⟩) (Nat.le_refl _) _⟩
      · rw [chk_no (by simp [mayP, hm])]
        go_enter Tryd.func32, Tryd.ntmps32
        go_wp2
        go_ret
        first | exact ⟨rfl, B0⟩ | exact ⟨rfl, below_alloc _ _⟩ | exact ⟨rfl, B0.setCell (p := ⟨w.heap.size, 1, none⟩) (Nat.le_refl _) _⟩ | exact ⟨rfl, B0.setCell (p := ⟨w.heap.size, 2, none⟩) (Nat.le_refl _) _⟩ | exact ⟨rfl, (B0.setCell (p := ⟨w.heap.size, 2, none⟩) (Nat.le_refl _) _).setCell (p := ⟨w.heap.size, 1, none⟩) (Nat.le_refl _) _⟩
    · rw [chk_no (by simp [mayP, hn])]
      go_enter Tryd.func32, Tryd.ntmps32
      go_wp2
      go_ret
      first | exact ⟨rfl, B0⟩ | exact ⟨rfl, below_alloc _ _⟩ | exact ⟨rfl, B0.setCell (p := ⟨w.heap.size, 1, none⟩) (Nat.le_refl _) _⟩ | exact ⟨rfl, B0.setCell (p := ⟨w.heap.size, 2, none⟩) (Nat.le_refl _) _⟩ | exact ⟨rfl, (B0.setCell (p := ⟨w.heap.size, 2, none⟩) (Nat.le_refl _) _).setCell (p := ⟨w.heap.size, 1, none⟩) (Nat.le_refl _) _⟩
  · obtain ⟨he, he2⟩ := str_ne ht
    rw [chk_no (by simp [mayP, ht])]
    by_cases hn : n = 0
    · subst hn
      by_cases hm : m = 0
      · subst hm
        go_enter Tryd.func32, Tryd.ntmps32
        go_wp2
        go_ret
        first | exact ⟨rfl, B0⟩ | exact ⟨rfl, below_alloc _ _⟩ | exact ⟨rfl, B0.setCell (p := ⟨w.heap.size, 1, none⟩) (Nat.le_refl _) _⟩ | exact ⟨rfl, B0.setCell (p := ⟨w.heap.size, 2, none⟩) (Nat.le_refl _) _⟩ | exact ⟨rfl, (B0.setCell (p := ⟨w.heap.size, 2, none⟩) (Nat.le_refl _) _).setCell (p := ⟨w.heap.size, 1, none⟩) (Nat.le_refl _) _⟩
      · skip
        go_enter Tryd.func32, Tryd.ntmps32
        go_wp2
        go_ret
        first | exact ⟨rfl, B0⟩ | exact ⟨rfl, below_alloc _ _⟩ | exact ⟨rfl, B0.setCell (p := ⟨w.heap.size, 1, none⟩) (Nat.le_refl _) _⟩ | exact ⟨rfl, B0.setCell (p := ⟨w.heap.size, 2, none⟩) (Nat.le_refl _) _⟩ | exact ⟨rfl, (B0.setCell (p := ⟨w.heap.size, 2, none⟩) (Nat.le_refl _) _).setCell (p := ⟨w.heap.size, 1, none⟩) (Nat.le_refl _) _⟩
    · skip
      go_enter Tryd.func32, Tryd.ntmps32
      go_wp2
      go_ret
      first | exact ⟨rfl, B0⟩ | exact ⟨rfl, below_alloc _ _⟩ | exact ⟨rfl, B0.setCell (p := ⟨w.heap.size, 1, none⟩) (Nat.le_refl _) _⟩ | exact ⟨rfl, B0.setCell (p := ⟨w.heap.size, 2, none⟩) (Nat.le_refl _) _⟩ | exact ⟨rfl, (B0.setCell (p := ⟨w.heap.size, 2, none⟩) (Nat.le_refl _) _).setCell (p := ⟨w.heap.size, 1, none⟩) (Nat.le_refl _) _⟩
set_option maxHeartbeats 2000000 in
theorem check_4 (n m : Int) (t : ByteArray) (w : World) : Calls Tryd.prog 32 #[.agg #[.int .i64 4, .int .i64 n, .int .i64 m, .string t]] w fun e w' => e = .returned (.int .i64 (chk (4, n, m, t))) ∧ Below w.heap.size w w' := by
  have B0 := below_alloc w (.cells #[.int .i64 4, .int .i64 n, .int .i64 m, .string t] 61)
  have NU := fun w => number_any 4 n w
  cases hk : numK 4 n
  · rw [hk] at NU
    replace NU := Lib.hid NU
    rw [chk_no (by unfold mayP; have hk' : (decide (0 ≤ n) && decide (n ≤ 7)) = false := hk; simp only [Bool.and_eq_false_iff, Bool.or_eq_false_iff, decide_eq_false_iff_not] at hk'; simp; omega)]
    clear hk
    go_enter Tryd.func32, Tryd.ntmps32
    go_wp2_with (first
      | (go_at_call 84; refine (NU.out _).mono ?_; rintro e w1 ⟨rfl, rfl⟩))
    go_ret
    first | exact ⟨rfl, B0⟩ | exact ⟨rfl, below_alloc _ _⟩ | exact ⟨rfl, B0.setCell (p := ⟨w.heap.size, 1, none⟩) (Nat.le_refl _) _⟩ | exact ⟨rfl, B0.setCell (p := ⟨w.heap.size, 2, none⟩) (Nat.le_refl _) _⟩ | exact ⟨rfl, (B0.setCell (p := ⟨w.heap.size, 2, none⟩) (Nat.le_refl _) _).setCell (p := ⟨w.heap.size, 1, none⟩) (Nat.le_refl _) _⟩
  · rw [hk] at NU
    replace NU := Lib.hid NU
    by_cases ht : t.size = 0
    · obtain rfl := size0' ht
      by_cases hm : m = 0
      · subst hm
        rw [chk_yes (by have hk2 : (decide (0 ≤ n) && decide (n ≤ 7)) = true := hk; simp only [Bool.and_eq_true, decide_eq_true_eq] at hk2; exact may_of (.looks n hk2.1 hk2.2))]
        go_enter Tryd.func32, Tryd.ntmps32
        go_wp2_with (first
          | (go_at_call 84; refine (NU.out _).mono ?_; rintro e w1 ⟨rfl, rfl⟩))
        go_ret
        first | exact ⟨rfl, B0⟩ | exact ⟨rfl, below_alloc _ _⟩ | exact ⟨rfl, B0.setCell (p := ⟨w.heap.size, 1, none⟩) (Nat.le_refl _) _⟩ | exact ⟨rfl, B0.setCell (p := ⟨w.heap.size, 2, none⟩) (Nat.le_refl _) _⟩ | exact ⟨rfl, (B0.setCell (p := ⟨w.heap.size, 2, none⟩) (Nat.le_refl _) _).setCell (p := ⟨w.heap.size, 1, none⟩) (Nat.le_refl _) _⟩
      · rw [chk_no (by simp [mayP, hm])]
        go_enter Tryd.func32, Tryd.ntmps32
        go_wp2_with (first
          | (go_at_call 84; refine (NU.out _).mono ?_; rintro e w1 ⟨rfl, rfl⟩))
        go_ret
        first | exact ⟨rfl, B0⟩ | exact ⟨rfl, below_alloc _ _⟩ | exact ⟨rfl, B0.setCell (p := ⟨w.heap.size, 1, none⟩) (Nat.le_refl _) _⟩ | exact ⟨rfl, B0.setCell (p := ⟨w.heap.size, 2, none⟩) (Nat.le_refl _) _⟩ | exact ⟨rfl, (B0.setCell (p := ⟨w.heap.size, 2, none⟩) (Nat.le_refl _) _).setCell (p := ⟨w.heap.size, 1, none⟩) (Nat.le_refl _) _⟩
    · obtain ⟨he, he2⟩ := str_ne ht
      rw [chk_no (by simp [mayP, ht])]
      by_cases hm : m = 0
      · subst hm
        go_enter Tryd.func32, Tryd.ntmps32
        go_wp2_with (first
          | (go_at_call 84; refine (NU.out _).mono ?_; rintro e w1 ⟨rfl, rfl⟩))
        go_ret
        first | exact ⟨rfl, B0⟩ | exact ⟨rfl, below_alloc _ _⟩ | exact ⟨rfl, B0.setCell (p := ⟨w.heap.size, 1, none⟩) (Nat.le_refl _) _⟩ | exact ⟨rfl, B0.setCell (p := ⟨w.heap.size, 2, none⟩) (Nat.le_refl _) _⟩ | exact ⟨rfl, (B0.setCell (p := ⟨w.heap.size, 2, none⟩) (Nat.le_refl _) _).setCell (p := ⟨w.heap.size, 1, none⟩) (Nat.le_refl _) _⟩
      · skip
        go_enter Tryd.func32, Tryd.ntmps32
        go_wp2_with (first
          | (go_at_call 84; refine (NU.out _).mono ?_; rintro e w1 ⟨rfl, rfl⟩))
        go_ret
        first | exact ⟨rfl, B0⟩ | exact ⟨rfl, below_alloc _ _⟩ | exact ⟨rfl, B0.setCell (p := ⟨w.heap.size, 1, none⟩) (Nat.le_refl _) _⟩ | exact ⟨rfl, B0.setCell (p := ⟨w.heap.size, 2, none⟩) (Nat.le_refl _) _⟩ | exact ⟨rfl, (B0.setCell (p := ⟨w.heap.size, 2, none⟩) (Nat.le_refl _) _).setCell (p := ⟨w.heap.size, 1, none⟩) (Nat.le_refl _) _⟩
set_option maxHeartbeats 2000000 in
theorem check_5 (n m : Int) (t : ByteArray) (w : World) : Calls Tryd.prog 32 #[.agg #[.int .i64 5, .int .i64 n, .int .i64 m, .string t]] w fun e w' => e = .returned (.int .i64 (chk (5, n, m, t))) ∧ Below w.heap.size w w' := by
  have B0 := below_alloc w (.cells #[.int .i64 5, .int .i64 n, .int .i64 m, .string t] 61)
  have NU := fun w => number_any 5 n w
  cases hk : numK 5 n
  · rw [hk] at NU
    replace NU := Lib.hid NU
    rw [chk_no (by unfold mayP; have hk' : (decide (n = 0) || decide (n = 1)) = false := hk; simp only [Bool.and_eq_false_iff, Bool.or_eq_false_iff, decide_eq_false_iff_not] at hk'; simp; omega)]
    clear hk
    go_enter Tryd.func32, Tryd.ntmps32
    go_wp2_with (first
      | (go_at_call 84; refine (NU.out _).mono ?_; rintro e w1 ⟨rfl, rfl⟩))
    go_ret
    first | exact ⟨rfl, B0⟩ | exact ⟨rfl, below_alloc _ _⟩ | exact ⟨rfl, B0.setCell (p := ⟨w.heap.size, 1, none⟩) (Nat.le_refl _) _⟩ | exact ⟨rfl, B0.setCell (p := ⟨w.heap.size, 2, none⟩) (Nat.le_refl _) _⟩ | exact ⟨rfl, (B0.setCell (p := ⟨w.heap.size, 2, none⟩) (Nat.le_refl _) _).setCell (p := ⟨w.heap.size, 1, none⟩) (Nat.le_refl _) _⟩
  · rw [hk] at NU
    replace NU := Lib.hid NU
    by_cases ht : t.size = 0
    · obtain rfl := size0' ht
      by_cases hm : m = 0
      · subst hm
        rw [chk_yes (by have hk2 : (decide (n = 0) || decide (n = 1)) = true := hk; simp only [Bool.or_eq_true, decide_eq_true_eq] at hk2; rcases hk2 with rfl | rfl; exact may_of .paste0; exact may_of .paste1)]
        go_enter Tryd.func32, Tryd.ntmps32
        go_wp2_with (first
          | (go_at_call 84; refine (NU.out _).mono ?_; rintro e w1 ⟨rfl, rfl⟩))
        go_ret
        first | exact ⟨rfl, B0⟩ | exact ⟨rfl, below_alloc _ _⟩ | exact ⟨rfl, B0.setCell (p := ⟨w.heap.size, 1, none⟩) (Nat.le_refl _) _⟩ | exact ⟨rfl, B0.setCell (p := ⟨w.heap.size, 2, none⟩) (Nat.le_refl _) _⟩ | exact ⟨rfl, (B0.setCell (p := ⟨w.heap.size, 2, none⟩) (Nat.le_refl _) _).setCell (p := ⟨w.heap.size, 1, none⟩) (Nat.le_refl _) _⟩
      · rw [chk_no (by simp [mayP, hm])]
        go_enter Tryd.func32, Tryd.ntmps32
        go_wp2_with (first
          | (go_at_call 84; refine (NU.out _).mono ?_; rintro e w1 ⟨rfl, rfl⟩))
        go_ret
        first | exact ⟨rfl, B0⟩ | exact ⟨rfl, below_alloc _ _⟩ | exact ⟨rfl, B0.setCell (p := ⟨w.heap.size, 1, none⟩) (Nat.le_refl _) _⟩ | exact ⟨rfl, B0.setCell (p := ⟨w.heap.size, 2, none⟩) (Nat.le_refl _) _⟩ | exact ⟨rfl, (B0.setCell (p := ⟨w.heap.size, 2, none⟩) (Nat.le_refl _) _).setCell (p := ⟨w.heap.size, 1, none⟩) (Nat.le_refl _) _⟩
    · obtain ⟨he, he2⟩ := str_ne ht
      rw [chk_no (by simp [mayP, ht])]
      by_cases hm : m = 0
      · subst hm
        go_enter Tryd.func32, Tryd.ntmps32
        go_wp2_with (first
          | (go_at_call 84; refine (NU.out _).mono ?_; rintro e w1 ⟨rfl, rfl⟩))
        go_ret
        first | exact ⟨rfl, B0⟩ | exact ⟨rfl, below_alloc _ _⟩ | exact ⟨rfl, B0.setCell (p := ⟨w.heap.size, 1, none⟩) (Nat.le_refl _) _⟩ | exact ⟨rfl, B0.setCell (p := ⟨w.heap.size, 2, none⟩) (Nat.le_refl _) _⟩ | exact ⟨rfl, (B0.setCell (p := ⟨w.heap.size, 2, none⟩) (Nat.le_refl _) _).setCell (p := ⟨w.heap.size, 1, none⟩) (Nat.le_refl _) _⟩
      · skip
        go_enter Tryd.func32, Tryd.ntmps32
        go_wp2_with (first
          | (go_at_call 84; refine (NU.out _).mono ?_; rintro e w1 ⟨rfl, rfl⟩))
        go_ret
        first | exact ⟨rfl, B0⟩ | exact ⟨rfl, below_alloc _ _⟩ | exact ⟨rfl, B0.setCell (p := ⟨w.heap.size, 1, none⟩) (Nat.le_refl _) _⟩ | exact ⟨rfl, B0.setCell (p := ⟨w.heap.size, 2, none⟩) (Nat.le_refl _) _⟩ | exact ⟨rfl, (B0.setCell (p := ⟨w.heap.size, 2, none⟩) (Nat.le_refl _) _).setCell (p := ⟨w.heap.size, 1, none⟩) (Nat.le_refl _) _⟩
set_option maxHeartbeats 2000000 in
theorem check_1 (n m : Int) (t : ByteArray) (w : World) : Calls Tryd.prog 32 #[.agg #[.int .i64 1, .int .i64 n, .int .i64 m, .string t]] w fun e w' => e = .returned (.int .i64 (chk (1, n, m, t))) ∧ Below w.heap.size w w' := by
  have B0 := below_alloc w (.cells #[.int .i64 1, .int .i64 n, .int .i64 m, .string t] 61)
  have NU := fun w => number_any 1 n w
  have SI := fun w => eside_any m w
  have hnk : numK 1 n = sideI n := rfl
  rw [hnk] at NU
  cases hm : sideI m
  · rw [hm] at SI
    replace NU := Lib.hid NU; replace SI := Lib.hid SI
    rw [chk_no (by unfold mayP; simp [hm])]
    clear hm hnk
    go_enter Tryd.func32, Tryd.ntmps32
    go_wp2_with (first
      | (go_at_call 83; refine (SI.out _).mono ?_; rintro e w1 ⟨rfl, rfl⟩)
      | (go_at_call 84; refine (NU.out _).mono ?_; rintro e w1 ⟨rfl, rfl⟩))
    go_ret
    first | exact ⟨rfl, B0⟩ | exact ⟨rfl, below_alloc _ _⟩ | exact ⟨rfl, B0.setCell (p := ⟨w.heap.size, 1, none⟩) (Nat.le_refl _) _⟩ | exact ⟨rfl, B0.setCell (p := ⟨w.heap.size, 2, none⟩) (Nat.le_refl _) _⟩ | exact ⟨rfl, (B0.setCell (p := ⟨w.heap.size, 2, none⟩) (Nat.le_refl _) _).setCell (p := ⟨w.heap.size, 1, none⟩) (Nat.le_refl _) _⟩
  cases hk : sideI n
  · rw [hm] at SI
    rw [hk] at NU
    replace NU := Lib.hid NU; replace SI := Lib.hid SI
    rw [chk_no (by unfold mayP; simp [hk])]
    clear hm hnk hk
    go_enter Tryd.func32, Tryd.ntmps32
    go_wp2_with (first
      | (go_at_call 83; refine (SI.out _).mono ?_; rintro e w1 ⟨rfl, rfl⟩)
      | (go_at_call 84; refine (NU.out _).mono ?_; rintro e w1 ⟨rfl, rfl⟩))
    go_ret
    first | exact ⟨rfl, B0⟩ | exact ⟨rfl, below_alloc _ _⟩ | exact ⟨rfl, B0.setCell (p := ⟨w.heap.size, 1, none⟩) (Nat.le_refl _) _⟩ | exact ⟨rfl, B0.setCell (p := ⟨w.heap.size, 2, none⟩) (Nat.le_refl _) _⟩ | exact ⟨rfl, (B0.setCell (p := ⟨w.heap.size, 2, none⟩) (Nat.le_refl _) _).setCell (p := ⟨w.heap.size, 1, none⟩) (Nat.le_refl _) _⟩
  rw [hm] at SI
  rw [hk] at NU
  replace NU := Lib.hid NU; replace SI := Lib.hid SI
  clear hnk
  by_cases ht : t.size = 0
  · obtain rfl := size0' ht
    rw [chk_yes (by unfold sideI at hk hm; simp only [Bool.and_eq_true, decide_eq_true_eq] at hk hm; exact may_of (.move n m hk.1 hk.2 hm.1 hm.2))]
    go_enter Tryd.func32, Tryd.ntmps32
    go_wp2_with (first
      | (go_at_call 83; refine (SI.out _).mono ?_; rintro e w1 ⟨rfl, rfl⟩)
      | (go_at_call 84; refine (NU.out _).mono ?_; rintro e w1 ⟨rfl, rfl⟩))
    go_ret
    first | exact ⟨rfl, B0⟩ | exact ⟨rfl, below_alloc _ _⟩ | exact ⟨rfl, B0.setCell (p := ⟨w.heap.size, 1, none⟩) (Nat.le_refl _) _⟩ | exact ⟨rfl, B0.setCell (p := ⟨w.heap.size, 2, none⟩) (Nat.le_refl _) _⟩ | exact ⟨rfl, (B0.setCell (p := ⟨w.heap.size, 2, none⟩) (Nat.le_refl _) _).setCell (p := ⟨w.heap.size, 1, none⟩) (Nat.le_refl _) _⟩
  · obtain ⟨he, he2⟩ := str_ne ht
    rw [chk_no (by simp [mayP, ht])]
    go_enter Tryd.func32, Tryd.ntmps32
    go_wp2_with (first
      | (go_at_call 83; refine (SI.out _).mono ?_; rintro e w1 ⟨rfl, rfl⟩)
      | (go_at_call 84; refine (NU.out _).mono ?_; rintro e w1 ⟨rfl, rfl⟩))
    go_ret
    first | exact ⟨rfl, B0⟩ | exact ⟨rfl, below_alloc _ _⟩ | exact ⟨rfl, B0.setCell (p := ⟨w.heap.size, 1, none⟩) (Nat.le_refl _) _⟩ | exact ⟨rfl, B0.setCell (p := ⟨w.heap.size, 2, none⟩) (Nat.le_refl _) _⟩ | exact ⟨rfl, (B0.setCell (p := ⟨w.heap.size, 2, none⟩) (Nat.le_refl _) _).setCell (p := ⟨w.heap.size, 1, none⟩) (Nat.le_refl _) _⟩
set_option maxHeartbeats 2000000 in
theorem check_0 (n m : Int) (t : ByteArray) (w : World) (hT : ET w) (hs : t.size ≤ 1000000) : Calls Tryd.prog 32 #[.agg #[.int .i64 0, .int .i64 n, .int .i64 m, .string t]] w fun e w' => e = .returned (.int .i64 (chk (0, n, m, t))) ∧ Below w.heap.size w w' := by
  have B0 := below_alloc w (.cells #[.int .i64 0, .int .i64 n, .int .i64 m, .string t] 61)
  have HT1 := Lib.hid (hT.below B0)
  have TL := Lib.hid (fun w hT => textLen_any t w hT hs)
  have q0 := heap_alloc_new w (.cells #[.int .i64 0, .int .i64 n, .int .i64 m, .string t] 61)
  clear hT
  by_cases ht : t.size = 0
  · obtain rfl := size0' ht
    rw [chk_no (by simp [mayP]; intro _ _ h; exact absurd h (by decide))]
    clear TL HT1
    have y := fun i => cell_of_row _ _ i _ _ _ q0
    have y3 := y 3
    dsimp at y3
    clear y q0
    go_enter Tryd.func32, Tryd.ntmps32
    go_upto_region 11 with fail
    go_quiet (fail)
    go_wp2
    go_ret
    exact ⟨rfl, drewN_below B0 _⟩
  · obtain ⟨he, he2⟩ := str_ne ht
    have B1 := B0.drew
    have HT5 := Lib.hid (show ET ((w.alloc (.cells #[.int .i64 0, .int .i64 n, .int .i64 m, .string t] 61)).drew) from HT1.out.below (Below.refl _ _).drew)
    have y := fun i => cell_of_row _ _ i _ _ _ q0
    have y3 := y 3
    dsimp at y3
    have hq := blk_lt q0
    by_cases hl : tl t < t.size
    · rw [chk_no (by simp [mayP, allW_no hl])]
      clear y
      go_enter Tryd.func32, Tryd.ntmps32
      go_upto_region 11 with fail
      go_region_held3 (fun w' => w'.cell? ⟨w.heap.size, 3, none⟩ = some (.string t)) (first | exact y3 | (exact (hb5.cell (p := ⟨w.heap.size, 3, none⟩) hq).trans y3) | go_keep) (first | (go_at_call 82; refine (TL.out _ HT5.out).mono ?_; rintro e w5 ⟨rfl, hb5⟩))
      go_wp2
      go_ret
      exact ⟨rfl, seqB B1 hb5⟩
    · have hw : allW t = true := allW_of (by have := tl_le t; omega)
      have hq2 := blk_lt q0
      have K : ∀ w', Below (w.alloc (.cells #[.int .i64 0, .int .i64 n, .int .i64 m, .string t] 61)).heap.size (w.alloc (.cells #[.int .i64 0, .int .i64 n, .int .i64 m, .string t] 61)) w' → w'.heap[w.heap.size]? = some (.cells #[.int .i64 0, .int .i64 n, .int .i64 m, .string t] 61 (0, 0)) := fun w' h => blk_below q0 h
      replace K := Lib.hid K
      by_cases hn : n = 0
      · subst hn
        by_cases hm : m = 0
        · subst hm
          rw [chk_yes (by simp only [mayP]; simp [hw]; omega)]
          clear y hw
          go_enter Tryd.func32, Tryd.ntmps32
          go_upto_region 11 with fail
          go_region_held3 (fun w' => w'.cell? ⟨w.heap.size, 3, none⟩ = some (.string t)) (first | exact y3 | (exact (hb5.cell (p := ⟨w.heap.size, 3, none⟩) hq).trans y3) | go_keep) (first | (go_at_call 82; refine (TL.out _ HT5.out).mono ?_; rintro e w5 ⟨rfl, hb5⟩))
          have z := K.out _ ((Below.refl _ _).drew.trans (hb5.mono (by simp)))
          have zz := fun i => cell_of_row _ _ i _ _ _ z
          have z1 := zz 1; have z2 := zz 2; have z3 := zz 3
          have zf := fun i => frozen_of_row _ w.heap.size i _ _ z
          dsimp at z1 z2 z3
          clear zz z
          go_wp2
          go_ret
          exact ⟨rfl, (seqB B1 hb5).setCell (p := ⟨w.heap.size, 3, none⟩) (Nat.le_refl _) _⟩
        · rw [chk_no (by simp [mayP, hm])]
          clear y hw
          go_enter Tryd.func32, Tryd.ntmps32
          go_upto_region 11 with fail
          go_region_held3 (fun w' => w'.cell? ⟨w.heap.size, 3, none⟩ = some (.string t)) (first | exact y3 | (exact (hb5.cell (p := ⟨w.heap.size, 3, none⟩) hq).trans y3) | go_keep) (first | (go_at_call 82; refine (TL.out _ HT5.out).mono ?_; rintro e w5 ⟨rfl, hb5⟩))
          have z := K.out _ ((Below.refl _ _).drew.trans (hb5.mono (by simp)))
          have zz := fun i => cell_of_row _ _ i _ _ _ z
          have z1 := zz 1; have z2 := zz 2; have z3 := zz 3
          have zf := fun i => frozen_of_row _ w.heap.size i _ _ z
          dsimp at z1 z2 z3
          clear zz z
          go_wp2
          go_ret
          exact ⟨rfl, (seqB B1 hb5).setCell (p := ⟨w.heap.size, 3, none⟩) (Nat.le_refl _) _⟩
      · rw [chk_no (by simp [mayP, hn])]
        clear y hw
        go_enter Tryd.func32, Tryd.ntmps32
        go_upto_region 11 with fail
        go_region_held3 (fun w' => w'.cell? ⟨w.heap.size, 3, none⟩ = some (.string t)) (first | exact y3 | (exact (hb5.cell (p := ⟨w.heap.size, 3, none⟩) hq).trans y3) | go_keep) (first | (go_at_call 82; refine (TL.out _ HT5.out).mono ?_; rintro e w5 ⟨rfl, hb5⟩))
        have z := K.out _ ((Below.refl _ _).drew.trans (hb5.mono (by simp)))
        have zz := fun i => cell_of_row _ _ i _ _ _ z
        have z1 := zz 1; have z2 := zz 2; have z3 := zz 3
        have zf := fun i => frozen_of_row _ w.heap.size i _ _ z
        dsimp at z1 z2 z3
        clear zz z
        go_wp2
        go_ret
        exact ⟨rfl, (seqB B1 hb5).setCell (p := ⟨w.heap.size, 3, none⟩) (Nat.le_refl _) _⟩
set_option maxHeartbeats 2000000 in
theorem check_x (k n m : Int) (t : ByteArray) (w : World) (hk : k < 0 ∨ 8 < k) : Calls Tryd.prog 32 #[.agg #[.int .i64 k, .int .i64 n, .int .i64 m, .string t]] w fun e w' => e = .returned (.int .i64 (chk (k, n, m, t))) ∧ Below w.heap.size w w' := by
  have B0 := below_alloc w (.cells #[.int .i64 k, .int .i64 n, .int .i64 m, .string t] 61)
  have hk0 : ¬ k = 0 := by omega
  have hk1 : ¬ k = 1 := by omega
  have hk2 : ¬ k = 2 := by omega
  have hk3 : ¬ k = 3 := by omega
  have hk4 : ¬ k = 4 := by omega
  have hk5 : ¬ k = 5 := by omega
  have hk6 : ¬ k = 6 := by omega
  have hk7 : ¬ k = 7 := by omega
  have hk8 : ¬ k = 8 := by omega
  rw [chk_no (by
    have h : (decide (2 ≤ k) && decide (k ≤ 8)) = false := by simp; omega
    unfold mayP; dsimp only; rw [if_neg hk0, if_neg hk1, if_neg hk4, if_neg hk5, h]; simp)]
  go_enter Tryd.func32, Tryd.ntmps32
  go_wp2
  go_ret
  first | exact ⟨rfl, B0⟩ | exact ⟨rfl, below_alloc _ _⟩ | exact ⟨rfl, B0.setCell (p := ⟨w.heap.size, 1, none⟩) (Nat.le_refl _) _⟩ | exact ⟨rfl, B0.setCell (p := ⟨w.heap.size, 2, none⟩) (Nat.le_refl _) _⟩ | exact ⟨rfl, (B0.setCell (p := ⟨w.heap.size, 2, none⟩) (Nat.le_refl _) _).setCell (p := ⟨w.heap.size, 1, none⟩) (Nat.le_refl _) _⟩
theorem echeck_any (p : Ot) (w : World) (hT : ET w) (hs : p.2.2.2.size ≤ 1000000) : Calls Tryd.prog 32 #[otV p] w fun e w' => e = .returned (.int .i64 (chk p)) ∧ Below w.heap.size w w' := by
  obtain ⟨k, n, m, t⟩ := p
  by_cases hx : k < 0 ∨ 8 < k
  · exact check_x k n m t w hx
  have : k = 0 ∨ k = 1 ∨ k = 2 ∨ k = 3 ∨ k = 4 ∨ k = 5 ∨ k = 6 ∨ k = 7 ∨ k = 8 := by omega
  rcases this with rfl | rfl | rfl | rfl | rfl | rfl | rfl | rfl | rfl
  · exact check_0 n m t w hT hs
  · exact check_1 n m t w
  · exact check_2 n m t w
  · exact check_3 n m t w
  · exact check_4 n m t w
  · exact check_5 n m t w
  · exact check_6 n m t w
  · exact check_7 n m t w
  · exact check_8 n m t w
end Go.Proofs.YtcdecnmhogmhaaaDoor
set_option linter.unusedVariables false
set_option linter.unusedSimpArgs false
namespace Go.Proofs.YtcdecnmhogmhaaaDoor
open Go.RowKit
theorem ret_str {a b : ByteArray} (h : a = b) : Ending.returned (.string a) = .returned (.string b) := by rw [h]
set_option maxHeartbeats 1000000 in
theorem elooks_any (n : Int) (w : World) (h0 : 0 ≤ n) (h7 : n ≤ 7) : Calls Tryd.prog 123 #[.int .i64 n] w fun e w' => e = .returned (.string (mkB (lkT n))) ∧ w = w' := by
  have : n = 0 ∨ n = 1 ∨ n = 2 ∨ n = 3 ∨ n = 4 ∨ n = 5 ∨ n = 6 ∨ n = 7 := by omega
  clear h0 h7
  rcases this with rfl | rfl | rfl | rfl | rfl | rfl | rfl | rfl
  all_goals
    go_enter Tryd.func123, Tryd.ntmps123
    go_wp2
    go_ret
    exact ⟨ret_str (by first | rfl | decide +kernel), rfl⟩
theorem move_bytes (a b : List UInt8) : (⟨#[27, 91]⟩ : ByteArray) ++ ⟨a.toArray⟩ ++ ⟨#[59]⟩ ++ ⟨b.toArray⟩ ++ ⟨#[72]⟩ = mkB (27 :: 91 :: (a ++ 59 :: (b ++ [72]))) := by
  have h1 : (⟨#[27, 91]⟩ : ByteArray) = mkB [27, 91] := rfl
  have h2 : (⟨#[59]⟩ : ByteArray) = mkB [59] := rfl
  have h3 : (⟨#[72]⟩ : ByteArray) = mkB [72] := rfl
  have h4 : (⟨a.toArray⟩ : ByteArray) = mkB a := rfl
  have h5 : (⟨b.toArray⟩ : ByteArray) = mkB b := rfl
  rw [h1, h2, h3, h4, h5]
  apply bL_inj
  simp only [bL_app, bL_mkB]
  simp
theorem looks_bytes (a : List UInt8) : (⟨#[27, 91]⟩ : ByteArray) ++ mkB a ++ ⟨#[109]⟩ = mkB (27 :: 91 :: (a ++ [109])) := by
  have h1 : (⟨#[27, 91]⟩ : ByteArray) = mkB [27, 91] := rfl
  have h3 : (⟨#[109]⟩ : ByteArray) = mkB [109] := rfl
  rw [h1, h3]
  apply bL_inj
  simp only [bL_app, bL_mkB]
  simp
theorem sum_run (a b : ByteArray) (h : a.size + b.size ≤ 8388608) (w : World) : (Op.stringOp .add a b).run Tryd.prog w = .ok (.string (a ++ b)) w := run_string_add_sum w a b (by omega)
set_option maxHeartbeats 2000000 in
theorem bytes_move (n m : Int) (w : World) (h1 : 1 ≤ n) (h2 : n ≤ 1000) (h3 : 1 ≤ m) (h4 : m ≤ 1000) : Calls Tryd.prog 80 #[.agg #[.int .i64 1, .int .i64 n, .int .i64 m, .string ⟨#[]⟩]] w fun e w' => e = .returned (.string (bt (1, n, m, mt))) ∧ Below w.heap.size w w' := by
  have hbt : bt (1, n, m, mt) = mkB (27 :: 91 :: (decS n ++ 59 :: (decS m ++ [72]))) := rfl
  rw [hbt, ← move_bytes]
  have B0 := below_alloc w (.cells #[.int .i64 1, .int .i64 n, .int .i64 m, .string ⟨#[]⟩] 61)
  have q0 := heap_alloc_new w (.cells #[.int .i64 1, .int .i64 n, .int .i64 m, .string ⟨#[]⟩] 61)
  have D1 := fun w => dec_any n w (by omega) (by omega)
  have D2 := fun w => dec_any m w (by omega) (by omega)
  have hd1 := (dec_small n h1 h2).1
  have hd2 := (dec_small m h3 h4).1
  have y := fun i => cell_of_row _ _ i _ _ _ q0; have y1 := y 1; have y2 := y 2; clear y; dsimp at y1 y2
  have hq := blk_lt q0
  have L1 : ((⟨(decS n).toArray⟩ : ByteArray)).size ≤ 4 := by rw [← bL_len]; exact hd1
  have L2 : ((⟨(decS m).toArray⟩ : ByteArray)).size ≤ 4 := by rw [← bL_len]; exact hd2
  generalize (⟨(decS n).toArray⟩ : ByteArray) = A at *
  generalize (⟨(decS m).toArray⟩ : ByteArray) = B at *
  have R1 := sum_run ⟨#[27, 91]⟩ A (by show 2 + A.size ≤ _; omega)
  have R2 := sum_run (⟨#[27, 91]⟩ ++ A) ⟨#[59]⟩ (by rw [ByteArray.size_append]; show 2 + A.size + 1 ≤ _; omega)
  have R3 := sum_run (⟨#[27, 91]⟩ ++ A ++ ⟨#[59]⟩) B (by rw [ByteArray.size_append, ByteArray.size_append]; show 2 + A.size + 1 + B.size ≤ _; omega)
  have R4 := sum_run (⟨#[27, 91]⟩ ++ A ++ ⟨#[59]⟩ ++ B) ⟨#[72]⟩ (by rw [ByteArray.size_append, ByteArray.size_append, ByteArray.size_append]; show 2 + A.size + 1 + B.size + 1 ≤ _; omega)
  replace D1 := Lib.hid D1; replace D2 := Lib.hid D2
  clear hd1 hd2 q0 hbt
  go_enter Tryd.func80, Tryd.ntmps80
  go_upto_region 11 with fail
  go_region_held3 (fun w' => w'.cell? ⟨w.heap.size, 1, none⟩ = some (.int .i64 n) ∧ w'.cell? ⟨w.heap.size, 2, none⟩ = some (.int .i64 m))
    (first | exact ⟨y1, y2⟩ | exact o1 | exact o2 | go_keep)
    (first
      | (go_at_call 122; (with_reducible refine (D2.out _).mono ?_); rintro e w2 ⟨rfl, hb2⟩; have o2 : w2.cell? ⟨w.heap.size, 1, none⟩ = some (.int .i64 n) ∧ w2.cell? ⟨w.heap.size, 2, none⟩ = some (.int .i64 m) := ⟨(hb2.cell (p := ⟨w.heap.size, 1, none⟩) (Nat.lt_of_lt_of_le hq hb1.size)).trans o1.1, (hb2.cell (p := ⟨w.heap.size, 2, none⟩) (Nat.lt_of_lt_of_le hq hb1.size)).trans o1.2⟩)
      | (go_at_call 122; (with_reducible refine (D1.out _).mono ?_); rintro e w1 ⟨rfl, hb1⟩; have o1 : w1.cell? ⟨w.heap.size, 1, none⟩ = some (.int .i64 n) ∧ w1.cell? ⟨w.heap.size, 2, none⟩ = some (.int .i64 m) := ⟨(hb1.cell (p := ⟨w.heap.size, 1, none⟩) hq).trans y1, (hb1.cell (p := ⟨w.heap.size, 2, none⟩) hq).trans y2⟩))
  go_wp2
  go_ret
  exact ⟨rfl, seqB (seqB B0.drew hb1) hb2⟩
set_option maxHeartbeats 2000000 in
theorem bytesOf_any (p : Ot) (w : World) (ho : mayP p = true) (hs : p.2.2.2.size ≤ 1000000) : Calls Tryd.prog 80 #[otV p] w fun e w' => e = .returned (.string (bt p)) ∧ Below w.heap.size w w' := by
  have hpc := pc_of ho
  have LK := Lib.hid (fun n w h0 h1 => elooks_any n w h0 h1)
  cases hpc with
  | text t h hw =>
    rw [by_text]
    have B0 := below_alloc w (.cells #[.int .i64 0, .int .i64 0, .int .i64 0, .string t] 61)
    clear hw ho LK
    show Calls _ _ #[.agg #[.int .i64 0, .int .i64 0, .int .i64 0, .string t]] _ _
    go_enter Tryd.func80, Tryd.ntmps80
    go_wp2
    go_ret
    exact ⟨rfl, B0⟩
  | move n m h1 h2 h3 h4 => exact bytes_move n m w h1 h2 h3 h4
  | looks n h1 h2 =>
    have hbt : bt (4, n, 0, mt) = mkB (27 :: 91 :: (lkT n ++ [109])) := rfl
    rw [hbt, ← looks_bytes]
    have B0 := below_alloc w (.cells #[.int .i64 4, .int .i64 n, .int .i64 0, .string ⟨#[]⟩] 61)
    have L := fun w => LK.out n w h1 h2
    have hl : (mkB (lkT n)).size ≤ 9 := by
      obtain ⟨k, rfl⟩ := Int.eq_ofNat_of_zero_le h1
      rw [← bL_len, bL_mkB]; exact (lk_small ⟨k, by omega⟩).1
    generalize mkB (lkT n) = A at *
    replace L := Lib.hid L
    clear hbt ho LK
    show Calls _ _ #[.agg #[.int .i64 4, .int .i64 n, .int .i64 0, .string ⟨#[]⟩]] _ _
    go_enter Tryd.func80, Tryd.ntmps80
    go_wp2_with (go_at_call 123; refine (L.out _).mono ?_; rintro e w1 ⟨rfl, rfl⟩)
    go_ret
    exact ⟨rfl, B0⟩
  | erase =>
    have B0 := below_alloc w (.cells #[.int .i64 2, .int .i64 0, .int .i64 0, .string ⟨#[]⟩] 61)
    clear ho LK
    show Calls _ _ #[.agg #[.int .i64 2, .int .i64 0, .int .i64 0, .string ⟨#[]⟩]] _ _
    go_enter Tryd.func80, Tryd.ntmps80
    go_wp2
    go_ret
    exact ⟨rfl, B0⟩
  | rest =>
    have B0 := below_alloc w (.cells #[.int .i64 3, .int .i64 0, .int .i64 0, .string ⟨#[]⟩] 61)
    clear ho LK
    show Calls _ _ #[.agg #[.int .i64 3, .int .i64 0, .int .i64 0, .string ⟨#[]⟩]] _ _
    go_enter Tryd.func80, Tryd.ntmps80
    go_wp2
    go_ret
    exact ⟨rfl, B0⟩
  | paste1 =>
    have B0 := below_alloc w (.cells #[.int .i64 5, .int .i64 1, .int .i64 0, .string ⟨#[]⟩] 61)
    clear ho LK
    show Calls _ _ #[.agg #[.int .i64 5, .int .i64 1, .int .i64 0, .string ⟨#[]⟩]] _ _
    go_enter Tryd.func80, Tryd.ntmps80
    go_wp2
    go_ret
    exact ⟨rfl, B0⟩
  | paste0 =>
    have B0 := below_alloc w (.cells #[.int .i64 5, .int .i64 0, .int .i64 0, .string ⟨#[]⟩] 61)
    clear ho LK
    show Calls _ _ #[.agg #[.int .i64 5, .int .i64 0, .int .i64 0, .string ⟨#[]⟩]] _ _
    go_enter Tryd.func80, Tryd.ntmps80
    go_wp2
    go_ret
    exact ⟨rfl, B0⟩
  | bell =>
    have B0 := below_alloc w (.cells #[.int .i64 6, .int .i64 0, .int .i64 0, .string ⟨#[]⟩] 61)
    clear ho LK
    show Calls _ _ #[.agg #[.int .i64 6, .int .i64 0, .int .i64 0, .string ⟨#[]⟩]] _ _
    go_enter Tryd.func80, Tryd.ntmps80
    go_wp2
    go_ret
    exact ⟨rfl, B0⟩
  | cr =>
    have B0 := below_alloc w (.cells #[.int .i64 7, .int .i64 0, .int .i64 0, .string ⟨#[]⟩] 61)
    clear ho LK
    show Calls _ _ #[.agg #[.int .i64 7, .int .i64 0, .int .i64 0, .string ⟨#[]⟩]] _ _
    go_enter Tryd.func80, Tryd.ntmps80
    go_wp2
    go_ret
    exact ⟨rfl, B0⟩
  | lf =>
    have B0 := below_alloc w (.cells #[.int .i64 8, .int .i64 0, .int .i64 0, .string ⟨#[]⟩] 61)
    clear ho LK
    show Calls _ _ #[.agg #[.int .i64 8, .int .i64 0, .int .i64 0, .string ⟨#[]⟩]] _ _
    go_enter Tryd.func80, Tryd.ntmps80
    go_wp2
    go_ret
    exact ⟨rfl, B0⟩
end Go.Proofs.YtcdecnmhogmhaaaDoor
