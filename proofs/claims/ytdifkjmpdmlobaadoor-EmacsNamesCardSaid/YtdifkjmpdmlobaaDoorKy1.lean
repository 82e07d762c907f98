/-
  Keys: which may be, their names, their bytes; which key a name is of. No program is walked.
-/
import Derived.Test.YtdifkjmpdmlobaaDoorKy0
import Derived.Test.YtdifkjmpdmlobaaDoorW10
set_option linter.unusedVariables false
set_option linter.unusedSimpArgs false
namespace Go.Proofs.YtdifkjmpdmlobaaDoor
set_option maxRecDepth 100000
open Go.RowKit
/-- A key: kind, value, text, cut. -/
abbrev Ky := Int × Int × ByteArray × Bool
abbrev KRow := Int × Int × List UInt8 × List UInt8
/-- The keys of one name: kind, value, name, bytes. -/
def kTab : List KRow := [
  (4, 13, [82, 69, 84], [13]),
  (4, 10, [76, 70, 68], [10]),
  (5, 0, [69, 83, 67], [27]),
  (6, 0, [68, 69, 76], [127]),
  (7, 0, [85, 80], [27, 91, 65]),
  (8, 0, [68, 79, 87, 78], [27, 91, 66]),
  (9, 0, [82, 73, 71, 72, 84], [27, 91, 67]),
  (10, 0, [76, 69, 70, 84], [27, 91, 68]),
  (11, 0, [72, 79, 77, 69], [27, 91, 72]),
  (12, 0, [69, 78, 68], [27, 91, 70]),
  (13, 0, [68, 69, 76, 69, 84, 69], [27, 91, 51, 126]),
  (14, 0, [80, 71, 85, 80], [27, 91, 53, 126]),
  (14, 1, [80, 71, 68, 78], [27, 91, 54, 126])]
def kr0 : KRow := (0, 0, [], [])
def kIs (kind v : Int) (r : KRow) : Bool := r.1 == kind && r.2.1 == v
def kFind (kind v : Int) : Option KRow := kTab.find? (kIs kind v)
def kRowOf (kind v : Int) : KRow := (kFind kind v).getD kr0
def mayB (kind v : Int) : Bool :=
  if kind = 1 then decide (32 ≤ v) && decide (v ≠ 127) && rightB v
  else if kind = 2 then ctB v
  else if kind = 3 then decide (0 ≤ v ∧ v < 128) && !lnB v
  else (kFind kind v).isSome
def keyB (k : Ky) : Bool :=
  if k.1 = 15 then decide (k.2.1 = 0) && decide (k.2.2.1.size ≤ 65536)
  else decide (k.2.2.1.size = 0) && !k.2.2.2 && mayB k.1 k.2.1
/-- What a sign is named. -/
def sgN (v : Int) : List UInt8 := if 32 < v ∧ v < 127 ∧ v ≠ 60 then [v.toNat.toUInt8] else 60 :: (hexN v 1 ++ [62])
def ctN (v : Int) : List UInt8 := if 1 ≤ v ∧ v ≤ 26 then [67, 45, (v + 96).toNat.toUInt8] else [67, 45, (v + 64).toNat.toUInt8]
def hx2 (l : List UInt8) : List UInt8 := l.flatMap fun b => hexN (b.toNat : Int) 2
def psN (t : List UInt8) (cut : Bool) : List UInt8 := 80 :: 45 :: (hx2 t ++ if cut then [33] else [])
def nmN (k : Ky) : List UInt8 :=
  if k.1 = 1 then sgN k.2.1
  else if k.1 = 2 then ctN k.2.1
  else if k.1 = 3 then 77 :: 45 :: (if 32 ≤ k.2.1 then sgN k.2.1 else ctN k.2.1)
  else if k.1 = 15 then psN k.2.2.1.data.toList k.2.2.2
  else (kRowOf k.1 k.2.1).2.2.1
/-- A key's bytes. -/
def byN (k : Ky) : List UInt8 :=
  if k.1 = 1 ∨ k.1 = 2 then (txt (oneI k.2.1)).data.toList
  else if k.1 = 3 then 27 :: (txt (oneI k.2.1)).data.toList
  else if k.1 = 15 then [27, 91, 50, 48, 48, 126] ++ k.2.2.1.data.toList ++ [27, 91, 50, 48, 49, 126]
  else (kRowOf k.1 k.2.1).2.2.2
/-- What a key is, typed as it is; below 0: nothing. -/
def vlN (k : Ky) : Int := if k.1 = 1 ∨ k.1 = 2 ∨ k.1 = 4 then k.2.1 else if k.1 = 5 then 27 else if k.1 = 6 then 127 else -1
/-- Which value is named so; -1: none. -/
def sgOf (l : List UInt8) : Int :=
  if l.length = 1 then ((l.headD 0).toNat : Int)
  else if l.length < 3 ∨ l.headD 0 ≠ 60 then -1
  else if uhE ((l.drop 1).take (l.length - 2)) = 0 then uhR ((l.drop 1).take (l.length - 2)) else -1
def ctFrom (l : List UInt8) : Nat → Nat → Int
  | 0, _ => -1
  | f + 1, v => if ctN v = l then v else ctFrom l f (v + 1)
def ctOf (l : List UInt8) : Int := ctFrom l 32 0
theorem kzero {t : ByteArray} (h : t.size = 0) : t = ⟨#[]⟩ := by
  cases t with | mk a => exact congrArg ByteArray.mk (Array.eq_empty_of_size_eq_zero h)
def k0 : Ky := (0, 0, ⟨#[]⟩, false)
/-- The bytes that pairs of digits tell; none: one tells none. -/
def bpOf (l : List UInt8) : Nat → Nat → Option (List UInt8)
  | 0, _ => some []
  | f + 1, i => if uhE ((l.drop (2 * i)).take 2) = 0 then (bpOf l f (i + 1)).map fun r => (uhR ((l.drop (2 * i)).take 2)).toNat.toUInt8 :: r else none
def psCut (l : List UInt8) : List UInt8 × Bool := if l.getLast? = some 33 then (l.dropLast, true) else (l, false)
def psOf (l : List UInt8) : Ky :=
  match bpOf (psCut l).1 ((psCut l).1.length / 2) 0 with
  | none => k0
  | some t => (15, 0, ⟨t.toArray⟩, (psCut l).2)
def kNamed (l : List UInt8) : Option KRow := kTab.find? fun r => r.2.2.1 == l
def kyOf (l : List UInt8) : Ky :=
  match kNamed l with
  | some r => (r.1, r.2.1, ⟨#[]⟩, false)
  | none =>
    if [80, 45] <+: l then psOf (l.drop 2)
    else if [77, 45, 67, 45] <+: l then (3, ctOf (l.drop 2), ⟨#[]⟩, false)
    else if [77, 45] <+: l then (3, sgOf (l.drop 2), ⟨#[]⟩, false)
    else if [67, 45] <+: l then (2, ctOf l, ⟨#[]⟩, false)
    else (1, sgOf l, ⟨#[]⟩, false)
/-- The key of a name, and the error. -/
def prOk (l : List UInt8) : Bool := keyB (kyOf l) && nmN (kyOf l) == l
def prK (l : List UInt8) : Ky := if prOk l then kyOf l else k0
def prE (l : List UInt8) : Int := if prOk l then 0 else 6
theorem right_le {v : Int} (h : rightB v = true) : 0 ≤ v ∧ v ≤ 1114367 := by
  unfold rightB at h; rw [Bool.or_eq_true, ptB_iff, stB_iff] at h; omega
theorem hexN_short (v : Int) (h0 : 0 ≤ v) (h : v ≤ 1114367) : (hexN v 1).length ≤ 6 := by
  have e : ∀ n : Nat, n < 16777216 → (tell 16 20 n 1).length ≤ 6 := by
    intro n hn
    rw [show (20 : Nat) = 14 + 6 by rfl]
    have key : ∀ k f n : Nat, n < 16 ^ k → 1 ≤ k → (tell 16 (f + k) n 1).length ≤ k ∧ (tell 16 (f + k) n 0).length ≤ k := by
      intro k
      induction k with
      | zero => intro f n _ h; omega
      | succ k ih =>
        intro f n hn _
        by_cases hk : k = 0
        · subst hk
          have h16 : n < 16 := by simpa using hn
          have hd : n / 16 = 0 := by omega
          have z : ∀ f, tell 16 f 0 0 = [] := by intro f; cases f <;> simp [tell]
          constructor
          · show (tell 16 (f + 0 + 1) n 1).length ≤ 1
            rw [tell, if_neg (by omega), hd]; simp [z]
          · show (tell 16 (f + 0 + 1) n 0).length ≤ 1
            rw [tell]; split
            · simp
            · rw [hd]; simp [z]
        · have hq : n / 16 < 16 ^ k := by rw [Nat.pow_succ] at hn; omega
          have ⟨h1, h2⟩ := ih f (n / 16) hq (by omega)
          constructor
          · show (tell 16 (f + k + 1) n 1).length ≤ k + 1
            rw [tell, if_neg (by omega), List.length_append]; simp; exact h2
          · show (tell 16 (f + k + 1) n 0).length ≤ k + 1
            rw [tell]; split
            · simp
            · rw [List.length_append]; simp; exact h2
    exact (key 6 14 n hn (by omega)).1
  unfold hexN
  rw [show (max (1 : Int) 1).toNat = 1 by omega]
  exact e v.toNat (by omega)
theorem u8_of (v : Int) (h0 : 0 ≤ v) (h1 : v < 256) : ((v.toNat.toUInt8).toNat : Int) = v := by
  rw [u8_nat h0 h1]; omega
theorem sgOf_sgN (v : Int) (h0 : 32 ≤ v) (h1 : v ≤ 1114367) : sgOf (sgN v) = v := by
  unfold sgN
  split
  · rename_i h
    unfold sgOf
    rw [if_pos (show [v.toNat.toUInt8].length = 1 from rfl)]
    exact u8_of v (by omega) (by omega)
  · have hn := hexN_ne v 1
    have hl := hexN_short v (by omega) h1
    have hp : 0 < (hexN v 1).length := List.length_pos_iff.2 hn
    have ⟨u1, u2⟩ := uh_hex v 1 (by omega) (by omega) (by omega)
    have e : (((60 : UInt8) :: (hexN v 1 ++ [62])).drop 1).take (((60 : UInt8) :: (hexN v 1 ++ [62])).length - 2) = hexN v 1 := by
      simp
    unfold sgOf
    rw [e, if_neg (by simp <;> omega), if_neg (by simp <;> omega), u1, u2, if_pos rfl]
theorem ctOf_ctN (v : Int) (h0 : 0 ≤ v) (h1 : v < 32) : ctOf (ctN v) = v := by
  have key : ∀ j : Fin 32, ctOf (ctN ((j : Nat) : Int)) = ((j : Nat) : Int) := by decide
  have := key ⟨v.toNat, by omega⟩
  rwa [show (((⟨v.toNat, by omega⟩ : Fin 32) : Nat) : Int) = v by simp; omega] at this
theorem hex2 (b : UInt8) : (hexN (b.toNat : Int) 2).length = 2 ∧ uhE (hexN (b.toNat : Int) 2) = 0 ∧ uhR (hexN (b.toNat : Int) 2) = b.toNat ∧ (hexN (b.toNat : Int) 2).getLast? ≠ some 33 := by
  have hb : b.toNat < 256 := b.toNat_lt
  have key : ∀ n : Fin 256, (tell 16 20 n 2).length = 2 ∧ (tell 16 20 n 2).getLast? ≠ some 33 := by decide
  have hx : hexN (b.toNat : Int) 2 = tell 16 20 b.toNat 2 := by
    unfold hexN; rw [show (max (2 : Int) 1).toNat = 2 by omega]; rfl
  have ⟨k1, k2⟩ := key ⟨b.toNat, hb⟩
  have ⟨u1, u2⟩ := uh_hex (b.toNat : Int) 2 (by omega) (by omega) (by rw [hx]; rw [show (tell 16 20 b.toNat 2).length = 2 from k1]; omega)
  exact ⟨by rw [hx]; exact k1, u2, u1, by rw [hx]; exact k2⟩
theorem hx2_len (t : List UInt8) : (hx2 t).length = 2 * t.length := by
  induction t with
  | nil => rfl
  | cons b t ih => show (hexN (b.toNat : Int) 2 ++ hx2 t).length = _; rw [List.length_append, ih, (hex2 b).1]; simp; omega
theorem bpOf_hx2 (p t : List UInt8) : bpOf (hx2 (p ++ t)) t.length p.length = some t := by
  induction t generalizing p with
  | nil => rfl
  | cons b t ih =>
    have e : ((hx2 (p ++ b :: t)).drop (2 * p.length)).take 2 = hexN (b.toNat : Int) 2 := by
      have h1 : hx2 (p ++ b :: t) = hx2 p ++ (hexN (b.toNat : Int) 2 ++ hx2 t) := by unfold hx2; rw [List.flatMap_append]; rfl
      rw [h1, ← hx2_len p, List.drop_left, show 2 = (hexN (b.toNat : Int) 2).length from (hex2 b).1.symm, List.take_left]
    have h := ih (p ++ [b])
    rw [show p ++ [b] ++ t = p ++ b :: t by simp, show (p ++ [b]).length = p.length + 1 by simp] at h
    show (if uhE _ = 0 then _ else _) = _
    rw [e, if_pos (hex2 b).2.1, h, (hex2 b).2.2.1]
    have : ((b.toNat : Int)).toNat.toUInt8 = b := by simp
    simp [this]
theorem hx2_last (t : List UInt8) : (hx2 t).getLast? ≠ some 33 := by
  induction t with
  | nil => decide
  | cons b t ih =>
    show (hexN (b.toNat : Int) 2 ++ hx2 t).getLast? ≠ some 33
    rw [List.getLast?_append]
    cases h : (hx2 t).getLast? with
    | none => simpa using (hex2 b).2.2.2
    | some x => rw [h] at ih; simpa using ih
theorem psOf_psN (t : List UInt8) (cut : Bool) : psOf (hx2 t ++ if cut then [33] else []) = (15, 0, ⟨t.toArray⟩, cut) := by
  have e : psCut (hx2 t ++ if cut then [33] else []) = (hx2 t, cut) := by
    unfold psCut
    cases cut with
    | false => simp only [if_neg (show ¬ (false = true) by decide), List.append_nil]; rw [if_neg (hx2_last t)]
    | true => simp
  have hb := bpOf_hx2 [] t
  have hl : (hx2 t).length / 2 = t.length := by rw [hx2_len]; omega
  unfold psOf
  rw [e]
  dsimp only
  rw [hl, show bpOf (hx2 t) t.length 0 = some t from hb]
theorem kNamed_of {l : List UInt8} (h : ∀ r ∈ kTab, r.2.2.1 ≠ l) : kNamed l = none := by
  unfold kNamed
  rw [List.find?_eq_none]
  intro r hr; simpa using h r hr
theorem kTab_heads (r : KRow) (h : r ∈ kTab) : 2 ≤ r.2.2.1.length ∧ r.2.2.1.head? ≠ some 60 ∧ r.2.2.1.head? ≠ some 67 ∧ r.2.2.1.head? ≠ some 77 ∧ r.2.2.1[1]? ≠ some 45 := by
  revert r; decide
theorem find_ok {kind v : Int} {r : KRow} (h : kFind kind v = some r) : r ∈ kTab ∧ r.1 = kind ∧ r.2.1 = v := by
  have h1 := List.mem_of_find?_eq_some h
  have h2 := List.find?_some h
  unfold kIs at h2
  simp at h2
  exact ⟨h1, h2⟩
theorem named_back (r : KRow) (h : r ∈ kTab) : kNamed r.2.2.1 = some r := by revert r; decide
theorem ctN_cons (v : Int) : ∃ c, ctN v = [67, 45, c] := by unfold ctN; split <;> exact ⟨_, rfl⟩
theorem sgN_form (v : Int) : (∃ c, sgN v = [c]) ∨ ∃ l, sgN v = 60 :: l ∧ 2 ≤ l.length := by
  unfold sgN; split
  · exact Or.inl ⟨_, rfl⟩
  · refine Or.inr ⟨_, rfl, ?_⟩
    have := List.length_pos_iff.2 (hexN_ne v 1)
    simp; omega
theorem kyOf_nmN (k : Ky) (h : keyB k = true) : kyOf (nmN k) = k := by
  obtain ⟨kind, v, t, c⟩ := k
  by_cases h15 : kind = 15
  · subst h15
    unfold keyB at h
    dsimp only at h
    rw [if_pos rfl] at h
    simp at h
    obtain ⟨rfl, _⟩ := h
    have e : nmN (15, 0, t, c) = 80 :: 45 :: (hx2 t.data.toList ++ if c then [33] else []) := rfl
    rw [e]
    unfold kyOf
    rw [kNamed_of (fun r hr he => (kTab_heads r hr).2.2.2.2 (by rw [he]; rfl))]
    dsimp only
    rw [if_pos (by exact ⟨_, rfl⟩)]
    have e2 : List.drop 2 (80 :: 45 :: (hx2 t.data.toList ++ if c = true then [33] else [])) = hx2 t.data.toList ++ if c = true then [33] else [] := rfl
    rw [e2, psOf_psN]
  · unfold keyB at h
    dsimp only at h
    rw [if_neg h15] at h
    simp at h
    obtain ⟨⟨ht, rfl⟩, hm⟩ := h
    obtain rfl : t = ⟨#[]⟩ := ht
    by_cases h1 : kind = 1
    · subst h1
      unfold mayB at hm
      rw [if_pos rfl] at hm
      simp at hm
      have hr := right_le hm.2
      have e : nmN (1, v, ⟨#[]⟩, false) = sgN v := rfl
      rw [e]
      have hs := sgOf_sgN v hm.1.1 hr.2
      unfold kyOf
      rcases sgN_form v with ⟨x, hx⟩ | ⟨l, hx, hl⟩
      · rw [kNamed_of (fun r hr he => by have := (kTab_heads r hr).1; rw [he, hx] at this; simp at this)]
        dsimp only
        rw [hx] at hs ⊢
        rw [if_neg (fun ⟨s, h⟩ => by simp at h), if_neg (fun ⟨s, h⟩ => by simp at h), if_neg (fun ⟨s, h⟩ => by simp at h), if_neg (fun ⟨s, h⟩ => by simp at h), hs]
      · rw [kNamed_of (fun r hr he => (kTab_heads r hr).2.1 (by rw [he, hx]; rfl))]
        dsimp only
        rw [hx] at hs ⊢
        rw [if_neg (fun ⟨s, h⟩ => by simp at h), if_neg (fun ⟨s, h⟩ => by simp at h), if_neg (fun ⟨s, h⟩ => by simp at h), if_neg (fun ⟨s, h⟩ => by simp at h), hs]
    by_cases h2 : kind = 2
    · subst h2
      unfold mayB at hm
      rw [if_neg (by decide), if_pos rfl] at hm
      have hv : 0 ≤ v ∧ v ≤ 31 := by unfold ctB at hm; simp at hm; exact hm.1
      have e : nmN (2, v, ⟨#[]⟩, false) = ctN v := rfl
      rw [e]
      have hs := ctOf_ctN v hv.1 (by omega)
      obtain ⟨x, hx⟩ := ctN_cons v
      unfold kyOf
      rw [kNamed_of (fun r hr he => (kTab_heads r hr).2.2.1 (by rw [he, hx]; rfl))]
      dsimp only
      rw [hx] at hs ⊢
      rw [if_neg (fun ⟨s, h⟩ => by simp at h), if_neg (fun ⟨s, h⟩ => by simp at h), if_neg (fun ⟨s, h⟩ => by simp at h), if_pos (by exact ⟨_, rfl⟩), hs]
    by_cases h3 : kind = 3
    · subst h3
      unfold mayB at hm
      rw [if_neg (by decide), if_neg (by decide), if_pos rfl] at hm
      have hv : 0 ≤ v ∧ v < 128 := by simp at hm; exact hm.1
      have e : nmN (3, v, ⟨#[]⟩, false) = 77 :: 45 :: (if 32 ≤ v then sgN v else ctN v) := rfl
      rw [e]
      unfold kyOf
      rw [kNamed_of (fun r hr he => (kTab_heads r hr).2.2.2.1 (by rw [he]; rfl))]
      dsimp only
      rw [if_neg (fun ⟨s, h⟩ => by simp at h)]
      by_cases hb : 32 ≤ v
      · rw [if_pos hb]
        have hs := sgOf_sgN v hb (by omega)
        rw [if_neg (fun ⟨s, h⟩ => by
          rcases sgN_form v with ⟨x, hx⟩ | ⟨l, hx, hl⟩
          · rw [hx] at h; simp at h
          · rw [hx] at h; simp at h), if_pos (by exact ⟨_, rfl⟩)]
        show (3, sgOf (sgN v), _, _) = _
        rw [hs]
      · rw [if_neg hb]
        have hs := ctOf_ctN v hv.1 (by omega)
        obtain ⟨x, hx⟩ := ctN_cons v
        rw [if_pos (by rw [hx]; exact ⟨[x], rfl⟩)]
        show (3, ctOf (ctN v), _, _) = _
        rw [hs]
    · unfold mayB at hm
      rw [if_neg h1, if_neg h2, if_neg h3] at hm
      obtain ⟨r, hr⟩ := Option.isSome_iff_exists.1 hm
      have ⟨hmem, e1, e2⟩ := find_ok hr
      have e : nmN (kind, v, ⟨#[]⟩, false) = r.2.2.1 := by
        show (if kind = 1 then _ else if kind = 2 then _ else if kind = 3 then _ else if kind = 15 then _ else _) = _
        rw [if_neg h1, if_neg h2, if_neg h3, if_neg h15]
        show (kRowOf kind v).2.2.1 = _
        unfold kRowOf; rw [hr]; rfl
      rw [e]
      unfold kyOf
      rw [named_back r hmem]
      dsimp only
      rw [e1, e2]
theorem parse_name (k : Ky) (h : keyB k = true) : prK (nmN k) = k ∧ prE (nmN k) = 0 := by
  have e := kyOf_nmN k h
  have ok : prOk (nmN k) = true := by unfold prOk; rw [e, h]; simp
  unfold prK prE
  rw [ok]
  exact ⟨by rw [if_pos rfl, e], rfl⟩
theorem parse_cases (l : List UInt8) : (prE l = 0 ∧ keyB (prK l) = true ∧ nmN (prK l) = l) ∨ (prE l = 6 ∧ prK l = k0) := by
  cases h : prOk l with
  | true =>
    left
    unfold prE prK
    rw [h]
    unfold prOk at h
    simp at h
    exact ⟨rfl, h.1, h.2⟩
  | false => right; unfold prE prK; rw [h]; exact ⟨rfl, rfl⟩
end Go.Proofs.YtdifkjmpdmlobaaDoor
