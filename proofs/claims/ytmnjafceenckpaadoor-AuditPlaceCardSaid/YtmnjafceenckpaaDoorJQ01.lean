/-
  Joined: Cls0 Fnd Num0 Num1 Law T0 W1.
-/
import Derived.RowKit
import Derived.ProofKit
import Derived.OpenShut
import Derived.Below
import Derived.Carry
import Derived.Test.YtmnjafceenckpaaDoorRows
import Derived.WalkKit
import Derived.WalkSpells
import Derived.WalkLawsBesides
import Derived.Handy
import Derived.Lib.Hide
set_option maxRecDepth 100000
set_option linter.unusedVariables false
set_option linter.unusedSimpArgs false
namespace Go.Proofs.YtmnjafceenckpaaDoor
set_option linter.unusedVariables false
set_option linter.unusedSimpArgs false
open Go

def rng : List Int := [10, 160, 160, 10, 5760, 5760, 10, 8192, 8202, 10, 8232, 8233, 10, 8239, 8239, 10, 8287, 8287, 10, 12288, 12288, 8, 173, 173, 8, 6155, 6158, 8, 8203, 8205, 8, 8288, 8292, 8, 65279, 65279, 8, 65529, 65531, 7, 1564, 1564, 7, 8206, 8207, 7, 8234, 8238, 7, 8294, 8297, 9, 768, 879, 9, 1155, 1161, 9, 1425, 1469, 9, 1552, 1562, 9, 1611, 1631, 9, 1750, 1756, 9, 6832, 6862, 9, 7616, 7679, 9, 8400, 8432, 9, 12330, 12335, 9, 12441, 12442, 9, 65024, 65039, 9, 65056, 65071, 11, 57344, 63743, 11, 64976, 65007, 11, 65520, 65528, 11, 65534, 65535, 11, 131070, 131071, 11, 262142, 1114111, 2, 4352, 4447, 2, 8986, 8987, 2, 11904, 12287, 2, 12289, 12350, 2, 12353, 13311, 2, 13312, 19903, 2, 19968, 42191, 2, 43360, 43391, 2, 44032, 55203, 2, 63744, 64255, 2, 65072, 65135, 2, 65280, 65376, 2, 65504, 65510, 2, 127744, 128591, 2, 128640, 128767, 2, 129280, 129535, 2, 131072, 262141]
def lks : List Int := [913, 65, 914, 66, 917, 69, 918, 90, 919, 72, 921, 73, 922, 75, 924, 77, 925, 78, 927, 79, 929, 80, 932, 84, 933, 89, 935, 88, 957, 118, 959, 111, 961, 112, 1029, 83, 1030, 73, 1032, 74, 1040, 65, 1042, 66, 1045, 69, 1050, 75, 1052, 77, 1053, 72, 1054, 79, 1056, 80, 1057, 67, 1058, 84, 1061, 88, 1072, 97, 1077, 101, 1086, 111, 1088, 112, 1089, 99, 1091, 121, 1093, 120, 1109, 115, 1110, 105, 1112, 106, 1281, 100, 1307, 113, 1309, 119, 894, 59, 8208, 45, 8722, 45, 8260, 47, 8725, 47, 8228, 46, 8218, 44]
/-- Is v in a range? -/
def inb (v a b : Int) : Bool := decide (a ≤ v) && decide (v ≤ b)
def hitR (v : Int) (j : Nat) : Bool := inb v (rng.getD (3 * j + 1) 0) (rng.getD (3 * j + 2) 0)
def hitL (v : Int) (j : Nat) : Bool := inb v (lks.getD (2 * j) 0) (lks.getD (2 * j) 0)
/-- What a value looks like. -/
def skel (v : Int) : Int := match (List.range 51).find? (hitL v) with | some j => lks.getD (2 * j + 1) 0 | none => v
/-- The class that the tables tell. -/
def told (v : Int) : Int := match (List.range 53).find? (hitR v) with | some j => rng.getD (3 * j) 0 | none => if skel v = v then 1 else 3

theorem find_first {p : Nat → Bool} {n k : Nat} (hk : k < n) (hp : p k = true) (h : ∀ j, j < k → p j = false) : (List.range n).find? p = some k := by
  rw [List.find?_range_eq_some]
  exact ⟨hp, by simpa using hk, fun j hj => by rw [h j hj]; rfl⟩
theorem find_none {p : Nat → Bool} {n : Nat} (h : ∀ j, j < n → p j = false) : (List.range n).find? p = none := by
  rw [List.find?_eq_none]
  intro j hj
  rw [h j (by simpa using hj)]; simp
/-- A code point. -/
def pnt (v : Int) : Bool := decide (0 ≤ v ∧ v < 55296 ∨ 57343 < v ∧ v ≤ 1114111)
/-- A stray byte. -/
def stry (v : Int) : Bool := decide (1114240 ≤ v ∧ v ≤ 1114367)
/-- A value that may be. -/
def rght (v : Int) : Bool := pnt v || stry v
/-- A value's class. -/
def cls (v : Int) : Int := if rght v = false then 0 else if 1114112 ≤ v then 12 else if v < 32 then 4 else if v = 127 then 5 else if 128 ≤ v ∧ v < 160 then 6 else if v < 160 then 1 else told v
def wid (v : Int) : Int := if cls v = 2 then 2 else if cls v = 1 ∨ cls v = 3 then 1 else 0
def dng (v : Int) : Bool := decide (3 < cls v)
theorem pnt_cases (v : Int) : (pnt v = true ∧ (0 ≤ v ∧ v < 55296 ∨ 57343 < v ∧ v ≤ 1114111)) ∨ (pnt v = false ∧ (v < 0 ∨ 55296 ≤ v ∧ v ≤ 57343 ∨ 1114111 < v)) := by
  unfold pnt
  by_cases h : 0 ≤ v ∧ v < 55296 ∨ 57343 < v ∧ v ≤ 1114111
  · left; exact ⟨decide_eq_true h, h⟩
  · right; exact ⟨decide_eq_false h, by omega⟩
theorem stry_cases (v : Int) : (stry v = true ∧ 1114240 ≤ v ∧ v ≤ 1114367) ∨ (stry v = false ∧ (v < 1114240 ∨ 1114367 < v)) := by
  unfold stry
  by_cases h : 1114240 ≤ v ∧ v ≤ 1114367
  · left; exact ⟨decide_eq_true h, h.1, h.2⟩
  · right; exact ⟨decide_eq_false h, by omega⟩
end Go.Proofs.YtmnjafceenckpaaDoor
set_option linter.unusedVariables false
namespace Go.Proofs.YtmnjafceenckpaaDoor
/-- The first place from p on, of f ones, that meets t; else d. -/
def upF (t : Int → Bool) (d : Int) : Nat → Int → Int
  | 0, _ => d
  | f + 1, p => if t p = true then p else upF t d f (p + 1)
/-- .. downwards. -/
def dnF (t : Int → Bool) (d : Int) : Nat → Int → Int
  | 0, _ => d
  | f + 1, p => if t p = true then p else dnF t d f (p - 1)
theorem up_hit {t : Int → Bool} {d p : Int} {f : Nat} (hf : 0 < f) (h : t p = true) : upF t d f p = p := by
  obtain ⟨g, rfl⟩ : ∃ g, f = g + 1 := ⟨f - 1, by omega⟩
  show (if t p = true then p else _) = p
  rw [if_pos h]
theorem up_miss {t : Int → Bool} {d p : Int} {f : Nat} (hf : 0 < f) (h : t p = false) : upF t d f p = upF t d (f - 1) (p + 1) := by
  obtain ⟨g, rfl⟩ : ∃ g, f = g + 1 := ⟨f - 1, by omega⟩
  show (if t p = true then p else _) = _
  rw [if_neg (by rw [h]; simp)]; rfl
theorem up_end {t : Int → Bool} {d p : Int} {f : Nat} (hf : f = 0) : upF t d f p = d := by subst hf; rfl
theorem dn_hit {t : Int → Bool} {d p : Int} {f : Nat} (hf : 0 < f) (h : t p = true) : dnF t d f p = p := by
  obtain ⟨g, rfl⟩ : ∃ g, f = g + 1 := ⟨f - 1, by omega⟩
  show (if t p = true then p else _) = p
  rw [if_pos h]
theorem dn_miss {t : Int → Bool} {d p : Int} {f : Nat} (hf : 0 < f) (h : t p = false) : dnF t d f p = dnF t d (f - 1) (p - 1) := by
  obtain ⟨g, rfl⟩ : ∃ g, f = g + 1 := ⟨f - 1, by omega⟩
  show (if t p = true then p else _) = _
  rw [if_neg (by rw [h]; simp)]; rfl
theorem dn_end {t : Int → Bool} {d p : Int} {f : Nat} (hf : f = 0) : dnF t d f p = d := by subst hf; rfl
end Go.Proofs.YtmnjafceenckpaaDoor
namespace Go.Proofs.YtmnjafceenckpaaDoor
open Go

/-- A digit's byte. -/
def dg (k : Nat) : UInt8 := if k < 10 then UInt8.ofNat (48 + k) else UInt8.ofNat (55 + k)

/-- The digits of n to base b, at least l, at most f. -/
def tell (b : Nat) : Nat → Nat → Nat → List UInt8
  | 0, _, _ => []
  | f + 1, n, l => if n = 0 ∧ l = 0 then [] else tell b f (n / b) (l - 1) ++ [dg (n % b)]

/-- The room, the digits at its end. -/
def room (m : Nat) (acc : List UInt8) : Array Value := ((List.replicate m (0 : UInt8) ++ acc).map fun x => Value.int .u8 (x.toNat : Int)).toArray

theorem room_nil : room 20 [] = #[Value.int IntKind.u8 0, Value.int IntKind.u8 0, Value.int IntKind.u8 0, Value.int IntKind.u8 0, Value.int IntKind.u8 0, Value.int IntKind.u8 0, Value.int IntKind.u8 0, Value.int IntKind.u8 0, Value.int IntKind.u8 0, Value.int IntKind.u8 0, Value.int IntKind.u8 0, Value.int IntKind.u8 0, Value.int IntKind.u8 0, Value.int IntKind.u8 0, Value.int IntKind.u8 0, Value.int IntKind.u8 0, Value.int IntKind.u8 0, Value.int IntKind.u8 0, Value.int IntKind.u8 0, Value.int IntKind.u8 0] := rfl

theorem room_at (m : Nat) (acc : List UInt8) (i : Nat) (h : i < m) : (room m acc)[i]? = some (.int .u8 0) := by
  unfold room
  rw [List.getElem?_toArray, List.getElem?_map, List.getElem?_append_left (by simp; omega), List.getElem?_replicate, if_pos (by omega)]
  rfl

theorem room_put (q : Nat) (acc : List UInt8) (x : UInt8) : (room (q + 1) acc).setIfInBounds q (.int .u8 (x.toNat : Int)) = room q (x :: acc) := by
  apply Array.ext'
  simp only [room, Array.toList_setIfInBounds]
  rw [List.replicate_succ', List.append_assoc, List.map_append, List.map_append, List.set_append_right _ _ (by simp)]
  simp

theorem dg_at (k : Nat) (h : k < (⟨#[48, 49, 50, 51, 52, 53, 54, 55, 56, 57, 65, 66, 67, 68, 69, 70]⟩ : ByteArray).size) : (⟨#[48, 49, 50, 51, 52, 53, 54, 55, 56, 57, 65, 66, 67, 68, 69, 70]⟩ : ByteArray)[k] = dg k := by
  have h' : k < 16 := h
  have key : ∀ j : Fin 16, (⟨#[48, 49, 50, 51, 52, 53, 54, 55, 56, 57, 65, 66, 67, 68, 69, 70]⟩ : ByteArray).data.toList.getD j 0 = dg j := by decide
  have e := key ⟨k, h'⟩
  rw [← e]
  rw [List.getD, List.getElem?_eq_getElem (by simpa using h')]
  rfl

theorem pow_step (b q k : Nat) (hb : 2 ≤ b) (h : k < b ^ (q + 1)) : k / b < b ^ q := by
  rw [Nat.pow_succ] at h
  exact Nat.div_lt_of_lt_mul (by rw [Nat.mul_comm]; exact h)

theorem tell_step (b q n l : Nat) (acc : List UInt8) (h : ¬ (n = 0 ∧ l = 0)) : tell b q (n / b) (l - 1) ++ (dg (n % b) :: acc) = tell b (q + 1) n l ++ acc := by
  rw [tell, if_neg h]; simp

theorem tell_done (b q : Nat) (acc : List UInt8) : tell b q 0 0 ++ acc = acc := by
  cases q <;> simp [tell]

/-- What a digit is worth. -/
def worth (c : Int) : Int := if 48 ≤ c ∧ c ≤ 57 then c - 48 else if 65 ≤ c ∧ c ≤ 70 then c - 55 else 18446744073709551615

theorem worth_nonneg (c : Int) : 0 ≤ worth c := by unfold worth; split; omega; split <;> omega

/-- Digits read to base b, around 2^64. -/
def rdv (b : Nat) (l : List UInt8) : Int := l.foldl (fun n c => IntKind.u64.wrap (IntKind.u64.wrap (n * b) + worth (c.toNat : Int))) 0
/-- Are they digits to base b? -/
def digs (b : Nat) (l : List UInt8) : Bool := l.all fun c => decide (worth (c.toNat : Int) < b)

theorem rdv_snoc (b : Nat) (l : List UInt8) (c : UInt8) : rdv b (l ++ [c]) = IntKind.u64.wrap (IntKind.u64.wrap (rdv b l * b) + worth (c.toNat : Int)) := by simp [rdv]
theorem digs_snoc (b : Nat) (l : List UInt8) (c : UInt8) : digs b (l ++ [c]) = (digs b l && decide (worth (c.toNat : Int) < b)) := by simp [digs]
theorem digs_of (b : Nat) (l r : List UInt8) (h : digs b (l ++ r) = true) : digs b l = true := by
  simp only [digs, List.all_append, Bool.and_eq_true] at h ⊢; exact h.1

theorem take_snoc (s : ByteArray) (k : Nat) (h : k < s.size) : s.data.toList.take (k + 1) = s.data.toList.take k ++ [s[k]] := by
  rw [List.take_succ_eq_append_getElem (by simpa using h)]; rfl
theorem take_all (s : ByteArray) (k : Nat) (h : s.size ≤ k) : s.data.toList.take k = s.data.toList := List.take_of_length_le (by simpa using h)

theorem u8_nn (c : UInt8) : (0 : Int) ≤ (c.toNat : Int) := Int.natCast_nonneg _
theorem u8_lt (c : UInt8) : (c.toNat : Int) < 256 := by have := c.toNat_lt; omega

theorem tell_len (b : Nat) : ∀ f n l, (tell b f n l).length ≤ f := by
  intro f
  induction f with
  | zero => intro n l; simp [tell]
  | succ f ih => intro n l; rw [tell]; split; simp; have := ih (n / b) (l - 1); simp; omega
theorem u64_neg (n : Int) (h0 : -9223372036854775808 ≤ n) (h : n < 0) : IntKind.u64.wrap (-IntKind.u64.wrap n) = (n.natAbs : Int) := by
  simp [IntKind.wrap, IntKind.bits, IntKind.signed]; omega
theorem u64_pos (n : Int) (h0 : 0 ≤ n) (h : n ≤ 9223372036854775807) : IntKind.u64.wrap n = n := by
  simp [IntKind.wrap, IntKind.bits, IntKind.signed]; omega

theorem ba_app (a b : List UInt8) : (⟨a.toArray⟩ : ByteArray) ++ (⟨b.toArray⟩ : ByteArray) = ⟨(a ++ b).toArray⟩ := by
  apply ByteArray.ext
  rw [ByteArray.data_append]
  simp

end Go.Proofs.YtmnjafceenckpaaDoor
namespace Go.Proofs.YtmnjafceenckpaaDoor
open Go

theorem wu (n : Int) : IntKind.u64.wrap n = n % 18446744073709551616 := by
  simp [IntKind.wrap, IntKind.bits, IntKind.signed]

theorem wu_step (x b y : Int) : IntKind.u64.wrap (IntKind.u64.wrap (IntKind.u64.wrap x * b) + y) = IntKind.u64.wrap (x * b + y) := by
  simp only [wu]
  rw [Int.add_emod, Int.emod_emod_of_dvd _ (Int.dvd_refl _), Int.mul_emod, Int.emod_emod_of_dvd _ (Int.dvd_refl _), ← Int.mul_emod, ← Int.add_emod]

/-- Digits' number, not around anything. -/
def dv (b : Nat) (l : List UInt8) : Int := l.foldl (fun n c => n * b + worth (c.toNat : Int)) 0
theorem dv_snoc (b : Nat) (l : List UInt8) (c : UInt8) : dv b (l ++ [c]) = dv b l * b + worth (c.toNat : Int) := by simp [dv]

theorem snoc_ind {P : List UInt8 → Prop} (h0 : P []) (h1 : ∀ l c, P l → P (l ++ [c])) : ∀ l, P l := by
  intro l
  have h : ∀ r : List UInt8, P r.reverse := by
    intro r
    induction r with
    | nil => exact h0
    | cons c r ih => rw [List.reverse_cons]; exact h1 _ _ ih
  have := h l.reverse
  rwa [List.reverse_reverse] at this

theorem rdv_dv (b : Nat) (l : List UInt8) : rdv b l = IntKind.u64.wrap (dv b l) := by
  refine snoc_ind (P := fun l => rdv b l = IntKind.u64.wrap (dv b l)) rfl ?_ l
  intro l c ih
  rw [rdv_snoc, dv_snoc, ih, wu_step]

theorem worth_dg (k : Nat) (h : k < 16) : worth ((dg k).toNat : Int) = k := by
  have key : ∀ j : Fin 16, worth ((dg j).toNat : Int) = (j.val : Int) := by decide
  exact key ⟨k, h⟩

theorem dv_tell (b : Nat) (hb : 2 ≤ b) (hb' : b ≤ 16) : ∀ f n l, n < b ^ f → dv b (tell b f n l) = n := by
  intro f
  induction f with
  | zero => intro n l h; have : n = 0 := by simpa using h
            subst this; rfl
  | succ f ih =>
    intro n l h
    rw [tell]
    by_cases hz : n = 0 ∧ l = 0
    · rw [if_pos hz, hz.1]; rfl
    · have hm : n % b < b := Nat.mod_lt _ (by omega)
      rw [if_neg hz, dv_snoc, ih _ _ (pow_step b f n hb h), worth_dg _ (by omega)]
      have := Nat.div_add_mod n b
      rw [Nat.mul_comm] at this
      have e : ((n / b * b + n % b : Nat) : Int) = n := by rw [this]
      simpa using e

theorem digs_tell (b : Nat) (hb : 2 ≤ b) (hb' : b ≤ 16) : ∀ f n l, digs b (tell b f n l) = true := by
  intro f
  induction f with
  | zero => intro n l; rfl
  | succ f ih =>
    intro n l
    rw [tell]
    by_cases hz : n = 0 ∧ l = 0
    · rw [if_pos hz]; rfl
    · have hm : n % b < b := Nat.mod_lt _ (by omega)
      rw [if_neg hz, digs_snoc, ih, worth_dg _ (by omega)]
      simp; omega

theorem dv_bound (b : Nat) (l : List UInt8) : digs b l = true → 0 ≤ dv b l ∧ dv b l < (b : Int) ^ l.length := by
  refine snoc_ind (P := fun l => digs b l = true → 0 ≤ dv b l ∧ dv b l < (b : Int) ^ l.length) (fun _ => ⟨Int.le_refl 0, by simp [dv]⟩) ?_ l
  intro l c ih h
  rw [digs_snoc, Bool.and_eq_true] at h
  have ⟨i1, i2⟩ := ih h.1
  have hw : worth (c.toNat : Int) < b := by simpa using h.2
  have hn := worth_nonneg (c.toNat : Int)
  rw [dv_snoc, List.length_append]
  have hbn : (0 : Int) ≤ b := Int.natCast_nonneg b
  refine ⟨Int.add_nonneg (Int.mul_nonneg i1 hbn) hn, ?_⟩
  have h1 : dv b l + 1 ≤ (b : Int) ^ l.length := i2
  have h2 := Int.mul_le_mul_of_nonneg_right h1 hbn
  rw [Int.add_mul] at h2
  show _ < (b : Int) ^ (l.length + 1)
  rw [Int.pow_succ]
  omega

theorem tell_ne (b f n l : Nat) (h : 0 < l ∨ 0 < n) : tell b (f + 1) n l ≠ [] := by
  rw [tell, if_neg (by omega)]; simp

end Go.Proofs.YtmnjafceenckpaaDoor
namespace Go.Proofs.YtmnjafceenckpaaDoor
open Go.ChangeShapes Go.WideShapes Go.ChangeAt Go.RowKit
section
variable {H : Type} {enc : TypeId × Value → H} {P : Program}
theorem args_stay (hl : laidOutB P = true) {W W' : World} (hb : Below W.heap.size W W') :
    ∀ {ts : List TypeId} {vs : List Value} {ds : List (DataW H)} {ps : List MemPlace}, (ts.all fun t => P.readableRec t && decide (t < P.types.size)) = true → (∀ x ∈ ps, x.block < W.heap.size) →
      DataW.TrodAll enc P W 0 (fun _ => true) true ts vs ds ps → DataW.TrodAll enc P W' 0 (fun b => decide (b < W.heap.size)) true ts vs ds ps
  | [], _, _, _, _, _, h => by
    obtain ⟨rfl, rfl, rfl⟩ := trodAll_nil h
    exact trodAll_mk0
  | t :: ts, _, _, _, hr, hlt, h => by
    obtain ⟨v, vs1, d, ds1, a, b, rfl, rfl, rfl, h1, h2⟩ := trodAll_cons h
    simp only [List.all_cons, Bool.and_eq_true, decide_eq_true_eq] at hr
    exact trodAll_cons_mk (Below.trod hl hr.1.1 hr.1.2 h1 hb fun x hx => hlt x (List.mem_append_left _ hx)) (args_stay hl hb hr.2 (fun x hx => hlt x (List.mem_append_right _ hx)) h2)

theorem law_post {f : Func} {s : ChangeSpec} {tb : TypeId} {apart fresh handsOn : Bool} {W W' : World} {args : Array Value} {ds gs : List (DataW H)} {before : List MemPlace} (hl : laidOutB P = true) (hvars : s.vars = [])
    (hr : (f.params.toList.all fun t => P.readableRec t && decide (t < P.types.size)) = true) (hb1 : f.resultTypes = #[tb]) (ht : P.underlying tb = some .bool)
    (hW : DataW.Whole enc P f.params.toList s.vars apart W args.toList ds gs before) (hfn : gs = [] → s.fn H (ds ++ gs) = { results := [.lit (.bool true)], args := ds }) (hb : Below W.heap.size W W') :
    s.post enc P f apart fresh handsOn false W args (.bool true) W' := by
  have hlt : ∀ p ∈ before, p.block < W.heap.size := fun p hp => hW.lt p hp
  have hW' := hW
  obtain ⟨p, q, hA, hV, rfl, _, _⟩ := hW
  rw [hvars] at hV
  obtain ⟨rfl, rfl⟩ := trodVars_none hV
  rw [List.append_nil] at hlt
  have hf := hfn rfl
  refine ⟨ds, [], _, [], p, [], hW', ?_, ?_, ?_, hb.frame _, fun h => by cases h⟩
  · rw [hf, hb1]; exact trodAll_mk1 (shut_bool ht true)
  · rw [hf]; exact args_stay hl hb hr hlt hA
  · rw [hf, hvars]; rfl
end
end Go.Proofs.YtmnjafceenckpaaDoor
namespace Go.Proofs.YtmnjafceenckpaaDoor
open Go.RowKit
theorem und39 : Tryd.prog.underlying 108 = some (.array (Tryd.prog.arrayLen 108) (Tryd.prog.elem 108)) := by kernel_rfl
theorem und40 : Tryd.prog.underlying 54 = some (.slice 5) := by kernel_rfl
theorem und5 : Tryd.prog.underlying 5 = some (.int .u8) := by kernel_rfl
theorem und9 : Tryd.prog.underlying 9 = some .string := by kernel_rfl
theorem len39 : Tryd.prog.arrayLen 108 = 20 := by kernel_rfl
theorem size39 (w : World) : (sizeOf (Tryd.prog.elem 108)).run Tryd.prog w = .ok 1 w := by kernel_rfl
theorem slice39 (w : World) (B m : Nat) (hm : m ≤ 20) : (Instr.sliceAt 108 (.pointer (some ⟨B, 0, none⟩)) (some (.int .i64 (m : Int))) none none).run Tryd.prog w = .ok (.slice (some ⟨B, if m = 20 then 0 else m, none⟩) (20 - m) (20 - m)) w := by
  rw [run_sliceAt_array_l w 108 ⟨B, 0, none⟩ und39 .i64 (m : Int) (by omega) (by rw [len39]; omega), size39, len39]
  simp only [Result.andThen, slicedAt, Int.toNat_natCast]
  by_cases h : m = 20
  · subst h; simp
  · rw [if_neg (by omega), if_neg h]; simp [Addr.add]; omega
theorem room_conv (w : World) (m : Nat) (acc : List UInt8) (h : m + acc.length = 20) (c : Nat) :
    (convert 54 9 (.slice (some ⟨w.heap.size, if m = 20 then 0 else m, none⟩) (20 - m) c)).run Tryd.prog (w.alloc (.cells (room m acc) 108)) = .ok (.string ⟨acc.toArray⟩) (w.alloc (.cells (room m acc) 108)) := by
  rw [run_convert_bytes_string _ 54 9 5 _ _ _ und40 und5 und9]
  have key : (loadCells ⟨w.heap.size, if m = 20 then 0 else m, none⟩ (20 - m)).run Tryd.prog (w.alloc (.cells (room m acc) 108)) = .ok ((acc.map fun x => (x.toNat : Int)).map (Value.int .u8)).toArray (w.alloc (.cells (room m acc) 108)) := by
    have e : 20 - m = ((acc.map fun x => (x.toNat : Int)).map (Value.int .u8)).length := by simp; omega
    rw [e]
    apply run_loadCells_list
    intro j v hj
    have hj' : j < acc.length := by
      rcases Nat.lt_or_ge j acc.length with h' | h'
      · exact h'
      · rw [List.getElem?_eq_none (by simpa using h')] at hj; cases hj
    have hm : m ≠ 20 := by omega
    rw [if_neg hm]
    have ea : (⟨w.heap.size, m, none⟩ : Addr).add j = ⟨w.heap.size, m + j, none⟩ := by
      unfold Addr.add; split
      · rename_i h0; subst h0; rfl
      · rfl
    rw [ea, World.cell?_alloc_new, room, List.getElem?_toArray, List.getElem?_map, List.getElem?_append_right (by simp)]
    simp at hj ⊢
    exact hj
  rw [run_bytesToString _ _ _ _ _ key]
  have : ∀ (l : List UInt8) (s : ByteArray), (l.map fun x => (x.toNat : Int)).foldl (fun (r : ByteArray) n => r.push (UInt8.ofNat n.toNat)) s = ⟨(s.data.toList ++ l).toArray⟩ := by
    intro l
    induction l with
    | nil => intro s; simp
    | cons x r ih => intro s; simp only [List.map_cons, List.foldl_cons]; rw [ih]; simp
  rw [this]
  simp
end Go.Proofs.YtmnjafceenckpaaDoor
namespace Go.Proofs.YtmnjafceenckpaaDoor
open Go.RowKit
def Inv (b n0 l0 : Nat) (w : World) (n l a : Value) (wr : World) : Prop :=
  ∃ (k m : Nat) (z : Int) (acc : List UInt8), n = .int .u64 (k : Int) ∧ l = .int .i64 z ∧ a = .int .i64 (m : Int) ∧ m + acc.length = 20 ∧ k < b ^ m ∧ k < 18446744073709551616 ∧
    z ≤ m ∧ -20 ≤ z - m ∧ tell b m k z.toNat ++ acc = tell b 20 n0 l0 ∧ wr = w.alloc (.cells (room m acc) 108)
theorem inv_step {b n0 l0 : Nat} {w : World} {k q : Nat} {z : Int} {acc : List UInt8} (hb : 2 ≤ b) (h1 : q + 1 + acc.length = 20) (h2 : k < b ^ (q + 1)) (h3 : k < 18446744073709551616)
    (h4 : z ≤ (q + 1 : Nat)) (h5 : -20 ≤ z - (q + 1 : Nat)) (h6 : tell b (q + 1) k z.toNat ++ acc = tell b 20 n0 l0) (hkz : ¬ (k = 0 ∧ z.toNat = 0)) :
    Inv b n0 l0 w (.int .u64 (IntKind.u64.wrap ((k : Int) / (b : Int)))) (.int .i64 (z - 1)) (.int .i64 (q : Int)) (w.alloc (.cells ((room (q + 1) acc).setIfInBounds q (.int .u8 ((dg (k % b)).toNat : Int))) 108)) := by
  have h0 : (k : Int) / b = ((k / b : Nat) : Int) := rfl
  have hw : IntKind.u64.wrap ((k : Int) / b) = ((k / b : Nat) : Int) := by
    have hle := Nat.div_le_self k b
    rw [h0]; generalize k / b = t at *
    exact IntWalk.u64_in _ (by omega)
  refine ⟨k / b, q, z - 1, dg (k % b) :: acc, by rw [hw], rfl, rfl, by simp; omega, pow_step b q k hb h2, by have := Nat.div_le_self k b; omega, by omega, by omega, ?_, by rw [room_put]⟩
  rw [← h6, ← tell_step b q k z.toNat acc hkz, show (z - 1).toNat = z.toNat - 1 by omega]
set_option maxHeartbeats 400000 in
theorem tell_any (b n l : Nat) (p : Nat) (w : World) (hb : 2 ≤ b) (hb' : b ≤ 16) (hn : n < b ^ 20) (hn' : n < 18446744073709551616) (hl : l ≤ 20) (hp : p < w.heap.size) (hc : w.cell? ⟨p, 0, none⟩ = some (.int .u64 (b : Int))) :
    Calls Tryd.prog 81 #[.int .u64 (n : Int), .int .i64 (l : Int), .pointer (some ⟨p, 0, none⟩)] w fun e w' => e = .returned (.string ⟨(tell b 20 n l).toArray⟩) ∧ Below w.heap.size w w' := by
  have Hn := Lib.hid hn; clear hn
  go_enter Tryd.func81, Tryd.ntmps81
  go_wp2
  go_loopw [0, 1, 7] (fun x y a wr => Inv b n l w x y a wr) (fun _ _ a _ => (intOf a).toNat)
  case atStart => 
    exact ⟨n, 20, l, [], rfl, rfl, rfl, by simp, Hn.out, hn', by omega, by omega, by simp, rfl⟩
  case round =>
    obtain ⟨k, m, z, acc, rfl, rfl, rfl, h1, h2, h3, h4, h5, h6, rfl⟩ := hrel
    have hkb0 : 0 ≤ (k : Int) % b := by omega
    have hkb1 : (k : Int) % b < 16 := by have := Int.emod_lt_of_pos (k : Int) (show (0 : Int) < b by omega); omega
    have hpn : p ≠ w.heap.size := by omega
    have hm20 : m ≤ 20 := by omega
    have H3 := Lib.hid h3; clear h3 hn'
    by_cases hex : k = 0 ∧ z ≤ 0
    · obtain ⟨rfl, hz⟩ := hex
      have H1 := Lib.hid h1; clear h1
      have H2 := Lib.hid h2; clear h2
      have H6 := Lib.hid h6; clear h6
      have hsl := slice39 (w.alloc (.cells (room m acc) 108)) w.heap.size m hm20
      have hcv := room_conv w m acc H1.out (20 - m)
      clear hkb0 hkb1
      go_wp2
      all_goals
        go_ret
        have h := H6.out
        rw [show z.toNat = 0 by omega, tell_done] at h
        rw [← h]
        exact ⟨rfl, (Below.refl _ _).alloc (Nat.le_refl _) _⟩
    · obtain ⟨q, rfl⟩ : ∃ q, m = q + 1 := ⟨m - 1, by
        rcases Nat.eq_zero_or_pos m with e | e
        · subst e; simp at h2; omega
        · omega⟩
      have hcell : (room (q + 1) acc)[q]? = some (.int .u8 0) := room_at _ _ _ (by omega)
      have hq1 : q ≤ 19 := by omega
      have hkz : ¬ (k = 0 ∧ z.toNat = 0) := by omega
      have R := inv_step (w := w) hb h1 h2 H3.out h4 h5 h6 hkz
      have HR := Lib.hid R; clear R
      clear h1 h2 h6
      by_cases hk : 0 < k
      · go_wp2
        go_roundw
        case rel => rw [dg_at]; exact HR.out
        case measure => simp [intOf]
      · obtain rfl : k = 0 := by omega
        have hz : 0 < z := by omega
        clear hk hex hkz hkb0 hkb1
        have hb0 : (0 : Int) % (b : Int) = 0 := by simp
        go_wp2
        go_roundw
        case rel => 
          have h := HR.out
          rw [show IntKind.u64.wrap (((0 : Nat) : Int) / (b : Int)) = 0 by simp [IntKind.wrap, IntKind.bits, IntKind.signed], Nat.zero_mod] at h
          exact h
        case measure => simp [intOf]
theorem teller_any (b : Int) (w : World) : Calls Tryd.prog 75 #[.int .u64 b] w fun e w' => e = .returned (.func (.func 81) #[] #[.pointer (some ⟨w.heap.size, 0, none⟩)]) ∧ w.alloc (.cells #[.int .u64 b] 99) = w' := by
  have hmf : ∀ (fn : Fn) (first cap : Array Value) (w : World), (Instr.makeFunc fn first cap).run Tryd.prog w = .ok (.func fn first cap) w := fun _ _ _ _ => rfl
  go_enter Tryd.func75, Tryd.ntmps75
  go_wp2
  go_ret
  exact ⟨rfl, rfl⟩
theorem reader_any (b : Int) (w : World) : Calls Tryd.prog 74 #[.int .u64 b] w fun e w' => e = .returned (.func (.func 79) #[] #[.pointer (some ⟨w.heap.size, 0, none⟩)]) ∧ w.alloc (.cells #[.int .u64 b] 99) = w' := by
  have hmf : ∀ (fn : Fn) (first cap : Array Value) (w : World), (Instr.makeFunc fn first cap).run Tryd.prog w = .ok (.func fn first cap) w := fun _ _ _ _ => rfl
  go_enter Tryd.func74, Tryd.ntmps74
  go_wp2
  go_ret
  exact ⟨rfl, rfl⟩
theorem digit_any (c : Int) (w : World) (h0 : 0 ≤ c) (h1 : c < 256) : Calls Tryd.prog 80 #[.int .u8 c] w fun e w' => e = .returned (.int .u64 (worth c)) ∧ w = w' := by
  have hw : c < 48 ∨ 70 < c ∨ (57 < c ∧ c < 65) → worth c = 18446744073709551615 := by unfold worth; intro h; rw [if_neg (by omega), if_neg (by omega)]
  have hw1 : 48 ≤ c → c ≤ 57 → worth c = c - 48 := by unfold worth; intro h h'; rw [if_pos (by omega)]
  have hw2 : 65 ≤ c → c ≤ 70 → worth c = c - 65 + 10 := by unfold worth; intro h h'; rw [if_neg (by omega), if_pos (by omega)]; omega
  have Hw := Lib.hid hw; have Hw1 := Lib.hid hw1; have Hw2 := Lib.hid hw2; clear hw hw1 hw2
  rcases (show c < 48 ∨ 70 < c ∨ (57 < c ∧ c < 65) ∨ (48 ≤ c ∧ c ≤ 57) ∨ (65 ≤ c ∧ c ≤ 70) by omega) with a | a | ⟨a, b⟩ | ⟨a, b⟩ | ⟨a, b⟩
  all_goals
    go_enter Tryd.func80, Tryd.ntmps80
    go_wp2
    go_ret
    first
      | (rw [Hw.out (by omega)]; exact ⟨rfl, rfl⟩)
      | (rw [Hw1.out (by omega) (by omega)]; exact ⟨rfl, rfl⟩)
      | (rw [Hw2.out (by omega) (by omega)]; exact ⟨rfl, rfl⟩)
end Go.Proofs.YtmnjafceenckpaaDoor
