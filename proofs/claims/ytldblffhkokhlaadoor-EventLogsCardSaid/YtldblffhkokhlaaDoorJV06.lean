/-
  Joined: Sg9 Sh1 Sh2 Sh8 M6 Sp1 Sp2 Sp3.
-/
import Derived.Test.YtldblffhkokhlaaDoorJV01
import Derived.Test.YtldblffhkokhlaaDoorJV02
import Derived.Test.YtldblffhkokhlaaDoorJV03
import Derived.Test.YtldblffhkokhlaaDoorJV04
import Derived.Test.YtldblffhkokhlaaDoorJV05
import Derived.Test.YtldblffhkokhlaaDoorProg
import Derived.Shelf.Strings.BuilderX
import Derived.Lib.Builder
import Derived.Lib.AppendStr
import Derived.Laws.Externs
set_option linter.unusedVariables false
set_option linter.unusedSimpArgs false
set_option maxRecDepth 100000
set_option linter.unusedVariables false
set_option linter.unusedSimpArgs false
namespace Go.Proofs.YtldblffhkokhlaaDoor
open Go.RowKit
/-- A slice of runs lies in memory. -/
def RunsIn (w : World) (a : Option Addr) (R : List Rn) : Prop :=
  ∀ i, i < R.length → ∃ b off, a = some ⟨b, off, none⟩ ∧ b < w.heap.size ∧ w.cell? ⟨b, off + i * 3, none⟩ = some (.int .i64 (R.getD i (0, 0, 0)).1) ∧ w.cell? ⟨b, off + i * 3 + 1, none⟩ = some (.int .i64 (R.getD i (0, 0, 0)).2.1) ∧ w.cell? ⟨b, off + i * 3 + 2, none⟩ = some (.int .i64 (R.getD i (0, 0, 0)).2.2)
theorem RunsIn.below {w w' : World} {a : Option Addr} {R : List Rn} (h : RunsIn w a R) (hb : Below w.heap.size w w') : RunsIn w' a R := fun i hi => by
  obtain ⟨b, off, e, hlt, h1, h2, h3⟩ := h i hi
  exact ⟨b, off, e, Nat.lt_of_lt_of_le hlt hb.size, (hb.cell (p := ⟨b, off + i * 3, none⟩) hlt).trans h1, (hb.cell (p := ⟨b, off + i * 3 + 1, none⟩) hlt).trans h2, (hb.cell (p := ⟨b, off + i * 3 + 2, none⟩) hlt).trans h3⟩
theorem runs_of_own {w : World} {B : Nat} {v : Value} {R : List Rn} (h : ownR w B v R) : ∃ a c, v = .slice a R.length c ∧ RunsIn w a R := by
  unfold ownR at h
  rcases h.2 with ⟨rfl, h0⟩ | ⟨g, cap, cur, rfl, _, hg, _⟩
  · exact ⟨none, 0, by rw [h0], fun j hj => by omega⟩
  · refine ⟨_, cap, rfl, fun j hj => ⟨g, 0, rfl, blk_lt hg, ?_, ?_, ?_⟩⟩
    · rw [Nat.zero_add, h.cellAt (j * 3) (by omega)]; exact (rCells_at R j hj).1
    · rw [Nat.zero_add, h.cellAt (j * 3 + 1) (by omega)]; exact (rCells_at R j hj).2.1
    · rw [Nat.zero_add, h.cellAt (j * 3 + 2) (by omega)]; exact (rCells_at R j hj).2.2
def atK (R : List Rn) (k : Nat) : Int := if k = 0 then 0 else (R.getD (k - 1) (0, 0, 0)).2.2
end Go.Proofs.YtldblffhkokhlaaDoor
set_option linter.unusedVariables false
set_option linter.unusedSimpArgs false
namespace Go.Proofs.YtldblffhkokhlaaDoor
open Go.RowKit
/-- Hex digits, at least so many. -/
def hexL (n l : Int) : List UInt8 := tell 16 20 n.toNat l.toNat
theorem hex_size (n l : Int) : (⟨(hexL n l).toArray⟩ : ByteArray).size ≤ 20 := by
  have := tell_len 16 20 n.toNat l.toNat
  simpa [hexL, ByteArray.size] using this
theorem hexS_L (n l : Int) (h : 0 ≤ n) (h1 : 1 ≤ l) (h2 : l ≤ 16) : hexS n l = hexL n l := by
  unfold hexS hexL; rw [if_neg (by omega)]
  have : lst l = l := by unfold lst; omega
  rw [this]
theorem hexN_L (n l : Int) (h1 : 1 ≤ l) : hexN n l = hexL n l := by
  unfold hexN hexL; rw [show max l 1 = l by omega]
/-- A value's shown text. -/
def shT (v : Int) : ByteArray :=
  if cls v = 0 then ⟨#[]⟩ else if cls v ≤ 3 then txt (oneI v) else if cls v = 4 then ⟨#[94]⟩ ++ txt [v + 64] else if cls v = 5 then ⟨#[94, 63]⟩
  else if cls v = 12 then ⟨#[92, 120]⟩ ++ ⟨(hexL (v - 1114112) 2).toArray⟩ else ⟨#[60, 85, 43]⟩ ++ ⟨(hexL v 4).toArray⟩ ++ ⟨#[62]⟩
theorem told_rng (v : Int) : told v ≠ 0 ∧ told v ≠ 4 ∧ told v ≠ 5 ∧ told v ≠ 12 ∧ told v ≠ 6 := by
  unfold told
  split
  · rename_i j hj
    have hlt := (find_some_lt hj).1
    have key : ∀ j : Fin 53, rng.getD (3 * j.val) 0 ≠ 0 ∧ rng.getD (3 * j.val) 0 ≠ 4 ∧ rng.getD (3 * j.val) 0 ≠ 5 ∧ rng.getD (3 * j.val) 0 ≠ 12 ∧ rng.getD (3 * j.val) 0 ≠ 6 := by decide +kernel
    exact key ⟨j, hlt⟩
  · split <;> omega
/-- What a class tells of its values. -/
theorem cls_what (v : Int) : (cls v = 0 ∧ rght v = false) ∨ (rght v = true ∧ ((cls v = 12 ∧ 1114240 ≤ v ∧ v ≤ 1114367) ∨ (cls v = 4 ∧ 0 ≤ v ∧ v < 32) ∨ (cls v = 5 ∧ v = 127) ∨ (cls v = 6 ∧ 128 ≤ v ∧ v < 160) ∨ (1 ≤ cls v ∧ cls v ≤ 11 ∧ cls v ≠ 4 ∧ cls v ≠ 5 ∧ cls v ≠ 6 ∧ 32 ≤ v ∧ v ≤ 1114111 ∧ (v < 55296 ∨ 57343 < v) ∧ v ≠ 127 ∧ (v < 128 ∨ 160 ≤ v)))) := by
  have h1 := pnt_cases v
  have h2 := stry_cases v
  have ht := told_rng v
  have hr := cls_rng v
  have e : cls v = if rght v = false then 0 else if 1114112 ≤ v then 12 else if v < 32 then 4 else if v = 127 then 5 else if 128 ≤ v ∧ v < 160 then 6 else if v < 160 then 1 else told v := rfl
  have hrr : rght v = (pnt v || stry v) := rfl
  cases hg : rght v
  · left; rw [hg, if_pos rfl] at e; exact ⟨e, rfl⟩
  · right
    refine ⟨rfl, ?_⟩
    rw [hg, if_neg (by simp)] at e
    rw [hg] at hrr
    by_cases c1 : 1114112 ≤ v
    · rw [if_pos c1] at e
      left
      rcases h1 with ⟨a, b⟩ | ⟨a, b⟩
      · omega
      · rcases h2 with ⟨a2, b2, b3⟩ | ⟨a2, b2⟩
        · exact ⟨e, b2, b3⟩
        · rw [a, a2] at hrr; simp at hrr
    · rw [if_neg c1] at e
      have hv : 0 ≤ v ∧ v < 55296 ∨ 57343 < v ∧ v ≤ 1114111 := by
        rcases h1 with ⟨a, b⟩ | ⟨a, b⟩
        · exact b
        · rcases h2 with ⟨a2, b2, b3⟩ | ⟨a2, b2⟩
          · omega
          · rw [a, a2] at hrr; simp at hrr
      by_cases c2 : v < 32
      · rw [if_pos c2] at e; right; left; exact ⟨e, by omega, c2⟩
      rw [if_neg c2] at e
      by_cases c3 : v = 127
      · rw [if_pos c3] at e; right; right; left; exact ⟨e, c3⟩
      rw [if_neg c3] at e
      by_cases c4 : 128 ≤ v ∧ v < 160
      · rw [if_pos c4] at e; right; right; right; left; exact ⟨e, c4.1, c4.2⟩
      rw [if_neg c4] at e
      right; right; right; right
      by_cases c5 : v < 160
      · rw [if_pos c5] at e; rw [e]; omega
      rw [if_neg c5] at e; rw [e] at hr ⊢; omega
/-- The cases of a shown text. -/
theorem sh_cases (v : Int) : (cls v = 0 ∧ shT v = ⟨#[]⟩) ∨ ((cls v = 1 ∨ cls v = 2 ∨ cls v = 3) ∧ 32 ≤ v ∧ v ≤ 1114111 ∧ (v < 55296 ∨ 57343 < v) ∧ shT v = txt (oneI v)) ∨ (cls v = 4 ∧ 0 ≤ v ∧ v < 32 ∧ shT v = ⟨#[94]⟩ ++ txt [v + 64]) ∨
    (cls v = 5 ∧ shT v = ⟨#[94, 63]⟩) ∨ (cls v = 12 ∧ 1114240 ≤ v ∧ v ≤ 1114367 ∧ shT v = ⟨#[92, 120]⟩ ++ ⟨(hexL (v - 1114112) 2).toArray⟩) ∨
    (6 ≤ cls v ∧ cls v ≤ 11 ∧ 128 ≤ v ∧ v ≤ 1114111 ∧ (v < 55296 ∨ 57343 < v) ∧ shT v = ⟨#[60, 85, 43]⟩ ++ ⟨(hexL v 4).toArray⟩ ++ ⟨#[62]⟩) := by
  have e : shT v = if cls v = 0 then ⟨#[]⟩ else if cls v ≤ 3 then txt (oneI v) else if cls v = 4 then ⟨#[94]⟩ ++ txt [v + 64] else if cls v = 5 then ⟨#[94, 63]⟩
    else if cls v = 12 then ⟨#[92, 120]⟩ ++ ⟨(hexL (v - 1114112) 2).toArray⟩ else ⟨#[60, 85, 43]⟩ ++ ⟨(hexL v 4).toArray⟩ ++ ⟨#[62]⟩ := rfl
  have hlow : v < 128 → 7 ≤ cls v → cls v ≤ 11 → False := fun h h2 h3 => by
    have key : ∀ i : Fin 128, ¬ (7 ≤ cls (i.val : Int) ∧ cls (i.val : Int) ≤ 11) := by decide +kernel
    rcases cls_what v with ⟨h0, _⟩ | ⟨_, ⟨h0, h4, h5⟩ | ⟨h0, _⟩ | ⟨h0, _⟩ | ⟨h0, _⟩ | ⟨_, _, _, _, _, h6, _⟩⟩ <;> try omega
    have := key ⟨v.toNat, by omega⟩
    simp only [] at this
    rw [show ((v.toNat : Nat) : Int) = v by omega] at this
    exact this ⟨h2, h3⟩
  rcases cls_what v with ⟨h0, _⟩ | ⟨_, ⟨h0, h4, h5⟩ | ⟨h0, h4, h5⟩ | ⟨h0, h4⟩ | ⟨h0, h4, h5⟩ | ⟨h1, h2, h3, h4, h5, h6, h7, h8, h9, h10⟩⟩
  · left; exact ⟨h0, by rw [e, if_pos h0]⟩
  · right; right; right; right; left; exact ⟨h0, h4, h5, by rw [e, h0, if_neg (by omega), if_neg (by omega), if_neg (by omega), if_neg (by omega), if_pos rfl]⟩
  · right; right; left; exact ⟨h0, h4, h5, by rw [e, h0, if_neg (by omega), if_neg (by omega), if_pos rfl]⟩
  · right; right; right; left; exact ⟨h0, by rw [e, h0, if_neg (by omega), if_neg (by omega), if_neg (by omega), if_pos rfl]⟩
  · right; right; right; right; right
    exact ⟨by omega, by omega, by omega, by omega, by omega, by rw [e, h0, if_neg (by omega), if_neg (by omega), if_neg (by omega), if_neg (by omega), if_neg (by omega)]⟩
  · by_cases c : cls v ≤ 3
    · right; left; exact ⟨by omega, h6, h7, h8, by rw [e, if_neg (by omega), if_pos c]⟩
    · right; right; right; right; right
      refine ⟨by omega, by omega, ?_, by omega, by omega, by rw [e, if_neg (by omega), if_neg c, if_neg h3, if_neg h4, if_neg (by omega)]⟩
      rcases Int.lt_or_le v 128 with hh | hh
      · exact (hlow hh (by omega) h2).elim
      · exact hh
theorem one_enc {v : Int} (h : 32 ≤ v) (h1 : v ≤ 1114111) (h2 : v < 55296 ∨ 57343 < v) : encS [v] = txt (oneI v) := by simp [encS, encI]
theorem ctl_enc {v : Int} (h : 0 ≤ v) (h1 : v < 32) : encS [v + 64] = txt [v + 64] := by
  have hp : ptB (v + 64) = true := (ptB_iff _).2 (by omega)
  simp [encS, encI, oneI_pt hp]
  rw [Lib.encodeRuneZ_one (by omega) (by omega)]
theorem row_one (w : World) (v : Int) : Row (w.alloc (.cells #[.int .i64 v] 3)) (some ⟨w.heap.size, 0, none⟩) [v] := fun j hj => by
  obtain rfl : j = 0 := by simp at hj; omega
  exact ⟨w.heap.size, 0, rfl, by rw [World.cell?_alloc_new]; rfl, by simp⟩
end Go.Proofs.YtldblffhkokhlaaDoor
set_option linter.unusedVariables false
set_option linter.unusedSimpArgs false
namespace Go.Proofs.YtldblffhkokhlaaDoor
open Go.RowKit
theorem hx16 {n : Int} (h : n ≤ 2000000) : n.toNat < 16 ^ 16 := Nat.lt_of_le_of_lt (show n.toNat ≤ 2000000 by omega) (by decide)
theorem right_cls {v : Int} (h1 : 32 ≤ v) (h2 : v ≤ 1114111) (h3 : v < 55296 ∨ 57343 < v) : rightB v = true := by
  unfold rightB; rw [Bool.or_eq_true]; left; rw [ptB_iff]; omega
/-- A value's columns. -/
def shC (v : Int) : Int := if 3 < cls v then ((shT v).size : Int) else wid v
theorem shC_big {v : Int} (h : 3 < cls v) : shC v = ((shT v).size : Int) := by unfold shC; rw [if_pos h]
theorem shC_small {v : Int} (h : ¬ 3 < cls v) : shC v = wid v := by unfold shC; rw [if_neg h]
theorem shT_size (v : Int) : (shT v).size ≤ 30 := by
  have hh := fun n l => hex_size n l
  rcases sh_cases v with ⟨_, hs⟩ | ⟨_, _, _, _, hs⟩ | ⟨_, _, _, hs⟩ | ⟨_, hs⟩ | ⟨_, _, _, hs⟩ | ⟨_, _, _, _, _, hs⟩
  · rw [hs]; decide
  · rw [hs, txt_size]; have := oneI_len v; omega
  · rw [hs, ByteArray.size_append, txt_size]; show 1 + 1 ≤ 30; omega
  · rw [hs]; decide
  · rw [hs, ByteArray.size_append]; have := hh (v - 1114112) 2; show 2 + _ ≤ 30; omega
  · rw [hs, ByteArray.size_append, ByteArray.size_append]; have := hh v 4; show 3 + _ + 1 ≤ 30; omega
/-- A sign's looks. -/
def lkI (v l : Int) : Int := (if 3 < cls v then 1 else 0) + (if l = 2 ∨ l = 3 ∨ l = 4 then 2 else 0) + (if cls v = 3 then 4 else 0)
theorem lk_rng (v l : Int) : 0 ≤ lkI v l ∧ lkI v l ≤ 7 := by unfold lkI; repeat' split
                                                             all_goals omega
end Go.Proofs.YtldblffhkokhlaaDoor
set_option linter.unusedVariables false
set_option linter.unusedSimpArgs false
namespace Go.Proofs.YtldblffhkokhlaaDoor
open Go.RowKit
def u8l (l : List Int) : List UInt8 := l.map fun x => x.toNat.toUInt8
theorem txt_list (l : List Int) : txt l = ⟨(u8l l).toArray⟩ := rfl
/-- The cases of a shown text, as lists. -/
theorem sh_lists (v : Int) : (cls v = 0 ∧ shT v = ⟨([] : List UInt8).toArray⟩) ∨ ((cls v = 1 ∨ cls v = 2 ∨ cls v = 3) ∧ 32 ≤ v ∧ v ≠ 127 ∧ v ≤ 1114111 ∧ (v < 55296 ∨ 57343 < v) ∧ shT v = ⟨(u8l (oneI v)).toArray⟩) ∨ (cls v = 4 ∧ 0 ≤ v ∧ v < 32 ∧ shT v = ⟨([94] ++ u8l [v + 64]).toArray⟩) ∨
    (cls v = 5 ∧ v = 127 ∧ shT v = ⟨[94, 63].toArray⟩) ∨ (cls v = 12 ∧ 1114240 ≤ v ∧ v ≤ 1114367 ∧ shT v = ⟨([92, 120] ++ hexL (v - 1114112) 2).toArray⟩) ∨
    (6 ≤ cls v ∧ cls v ≤ 11 ∧ 128 ≤ v ∧ v ≤ 1114111 ∧ (v < 55296 ∨ 57343 < v) ∧ shT v = ⟨([60, 85, 43] ++ hexL v 4 ++ [62]).toArray⟩) := by
  have hw := cls_what v
  rcases sh_cases v with ⟨h0, hs⟩ | ⟨h0, h1, h2, h3, hs⟩ | ⟨h0, h1, h2, hs⟩ | ⟨h0, hs⟩ | ⟨h0, h1, h2, hs⟩ | ⟨h0, h00, h1, h2, h3, hs⟩
  · left; exact ⟨h0, hs⟩
  · right; left
    refine ⟨h0, h1, ?_, h2, h3, hs⟩
    rcases hw with ⟨a, _⟩ | ⟨_, ⟨a, _⟩ | ⟨a, _⟩ | ⟨a, _⟩ | ⟨a, _⟩ | ⟨_, _, _, _, _, _, _, _, a, _⟩⟩ <;> omega
  · right; right; left; exact ⟨h0, h1, h2, by rw [hs, txt_list]; exact ba_app [94] _⟩
  · right; right; right; left
    refine ⟨h0, ?_, hs⟩
    rcases hw with ⟨a, _⟩ | ⟨_, ⟨a, _⟩ | ⟨a, _⟩ | ⟨a, b⟩ | ⟨a, _⟩ | ⟨_, _, _, _, _, _, _, _, a, _⟩⟩ <;> omega
  · right; right; right; right; left; exact ⟨h0, h1, h2, by rw [hs]; exact ba_app [92, 120] _⟩
  · right; right; right; right; right
    exact ⟨h0, h00, h1, h2, h3, by rw [hs]; rw [show (⟨#[60, 85, 43]⟩ : ByteArray) = ⟨([60, 85, 43] : List UInt8).toArray⟩ from rfl, show (⟨#[62]⟩ : ByteArray) = ⟨([62] : List UInt8).toArray⟩ from rfl, ba_app, ba_app]⟩
theorem dg_ok (k : Nat) : 48 ≤ (dg (k % 16)).toNat ∧ (dg (k % 16)).toNat ≤ 70 := by
  have key : ∀ j : Fin 16, 48 ≤ (dg j).toNat ∧ (dg j).toNat ≤ 70 := by decide
  exact key ⟨k % 16, Nat.mod_lt _ (by omega)⟩
theorem tell_ok : ∀ f n l, ∀ c ∈ tell 16 f n l, 48 ≤ c.toNat ∧ c.toNat ≤ 70
  | 0, _, _, c, h => by simp [tell] at h
  | f + 1, n, l, c, h => by
    rw [tell] at h
    split at h
    · simp at h
    · rw [List.mem_append] at h
      rcases h with h | h
      · exact tell_ok f _ _ c h
      · have : c = dg (n % 16) := by simpa using h
        rw [this]; exact dg_ok n
/-- How many digits there are. -/
theorem tell_len2 : ∀ f d n l, n < 16 ^ d → l ≤ d → d ≤ f → l ≤ (tell 16 f n l).length ∧ (tell 16 f n l).length ≤ d
  | 0, d, n, l, h, hl, hd => by simp [tell]; omega
  | f + 1, d, n, l, h, hl, hd => by
    rw [tell]
    split
    · rename_i h0; simp; omega
    · rename_i h0
      cases d with
      | zero => simp at h; omega
      | succ d =>
        have := tell_len2 f d (n / 16) (l - 1) (pow_step 16 d n (by omega) h) (by omega) (by omega)
        simp only [List.length_append, List.length_cons, List.length_nil]
        omega
theorem hexL_len (n l : Int) (d : Nat) (h : n.toNat < 16 ^ d) (hl : l.toNat ≤ d) (hd : d ≤ 20) : l.toNat ≤ (hexL n l).length ∧ (hexL n l).length ≤ d := tell_len2 20 d _ _ h hl hd
theorem u8l_len (l : List Int) : (u8l l).length = l.length := by simp [u8l]
theorem size_list (l : List UInt8) : (⟨l.toArray⟩ : ByteArray).size = l.length := by simp [ByteArray.size]
theorem shC_rng (v : Int) (h : cls v ≠ 0) : 1 ≤ shC v ∧ shC v ≤ 10 ∧ (3 < cls v → 2 ≤ shC v) := by
  have hw : wid v = if cls v = 2 then 2 else if cls v = 1 ∨ cls v = 3 then 1 else 0 := rfl
  rcases sh_lists v with ⟨h0, hs⟩ | ⟨h0, _, _, _, _, hs⟩ | ⟨h0, h1, h2, hs⟩ | ⟨h0, _, hs⟩ | ⟨h0, h1, h2, hs⟩ | ⟨h0, h00, h1, h2, h3, hs⟩
  · exact absurd h0 h
  · rw [shC_small (by omega), hw]
    refine ⟨?_, ?_, by omega⟩ <;> (split <;> (try split) <;> omega)
  · rw [shC_big (by omega), hs, size_list]; simp [u8l]
  · rw [shC_big (by omega), hs, size_list]; simp
  · rw [shC_big (by omega), hs, size_list]
    have := hexL_len (v - 1114112) 2 2 (by show _ < 256; omega) (by decide) (by omega)
    simp only [List.length_append, List.length_cons, List.length_nil]
    have e : (2 : Int).toNat = 2 := rfl
    omega
  · rw [shC_big (by omega), hs, size_list]
    have := hexL_len v 4 6 (by show _ < 16777216; omega) (by decide) (by omega)
    simp only [List.length_append, List.length_cons, List.length_nil]
    have e : (4 : Int).toNat = 4 := rfl
    omega
theorem shT_ne (v : Int) (h : cls v ≠ 0) : shT v ≠ ⟨#[]⟩ := by
  intro e
  have hsz : (shT v).size = 0 := by rw [e]; rfl
  rcases sh_lists v with ⟨h0, hs⟩ | ⟨h0, a, b, c, d, hs⟩ | ⟨h0, h1, h2, hs⟩ | ⟨h0, _, hs⟩ | ⟨h0, h1, h2, hs⟩ | ⟨h0, h00, h1, h2, h3, hs⟩
  · exact h h0
  · rw [hs, size_list, u8l_len] at hsz
    rw [oneI_pt ((ptB_iff v).2 (by omega))] at hsz
    rcases (by omega : v ≤ 127 ∨ (128 ≤ v ∧ v ≤ 2047) ∨ ((2048 ≤ v ∧ v < 55296) ∨ (57343 < v ∧ v ≤ 65535)) ∨ 65536 ≤ v) with k | ⟨k, k2⟩ | k | k
    · rw [Lib.encodeRuneZ_one (by omega) k] at hsz; simp at hsz
    · rw [Lib.encodeRuneZ_two k k2] at hsz; simp at hsz
    · rw [Lib.encodeRuneZ_three k] at hsz; simp at hsz
    · rw [Lib.encodeRuneZ_four k c] at hsz; simp at hsz
  · rw [hs, size_list] at hsz; simp at hsz
  · rw [hs, size_list] at hsz; simp at hsz
  · rw [hs, size_list] at hsz; simp at hsz
  · rw [hs, size_list] at hsz; simp at hsz
theorem rght_rightB (v : Int) : rightB v = rght v := by
  rw [Bool.eq_iff_iff]
  unfold rightB rght
  rw [Bool.or_eq_true, Bool.or_eq_true, ptB_iff, stB_iff]
  rcases pnt_cases v with ⟨a, b⟩ | ⟨a, b⟩ <;> rcases stry_cases v with ⟨c, d⟩ | ⟨c, d⟩ <;> rw [a, c] <;> simp <;> omega
theorem right_no {v : Int} (h : rightB v = false) : cls v = 0 ∧ shC v = 0 ∧ shT v = ⟨#[]⟩ := by
  rw [rght_rightB] at h
  have h0 : cls v = 0 := by unfold cls; rw [if_pos h]
  refine ⟨h0, ?_, ?_⟩
  · rw [shC_small (by omega)]; unfold wid; rw [h0]; rfl
  · unfold shT; rw [if_pos h0]
theorem right_yes {v : Int} (h : rightB v = true) : cls v ≠ 0 := by
  rw [rght_rightB] at h
  rcases cls_what v with ⟨_, h1⟩ | ⟨_, h1⟩
  · rw [h] at h1; cases h1
  · omega
theorem u8_val (x : Int) (h0 : 0 ≤ x) (h1 : x < 256) : ((x.toNat.toUInt8).toNat : Int) = x := by rw [u8_nat h0 h1]; omega
/-- No byte of a shown text is a control. -/
theorem sh_bytes (v : Int) : ∀ c ∈ (shT v).data.toList, 32 ≤ c.toNat ∧ c.toNat ≠ 127 := by
  intro c hc
  rcases sh_lists v with ⟨h0, hs⟩ | ⟨h0, a, b, k, d, hs⟩ | ⟨h0, h1, h2, hs⟩ | ⟨h0, _, hs⟩ | ⟨h0, h1, h2, hs⟩ | ⟨h0, h00, h1, h2, h3, hs⟩
  · rw [hs] at hc; simp at hc
  · rw [hs] at hc
    have hc' : c ∈ u8l (oneI v) := hc
    rw [u8l, List.mem_map] at hc'
    obtain ⟨x, hx, rfl⟩ := hc'
    rw [oneI_pt ((ptB_iff v).2 (by omega))] at hx
    have key : 32 ≤ x ∧ x ≠ 127 ∧ x < 256 := by
      rcases (by omega : v ≤ 127 ∨ (128 ≤ v ∧ v ≤ 2047) ∨ ((2048 ≤ v ∧ v < 55296) ∨ (57343 < v ∧ v ≤ 65535)) ∨ 65536 ≤ v) with e | ⟨e, e2⟩ | e | e
      · rw [Lib.encodeRuneZ_one (by omega) e] at hx; simp at hx; omega
      · rw [Lib.encodeRuneZ_two e e2] at hx; simp at hx; rcases hx with rfl | rfl <;> omega
      · rw [Lib.encodeRuneZ_three e] at hx; simp at hx; rcases hx with rfl | rfl | rfl <;> omega
      · rw [Lib.encodeRuneZ_four e k] at hx; simp at hx; rcases hx with rfl | rfl | rfl | rfl <;> omega
    have := u8_val x (by omega) key.2.2
    omega
  · rw [hs] at hc
    have hc' : c ∈ [94] ++ u8l [v + 64] := hc
    simp [u8l] at hc'
    rcases hc' with rfl | rfl
    · decide
    · have := u8_val (v + 64) (by omega) (by omega); simp at this ⊢; omega
  · rw [hs] at hc
    have hc' : c ∈ ([94, 63] : List UInt8) := hc
    simp at hc'
    rcases hc' with rfl | rfl <;> decide
  · rw [hs] at hc
    have hc' : c ∈ [92, 120] ++ hexL (v - 1114112) 2 := hc
    rw [List.mem_append] at hc'
    rcases hc' with hc' | hc'
    · simp at hc'; rcases hc' with rfl | rfl <;> decide
    · have := tell_ok _ _ _ c hc'; omega
  · rw [hs] at hc
    have hc' : c ∈ [60, 85, 43] ++ hexL v 4 ++ [62] := hc
    rw [List.mem_append, List.mem_append] at hc'
    rcases hc' with (hc' | hc') | hc'
    · simp at hc'; rcases hc' with rfl | rfl | rfl <;> decide
    · have := tell_ok _ _ _ c hc'; omega
    · simp at hc'; rw [hc']; decide
theorem sh_byte (v : Int) (k : Nat) (h : k < (shT v).size) : 32 ≤ (shT v)[k].toNat ∧ (shT v)[k].toNat ≠ 127 := by
  refine sh_bytes v _ ?_
  show (shT v).data[k] ∈ (shT v).data.toList
  rw [Array.mem_toList_iff]; exact Array.getElem_mem _
theorem hexL_inj {n m l : Int} (h0 : 0 ≤ n) (h1 : 0 ≤ m) (hn : n ≤ 2000000) (hm : m ≤ 2000000) (h : hexL n l = hexL m l) : n = m := by
  have a := dv_tell 16 (by omega) (by omega) 20 n.toNat l.toNat (Nat.lt_of_le_of_lt (show n.toNat ≤ 2000000 by omega) (by decide))
  have b := dv_tell 16 (by omega) (by omega) 20 m.toNat l.toNat (Nat.lt_of_le_of_lt (show m.toNat ≤ 2000000 by omega) (by decide))
  unfold hexL at h
  rw [h, b] at a
  omega
theorem u8l_inj {a b : List Int} (ha : ∀ x ∈ a, 0 ≤ x ∧ x < 256) (hb : ∀ x ∈ b, 0 ≤ x ∧ x < 256) (h : u8l a = u8l b) : a = b := by
  have e : txt a = txt b := by rw [txt_list, txt_list, h]
  rw [← bytesOf_txt a ha, ← bytesOf_txt b hb, e]
theorem oneI_inj {v w : Int} (h1 : 0 ≤ v ∧ v < 55296 ∨ 57343 < v ∧ v ≤ 1114111) (h2 : 0 ≤ w ∧ w < 55296 ∨ 57343 < w ∧ w ≤ 1114111) (h : oneI v = oneI w) : v = w := by
  rw [oneI_pt ((ptB_iff v).2 h1), oneI_pt ((ptB_iff w).2 h2)] at h
  have f : ∀ v : Int, (0 ≤ v ∧ v < 55296 ∨ 57343 < v ∧ v ≤ 1114111) → (v ≤ 127 ∧ Lib.encodeRuneZ v = [v]) ∨ (128 ≤ v ∧ v ≤ 2047 ∧ Lib.encodeRuneZ v = [192 + v / 64, 128 + v % 64]) ∨ (2048 ≤ v ∧ v ≤ 65535 ∧ Lib.encodeRuneZ v = [224 + v / 4096, 128 + v / 64 % 64, 128 + v % 64]) ∨ (65536 ≤ v ∧ Lib.encodeRuneZ v = [240 + v / 262144, 128 + v / 4096 % 64, 128 + v / 64 % 64, 128 + v % 64]) := fun v hv => by
    rcases (by omega : v ≤ 127 ∨ (128 ≤ v ∧ v ≤ 2047) ∨ ((2048 ≤ v ∧ v < 55296) ∨ (57343 < v ∧ v ≤ 65535)) ∨ 65536 ≤ v) with k | ⟨k, k2⟩ | k | k
    · left; exact ⟨k, Lib.encodeRuneZ_one (by omega) k⟩
    · right; left; exact ⟨k, k2, Lib.encodeRuneZ_two k k2⟩
    · right; right; left; exact ⟨by omega, by omega, Lib.encodeRuneZ_three k⟩
    · right; right; right; exact ⟨k, Lib.encodeRuneZ_four k (by omega)⟩
  rcases f v h1 with ⟨a, e⟩ | ⟨a, a2, e⟩ | ⟨a, a2, e⟩ | ⟨a, e⟩ <;> rcases f w h2 with ⟨b, e'⟩ | ⟨b, b2, e'⟩ | ⟨b, b2, e'⟩ | ⟨b, e'⟩ <;> rw [e, e'] at h <;> simp at h <;> omega
theorem list_of {a b : List UInt8} (h : (⟨a.toArray⟩ : ByteArray) = ⟨b.toArray⟩) : a = b := by simpa using h
/-- Unlike values are shown by unlike texts, or just one of them is dangerous. -/
theorem sh_apart {v w : Int} (hv : cls v ≠ 0) (hw : cls w ≠ 0) (hd : (3 < cls v) ↔ (3 < cls w)) (h : shT v = shT w) : v = w := by
  rcases sh_lists v with ⟨h0, hs⟩ | ⟨h0, a, b, k, d, hs⟩ | ⟨h0, h1, h2, hs⟩ | ⟨h0, h1, hs⟩ | ⟨h0, h1, h2, hs⟩ | ⟨h0, h00, h1, h2, h3, hs⟩
  · exact absurd h0 hv
  · rcases sh_lists w with ⟨h0', hs'⟩ | ⟨h0', a', b', k', d', hs'⟩ | ⟨h0', h1', h2', hs'⟩ | ⟨h0', h1', hs'⟩ | ⟨h0', h1', h2', hs'⟩ | ⟨h0', h00', h1', h2', h3', hs'⟩ <;> try omega
    rw [hs, hs'] at h
    exact oneI_inj (by omega) (by omega) (u8l_inj (oneI_byte v) (oneI_byte w) (list_of h))
  · rcases sh_lists w with ⟨h0', hs'⟩ | ⟨h0', a', b', k', d', hs'⟩ | ⟨h0', h1', h2', hs'⟩ | ⟨h0', h1', hs'⟩ | ⟨h0', h1', h2', hs'⟩ | ⟨h0', h00', h1', h2', h3', hs'⟩ <;> try omega
    all_goals
      rw [hs, hs'] at h
      have e := list_of h
      simp [u8l] at e
    · have x : ((UInt8.ofNat (v + 64).toNat).toNat : Int) = v + 64 := u8_val (v + 64) (by omega) (by omega)
      have y : ((UInt8.ofNat (w + 64).toNat).toNat : Int) = w + 64 := u8_val (w + 64) (by omega) (by omega)
      rw [e] at x
      omega
    · have x : ((UInt8.ofNat (v + 64).toNat).toNat : Int) = v + 64 := u8_val (v + 64) (by omega) (by omega)
      rw [e] at x
      have : ((63 : UInt8).toNat : Int) = 63 := rfl
      omega
  · rcases sh_lists w with ⟨h0', hs'⟩ | ⟨h0', a', b', k', d', hs'⟩ | ⟨h0', h1', h2', hs'⟩ | ⟨h0', h1', hs'⟩ | ⟨h0', h1', h2', hs'⟩ | ⟨h0', h00', h1', h2', h3', hs'⟩ <;> try omega
    all_goals
      rw [hs, hs'] at h
      have e := list_of h
      simp [u8l] at e
    have y : ((UInt8.ofNat (w + 64).toNat).toNat : Int) = w + 64 := u8_val (w + 64) (by omega) (by omega)
    rw [← e] at y
    have : ((63 : UInt8).toNat : Int) = 63 := rfl
    omega
  · rcases sh_lists w with ⟨h0', hs'⟩ | ⟨h0', a', b', k', d', hs'⟩ | ⟨h0', h1', h2', hs'⟩ | ⟨h0', h1', hs'⟩ | ⟨h0', h1', h2', hs'⟩ | ⟨h0', h00', h1', h2', h3', hs'⟩ <;> try omega
    all_goals
      rw [hs, hs'] at h
      have e := list_of h
      simp at e
    have := hexL_inj (by omega) (by omega) (by omega) (by omega) e
    omega
  · rcases sh_lists w with ⟨h0', hs'⟩ | ⟨h0', a', b', k', d', hs'⟩ | ⟨h0', h1', h2', hs'⟩ | ⟨h0', h1', hs'⟩ | ⟨h0', h1', h2', hs'⟩ | ⟨h0', h00', h1', h2', h3', hs'⟩ <;> try omega
    all_goals
      rw [hs, hs'] at h
      have e := list_of h
      simp at e
    exact hexL_inj (by omega) (by omega) (by omega) (by omega) e
end Go.Proofs.YtldblffhkokhlaaDoor
set_option linter.unusedVariables false
set_option linter.unusedSimpArgs false
namespace Go.Proofs.YtldblffhkokhlaaDoor
open Go.RowKit
/-- A builder of the call's own, at block b, that holds some bytes. -/
abbrev BldAt (B b : Nat) (p : Value) (bs : List Value) (w : World) : Prop := Lib.BuilderAt 103 5 B b p bs w
abbrev IsBld (B b : Nat) (bs : List Value) (w : World) : Prop := Lib.IsBuilder 103 5 B b bs w
theorem sizeBld : (Tryd.prog.info? 103).map (fun i => i.size) = some 2 := by kernel_rfl
theorem liesBld : liesAt Tryd.prog Tryd.prog.depth 103 (2 / Tryd.prog.cellsOf 103) 0 103 1 = true := by kernel_rfl
theorem infoU8 : (Tryd.prog.info? 5).map (fun i => (i.zero, i.size, i.bytes)) = some (some (.int .u8 0), 1, 1) := by kernel_rfl
set_option maxHeartbeats 1000000 in
set_option maxRecDepth 100000 in
theorem bcheck_used (b : Nat) (w : World) (h0 : w.cell? ⟨b, 0, none⟩ = some (.pointer (some ⟨b, 0, none⟩))) :
    Calls Tryd.prog 87 #[.pointer (some ⟨b, 0, none⟩)] w fun e w' => e = .returned (.tuple #[]) ∧ w = w' := by
  obtain ⟨j, hj, _⟩ := Option.map_eq_some_iff.1 sizeBld
  go_enter Tryd.func87, Tryd.ntmps87
  go_wp2
  rw [Lib.run_neq_ptr_same w _ Tryd.underlying101 hj]
  go_wp2
  go_end0
  exact ⟨rfl, rfl⟩
set_option maxHeartbeats 1000000 in
set_option maxRecDepth 100000 in
theorem bcheck_fresh (b : Nat) (w : World) (h0 : w.cell? ⟨b, 0, none⟩ = some (.pointer none)) (hsh : w.shape? b = some (103, 2)) (hfz : w.frozen? ⟨b, 0, none⟩ = false) :
    Calls Tryd.prog 87 #[.pointer (some ⟨b, 0, none⟩)] w fun e w' => e = .returned (.tuple #[]) ∧ w' = w.setCell ⟨b, 0, none⟩ (.pointer (some ⟨b, 0, none⟩)) := by
  obtain ⟨j, hj, hjs⟩ := Option.map_eq_some_iff.1 sizeBld
  go_enter Tryd.func87, Tryd.ntmps87
  go_wp2
  rw [Lib.run_to_unsafe w ⟨b, 0, none⟩ Tryd.underlying101 Tryd.underlying165 hj (by rw [hjs]; decide) hsh (Nat.zero_lt_succ 1)]
  simp only [Result.andThen]
  rw [Oper.upon_value]
  go_wp2
  rw [run_callFunc_extern Tryd.func118 (by kernel_rfl) (by kernel_rfl) (by kernel_rfl) (e := Extern.AbiNoEscape.same) (by kernel_rfl)]
  rw [Lib.run_noEscape]
  simp only [Result.andThen]
  rw [Oper.upon_value]
  go_wp2
  rw [Lib.run_from_unsafe w ⟨b, 0, none⟩ Tryd.underlying165 Tryd.underlying101 hj hsh liesBld]
  simp only [Result.andThen]
  rw [Oper.upon_value]
  go_wp2
  go_end0
  exact ⟨rfl, rfl⟩
theorem bcheck_any (B b : Nat) (bs : List Value) (w : World) (h : IsBld B b bs w) :
    Calls Tryd.prog 87 #[.pointer (some ⟨b, 0, none⟩)] w fun e w' => e = .returned (.tuple #[]) ∧ BldAt B b (.pointer (some ⟨b, 0, none⟩)) bs w' ∧ Below B w w' := by
  rcases h with h | h
  · refine (bcheck_fresh b w h.cell0 h.shape h.frozen0).mono ?_
    rintro e w' ⟨rfl, rfl⟩
    exact ⟨rfl, h.used _, (Below.refl B w).setCell (p := ⟨b, 0, none⟩) h.1 _⟩
  · refine (bcheck_used b w h.cell0).mono ?_
    rintro e w' ⟨rfl, rfl⟩
    exact ⟨rfl, h, Below.refl B _⟩
set_option maxHeartbeats 2000000 in
set_option maxRecDepth 100000 in
theorem bwrite_any (B b : Nat) (bs : List Value) (s : ByteArray) (w : World) (h : IsBld B b bs w) (hlen : bs.length + s.size ≤ 140737488355328) (hBw : B ≤ w.heap.size) :
    Calls Tryd.prog 57 #[.pointer (some ⟨b, 0, none⟩), .string s] w fun e w' => e = .returned (.tuple #[.int .i64 s.size, .nilIface]) ∧ BldAt B b (.pointer (some ⟨b, 0, none⟩)) (bs ++ Lib.strCells s) w' ∧ Below B w w' := by
  obtain ⟨i0, hi, hz0, hz1, hz2⟩ := info_parts infoU8
  have C := Lib.hid (bcheck_any B b bs w h)
  clear h
  go_enter Tryd.func57, Tryd.ntmps57
  go_wp2_with (go_at_call 87; refine C.out.mono ?_)
  rintro e w1 ⟨rfl, ⟨hB, v, hbk, hown, hne⟩, hb1⟩
  have c0 := Lib.cell_of_heap hbk 0; have c1 := Lib.cell_of_heap hbk 1
  dsimp at c0 c1
  go_wp2_with (at_builtin; refine Lib.wpList_append_own_string _ rfl _ _ 59 9 rfl B 5 i0 Tryd.underlying59 Tryd.underlying9 hi hz0 hz1 hz2 _ _ _ rfl hown s rfl ?g3 ?g4 ?g5 ?_)
  case g3 => unfold maxLen; omega
  case g4 => omega
  case g5 => have := hb1.size; omega
  intro v' w2 hown' hgrow _
  have hlt := blk_lt hbk
  have hb2 : w2.heap[b]? = some (.cells #[.pointer (some ⟨b, 0, none⟩), v] 103 (0, 0)) := (hgrow.block b hlt (fun e => hne e.symm)).trans hbk
  have d0 := Lib.cell_of_heap hb2 0
  have d1 := Lib.cell_of_heap hb2 1
  have f1 : w2.frozen? ⟨b, 1, none⟩ = false := Lib.frozen_of_heap hb2 1
  dsimp at d0 d1
  obtain ⟨ao, n', cap, rfl⟩ : ∃ ao n' cap, v' = .slice ao n' cap := by
    rcases hown'.2 with ⟨hv, _⟩ | ⟨g, cap, cur, hv, _⟩
    · exact ⟨_, _, _, hv⟩
    · exact ⟨_, _, _, hv⟩
  go_wp2
  go_ret2
  refine ⟨rfl, ?_, ?_⟩
  · exact Lib.BuilderAt.put (T := 103) (e := 5) hB hb2 (bs' := bs ++ Lib.strCells s) (by simpa [Lib.strCells_length] using hown') (by decide)
  · exact (hb1.grown hgrow (by have := hb1.size; omega) (fun k hk => (hown.lt k hk).1)).setCell (p := ⟨b, 1, none⟩) hB _
end Go.Proofs.YtldblffhkokhlaaDoor
set_option linter.unusedVariables false
set_option linter.unusedSimpArgs false
namespace Go.Proofs.YtldblffhkokhlaaDoor
open Go.RowKit
/-- A text told value by value. -/
def tellL (f : Int → List UInt8) (l : List Int) : List UInt8 := l.flatMap f
def tellS (f : Int → List UInt8) (s : ByteArray) : ByteArray := ⟨(tellL f (valsS s)).toArray⟩
/-- What each value becomes: nothing, if it is dangerous; what it looks like; how it is shown. -/
def stF (v : Int) : List UInt8 := if 3 < cls v then [] else u8l (oneI v)
def foF (v : Int) : List UInt8 := u8l (oneI (skel v))
def shF (v : Int) : List UInt8 := (shT v).data.toList
theorem u8l_app (a b : List Int) : u8l (a ++ b) = u8l a ++ u8l b := by unfold u8l; rw [List.map_append]
theorem tellF_app (f : Int → List UInt8) (a b : List Int) : tellL f (a ++ b) = tellL f a ++ tellL f b := by unfold tellL; rw [List.flatMap_append]
theorem tellF_len (f : Int → List UInt8) (n : Nat) (h : ∀ v, (f v).length ≤ n) (l : List Int) : (tellL f l).length ≤ n * l.length := by
  induction l with
  | nil => exact Nat.zero_le _
  | cons v l ih =>
    have : tellL f (v :: l) = f v ++ tellL f l := rfl
    rw [this, List.length_append, List.length_cons, Nat.mul_add]
    have := h v
    omega
theorem tellF_size (f : Int → List UInt8) (n : Nat) (h : ∀ v, (f v).length ≤ n) (s : ByteArray) : (tellS f s).size ≤ n * s.size := by
  have h1 := tellF_len f n h (valsS s)
  have h2 := valsS_len s
  have h3 : n * (valsS s).length ≤ n * s.size := Nat.mul_le_mul_left _ h2
  have h4 : (tellS f s).size = (tellL f (valsS s)).length := by unfold tellS; exact size_list _
  omega
theorem u8l_one (v : Int) : (u8l (oneI v)).length ≤ 4 := by rw [u8l_len]; exact oneI_len v
theorem stF_len (v : Int) : (stF v).length ≤ 4 := by
  unfold stF; split
  · exact Nat.zero_le _
  · exact u8l_one v
theorem foF_len (v : Int) : (foF v).length ≤ 4 := u8l_one _
theorem shF_len (v : Int) : (shF v).length ≤ 30 := by
  have h : (shF v).length = (shT v).size := by
    unfold shF
    exact Array.length_toList
  rw [h]; exact shT_size v
/-- Values that may stand in a text. -/
theorem in_vals {s : ByteArray} {v : Int} (h : v ∈ valsS s) : ptB v = true ∨ stB v = true := vals_right s _ _ v h
theorem cls_st {v : Int} (h : stB v = true) : cls v = 12 := by
  have hv := (stB_iff v).1 h
  have hr : rght v = true := by
    rw [← rght_rightB]; unfold rightB; rw [h, Bool.or_true]
  unfold cls
  rw [hr, if_neg (by simp), if_pos (by omega)]
theorem pt_small {v : Int} (h : ptB v = true ∨ stB v = true) (hc : ¬ 3 < cls v) : ptB v = true := by
  rcases h with h | h
  · exact h
  · rw [cls_st h] at hc; omega
/-- The values of a text told so: those that are harmless. -/
def stV (l : List Int) : List Int := l.filter fun v => !decide (3 < cls v)
theorem stV_mem {l : List Int} {v : Int} (h : v ∈ stV l) : v ∈ l ∧ ¬ 3 < cls v := by
  unfold stV at h
  rw [List.mem_filter] at h
  exact ⟨h.1, by simpa using h.2⟩
theorem tell_st (l : List Int) : tellL stF l = u8l (encI (stV l)) := by
  induction l with
  | nil => rfl
  | cons v l ih =>
    have h1 : tellL stF (v :: l) = stF v ++ tellL stF l := rfl
    rw [h1, ih]
    unfold stF stV
    by_cases h : 3 < cls v
    · rw [if_pos h, List.filter_cons_of_neg (by simp [h])]; rfl
    · rw [if_neg h, List.filter_cons_of_pos (by simp [h]), encI_cons, u8l_app]
theorem tellS_st (s : ByteArray) : tellS stF s = encS (stV (valsS s)) := by
  unfold tellS; rw [tell_st]; rfl
theorem stV_pt (s : ByteArray) : ∀ v ∈ stV (valsS s), ptB v = true := fun v hv => pt_small (in_vals (stV_mem hv).1) (stV_mem hv).2
theorem vals_st (s : ByteArray) : valsS (tellS stF s) = stV (valsS s) := by rw [tellS_st, valsS_enc _ (stV_pt s)]
/-- How a value is shown: as values. -/
def shV (v : Int) : List Int := if 3 < cls v then (shF v).map (fun c => (c.toNat : Int)) else if cls v = 0 then [] else [v]
theorem hexL_ascii (n l : Int) : ∀ c ∈ hexL n l, 48 ≤ c.toNat ∧ c.toNat ≤ 70 := tell_ok 20 n.toNat l.toNat
theorem sh_ascii (v : Int) (h : 3 < cls v) : ∀ c ∈ shF v, 32 ≤ c.toNat ∧ c.toNat < 127 := by
  unfold shF
  rcases sh_lists v with ⟨h0, hs⟩ | ⟨h0, _⟩ | ⟨h0, h1, h2, hs⟩ | ⟨h0, h1, hs⟩ | ⟨h0, h1, h2, hs⟩ | ⟨h0, h00, h1, h2, h3, hs⟩
  · omega
  · omega
  · rw [hs]
    intro c hc
    simp only [List.cons_append, List.nil_append, u8l, List.map_cons, List.map_nil, List.mem_cons, List.not_mem_nil, or_false] at hc
    rcases hc with rfl | rfl
    · decide
    · have := u8_nat (x := v + 64) (by omega) (by omega)
      omega
  · rw [hs]
    intro c hc
    simp only [List.mem_cons, List.not_mem_nil, or_false] at hc
    rcases hc with rfl | rfl <;> decide
  · rw [hs]
    intro c hc
    simp only [List.cons_append, List.nil_append, List.mem_cons] at hc
    rcases hc with rfl | rfl | hc
    · decide
    · decide
    · have := hexL_ascii _ _ c hc; omega
  · rw [hs]
    intro c hc
    simp only [List.cons_append, List.nil_append, List.mem_cons, List.mem_append, List.not_mem_nil, or_false] at hc
    rcases hc with rfl | rfl | rfl | hc | rfl
    · decide
    · decide
    · decide
    · have := hexL_ascii _ _ c hc; omega
    · decide
theorem ascii_one {x : Int} (h0 : 0 ≤ x) (h1 : x < 128) : oneI x = [x] := by
  have hp : ptB x = true := (ptB_iff x).2 (by omega)
  rw [oneI_pt hp]
  unfold Lib.encodeRuneZ
  rw [if_pos (by omega)]
theorem ascii_cls {x : Int} (h0 : 32 ≤ x) (h1 : x < 127) : cls x = 1 ∧ ptB x = true := by
  have hp : ptB x = true := (ptB_iff x).2 (by omega)
  have hr : rght x = true := by rw [← rght_rightB]; unfold rightB; rw [hp]; rfl
  refine ⟨?_, hp⟩
  unfold cls
  rw [hr, if_neg (by simp), if_neg (by omega), if_neg (by omega), if_neg (by omega), if_neg (by omega), if_pos (by omega)]
theorem enc_ascii (l : List Int) (h : ∀ x ∈ l, 0 ≤ x ∧ x < 128) : encI l = l := by
  induction l with
  | nil => rfl
  | cons x l ih =>
    rw [encI_cons, ascii_one (h x (List.mem_cons_self ..)).1 (h x (List.mem_cons_self ..)).2, ih (fun y hy => h y (List.mem_cons_of_mem _ hy))]; rfl
theorem u8_back (c : UInt8) : ((c.toNat : Int)).toNat.toUInt8 = c := by simp
theorem shF_enc (v : Int) : shF v = u8l (encI (shV v)) := by
  unfold shV
  by_cases h : 3 < cls v
  · rw [if_pos h, enc_ascii]
    · unfold u8l
      rw [List.map_map]
      conv => lhs; rw [← List.map_id (shF v)]
      refine List.map_congr_left fun c _ => ?_
      exact (u8_back c).symm
    · intro x hx
      rw [List.mem_map] at hx
      obtain ⟨c, hc, rfl⟩ := hx
      have := sh_ascii v h c hc
      omega
  · rw [if_neg h]
    unfold shF
    rcases sh_lists v with ⟨h0, hs⟩ | ⟨h0, h1, h2, h3, h4, hs⟩ | ⟨h0, h1, h2, hs⟩ | ⟨h0, h1, hs⟩ | ⟨h0, h1, h2, hs⟩ | ⟨h0, h00, h1, h2, h3, hs⟩
    · rw [if_pos h0, hs]; rfl
    · rw [if_neg (by omega), hs]; simp [encI]
    all_goals omega
theorem shV_ok {v : Int} (hv : ptB v = true ∨ stB v = true) : ∀ x ∈ shV v, ptB x = true ∧ ¬ 3 < cls x := by
  intro x hx
  unfold shV at hx
  by_cases h : 3 < cls v
  · rw [if_pos h, List.mem_map] at hx
    obtain ⟨c, hc, rfl⟩ := hx
    have ha := sh_ascii v h c hc
    have := ascii_cls (x := (c.toNat : Int)) (by omega) (by omega)
    exact ⟨this.2, by omega⟩
  · rw [if_neg h] at hx
    split at hx
    · cases hx
    · rw [List.mem_singleton] at hx
      subst hx
      exact ⟨pt_small hv h, h⟩
def shA2 (l : List Int) : List Int := l.flatMap shV
theorem tell_sh (l : List Int) : tellL shF l = u8l (encI (shA2 l)) := by
  induction l with
  | nil => rfl
  | cons v l ih =>
    have h1 : tellL shF (v :: l) = shF v ++ tellL shF l := rfl
    have h2 : shA2 (v :: l) = shV v ++ shA2 l := rfl
    rw [h1, h2, ih, encI_append, u8l_app, shF_enc]
theorem tellS_sh (s : ByteArray) : tellS shF s = encS (shA2 (valsS s)) := by unfold tellS; rw [tell_sh]; rfl
theorem shA2_ok (s : ByteArray) : ∀ x ∈ shA2 (valsS s), ptB x = true ∧ ¬ 3 < cls x := by
  intro x hx
  unfold shA2 at hx
  rw [List.mem_flatMap] at hx
  obtain ⟨v, hv, hx⟩ := hx
  exact shV_ok (in_vals hv) x hx
/-- Neither text has a dangerous value. -/
theorem both_ok (s : ByteArray) : ∀ v ∈ valsS (tellS stF s ++ tellS shF s), ¬ 3 < cls v := by
  have h : tellS stF s ++ tellS shF s = encS (stV (valsS s) ++ shA2 (valsS s)) := by
    rw [tellS_st, tellS_sh]
    unfold encS
    rw [encI_append, txt_append]
  rw [h, valsS_enc]
  · intro v hv
    rcases List.mem_append.1 hv with hv | hv
    · exact (stV_mem hv).2
    · exact (shA2_ok s v hv).2
  · intro v hv
    rcases List.mem_append.1 hv with hv | hv
    · exact stV_pt s v hv
    · exact (shA2_ok s v hv).1
theorem st_of_ok {l : List Int} (h : ∀ v ∈ l, ptB v = true ∧ ¬ 3 < cls v) : tellS stF (encS l) = encS l := by
  rw [tellS_st, valsS_enc l (fun v hv => (h v hv).1)]
  congr 1
  unfold stV
  rw [List.filter_eq_self]
  intro v hv
  simpa using (h v hv).2
theorem st_st (s : ByteArray) : tellS stF (tellS stF s) = tellS stF s := by
  rw [tellS_st s]
  exact st_of_ok fun v hv => ⟨stV_pt s v hv, (stV_mem hv).2⟩
theorem st_sh (s : ByteArray) : tellS stF (tellS shF s) = tellS shF s := by
  rw [tellS_sh s]
  exact st_of_ok (shA2_ok s)
end Go.Proofs.YtldblffhkokhlaaDoor
set_option linter.unusedVariables false
set_option linter.unusedSimpArgs false
namespace Go.Proofs.YtldblffhkokhlaaDoor
open Go.RowKit
theorem look_ascii : ∀ j : Fin 51, 0 ≤ lks.getD (2 * j.val + 1) 0 ∧ lks.getD (2 * j.val + 1) 0 < 128 ∧ 128 ≤ lks.getD (2 * j.val) 0 ∧ lks.getD (2 * j.val) 0 ≤ 65535 := by decide +kernel
theorem skel_what (v : Int) : skel v = v ∨ (0 ≤ skel v ∧ skel v < 128 ∧ 128 ≤ v ∧ v ≤ 65535) := by
  cases h1 : (List.range 51).find? (hitL v) with
  | some j =>
    have ⟨hj, hp⟩ := find_some_lt h1
    have e : skel v = lks.getD (2 * j + 1) 0 := by unfold skel; rw [h1]
    have hk := look_ascii ⟨j, hj⟩
    dsimp at hk
    have hv : v = lks.getD (2 * j) 0 := (inb_self v _).1 hp
    right
    rw [e]
    exact ⟨hk.1, hk.2.1, by omega, by omega⟩
  | none =>
    left; unfold skel; rw [h1]
theorem skel_pt {v : Int} (h : ptB v = true) : ptB (skel v) = true := by
  rcases skel_what v with e | ⟨h0, h1, _⟩
  · rw [e]; exact h
  · exact (ptB_iff _).2 (by omega)
theorem skel_st {v : Int} (h : stB v = true) : skel v = v := by
  have := (stB_iff v).1 h
  rcases skel_what v with e | ⟨h0, h1, h2, h3⟩
  · exact e
  · omega
/-- Bytes that go together up to where the second ones go on with no further byte. -/
def PreR (r r' : List Int) : Prop := r = r' ∨ ∃ p q y z, r = p ++ q ∧ r' = p ++ y :: z ∧ ¬ (128 ≤ y ∧ y ≤ 191)
theorem PreR.cons {r r' : List Int} (h : PreR r r') (a : List Int) : PreR (a ++ r) (a ++ r') := by
  rcases h with rfl | ⟨p, q, y, z, rfl, rfl, hy⟩
  · exact Or.inl rfl
  · exact Or.inr ⟨a ++ p, q, y, z, by rw [List.append_assoc], by rw [List.append_assoc], hy⟩
theorem preR_skel : ∀ l : List Int, PreR (encI l) (encI (l.map skel))
  | [] => Or.inl rfl
  | v :: l => by
    rw [List.map_cons, encI_cons, encI_cons]
    rcases skel_what v with e | ⟨h0, h1, _⟩
    · rw [e]; exact (preR_skel l).cons _
    · rw [ascii_one h0 h1]
      exact Or.inr ⟨[], _, skel v, _, rfl, rfl, by omega⟩
theorem preR_same {r r' : List Int} (h : PreR r r') (m : Nat) (hm : m ≤ r'.length) (hc : ∀ i, i < m → 128 ≤ r'.getD i 0 ∧ r'.getD i 0 ≤ 191) : m ≤ r.length ∧ ∀ i, i < m → r.getD i 0 = r'.getD i 0 := by
  rcases h with rfl | ⟨p, q, y, z, rfl, rfl, hy⟩
  · exact ⟨hm, fun _ _ => rfl⟩
  · have hp : m ≤ p.length := by
      rcases Nat.lt_or_ge p.length m with h | h
      · exfalso
        have := hc p.length h
        rw [List.getD, List.getElem?_append_right (Nat.le_refl _), Nat.sub_self] at this
        exact hy this
      · exact h
    refine ⟨by rw [List.length_append]; omega, fun i hi => ?_⟩
    rw [List.getD, List.getD, List.getElem?_append_left (by omega), List.getElem?_append_left (by omega)]
theorem may_cont {f c i : Nat} (h : mayB f c i = true) : 128 ≤ c ∧ c ≤ 191 := ((mayB_iff f c i).1 h).1
/-- A byte that begins no value stays so, whatever of what follows becomes a letter. -/
theorem beg_keep (b : Nat) (r r' : List Int) (hb : 128 ≤ b) (hb2 : b < 256) (hr : ∀ x ∈ r', 0 ≤ x ∧ x < 256) (h : PreR r r') (hbad : begB (1 + r.length) b (r.getD 0 0).toNat (r.getD 1 0).toNat (r.getD 2 0).toNat ≠ sizeB b) :
    begB (1 + r'.length) b (r'.getD 0 0).toNat (r'.getD 1 0).toNat (r'.getD 2 0).toNat ≠ sizeB b := by
  intro heq
  apply hbad
  have hz : sizeB b ≠ 1 := by
    unfold sizeB; rw [if_neg (by omega)]; repeat' split
    all_goals omega
  have hc : ∀ (i j : Nat), mayB b (r'.getD i 0).toNat j = true → 128 ≤ r'.getD i 0 ∧ r'.getD i 0 ≤ 191 := fun i j hm => by
    have := may_cont hm; omega
  unfold begB at heq ⊢
  by_cases h1 : 1 < sizeB b ∧ 1 < 1 + r'.length ∧ mayB b (r'.getD 0 0).toNat 1 = true
  · rw [if_pos h1] at heq
    by_cases h2 : 2 < sizeB b ∧ 2 < 1 + r'.length ∧ mayB b (r'.getD 1 0).toNat 2 = true
    · rw [if_pos h2] at heq
      by_cases h3 : 3 < sizeB b ∧ 3 < 1 + r'.length ∧ mayB b (r'.getD 2 0).toNat 3 = true
      · rw [if_pos h3] at heq
        obtain ⟨hm, hs⟩ := preR_same h 3 (by omega) (fun i hi => by
          match i, hi with
          | 0, _ => exact hc 0 _ h1.2.2
          | 1, _ => exact hc 1 _ h2.2.2
          | 2, _ => exact hc 2 _ h3.2.2)
        rw [hs 0 (by omega), hs 1 (by omega), hs 2 (by omega), if_pos ⟨h1.1, by omega, h1.2.2⟩, if_pos ⟨h2.1, by omega, h2.2.2⟩, if_pos ⟨h3.1, by omega, h3.2.2⟩]
        exact heq
      · rw [if_neg h3] at heq
        obtain ⟨hm, hs⟩ := preR_same h 2 (by omega) (fun i hi => by
          match i, hi with
          | 0, _ => exact hc 0 _ h1.2.2
          | 1, _ => exact hc 1 _ h2.2.2)
        rw [hs 0 (by omega), hs 1 (by omega), if_pos ⟨h1.1, by omega, h1.2.2⟩, if_pos ⟨h2.1, by omega, h2.2.2⟩, if_neg (by omega)]
        exact heq
    · rw [if_neg h2] at heq
      obtain ⟨hm, hs⟩ := preR_same h 1 (by omega) (fun i hi => by
        match i, hi with
        | 0, _ => exact hc 0 _ h1.2.2)
      rw [hs 0 (by omega), if_pos ⟨h1.1, by omega, h1.2.2⟩, if_neg (by omega)]
      exact heq
  · rw [if_neg h1] at heq
    omega
theorem cons_get (b : Int) (r : List Int) (i : Nat) (hr : ∀ x ∈ r, 0 ≤ x ∧ x < 256) : ((txt (b :: r)).get! (i + 1)).toNat = (r.getD i 0).toNat := by
  by_cases h : i < r.length
  · rw [txt_get _ _ (by simpa using h)]
    have hm := hr (r[i]) (List.getElem_mem h)
    rw [List.getElem_cons_succ, u8_nat hm.1 hm.2, List.getD, List.getElem?_eq_getElem h]; rfl
  · rw [List.getD, List.getElem?_eq_none (by omega)]
    have hs : ¬ i + 1 < (txt (b :: r)).size := by rw [txt_size]; simp; omega
    have : (txt (b :: r)).get! (i + 1) = 0 := by
      unfold ByteArray.get!
      have : ¬ i + 1 < (txt (b :: r)).data.size := hs
      simp [Array.getElem!_eq_getD, Array.getD, this]
      rw [dif_neg hs]; rfl
    rw [this]; rfl
/-- The value of a byte that begins none, and of what follows. -/
theorem stray_iff (b : Nat) (r : List Int) (hb : 128 ≤ b) (hb2 : b < 256) (hr : ∀ x ∈ r, 0 ≤ x ∧ x < 256) :
    (begB (1 + r.length) b (r.getD 0 0).toNat (r.getD 1 0).toNat (r.getD 2 0).toNat ≠ sizeB b → vAt (txt ((b : Int) :: r)) 0 = (1114112 + b, 1)) ∧
    ((vAt (txt ((b : Int) :: r)) 0).1 = 1114112 + b → begB (1 + r.length) b (r.getD 0 0).toNat (r.getD 1 0).toNat (r.getD 2 0).toNat ≠ sizeB b) := by
  have hsz : (txt ((b : Int) :: r)).size = 1 + r.length := by rw [txt_size, List.length_cons]; omega
  have hg0 : ((txt ((b : Int) :: r)).get! 0).toNat = b := by
    rw [txt_get _ _ (by simp)]
    exact u8n _ _ rfl hb2
  have hv := vAt_one (txt ((b : Int) :: r)) (by omega)
  rw [hsz, hg0, cons_get _ _ 0 hr, cons_get _ _ 1 hr, cons_get _ _ 2 hr] at hv
  constructor
  · intro h
    rw [hv]
    exact one_bad rfl rfl h
  · intro h heq
    have hsmall : (vAt (txt ((b : Int) :: r)) 0).1 = 1114112 + b → (vAt (txt ((b : Int) :: r)) 0).2 = 1 := fun h1 => by
      unfold vAt at h1 ⊢
      split at h1
      · rename_i hc; rw [if_pos hc]
      · rename_i hc
        rcases dec_cases (txt ((b : Int) :: r)) 0 with hd | hd
        · exact absurd (by rw [hd]; exact ⟨rfl, by omega⟩) hc
        · unfold Fine at hd; omega
    have h2 := hsmall h
    rw [hv] at h h2
    obtain ⟨k, hk⟩ : ∃ k, sizeB b = k := ⟨_, rfl⟩
    have hk2 : k = 0 ∨ k = 2 ∨ k = 3 ∨ k = 4 := by
      rw [← hk]; unfold sizeB; rw [if_neg (by omega)]; repeat' split
      all_goals omega
    have hbg : ∀ n b1 b2 b3, 1 ≤ begB n b b1 b2 b3 := fun n b1 b2 b3 => by unfold begB; split <;> (try split) <;> (try split) <;> omega
    have h1 := hbg (1 + r.length) (r.getD 0 0).toNat (r.getD 1 0).toNat (r.getD 2 0).toNat
    rcases hk2 with rfl | rfl | rfl | rfl
    · omega
    · rw [one_2 (heq.trans hk) hk] at h2; cases h2
    · rw [one_3 (heq.trans hk) hk] at h2; cases h2
    · rw [one_4 (heq.trans hk) hk] at h2; cases h2
/-- Values that a text has: the text of what they look like has what they look like. -/
theorem good_skel : ∀ l : List Int, valsS (encS l) = l → (∀ v ∈ l, ptB v = true ∨ stB v = true) → valsS (encS (l.map skel)) = l.map skel
  | [], _, _ => by unfold encS; exact valsS_nil _ (by rw [txt_size]; simp [encI])
  | v :: l, hg, hv => by
    have hl : ∀ x ∈ l, ptB x = true ∨ stB x = true := fun x hx => hv x (List.mem_cons_of_mem _ hx)
    unfold encS at hg ⊢
    rw [List.map_cons, encI_cons]
    rw [encI_cons] at hg
    rcases hv v (List.mem_cons_self ..) with hp | hs
    · rw [vals_enc1 v _ hp] at hg
      have ih := good_skel l (List.cons.inj hg).2 hl
      rw [vals_enc1 _ _ (skel_pt hp)]
      unfold encS at ih
      rw [ih]
    · have hvr := (stB_iff v).1 hs
      obtain ⟨b, rfl⟩ : ∃ b : Nat, v = ((1114112 + b : Nat) : Int) := ⟨(v - 1114112).toNat, by omega⟩
      have hb : 128 ≤ b := by omega
      have hb2 : b < 256 := by omega
      have ho : oneI ((1114112 + b : Nat) : Int) = [(b : Int)] := by rw [oneI_st hs]; congr 1; omega
      rw [skel_st hs, ho, List.singleton_append]
      rw [ho, List.singleton_append] at hg
      have hby := encI_byte l
      have hby2 := encI_byte (l.map skel)
      have hpos : ∀ r : List Int, 0 < (txt ((b : Int) :: r)).size := fun r => by rw [txt_size]; simp
      rw [valsS_cons _ (hpos _)] at hg
      have hg1 := (List.cons.inj hg).1
      have hbad := (stray_iff b (encI l) hb hb2 hby).2 (by omega)
      have hva := (stray_iff b (encI l) hb hb2 hby).1 hbad
      have hg2 := (List.cons.inj hg).2
      rw [hva, txt_ext] at hg2
      have ih := good_skel l hg2 hl
      have hva2 := (stray_iff b (encI (l.map skel)) hb hb2 hby2).1 (beg_keep b _ _ hb hb2 hby2 (preR_skel l) hbad)
      rw [valsS_cons _ (hpos _), hva2, txt_ext]
      unfold encS at ih
      rw [show ((b : Int) :: encI (l.map skel)).drop ((1114112 + b, 1) : Nat × Nat).2 = encI (l.map skel) from rfl, ih]
theorem tell_fo (l : List Int) : tellL foF l = u8l (encI (l.map skel)) := by
  induction l with
  | nil => rfl
  | cons v l ih =>
    have h1 : tellL foF (v :: l) = foF v ++ tellL foF l := rfl
    rw [h1, ih, List.map_cons, encI_cons, u8l_app]; rfl
theorem tellS_fo (s : ByteArray) : tellS foF s = encS ((valsS s).map skel) := by unfold tellS; rw [tell_fo]; rfl
theorem fo_fo (s : ByteArray) : tellS foF (tellS foF s) = tellS foF s := by
  rw [tellS_fo (tellS foF s), tellS_fo s, good_skel (valsS s) (by rw [encS_vals]) (fun v hv => in_vals hv), List.map_map]
  congr 1
  refine List.map_congr_left fun v _ => ?_
  exact (skel_idem v).1
end Go.Proofs.YtldblffhkokhlaaDoor
set_option linter.unusedVariables false
set_option linter.unusedSimpArgs false
namespace Go.Proofs.YtldblffhkokhlaaDoor
open Go.RowKit
def mkL (l : List UInt8) : ByteArray := ⟨l.toArray⟩
theorem enc_one (v : Int) : encS [v] = mkL (u8l (oneI v)) := by unfold encS encI; rw [List.flatMap_cons, List.flatMap_nil, List.append_nil]; rfl
end Go.Proofs.YtldblffhkokhlaaDoor
