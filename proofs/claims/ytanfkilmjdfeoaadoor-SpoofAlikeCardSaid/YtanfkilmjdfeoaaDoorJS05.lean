/-
  Joined: U14 C9 C10.
-/
import Derived.Test.YtanfkilmjdfeoaaDoorJS01
import Derived.Test.YtanfkilmjdfeoaaDoorJS03
import Derived.Test.YtanfkilmjdfeoaaDoorJS04
import Derived.Lib.QuietBelow
set_option linter.unusedVariables false
set_option linter.unusedSimpArgs false
set_option maxRecDepth 100000
set_option linter.unusedVariables false
set_option linter.unusedSimpArgs false
namespace Go.Proofs.YtanfkilmjdfeoaaDoor
open Go.RowKit
/-- Is a text that is not empty a code point's beginning? -/
def partB (s : ByteArray) : Bool := decide (begS s = s.size) && decide (s.size < sizeB (s.get! 0).toNat)
theorem partB_iff (s : ByteArray) : partB s = true ↔ (begS s = s.size ∧ s.size < sizeB (s.get! 0).toNat) := by unfold partB; rw [Bool.and_eq_true, decide_eq_true_eq, decide_eq_true_eq]
theorem part_cl (n b0 b1 b2 b3 z lo hi : Nat) (hn : 1 ≤ n) (hz : sizeB b0 = z) (h1 : 2 ≤ z) (hm : ∀ c, mayB b0 c 1 = true ↔ lo ≤ c ∧ c ≤ hi) :
    (begB n b0 b1 b2 b3 = n ∧ n < z) ↔ (n < z ∧ (1 < n → lo ≤ b1 ∧ b1 ≤ hi) ∧ (2 < n → 128 ≤ b2 ∧ b2 ≤ 191)) := by
  have h4 : z ≤ 4 := by rw [← hz]; exact sizeB_le b0
  have m1 := hm b1
  have m2 : mayB b0 b2 2 = true ↔ 128 ≤ b2 ∧ b2 ≤ 191 := by rw [mayB_iff]; omega
  subst hz
  by_cases c1 : 1 < n
  · by_cases c2 : mayB b0 b1 1 = true
    · have g1 := m1.1 c2
      by_cases c3 : 2 < n
      · by_cases c5 : 2 < sizeB b0
        · by_cases c4 : mayB b0 b2 2 = true
          · have g2 := m2.1 c4
            by_cases c6 : n < sizeB b0
            · rw [beg3 ⟨by omega, c1, c2⟩ ⟨c5, c3, c4⟩ (fun h => by have := h.1; have := h.2.1; omega)]; omega
            · omega
          · have g2 : ¬ (128 ≤ b2 ∧ b2 ≤ 191) := fun h => c4 (m2.2 h)
            rw [beg2 ⟨by omega, c1, c2⟩ (by simp [c4])]; omega
        · omega
      · by_cases c6 : n < sizeB b0
        · rw [beg2 ⟨by omega, c1, c2⟩ (fun h => by have := h.1; have := h.2.1; omega)]; omega
        · omega
    · have g1 : ¬ (lo ≤ b1 ∧ b1 ≤ hi) := fun h => c2 (m1.2 h)
      rw [beg1 (by simp [c2])]; omega
  · rw [beg1 (fun h => by have := h.2.1; omega)]; omega
theorem may_cl (b0 c : Nat) : mayB b0 c 1 = true ↔ (128 ≤ c ∧ c ≤ 191) ∧ ¬ (b0 = 224 ∧ c < 160 ∨ b0 = 237 ∧ 159 < c ∨ b0 = 240 ∧ c < 144 ∨ b0 = 244 ∧ 143 < c) := by rw [mayB_iff]; omega
theorem cl_cases (b0 : Nat) : (Lib.firstT b0 = 240 ∧ sizeB b0 = 1) ∨ (Lib.firstT b0 = 241 ∧ sizeB b0 = 0)
    ∨ (Lib.firstT b0 = 2 ∧ sizeB b0 = 2 ∧ ∀ c, mayB b0 c 1 = true ↔ 128 ≤ c ∧ c ≤ 191) ∨ (Lib.firstT b0 = 19 ∧ sizeB b0 = 3 ∧ ∀ c, mayB b0 c 1 = true ↔ 160 ≤ c ∧ c ≤ 191)
    ∨ (Lib.firstT b0 = 3 ∧ sizeB b0 = 3 ∧ ∀ c, mayB b0 c 1 = true ↔ 128 ≤ c ∧ c ≤ 191) ∨ (Lib.firstT b0 = 35 ∧ sizeB b0 = 3 ∧ ∀ c, mayB b0 c 1 = true ↔ 128 ≤ c ∧ c ≤ 159)
    ∨ (Lib.firstT b0 = 52 ∧ sizeB b0 = 4 ∧ ∀ c, mayB b0 c 1 = true ↔ 144 ≤ c ∧ c ≤ 191) ∨ (Lib.firstT b0 = 4 ∧ sizeB b0 = 4 ∧ ∀ c, mayB b0 c 1 = true ↔ 128 ≤ c ∧ c ≤ 191)
    ∨ (Lib.firstT b0 = 68 ∧ sizeB b0 = 4 ∧ ∀ c, mayB b0 c 1 = true ↔ 128 ≤ c ∧ c ≤ 143) := by
  have hm := fun c => may_cl b0 c
  rcases (by omega : b0 < 128 ∨ (128 ≤ b0 ∧ b0 < 194) ∨ (194 ≤ b0 ∧ b0 < 224) ∨ b0 = 224 ∨ (225 ≤ b0 ∧ b0 < 237) ∨ b0 = 237 ∨ (238 ≤ b0 ∧ b0 < 240) ∨ b0 = 240 ∨ (241 ≤ b0 ∧ b0 < 244) ∨ b0 = 244 ∨ 245 ≤ b0) with h | h | h | h | h | h | h | h | h | h | h
  · left; unfold Lib.firstT sizeB; rw [if_pos h, if_pos h]; exact ⟨rfl, rfl⟩
  · right; left; unfold Lib.firstT sizeB; simp only [show ¬ b0 < 128 by omega, show b0 < 194 by omega, show ¬ (194 ≤ b0 ∧ b0 ≤ 223) by omega, show ¬ (224 ≤ b0 ∧ b0 ≤ 239) by omega, show ¬ (240 ≤ b0 ∧ b0 ≤ 244) by omega, if_true, if_false]; exact ⟨trivial, trivial⟩
  · right; right; left; refine ⟨?_, ?_, fun c => by rw [hm c]; omega⟩
    · unfold Lib.firstT; simp only [show ¬ b0 < 128 by omega, show ¬ b0 < 194 by omega, show b0 < 224 by omega, if_true, if_false]
    · unfold sizeB; simp only [show ¬ b0 < 128 by omega, show (194 ≤ b0 ∧ b0 ≤ 223) by omega, and_self, if_true, if_false]
  · right; right; right; left; subst h; exact ⟨by decide, by decide, fun c => by rw [hm c]; omega⟩
  · right; right; right; right; left; refine ⟨?_, ?_, fun c => by rw [hm c]; omega⟩
    · unfold Lib.firstT; simp only [show ¬ b0 < 128 by omega, show ¬ b0 < 194 by omega, show ¬ b0 < 224 by omega, show ¬ b0 = 224 by omega, show b0 < 237 by omega, if_true, if_false]
    · unfold sizeB; rw [if_neg (by omega), if_neg (by omega), if_pos (by omega)]
  · right; right; right; right; right; left; subst h; exact ⟨by decide, by decide, fun c => by rw [hm c]; omega⟩
  · right; right; right; right; left; refine ⟨?_, ?_, fun c => by rw [hm c]; omega⟩
    · unfold Lib.firstT; simp only [show ¬ b0 < 128 by omega, show ¬ b0 < 194 by omega, show ¬ b0 < 224 by omega, show ¬ b0 = 224 by omega, show ¬ b0 < 237 by omega, show ¬ b0 = 237 by omega, show b0 < 240 by omega, if_true, if_false]
    · unfold sizeB; rw [if_neg (by omega), if_neg (by omega), if_pos (by omega)]
  · right; right; right; right; right; right; left; subst h; exact ⟨by decide, by decide, fun c => by rw [hm c]; omega⟩
  · right; right; right; right; right; right; right; left; refine ⟨?_, ?_, fun c => by rw [hm c]; omega⟩
    · unfold Lib.firstT; simp only [show ¬ b0 < 128 by omega, show ¬ b0 < 194 by omega, show ¬ b0 < 224 by omega, show ¬ b0 = 224 by omega, show ¬ b0 < 237 by omega, show ¬ b0 = 237 by omega, show ¬ b0 < 240 by omega, show ¬ b0 = 240 by omega, show b0 < 244 by omega, if_true, if_false]
    · unfold sizeB; rw [if_neg (by omega), if_neg (by omega), if_neg (by omega), if_pos (by omega)]
  · right; right; right; right; right; right; right; right; subst h; exact ⟨by decide, by decide, fun c => by rw [hm c]; omega⟩
  · right; left; unfold Lib.firstT sizeB; simp only [show ¬ b0 < 128 by omega, show ¬ b0 < 194 by omega, show ¬ b0 < 224 by omega, show ¬ b0 = 224 by omega, show ¬ b0 < 237 by omega, show ¬ b0 = 237 by omega, show ¬ b0 < 240 by omega, show ¬ b0 = 240 by omega, show ¬ b0 < 244 by omega, show ¬ b0 = 244 by omega, show ¬ (194 ≤ b0 ∧ b0 ≤ 223) by omega, show ¬ (224 ≤ b0 ∧ b0 ≤ 239) by omega, show ¬ (240 ≤ b0 ∧ b0 ≤ 244) by omega, if_true, if_false]; exact ⟨trivial, trivial⟩
theorem ret_nn {a b : Bool} (h : b = !a) : Ending.returned (.bool b) = .returned (.bool (!a)) := by rw [h]
end Go.Proofs.YtanfkilmjdfeoaaDoor
set_option linter.unusedVariables false
set_option linter.unusedSimpArgs false
namespace Go.Proofs.YtanfkilmjdfeoaaDoor
open Go.RowKit
/-- One more of v's class. -/
def bump (f : Int → Int) (L : List Int) (v : Int) : List Int := L.set (f v).toNat (L.getD (f v).toNat 0 + 1)
def zer : List Int := List.replicate 13 0
/-- How many there are of each class. -/
def cnts (f : Int → Int) (l : List Int) : List Int := l.foldl (bump f) zer
theorem cnts_snoc (f : Int → Int) (l : List Int) (v : Int) : cnts f (l ++ [v]) = bump f (cnts f l) v := by simp [cnts]
theorem cnts_take (f : Int → Int) (l : List Int) (k : Nat) (h : k < l.length) : cnts f (l.take (k + 1)) = bump f (cnts f (l.take k)) (l.getD k 0) := by
  rw [List.take_succ_eq_append_getElem h, cnts_snoc, List.getD, List.getElem?_eq_getElem h]; rfl
theorem getD_set (L : List Int) (i j : Nat) (x : Int) : (L.set i x).getD j 0 = if i = j ∧ i < L.length then x else L.getD j 0 := by
  rw [List.getD, List.getD, List.getElem?_set]
  by_cases h : i = j
  · subst h
    by_cases h2 : i < L.length
    · simp [h2]
    · simp [h2]
  · simp [h]
theorem bump_le (f : Int → Int) (L : List Int) (v n : Int) (hn : 0 ≤ n) (h : L.length = 13 ∧ ∀ j, 0 ≤ L.getD j 0 ∧ L.getD j 0 ≤ n) : (bump f L v).length = 13 ∧ ∀ j, 0 ≤ (bump f L v).getD j 0 ∧ (bump f L v).getD j 0 ≤ n + 1 := by
  unfold bump
  refine ⟨by simp [h.1], fun j => ?_⟩
  rw [getD_set]
  have h1 := h.2 j; have h2 := h.2 (f v).toNat
  split <;> omega
theorem cnts_le (f : Int → Int) (l : List Int) : ∀ k, k ≤ l.length → (cnts f (l.take k)).length = 13 ∧ ∀ j, 0 ≤ (cnts f (l.take k)).getD j 0 ∧ (cnts f (l.take k)).getD j 0 ≤ k := by
  intro k
  induction k with
  | zero => intro _; refine ⟨rfl, fun j => ?_⟩
            have : cnts f (l.take 0) = zer := rfl
            rw [this]
            have : zer.getD j 0 = 0 := by
              unfold zer; rw [List.getD, List.getElem?_replicate]; split <;> rfl
            rw [this]; exact ⟨by omega, by omega⟩
  | succ k ih =>
    intro hk
    rw [cnts_take f l k hk]
    have := bump_le f _ (l.getD k 0) k (by omega) (ih (by omega))
    exact ⟨this.1, fun j => by have := this.2 j; omega⟩
theorem iRow_zer : iRow zer = #[.int .i64 0, .int .i64 0, .int .i64 0, .int .i64 0, .int .i64 0, .int .i64 0, .int .i64 0, .int .i64 0, .int .i64 0, .int .i64 0, .int .i64 0, .int .i64 0, .int .i64 0] := rfl
theorem below_setRow (w : World) (g : Nat) (cs : Array Value) : Below g w (w.setRow g cs) :=
  ⟨rfl, rfl, rfl, by simp, fun k hk => setRow_other _ _ _ _ (by omega)⟩
end Go.Proofs.YtanfkilmjdfeoaaDoor
set_option linter.unusedVariables false
set_option linter.unusedSimpArgs false
namespace Go.Proofs.YtanfkilmjdfeoaaDoor
open Go.RowKit Go.Sort
/-- Do they look alike? -/
def alk (x y : List Int) : Bool := x.length == y.length && (List.range x.length).all fun i => skel (x.getD i 0) == skel (y.getD i 0)
theorem alk_no {x y : List Int} {k : Nat} (hk : k < x.length) (h : (skel (x.getD k 0) != skel (y.getD k 0)) = true) : alk x y = false := by
  unfold alk
  have : ((List.range x.length).all fun i => skel (x.getD i 0) == skel (y.getD i 0)) = false := by
    rw [List.all_eq_false]; exact ⟨k, by simpa using hk, by simpa using h⟩
  rw [this, Bool.and_false]
theorem alk_yes {x y : List Int} (hl : x.length = y.length) (h : ∀ j, j < x.length → (skel (x.getD j 0) != skel (y.getD j 0)) = false) : alk x y = true := by
  unfold alk
  rw [Bool.and_eq_true]
  refine ⟨by simpa using hl, ?_⟩
  rw [List.all_eq_true]
  intro j hj
  have := h j (by simpa using hj)
  simpa using this
end Go.Proofs.YtanfkilmjdfeoaaDoor
