/-
  Plain facts on classes of values: the program's tables, the reference's, and that they tell the same. No program.
-/
import Derived.RowKit
namespace Go.Proofs.YtfhcfamjlhmgiaaDoor
open Go

def rng : List Int := [10, 160, 160, 10, 5760, 5760, 10, 8192, 8202, 10, 8232, 8233, 10, 8239, 8239, 10, 8287, 8287, 10, 12288, 12288, 8, 173, 173, 8, 6155, 6158, 8, 8203, 8205, 8, 8288, 8292, 8, 65279, 65279, 8, 65529, 65531, 7, 1564, 1564, 7, 8206, 8207, 7, 8234, 8238, 7, 8294, 8297, 9, 768, 879, 9, 1155, 1161, 9, 1425, 1469, 9, 1552, 1562, 9, 1611, 1631, 9, 1750, 1756, 9, 6832, 6862, 9, 7616, 7679, 9, 8400, 8432, 9, 12330, 12335, 9, 12441, 12442, 9, 65024, 65039, 9, 65056, 65071, 11, 57344, 63743, 11, 64976, 65007, 11, 65520, 65528, 11, 65534, 65535, 11, 131070, 131071, 11, 262142, 1114111, 2, 4352, 4447, 2, 8986, 8987, 2, 11904, 12287, 2, 12289, 12350, 2, 12353, 13311, 2, 13312, 19903, 2, 19968, 42191, 2, 43360, 43391, 2, 44032, 55203, 2, 63744, 64255, 2, 65072, 65135, 2, 65280, 65376, 2, 65504, 65510, 2, 127744, 128591, 2, 128640, 128767, 2, 129280, 129535, 2, 131072, 262141]
def lks : List Int := [913, 65, 914, 66, 917, 69, 918, 90, 919, 72, 921, 73, 922, 75, 924, 77, 925, 78, 927, 79, 929, 80, 932, 84, 933, 89, 935, 88, 957, 118, 959, 111, 961, 112, 1029, 83, 1030, 73, 1032, 74, 1040, 65, 1042, 66, 1045, 69, 1050, 75, 1052, 77, 1053, 72, 1054, 79, 1056, 80, 1057, 67, 1058, 84, 1061, 88, 1072, 97, 1077, 101, 1086, 111, 1088, 112, 1089, 99, 1091, 121, 1093, 120, 1109, 115, 1110, 105, 1112, 106, 1281, 100, 1307, 113, 1309, 119, 894, 59, 8208, 45, 8722, 45, 8260, 47, 8725, 47, 8228, 46, 8218, 44]
/-- Is v in a range? -/
def inb (v a b : Int) : Bool := decide (a ≤ v) && decide (v ≤ b)
def hitR (v : Int) (j : Nat) : Bool := inb v (rng.getD (3 * j + 1) 0) (rng.getD (3 * j + 2) 0)
def hitL (v : Int) (j : Nat) : Bool := inb v (lks.getD (2 * j) 0) (lks.getD (2 * j) 0)
/-- What a value looks like. -/
def skel (v : Int) : Int := match (List.range 51).find? (hitL v) with | some j => lks.getD (2 * j + 1) 0 | none => v
/-- The class that the tables tell. -/
def told (v : Int) : Int := match (List.range 53).find? (hitR v) with | some j => rng.getD (3 * j) 0 | none => if skel v = v then 1 else 3

theorem find_first {p : Nat → Bool} {n k : Nat} (hk : k < n) (hp : p k = true) (h : ∀ j, j < k → p j = false) : (List.range n).find? p = some k := by
  rw [List.find?_range_eq_some]
  exact ⟨hp, by simpa using hk, fun j hj => by rw [h j hj]; rfl⟩
theorem find_none {p : Nat → Bool} {n : Nat} (h : ∀ j, j < n → p j = false) : (List.range n).find? p = none := by
  rw [List.find?_eq_none]
  intro j hj
  rw [h j (by simpa using hj)]; simp
/-- A code point. -/
def pnt (v : Int) : Bool := decide (0 ≤ v ∧ v < 55296 ∨ 57343 < v ∧ v ≤ 1114111)
/-- A stray byte. -/
def stry (v : Int) : Bool := decide (1114240 ≤ v ∧ v ≤ 1114367)
/-- A value that may be. -/
def rght (v : Int) : Bool := pnt v || stry v
/-- A value's class. -/
def cls (v : Int) : Int := if rght v = false then 0 else if 1114112 ≤ v then 12 else if v < 32 then 4 else if v = 127 then 5 else if 128 ≤ v ∧ v < 160 then 6 else if v < 160 then 1 else told v
def wid (v : Int) : Int := if cls v = 2 then 2 else if cls v = 1 ∨ cls v = 3 then 1 else 0
def dng (v : Int) : Bool := decide (3 < cls v)
theorem pnt_cases (v : Int) : (pnt v = true ∧ (0 ≤ v ∧ v < 55296 ∨ 57343 < v ∧ v ≤ 1114111)) ∨ (pnt v = false ∧ (v < 0 ∨ 55296 ≤ v ∧ v ≤ 57343 ∨ 1114111 < v)) := by
  unfold pnt
  by_cases h : 0 ≤ v ∧ v < 55296 ∨ 57343 < v ∧ v ≤ 1114111
  · left; exact ⟨decide_eq_true h, h⟩
  · right; exact ⟨decide_eq_false h, by omega⟩
theorem stry_cases (v : Int) : (stry v = true ∧ 1114240 ≤ v ∧ v ≤ 1114367) ∨ (stry v = false ∧ (v < 1114240 ∨ 1114367 < v)) := by
  unfold stry
  by_cases h : 1114240 ≤ v ∧ v ≤ 1114367
  · left; exact ⟨decide_eq_true h, h.1, h.2⟩
  · right; exact ⟨decide_eq_false h, by omega⟩
end Go.Proofs.YtfhcfamjlhmgiaaDoor
