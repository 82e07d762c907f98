/-
  Joined: Cls0 Kit C1 C2 C3 C4 C5.
-/
import Derived.RowKit
import Derived.WalkKit
import Derived.Deep.QuietTactic
import Derived.BigQuiet
import Derived.Lib.Hide
import Derived.Test.YtcdecnmhogmhaaaDoorRows
import Derived.WalkSpells
import Derived.WalkLawsBesides
import Derived.Handy
namespace Go.Proofs.YtcdecnmhogmhaaaDoor
set_option linter.unusedVariables false
set_option linter.unusedSimpArgs false
set_option maxRecDepth 100000
open Go

def rng : List Int := [10, 160, 160, 10, 5760, 5760, 10, 8192, 8202, 10, 8232, 8233, 10, 8239, 8239, 10, 8287, 8287, 10, 12288, 12288, 8, 173, 173, 8, 6155, 6158, 8, 8203, 8205, 8, 8288, 8292, 8, 65279, 65279, 8, 65529, 65531, 7, 1564, 1564, 7, 8206, 8207, 7, 8234, 8238, 7, 8294, 8297, 9, 768, 879, 9, 1155, 1161, 9, 1425, 1469, 9, 1552, 1562, 9, 1611, 1631, 9, 1750, 1756, 9, 6832, 6862, 9, 7616, 7679, 9, 8400, 8432, 9, 12330, 12335, 9, 12441, 12442, 9, 65024, 65039, 9, 65056, 65071, 11, 57344, 63743, 11, 64976, 65007, 11, 65520, 65528, 11, 65534, 65535, 11, 131070, 131071, 11, 262142, 1114111, 2, 4352, 4447, 2, 8986, 8987, 2, 11904, 12287, 2, 12289, 12350, 2, 12353, 13311, 2, 13312, 19903, 2, 19968, 42191, 2, 43360, 43391, 2, 44032, 55203, 2, 63744, 64255, 2, 65072, 65135, 2, 65280, 65376, 2, 65504, 65510, 2, 127744, 128591, 2, 128640, 128767, 2, 129280, 129535, 2, 131072, 262141]
def lks : List Int := [913, 65, 914, 66, 917, 69, 918, 90, 919, 72, 921, 73, 922, 75, 924, 77, 925, 78, 927, 79, 929, 80, 932, 84, 933, 89, 935, 88, 957, 118, 959, 111, 961, 112, 1029, 83, 1030, 73, 1032, 74, 1040, 65, 1042, 66, 1045, 69, 1050, 75, 1052, 77, 1053, 72, 1054, 79, 1056, 80, 1057, 67, 1058, 84, 1061, 88, 1072, 97, 1077, 101, 1086, 111, 1088, 112, 1089, 99, 1091, 121, 1093, 120, 1109, 115, 1110, 105, 1112, 106, 1281, 100, 1307, 113, 1309, 119, 894, 59, 8208, 45, 8722, 45, 8260, 47, 8725, 47, 8228, 46, 8218, 44]
/-- Is v in a range? -/
def inb (v a b : Int) : Bool := decide (a ≤ v) && decide (v ≤ b)
def hitR (v : Int) (j : Nat) : Bool := inb v (rng.getD (3 * j + 1) 0) (rng.getD (3 * j + 2) 0)
def hitL (v : Int) (j : Nat) : Bool := inb v (lks.getD (2 * j) 0) (lks.getD (2 * j) 0)
/-- What a value looks like. -/
def skel (v : Int) : Int := match (List.range 51).find? (hitL v) with | some j => lks.getD (2 * j + 1) 0 | none => v
/-- The class that the tables tell. -/
def told (v : Int) : Int := match (List.range 53).find? (hitR v) with | some j => rng.getD (3 * j) 0 | none => if skel v = v then 1 else 3

theorem find_first {p : Nat → Bool} {n k : Nat} (hk : k < n) (hp : p k = true) (h : ∀ j, j < k → p j = false) : (List.range n).find? p = some k := by
  rw [List.find?_range_eq_some]
  exact ⟨hp, by simpa using hk, fun j hj => by rw [h j hj]; rfl⟩
theorem find_none {p : Nat → Bool} {n : Nat} (h : ∀ j, j < n → p j = false) : (List.range n).find? p = none := by
  rw [List.find?_eq_none]
  intro j hj
  rw [h j (by simpa using hj)]; simp
/-- A code point. -/
def pnt (v : Int) : Bool := decide (0 ≤ v ∧ v < 55296 ∨ 57343 < v ∧ v ≤ 1114111)
/-- A stray byte. -/
def stry (v : Int) : Bool := decide (1114240 ≤ v ∧ v ≤ 1114367)
/-- A value that may be. -/
def rght (v : Int) : Bool := pnt v || stry v
/-- A value's class. -/
def cls (v : Int) : Int := if rght v = false then 0 else if 1114112 ≤ v then 12 else if v < 32 then 4 else if v = 127 then 5 else if 128 ≤ v ∧ v < 160 then 6 else if v < 160 then 1 else told v
def wid (v : Int) : Int := if cls v = 2 then 2 else if cls v = 1 ∨ cls v = 3 then 1 else 0
def dng (v : Int) : Bool := decide (3 < cls v)
theorem pnt_cases (v : Int) : (pnt v = true ∧ (0 ≤ v ∧ v < 55296 ∨ 57343 < v ∧ v ≤ 1114111)) ∨ (pnt v = false ∧ (v < 0 ∨ 55296 ≤ v ∧ v ≤ 57343 ∨ 1114111 < v)) := by
  unfold pnt
  by_cases h : 0 ≤ v ∧ v < 55296 ∨ 57343 < v ∧ v ≤ 1114111
  · left; exact ⟨decide_eq_true h, h⟩
  · right; exact ⟨decide_eq_false h, by omega⟩
theorem stry_cases (v : Int) : (stry v = true ∧ 1114240 ≤ v ∧ v ≤ 1114367) ∨ (stry v = false ∧ (v < 1114240 ∨ 1114367 < v)) := by
  unfold stry
  by_cases h : 1114240 ≤ v ∧ v ≤ 1114367
  · left; exact ⟨decide_eq_true h, h.1, h.2⟩
  · right; exact ⟨decide_eq_false h, by omega⟩
end Go.Proofs.YtcdecnmhogmhaaaDoor
namespace Go.Proofs.YtcdecnmhogmhaaaDoor
open Go.RowKit
/-- A callee that leaves its world alone, called where draws have been made. -/
theorem qsame {P : Program} {f : FuncId} {args : Array Value} {w : World} {a n : Nat} {v : Value}
    (h : Calls P f args (w.drewN (a + n)) fun e w' => e = .returned v ∧ w' = w.drewN (a + n)) :
    Calls P f args (w.drewN (a + n)) fun e w'' => e = .returned v ∧ ∃ m, w'' = w.drewN (a + m) :=
  h.mono fun _ _ h => ⟨h.1, n, h.2⟩
/-- .. and one that draws. -/
theorem qdraw {P : Program} {f : FuncId} {args : Array Value} {w : World} {a n : Nat} {v : Value}
    (h : Calls P f args (w.drewN (a + n)) fun e w' => e = .returned v ∧ ∃ m, w' = (w.drewN (a + n)).drewN m) :
    Calls P f args (w.drewN (a + n)) fun e w'' => e = .returned v ∧ ∃ m, w'' = w.drewN (a + m) :=
  h.mono fun _ _ ⟨h1, m, h2⟩ => ⟨h1, n + m, by rw [h2, World.drewN_drewN, Nat.add_assoc]⟩
theorem drewN_below {B : Nat} {w w' : World} (h : Below B w w') : ∀ n, Below B w (w'.drewN n)
  | 0 => h
  | n + 1 => (drewN_below h n).drew
theorem seqB {w w1 w2 : World} (h1 : Below w.heap.size w w1) (h2 : Below w1.heap.size w1 w2) : Below w.heap.size w w2 := h1.trans (h2.mono h1.size)
theorem below_alloc (w : World) (o : Obj) : Below w.heap.size w (w.alloc o) := (Below.refl _ _).alloc (Nat.le_refl _) _
end Go.Proofs.YtcdecnmhogmhaaaDoor
namespace Go.Proofs.YtcdecnmhogmhaaaDoor
open Go.RowKit
/-- The class tables lie in memory. -/
structure Tabs (w : World) : Prop where
  r : ∀ i, i < 159 → w.cell? ⟨1, i, none⟩ = some (.int .i32 (rng.getD i 0))
  l : ∀ i, i < 102 → w.cell? ⟨2, i, none⟩ = some (.int .i32 (lks.getD i 0))
  s : 1 < w.heap.size
  s2 : 2 < w.heap.size
theorem Tabs.below {w w' : World} (h : Tabs w) (hb : Below w.heap.size w w') : Tabs w' :=
  ⟨fun i hi => (hb.cell (p := ⟨1, i, none⟩) h.s).trans (h.r i hi), fun i hi => (hb.cell (p := ⟨2, i, none⟩) h.s2).trans (h.l i hi), Nat.lt_of_lt_of_le h.s hb.size, Nat.lt_of_lt_of_le h.s2 hb.size⟩
theorem Tabs.alloc {w : World} (h : Tabs w) (o : Obj) : Tabs (w.alloc o) := h.below ((Below.refl _ _).alloc (Nat.le_refl _) _)
theorem finder_any (v : Int) (w : World) : Calls Tryd.prog 175 #[.int .i64 v] w fun e w' => e = .returned (.func (.func 188) #[] #[.pointer (some ⟨w.heap.size, 0, none⟩)]) ∧ w.alloc (.cells #[.int .i64 v] 3) = w' := by
  have hmf : ∀ (fn : Fn) (first cap : Array Value) (w : World), (Instr.makeFunc fn first cap).run Tryd.prog w = .ok (.func fn first cap) w := fun _ _ _ _ => rfl
  go_enter Tryd.func175, Tryd.ntmps175
  go_wp2
  go_ret
  exact ⟨rfl, rfl⟩
theorem in_any (v a b : Int) (p : Nat) (w : World) (hc : w.cell? ⟨p, 0, none⟩ = some (.int .i64 v)) (ha : -2147483648 ≤ a) (ha' : a ≤ 2147483647) (hb : -2147483648 ≤ b) (hb' : b ≤ 2147483647) :
    Calls Tryd.prog 188 #[.int .i32 a, .int .i32 b, .pointer (some ⟨p, 0, none⟩)] w fun e w' => e = .returned (.bool (inb v a b)) ∧ w' = w := by
  rcases (show v < a ∨ (a ≤ v ∧ b < v) ∨ (a ≤ v ∧ v ≤ b) by omega) with h | ⟨h, h'⟩ | ⟨h, h'⟩
  · have H : Hid (inb v a b = false) := Lib.hid (by unfold inb; rw [decide_eq_false (by omega)]; rfl)
    go_enter Tryd.func188, Tryd.ntmps188
    go_wp2
    go_ret
    rw [H.out]; exact ⟨rfl, rfl⟩
  · have H : Hid (inb v a b = false) := Lib.hid (by unfold inb; rw [decide_eq_false (show ¬ v ≤ b by omega), Bool.and_false])
    have hd : decide (v ≤ b) = false := decide_eq_false (by omega)
    go_enter Tryd.func188, Tryd.ntmps188
    go_wp2
    go_ret
    rw [H.out]; exact ⟨rfl, rfl⟩
  · have H : Hid (inb v a b = true) := Lib.hid (by unfold inb; rw [decide_eq_true h, decide_eq_true h']; rfl)
    go_enter Tryd.func188, Tryd.ntmps188
    go_wp2
    go_ret
    rw [H.out]; exact ⟨rfl, rfl⟩
theorem lks_rng (i : Nat) : -2147483648 ≤ lks.getD i 0 ∧ lks.getD i 0 ≤ 2147483647 := by
  rcases Nat.lt_or_ge i 102 with h | h
  · have key : ∀ j : Fin 102, -2147483648 ≤ lks.getD j 0 ∧ lks.getD j 0 ≤ 2147483647 := by decide +kernel
    exact key ⟨i, h⟩
  · rw [List.getD, List.getElem?_eq_none (by exact h)]; exact ⟨by decide, by decide⟩
theorem rng_rng (i : Nat) : -2147483648 ≤ rng.getD i 0 ∧ rng.getD i 0 ≤ 2147483647 := by
  rcases Nat.lt_or_ge i 159 with h | h
  · have key : ∀ j : Fin 159, -2147483648 ≤ rng.getD j 0 ∧ rng.getD j 0 ≤ 2147483647 := by decide +kernel
    exact key ⟨i, h⟩
  · rw [List.getD, List.getElem?_eq_none (by exact h)]; exact ⟨by decide, by decide⟩
set_option maxHeartbeats 400000 in
theorem skel_any (v : Int) (w : World) (hT : Tabs w) : Calls Tryd.prog 176 #[.int .i64 v] w fun e w' => e = .returned (.int .i64 (skel v)) ∧ Below w.heap.size w w' := by
  have HT := Lib.hid hT; clear hT
  go_enter Tryd.func176, Tryd.ntmps176
  go_wp2_with (go_at_call 175; refine (finder_any _ _).mono ?_; rintro e w' ⟨rfl, rfl⟩)
  go_loopw [4] (fun i wr => ∃ (k n : Nat), k ≤ 51 ∧ i = .int .i64 ((2 * k : Nat) : Int) ∧ Hid (∀ j, j < k → hitL v j = false) ∧ wr = (w.alloc (.cells #[.int .i64 v] 3)).drewN n) (fun i _ => 102 - (intOf i).toNat)
  case atStart => exact ⟨0, 0, by omega, rfl, Lib.hid (by intro j hj; omega), rfl⟩
  case round =>
    obtain ⟨k, n, hk, rfl, hno, rfl⟩ := hrel
    by_cases hlt : k < 51
    · have hT2 : Tabs (w.alloc (.cells #[.int .i64 v] 3)) := HT.out.alloc _
      have c0 := hT2.l (2 * k) (by omega)
      have c1 := hT2.l (2 * k + 1) (by omega)
      have hp : (w.alloc (.cells #[.int .i64 v] 3)).cell? ⟨w.heap.size, 0, none⟩ = some (.int .i64 v) := by rw [World.cell?_alloc_new]; rfl
      have r0 := lks_rng (2 * k)
      have r1 := lks_rng (2 * k + 1)
      have hh : hitL v k = inb v (lks.getD (2 * k) 0) (lks.getD (2 * k) 0) := rfl
      have hs : hitL v k = true → skel v = lks.getD (2 * k + 1) 0 := fun h => by unfold skel; rw [find_first hlt h hno.out]
      generalize lks.getD (2 * k) 0 = x at *
      generalize lks.getD (2 * k + 1) 0 = y at *
      rw [hh] at hs
      have Hs := Lib.hid hs; have Hh := Lib.hid hh; clear hs hh hT2
      have hin := fun n => in_any v x x w.heap.size ((w.alloc (.cells #[.int .i64 v] 3)).drewN n) hp r0.1 r0.2 r0.1 r0.2
      have Hin := Lib.hid hin; clear hin
      have hk1 : 2 * k < 101 := by omega
      have hm : 2 * (k + 1) = 2 * k + 2 := by omega
      rw [show ((2 * k : Nat) : Int) = ((2 * k : Nat) : Int) from rfl]
      generalize 2 * k = m at *
      have Hm := Lib.hid hm; clear hm
      cases hb : inb v x x
      · rw [hb] at Hin Hh
        clear hb
        go_wp2
        go_quiet ((go_at_call 188; exact qsame (Hin.out _)))
        go_wp2
        go_roundw
        case rel => exact ⟨k + 1, _, by omega, by rw [Hm.out]; go_num, Lib.hid (by intro j hj; rcases Nat.lt_succ_iff_lt_or_eq.1 hj with h | rfl; exact hno.out j h; exact Hh.out), rfl⟩
        case measure => simp [intOf]; omega
      · rw [hb] at Hin
        have hsk := Hs.out hb
        have Hsk := Lib.hid hsk
        clear hb hsk
        go_wp2
        go_quiet ((go_at_call 188; exact qsame (Hin.out _)))
        go_wp2
        go_ret
        rw [Hsk.out]
        exact ⟨rfl, drewN_below (below_alloc _ _) _⟩
    · obtain rfl : k = 51 := by omega
      have Hsk : Hid (skel v = v) := Lib.hid (by unfold skel; rw [find_none hno.out])
      clear hlt
      go_wp2
      go_ret
      rw [Hsk.out]
      exact ⟨rfl, drewN_below (below_alloc _ _) _⟩
end Go.Proofs.YtcdecnmhogmhaaaDoor
namespace Go.Proofs.YtcdecnmhogmhaaaDoor
open Go.RowKit
theorem Tabs.drewN {w : World} (h : Tabs w) (n : Nat) : Tabs (w.drewN n) := ⟨h.r, h.l, h.s, h.s2⟩
set_option maxRecDepth 100000 in
set_option maxHeartbeats 800000 in
theorem told_any (v : Int) (w : World) (hT : Tabs w) : Calls Tryd.prog 155 #[.int .i64 v] w fun e w' => e = .returned (.int .i64 (told v)) ∧ Below w.heap.size w w' := by
  have HT := Lib.hid hT; clear hT
  go_enter Tryd.func155, Tryd.ntmps155
  go_wp2_with (go_at_call 175; refine (finder_any _ _).mono ?_; rintro e w' ⟨rfl, rfl⟩)
  go_loopw [4] (fun i wr => ∃ (k n : Nat), k ≤ 53 ∧ i = .int .i64 ((3 * k : Nat) : Int) ∧ Hid (∀ j, j < k → hitR v j = false) ∧ wr = (w.alloc (.cells #[.int .i64 v] 3)).drewN n) (fun i _ => 159 - (intOf i).toNat)
  case atStart => exact ⟨0, 0, by omega, rfl, Lib.hid (by intro j hj; omega), rfl⟩
  case round =>
    obtain ⟨k, n, hk, rfl, hno, rfl⟩ := hrel
    by_cases hlt : k < 53
    · have hT2 : Tabs (w.alloc (.cells #[.int .i64 v] 3)) := HT.out.alloc _
      have c0 := hT2.r (3 * k) (by omega)
      have c1 := hT2.r (3 * k + 1) (by omega)
      have c2 := hT2.r (3 * k + 2) (by omega)
      have hp : (w.alloc (.cells #[.int .i64 v] 3)).cell? ⟨w.heap.size, 0, none⟩ = some (.int .i64 v) := by rw [World.cell?_alloc_new]; rfl
      have r0 := rng_rng (3 * k)
      have r1 := rng_rng (3 * k + 1)
      have r2 := rng_rng (3 * k + 2)
      have hh : hitR v k = inb v (rng.getD (3 * k + 1) 0) (rng.getD (3 * k + 2) 0) := rfl
      have hs : hitR v k = true → told v = rng.getD (3 * k) 0 := fun h => by unfold told; rw [find_first hlt h hno.out]
      generalize rng.getD (3 * k) 0 = x at *
      generalize rng.getD (3 * k + 1) 0 = y at *
      generalize rng.getD (3 * k + 2) 0 = z at *
      rw [hh] at hs
      have Hs := Lib.hid hs; have Hh := Lib.hid hh; clear hs hh hT2
      have hin := fun n => in_any v y z w.heap.size ((w.alloc (.cells #[.int .i64 v] 3)).drewN n) hp r1.1 r1.2 r2.1 r2.2
      have Hin := Lib.hid hin; clear hin
      have hk1 : 3 * k < 157 := by omega
      have hm : 3 * (k + 1) = 3 * k + 3 := by omega
      generalize 3 * k = m at *
      have Hm := Lib.hid hm; clear hm
      cases hb : inb v y z
      · rw [hb] at Hin Hh
        clear hb
        go_wp2
        go_quiet ((go_at_call 188; exact qsame (Hin.out _)))
        go_wp2
        go_roundw
        case rel => exact ⟨k + 1, _, by omega, by rw [Hm.out]; go_num, Lib.hid (by intro j hj; rcases Nat.lt_succ_iff_lt_or_eq.1 hj with h | rfl; exact hno.out j h; exact Hh.out), rfl⟩
        case measure => simp [intOf]; omega
      · rw [hb] at Hin
        have hsk := Hs.out hb
        have Hsk := Lib.hid hsk
        clear hb hsk
        go_wp2
        go_quiet ((go_at_call 188; exact qsame (Hin.out _)))
        go_wp2
        go_ret
        rw [Hsk.out]
        exact ⟨rfl, drewN_below (below_alloc _ _) _⟩
    · obtain rfl : k = 53 := by omega
      have ht : told v = if skel v = v then 1 else 3 := by unfold told; rw [find_none hno.out]
      have hS : Tabs ((w.alloc (.cells #[.int .i64 v] 3)).drewN n) := (HT.out.alloc _).drewN _
      have hsk := skel_any v _ hS
      clear hlt
      by_cases he : skel v = v
      · have Ht : Hid (told v = 1) := Lib.hid (by rw [ht, if_pos he])
        have hb : (skel v != v) = false := by rw [he]; simp
        clear ht he hS
        generalize skel v = x at *
        have Hsk := Lib.hid hsk; clear hsk
        go_wp2_with (go_at_call 176; refine Hsk.out.mono ?_; rintro e w1 ⟨rfl, hb1⟩)
        go_ret
        rw [Ht.out]
        exact ⟨rfl, seqB (drewN_below (below_alloc _ _) _) hb1⟩
      · have Ht : Hid (told v = 3) := Lib.hid (by rw [ht, if_neg he])
        have hb : (skel v != v) = true := by simpa using he
        clear ht he hS
        generalize skel v = x at *
        have Hsk := Lib.hid hsk; clear hsk
        go_wp2_with (go_at_call 176; refine Hsk.out.mono ?_; rintro e w1 ⟨rfl, hb1⟩)
        go_ret
        rw [Ht.out]
        exact ⟨rfl, seqB (drewN_below (below_alloc _ _) _) hb1⟩
end Go.Proofs.YtcdecnmhogmhaaaDoor
namespace Go.Proofs.YtcdecnmhogmhaaaDoor
open Go.RowKit
theorem ret_bool {a b : Bool} (h : a = b) : Ending.returned (.bool a) = .returned (.bool b) := by rw [h]
theorem cpoint_any (v : Int) (w : World) : Calls Tryd.prog 139 #[.int .i64 v] w fun e w' => e = .returned (.bool (pnt v)) ∧ w = w' := by
  rcases pnt_cases v with ⟨e, h | h⟩ | ⟨e, h | h | h⟩
  all_goals
    rw [e]; clear e
    go_enter Tryd.func139, Tryd.ntmps139
    go_wp2
    all_goals
      go_ret
      first | exact ⟨rfl, rfl⟩ | exact ⟨ret_bool (by simp; omega), rfl⟩
theorem cstray_any (v : Int) (w : World) : Calls Tryd.prog 141 #[.int .i64 v] w fun e w' => e = .returned (.bool (stry v)) ∧ w = w' := by
  rcases stry_cases v with ⟨e, h, h'⟩ | ⟨e, h | h⟩
  all_goals
    rw [e]; clear e
    go_enter Tryd.func141, Tryd.ntmps141
    go_wp2
    all_goals
      go_ret
      first | exact ⟨rfl, rfl⟩ | exact ⟨ret_bool (by simp; omega), rfl⟩
theorem cright_any (v : Int) (w : World) : Calls Tryd.prog 137 #[.int .i64 v] w fun e w' => e = .returned (.bool (rght v)) ∧ w = w' := by
  have hp := fun w => cpoint_any v w
  have hs := fun w => cstray_any v w
  have hr : rght v = (pnt v || stry v) := rfl
  rw [hr]; clear hr
  generalize pnt v = a at *
  generalize stry v = b at *
  have Hp := Lib.hid hp; have Hs := Lib.hid hs; clear hp hs
  cases a <;> cases b
  all_goals
    go_enter Tryd.func137, Tryd.ntmps137
    go_wp2_with (first | (go_at_call 139; refine (Hp.out _).mono ?_; rintro e w' ⟨rfl, rfl⟩) | (go_at_call 141; refine (Hs.out _).mono ?_; rintro e w' ⟨rfl, rfl⟩))
    go_ret
    exact ⟨rfl, rfl⟩
theorem rght_cases (v : Int) : (rght v = true ∧ (0 ≤ v ∧ v < 55296 ∨ 57343 < v ∧ v ≤ 1114111 ∨ 1114240 ≤ v ∧ v ≤ 1114367)) ∨ (rght v = false ∧ (v < 0 ∨ 55296 ≤ v ∧ v ≤ 57343 ∨ 1114111 < v ∧ v < 1114240 ∨ 1114367 < v)) := by
  unfold rght
  rcases pnt_cases v with ⟨e, h⟩ | ⟨e, h⟩ <;> rcases stry_cases v with ⟨e2, h2⟩ | ⟨e2, h2⟩ <;> rw [e, e2] <;> simp <;> omega
set_option maxHeartbeats 800000 in
theorem of_any (v : Int) (w : World) (hT : Tabs w) : Calls Tryd.prog 117 #[.int .i64 v] w fun e w' => e = .returned (.int .i64 (cls v)) ∧ Below w.heap.size w w' := by
  have hr := fun w => cright_any v w
  have ht := fun w h => told_any v w h
  have HT := Lib.hid hT; clear hT
  rcases rght_cases v with ⟨e, h⟩ | ⟨e, h⟩
  · rw [e] at hr
    have Hr := Lib.hid hr; clear hr
    rcases (show 1114112 ≤ v ∨ (0 ≤ v ∧ v < 32) ∨ v = 127 ∨ (128 ≤ v ∧ v < 160) ∨ (32 ≤ v ∧ v < 127) ∨ (160 ≤ v ∧ v < 1114112) by omega) with c | ⟨c, c2⟩ | rfl | ⟨c, c2⟩ | ⟨c, c2⟩ | ⟨c, c2⟩
    · have Hc : Hid (cls v = 12) := Lib.hid (by unfold cls; rw [e, if_neg (by simp), if_pos c])
      clear e h ht
      go_enter Tryd.func117, Tryd.ntmps117
      go_wp2_with (go_at_call 137; refine (Hr.out _).mono ?_; rintro e w' ⟨rfl, rfl⟩)
      go_ret
      rw [Hc.out]; exact ⟨rfl, Below.refl _ _⟩
    · have Hc : Hid (cls v = 4) := Lib.hid (by unfold cls; rw [e, if_neg (by simp), if_neg (by omega), if_pos (by omega)])
      clear e h ht
      go_enter Tryd.func117, Tryd.ntmps117
      go_wp2_with (go_at_call 137; refine (Hr.out _).mono ?_; rintro e w' ⟨rfl, rfl⟩)
      go_ret
      rw [Hc.out]; exact ⟨rfl, Below.refl _ _⟩
    · have Hc : Hid (cls 127 = 5) := Lib.hid (by unfold cls; rw [e, if_neg (by simp), if_neg (by omega), if_neg (by omega), if_pos rfl])
      clear e h ht
      go_enter Tryd.func117, Tryd.ntmps117
      go_wp2_with (go_at_call 137; refine (Hr.out _).mono ?_; rintro e w' ⟨rfl, rfl⟩)
      go_ret
      rw [Hc.out]; exact ⟨rfl, Below.refl _ _⟩
    · have Hc : Hid (cls v = 6) := Lib.hid (by unfold cls; rw [e, if_neg (by simp), if_neg (by omega), if_neg (by omega), if_neg (by omega), if_pos (by omega)])
      have h7 : (v == 127) = false := by rw [beq_eq_false_iff_ne]; omega
      clear e h ht
      go_enter Tryd.func117, Tryd.ntmps117
      go_wp2_with (go_at_call 137; refine (Hr.out _).mono ?_; rintro e w' ⟨rfl, rfl⟩)
      go_ret
      rw [Hc.out]; exact ⟨rfl, Below.refl _ _⟩
    · have Hc : Hid (cls v = 1) := Lib.hid (by unfold cls; rw [e, if_neg (by simp), if_neg (by omega), if_neg (by omega), if_neg (by omega), if_neg (by omega), if_pos (by omega)])
      have h7 : (v == 127) = false := by rw [beq_eq_false_iff_ne]; omega
      clear e h ht
      go_enter Tryd.func117, Tryd.ntmps117
      go_wp2_with (go_at_call 137; refine (Hr.out _).mono ?_; rintro e w' ⟨rfl, rfl⟩)
      go_ret
      rw [Hc.out]; exact ⟨rfl, Below.refl _ _⟩
    · have Hc : Hid (cls v = told v) := Lib.hid (by unfold cls; rw [e, if_neg (by simp), if_neg (by omega), if_neg (by omega), if_neg (by omega), if_neg (by omega), if_neg (by omega)])
      have h7 : (v == 127) = false := by rw [beq_eq_false_iff_ne]; omega
      have Ht := Lib.hid ht
      clear e h ht
      go_enter Tryd.func117, Tryd.ntmps117
      go_wp2_with (first | (go_at_call 137; refine (Hr.out _).mono ?_; rintro e w' ⟨rfl, rfl⟩) | (go_at_call 155; refine (Ht.out _ HT.out).mono ?_; rintro e w1 ⟨rfl, hb1⟩))
      go_ret
      rw [Hc.out]; exact ⟨rfl, hb1⟩
  · rw [e] at hr
    have Hr := Lib.hid hr; clear hr
    have Hc : Hid (cls v = 0) := Lib.hid (by unfold cls; rw [e, if_pos rfl])
    clear e h ht
    go_enter Tryd.func117, Tryd.ntmps117
    go_wp2_with (go_at_call 137; refine (Hr.out _).mono ?_; rintro e w' ⟨rfl, rfl⟩)
    go_ret
    rw [Hc.out]; exact ⟨rfl, Below.refl _ _⟩
theorem width_any (v : Int) (w : World) (hT : Tabs w) : Calls Tryd.prog 131 #[.int .i64 v] w fun e w' => e = .returned (.int .i64 (wid v)) ∧ Below w.heap.size w w' := by
  have ho := of_any v w hT
  have hw : wid v = if cls v = 2 then 2 else if cls v = 1 ∨ cls v = 3 then 1 else 0 := rfl
  generalize cls v = c at *
  have Ho := Lib.hid ho; clear ho hT
  rcases (show c = 2 ∨ c = 1 ∨ c = 3 ∨ (c ≠ 2 ∧ c ≠ 1 ∧ c ≠ 3) by omega) with rfl | rfl | rfl | ⟨h1, h2, h3⟩
  · have Hw : Hid (wid v = 2) := Lib.hid (by rw [hw]; rfl)
    clear hw
    go_enter Tryd.func131, Tryd.ntmps131
    go_wp2_with (go_at_call 117; refine Ho.out.mono ?_; rintro e w1 ⟨rfl, hb1⟩)
    go_ret
    rw [Hw.out]; exact ⟨rfl, hb1⟩
  · have Hw : Hid (wid v = 1) := Lib.hid (by rw [hw]; rfl)
    clear hw
    go_enter Tryd.func131, Tryd.ntmps131
    go_wp2_with (go_at_call 117; refine Ho.out.mono ?_; rintro e w1 ⟨rfl, hb1⟩)
    go_ret
    rw [Hw.out]; exact ⟨rfl, hb1⟩
  · have Hw : Hid (wid v = 1) := Lib.hid (by rw [hw]; rfl)
    clear hw
    go_enter Tryd.func131, Tryd.ntmps131
    go_wp2_with (go_at_call 117; refine Ho.out.mono ?_; rintro e w1 ⟨rfl, hb1⟩)
    go_ret
    rw [Hw.out]; exact ⟨rfl, hb1⟩
  · have Hw : Hid (wid v = 0) := Lib.hid (by rw [hw, if_neg h1, if_neg (by omega)])
    have e1 : (c == 1) = false := by rw [beq_eq_false_iff_ne]; exact h2
    have e2 : (c == 2) = false := by rw [beq_eq_false_iff_ne]; exact h1
    have e3 : (c == 3) = false := by rw [beq_eq_false_iff_ne]; exact h3
    clear hw
    go_enter Tryd.func131, Tryd.ntmps131
    go_wp2_with (go_at_call 117; refine Ho.out.mono ?_; rintro e w1 ⟨rfl, hb1⟩)
    go_ret
    rw [Hw.out]; exact ⟨rfl, hb1⟩
theorem cls_rng (v : Int) : 0 ≤ cls v ∧ cls v ≤ 12 := by
  have ht : 0 ≤ told v ∧ told v ≤ 12 := by
    unfold told
    split
    · rename_i j _
      rcases Nat.lt_or_ge j 53 with h | h
      · have key : ∀ j : Fin 53, 0 ≤ rng.getD (3 * j.val) 0 ∧ rng.getD (3 * j.val) 0 ≤ 12 := by decide +kernel
        exact key ⟨j, h⟩
      · rw [List.getD, List.getElem?_eq_none (show rng.length ≤ 3 * j by show 159 ≤ 3 * j; omega)]; exact ⟨by decide, by decide⟩
    · split <;> omega
  unfold cls
  repeat' split
  all_goals omega
theorem danger_any (v : Int) (w : World) (hT : Tabs w) : Calls Tryd.prog 150 #[.int .i64 v] w fun e w' => e = .returned (.bool (dng v)) ∧ Below w.heap.size w w' := by
  have ho := of_any v w hT
  have hw : dng v = decide (3 < cls v) := rfl
  have hr := cls_rng v
  generalize cls v = c at *
  have Ho := Lib.hid ho; clear ho hT
  rcases (show c = 0 ∨ c = 1 ∨ c = 2 ∨ c = 3 ∨ 3 < c by omega) with rfl | rfl | rfl | rfl | h
  all_goals try
    have Hw : Hid (dng v = false) := Lib.hid (by rw [hw]; rfl)
    clear hw
    go_enter Tryd.func150, Tryd.ntmps150
    go_wp2_with (go_at_call 117; refine Ho.out.mono ?_; rintro e w1 ⟨rfl, hb1⟩)
    go_ret
    rw [Hw.out]; exact ⟨rfl, hb1⟩
  have Hw : Hid (dng v = true) := Lib.hid (by rw [hw, decide_eq_true h])
  have e0 : (c == 0) = false := by rw [beq_eq_false_iff_ne]; omega
  have e1 : (c == 1) = false := by rw [beq_eq_false_iff_ne]; omega
  have e2 : (c == 2) = false := by rw [beq_eq_false_iff_ne]; omega
  have e3 : (c == 3) = false := by rw [beq_eq_false_iff_ne]; omega
  clear hw
  go_enter Tryd.func150, Tryd.ntmps150
  go_wp2_with (go_at_call 117; refine Ho.out.mono ?_; rintro e w1 ⟨rfl, hb1⟩)
  go_ret
  rw [Hw.out]; exact ⟨rfl, hb1⟩
end Go.Proofs.YtcdecnmhogmhaaaDoor
namespace Go.Proofs.YtcdecnmhogmhaaaDoor
open Go.RowKit
/-- Is v in one of some ranges: from, to, from, to? -/
def hitW (l : List Int) (v : Int) (j : Nat) : Bool := inb v (l.getD (2 * j) 0) (l.getD (2 * j + 1) 0)
def wthn (l : List Int) (v : Int) : Bool := (List.range (l.length / 2)).any (hitW l v)
theorem wthn_yes {l : List Int} {v : Int} {k : Nat} (hk : k < l.length / 2) (h : hitW l v k = true) : wthn l v = true := by
  unfold wthn; rw [List.any_eq_true]; exact ⟨k, by simpa using hk, h⟩
theorem wthn_no {l : List Int} {v : Int} (h : ∀ j, j < l.length / 2 → hitW l v j = false) : wthn l v = false := by
  unfold wthn; rw [List.any_eq_false]; intro j hj; rw [h j (by simpa using hj)]; simp
set_option maxHeartbeats 800000 in
theorem within_any (v : Int) (l : List Int) (b off cap : Nat) (w : World) (hl : l.length ≤ 1000) (hc : ∀ i, i < l.length → w.cell? ⟨b, off + i, none⟩ = some (.int .i64 (l.getD i 0))) :
    Calls Tryd.prog 95 #[.int .i64 v, .slice (some ⟨b, off, none⟩) l.length cap] w fun e w' => e = .returned (.bool (wthn l v)) ∧ w = w' := by
  have Hc := Lib.hid hc; clear hc
  go_enter Tryd.func95, Tryd.ntmps95
  go_wp2
  go_loop [5] (fun i => ∃ k : Nat, k ≤ l.length / 2 ∧ i = .int .i64 ((2 * k : Nat) : Int) ∧ Hid (∀ j, j < k → hitW l v j = false)) (fun i => l.length + 2 - (intOf i).toNat)
  case atStart => exact ⟨0, by omega, rfl, Lib.hid (by intro j hj; omega)⟩
  case round =>
    obtain ⟨k, hk, rfl, hno⟩ := hrel
    have hlen : l.length = l.length := rfl
    by_cases hlt : k < l.length / 2
    · have c0 := Hc.out (2 * k) (by omega)
      have c1 := Hc.out (2 * k + 1) (by omega)
      have hh : hitW l v k = inb v (l.getD (2 * k) 0) (l.getD (2 * k + 1) 0) := rfl
      have Hy : Hid (hitW l v k = true → wthn l v = true) := Lib.hid (fun h => wthn_yes hlt h)
      have hm : 2 * (k + 1) = 2 * k + 2 := by omega
      have hm1 : 2 * k + 1 < l.length := by omega
      generalize l.getD (2 * k) 0 = x at *
      generalize l.getD (2 * k + 1) 0 = y at *
      have Hk := Lib.hid hlt; clear hlt hk
      generalize 2 * k = m at *
      have Hm := Lib.hid hm; have Hh := Lib.hid hh; clear hm hh hlen
      rcases (show v < x ∨ (x ≤ v ∧ y < v) ∨ (x ≤ v ∧ v ≤ y) by omega) with h | ⟨h, h'⟩ | ⟨h, h'⟩
      · have Hb : Hid (inb v x y = false) := Lib.hid (by unfold inb; rw [decide_eq_false (by omega)]; rfl)
        rw [Hb.out] at Hh
        go_wp2
        go_round
        case rel => exact ⟨k + 1, by have := Hk.out; omega, by rw [Hm.out]; go_num, Lib.hid (by intro j hj; rcases Nat.lt_succ_iff_lt_or_eq.1 hj with h | rfl; exact hno.out j h; exact Hh.out)⟩
        case measure => simp [intOf]; omega
      · have Hb : Hid (inb v x y = false) := Lib.hid (by unfold inb; rw [decide_eq_false (show ¬ v ≤ y by omega), Bool.and_false])
        have hd : decide (v ≤ y) = false := decide_eq_false (by omega)
        rw [Hb.out] at Hh
        go_wp2
        go_round
        case rel => exact ⟨k + 1, by have := Hk.out; omega, by rw [Hm.out]; go_num, Lib.hid (by intro j hj; rcases Nat.lt_succ_iff_lt_or_eq.1 hj with h | rfl; exact hno.out j h; exact Hh.out)⟩
        case measure => simp [intOf]; omega
      · have Hb : Hid (inb v x y = true) := Lib.hid (by unfold inb; rw [decide_eq_true h, decide_eq_true h']; rfl)
        have hd : decide (v ≤ y) = true := decide_eq_true h'
        have Hy2 := Lib.hid (Hy.out (by rw [Hh.out]; exact Hb.out))
        clear Hy
        go_wp2
        go_ret
        rw [Hy2.out]
        exact ⟨rfl, rfl⟩
    · obtain rfl : k = l.length / 2 := by omega
      have Hn : Hid (wthn l v = false) := Lib.hid (wthn_no hno.out)
      have hge : l.length ≤ 2 * (l.length / 2) + 1 := by omega
      have hme : 2 * (l.length / 2) ≤ 1000 := by omega
      clear hlt hk hlen hno
      generalize 2 * (l.length / 2) = m at *
      go_wp2
      go_ret
      rw [Hn.out]
      exact ⟨rfl, rfl⟩
theorem within_new (v : Int) (l : List Int) (w : World) (hl : l.length ≤ 1000) :
    Calls Tryd.prog 95 #[.int .i64 v, .slice (some ⟨w.heap.size, 0, none⟩) l.length l.length] (w.alloc (.cells (l.map (Value.int .i64)).toArray 3)) fun e w' => e = .returned (.bool (wthn l v)) ∧ w.alloc (.cells (l.map (Value.int .i64)).toArray 3) = w' := by
  refine within_any v l w.heap.size 0 l.length _ hl fun i hi => ?_
  rw [World.cell?_alloc_new, Nat.zero_add, List.getElem?_toArray, List.getElem?_map, List.getD, List.getElem?_eq_getElem hi]
  rfl
def lSpace : List Int := [160, 160, 5760, 5760, 8192, 8202, 8232, 8233, 8239, 8239, 8287, 8287, 12288, 12288]
def lZero : List Int := [173, 173, 6155, 6158, 8203, 8205, 8288, 8292, 65279, 65279, 65529, 65531]
def lBidi : List Int := [1564, 1564, 8206, 8207, 8234, 8238, 8294, 8297]
def lMark : List Int := [768, 879, 1155, 1161, 1425, 1469, 1552, 1562, 1611, 1631, 1750, 1756, 6832, 6862, 7616, 7679, 8400, 8432, 12330, 12335, 12441, 12442, 65024, 65039, 65056, 65071]
def lOther : List Int := [57344, 63743, 64976, 65007, 65520, 65528, 65534, 65535, 131070, 131071, 262142, 1114111]
def lWide : List Int := [4352, 4447, 8986, 8987, 11904, 12287, 12289, 12350, 12353, 13311, 13312, 19903, 19968, 42191, 43360, 43391, 44032, 55203, 63744, 64255, 65072, 65135, 65280, 65376, 65504, 65510, 127744, 128591, 128640, 128767, 129280, 129535, 131072, 262141]
def lSk : List Int := [913, 914, 917, 918, 919, 921, 922, 924, 925, 927, 929, 932, 933, 935, 957, 959, 961, 1029, 1030, 1032, 1040, 1042, 1045, 1050, 1052, 1053, 1054, 1056, 1057, 1058, 1061, 1072, 1077, 1086, 1088, 1089, 1091, 1093, 1109, 1110, 1112, 1281, 1307, 1309, 894, 8208, 8722, 8260, 8725, 8228, 8218]
def sSk : List UInt8 := [65, 66, 69, 90, 72, 73, 75, 77, 78, 79, 80, 84, 89, 88, 118, 111, 112, 83, 73, 74, 65, 66, 69, 75, 77, 72, 79, 80, 67, 84, 88, 97, 101, 111, 112, 99, 121, 120, 115, 105, 106, 100, 113, 119, 59, 45, 45, 47, 47, 46, 44]
theorem w_lSpace (v : Int) (w : World) (B : Nat) (hB : w.heap.size = B) : Calls Tryd.prog 95 #[.int .i64 v, .slice (some ⟨B, 0, none⟩) 14 14] (w.alloc (.cells #[.int .i64 160, .int .i64 160, .int .i64 5760, .int .i64 5760, .int .i64 8192, .int .i64 8202, .int .i64 8232, .int .i64 8233, .int .i64 8239, .int .i64 8239, .int .i64 8287, .int .i64 8287, .int .i64 12288, .int .i64 12288] 3)) fun e w' => e = .returned (.bool (wthn lSpace v)) ∧ w.alloc (.cells #[.int .i64 160, .int .i64 160, .int .i64 5760, .int .i64 5760, .int .i64 8192, .int .i64 8202, .int .i64 8232, .int .i64 8233, .int .i64 8239, .int .i64 8239, .int .i64 8287, .int .i64 8287, .int .i64 12288, .int .i64 12288] 3) = w' := hB ▸ within_new v lSpace w (by decide)
theorem w_lZero (v : Int) (w : World) (B : Nat) (hB : w.heap.size = B) : Calls Tryd.prog 95 #[.int .i64 v, .slice (some ⟨B, 0, none⟩) 12 12] (w.alloc (.cells #[.int .i64 173, .int .i64 173, .int .i64 6155, .int .i64 6158, .int .i64 8203, .int .i64 8205, .int .i64 8288, .int .i64 8292, .int .i64 65279, .int .i64 65279, .int .i64 65529, .int .i64 65531] 3)) fun e w' => e = .returned (.bool (wthn lZero v)) ∧ w.alloc (.cells #[.int .i64 173, .int .i64 173, .int .i64 6155, .int .i64 6158, .int .i64 8203, .int .i64 8205, .int .i64 8288, .int .i64 8292, .int .i64 65279, .int .i64 65279, .int .i64 65529, .int .i64 65531] 3) = w' := hB ▸ within_new v lZero w (by decide)
theorem w_lBidi (v : Int) (w : World) (B : Nat) (hB : w.heap.size = B) : Calls Tryd.prog 95 #[.int .i64 v, .slice (some ⟨B, 0, none⟩) 8 8] (w.alloc (.cells #[.int .i64 1564, .int .i64 1564, .int .i64 8206, .int .i64 8207, .int .i64 8234, .int .i64 8238, .int .i64 8294, .int .i64 8297] 3)) fun e w' => e = .returned (.bool (wthn lBidi v)) ∧ w.alloc (.cells #[.int .i64 1564, .int .i64 1564, .int .i64 8206, .int .i64 8207, .int .i64 8234, .int .i64 8238, .int .i64 8294, .int .i64 8297] 3) = w' := hB ▸ within_new v lBidi w (by decide)
theorem w_lMark (v : Int) (w : World) (B : Nat) (hB : w.heap.size = B) : Calls Tryd.prog 95 #[.int .i64 v, .slice (some ⟨B, 0, none⟩) 26 26] (w.alloc (.cells #[.int .i64 768, .int .i64 879, .int .i64 1155, .int .i64 1161, .int .i64 1425, .int .i64 1469, .int .i64 1552, .int .i64 1562, .int .i64 1611, .int .i64 1631, .int .i64 1750, .int .i64 1756, .int .i64 6832, .int .i64 6862, .int .i64 7616, .int .i64 7679, .int .i64 8400, .int .i64 8432, .int .i64 12330, .int .i64 12335, .int .i64 12441, .int .i64 12442, .int .i64 65024, .int .i64 65039, .int .i64 65056, .int .i64 65071] 3)) fun e w' => e = .returned (.bool (wthn lMark v)) ∧ w.alloc (.cells #[.int .i64 768, .int .i64 879, .int .i64 1155, .int .i64 1161, .int .i64 1425, .int .i64 1469, .int .i64 1552, .int .i64 1562, .int .i64 1611, .int .i64 1631, .int .i64 1750, .int .i64 1756, .int .i64 6832, .int .i64 6862, .int .i64 7616, .int .i64 7679, .int .i64 8400, .int .i64 8432, .int .i64 12330, .int .i64 12335, .int .i64 12441, .int .i64 12442, .int .i64 65024, .int .i64 65039, .int .i64 65056, .int .i64 65071] 3) = w' := hB ▸ within_new v lMark w (by decide)
theorem w_lOther (v : Int) (w : World) (B : Nat) (hB : w.heap.size = B) : Calls Tryd.prog 95 #[.int .i64 v, .slice (some ⟨B, 0, none⟩) 12 12] (w.alloc (.cells #[.int .i64 57344, .int .i64 63743, .int .i64 64976, .int .i64 65007, .int .i64 65520, .int .i64 65528, .int .i64 65534, .int .i64 65535, .int .i64 131070, .int .i64 131071, .int .i64 262142, .int .i64 1114111] 3)) fun e w' => e = .returned (.bool (wthn lOther v)) ∧ w.alloc (.cells #[.int .i64 57344, .int .i64 63743, .int .i64 64976, .int .i64 65007, .int .i64 65520, .int .i64 65528, .int .i64 65534, .int .i64 65535, .int .i64 131070, .int .i64 131071, .int .i64 262142, .int .i64 1114111] 3) = w' := hB ▸ within_new v lOther w (by decide)
theorem w_lWide (v : Int) (w : World) (B : Nat) (hB : w.heap.size = B) : Calls Tryd.prog 95 #[.int .i64 v, .slice (some ⟨B, 0, none⟩) 34 34] (w.alloc (.cells #[.int .i64 4352, .int .i64 4447, .int .i64 8986, .int .i64 8987, .int .i64 11904, .int .i64 12287, .int .i64 12289, .int .i64 12350, .int .i64 12353, .int .i64 13311, .int .i64 13312, .int .i64 19903, .int .i64 19968, .int .i64 42191, .int .i64 43360, .int .i64 43391, .int .i64 44032, .int .i64 55203, .int .i64 63744, .int .i64 64255, .int .i64 65072, .int .i64 65135, .int .i64 65280, .int .i64 65376, .int .i64 65504, .int .i64 65510, .int .i64 127744, .int .i64 128591, .int .i64 128640, .int .i64 128767, .int .i64 129280, .int .i64 129535, .int .i64 131072, .int .i64 262141] 3)) fun e w' => e = .returned (.bool (wthn lWide v)) ∧ w.alloc (.cells #[.int .i64 4352, .int .i64 4447, .int .i64 8986, .int .i64 8987, .int .i64 11904, .int .i64 12287, .int .i64 12289, .int .i64 12350, .int .i64 12353, .int .i64 13311, .int .i64 13312, .int .i64 19903, .int .i64 19968, .int .i64 42191, .int .i64 43360, .int .i64 43391, .int .i64 44032, .int .i64 55203, .int .i64 63744, .int .i64 64255, .int .i64 65072, .int .i64 65135, .int .i64 65280, .int .i64 65376, .int .i64 65504, .int .i64 65510, .int .i64 127744, .int .i64 128591, .int .i64 128640, .int .i64 128767, .int .i64 129280, .int .i64 129535, .int .i64 131072, .int .i64 262141] 3) = w' := hB ▸ within_new v lWide w (by decide)
end Go.Proofs.YtcdecnmhogmhaaaDoor
namespace Go.Proofs.YtcdecnmhogmhaaaDoor
open Go.RowKit
/-- The reference's: the class of code points that are told; 0: none of these. -/
def oddR (v : Int) : Int := if v ≤ 31 then 4 else if v = 127 then 5 else if 128 ≤ v ∧ v ≤ 159 then 6 else if wthn lSpace v then 10 else if wthn lZero v then 8 else if wthn lBidi v then 7 else if wthn lMark v then 9 else if wthn lOther v then 11 else 0
set_option maxRecDepth 100000 in
set_option maxHeartbeats 4000000 in
theorem odd_any (v : Int) (w : World) : Calls Tryd.prog 93 #[.int .i64 v] w fun e w' => e = .returned (.int .i64 (oddR v)) ∧ Below w.heap.size w w' := by
  rcases (show v ≤ 31 ∨ v = 127 ∨ (128 ≤ v ∧ v ≤ 159) ∨ (31 < v ∧ v < 127) ∨ 159 < v by omega) with h | rfl | ⟨h, h'⟩ | h | h
  · have Hd : Hid (oddR v = 4) := Lib.hid (by unfold oddR; rw [if_pos h])
    go_enter Tryd.func93, Tryd.ntmps93
    go_wp2
    go_ret
    rw [Hd.out]; exact ⟨rfl, Below.refl _ _⟩
  · have Hd : Hid (oddR 127 = 5) := Lib.hid (by unfold oddR; rw [if_neg (by omega), if_pos rfl])
    go_enter Tryd.func93, Tryd.ntmps93
    go_wp2
    go_ret
    rw [Hd.out]; exact ⟨rfl, Below.refl _ _⟩
  · have Hd : Hid (oddR v = 6) := Lib.hid (by unfold oddR; rw [if_neg (by omega), if_neg (by omega), if_pos (by omega)])
    have h7 : (v == 127) = false := by rw [beq_eq_false_iff_ne]; omega
    go_enter Tryd.func93, Tryd.ntmps93
    go_wp2
    go_ret
    rw [Hd.out]; exact ⟨rfl, Below.refl _ _⟩
  all_goals
    have h7 : (v == 127) = false := by rw [beq_eq_false_iff_ne]; omega
    have ho : oddR v = if wthn lSpace v then 10 else if wthn lZero v then 8 else if wthn lBidi v then 7 else if wthn lMark v then 9 else if wthn lOther v then 11 else 0 := by unfold oddR; rw [if_neg (by omega), if_neg (by omega), if_neg (by omega)]
    have w1 := w_lSpace v
    have w2 := w_lZero v
    have w3 := w_lBidi v
    have w4 := w_lMark v
    have w5 := w_lOther v
    generalize wthn lSpace v = b1 at *
    generalize wthn lZero v = b2 at *
    generalize wthn lBidi v = b3 at *
    generalize wthn lMark v = b4 at *
    generalize wthn lOther v = b5 at *
    have W1 := Lib.hid w1; have W2 := Lib.hid w2; have W3 := Lib.hid w3; have W4 := Lib.hid w4; have W5 := Lib.hid w5; have Ho := Lib.hid ho
    clear w1 w2 w3 w4 w5 ho
    cases b1
    case' false => cases b2
    case' false.false => cases b3
    case' false.false.false => cases b4
    case' false.false.false.false => cases b5
    all_goals
      go_enter Tryd.func93, Tryd.ntmps93
      go_wp2_with (first | (go_at_call 95; (with_reducible refine (W1.out _ _ (by simp)).mono ?_); rintro e w' ⟨rfl, rfl⟩) | (go_at_call 95; (with_reducible refine (W2.out _ _ (by simp)).mono ?_); rintro e w' ⟨rfl, rfl⟩) | (go_at_call 95; (with_reducible refine (W3.out _ _ (by simp)).mono ?_); rintro e w' ⟨rfl, rfl⟩) | (go_at_call 95; (with_reducible refine (W4.out _ _ (by simp)).mono ?_); rintro e w' ⟨rfl, rfl⟩) | (go_at_call 95; (with_reducible refine (W5.out _ _ (by simp)).mono ?_); rintro e w' ⟨rfl, rfl⟩))
      go_ret
      rw [Ho.out]
      exact ⟨rfl, by go_grown⟩
end Go.Proofs.YtcdecnmhogmhaaaDoor
