/-
  Joined: C6 C7 C8 Law CCom Sg0 E0 E1 E2.
-/
import Derived.Test.YtcdecnmhogmhaaaDoorJ01
import Derived.Lib.ItoaWalk
import Derived.ProofKit
import Derived.OpenShut
import Derived.Below
import Derived.Carry
import Derived.Test.YtcdecnmhogmhaaaDoorCards
import Derived.Test.YtcdecnmhogmhaaaDoorTie
import Derived.Deep.DeepHandedRow
import Derived.Lib.LaidTab
import Derived.Stop.LaidErr
import Derived.Test.YtcdecnmhogmhaaaDoorProg
import Derived.Handy
import Derived.Lib.DecodeN
import Derived.Lib.RuneBytes
import Derived.Test.YtcdecnmhogmhaaaDoorRows
import Derived.Test.YtcdecnmhogmhaaaDoorShelf
import Derived.Lib.OthersKept
import Derived.WalkSpells
import Derived.WalkLawsBesides
import Derived.Laws.BytesArg
namespace Go.Proofs.YtcdecnmhogmhaaaDoor
set_option linter.unusedVariables false
set_option linter.unusedSimpArgs false
set_option maxRecDepth 100000
open Go.RowKit
theorem cright_ref (v : Int) (w : World) : Calls Tryd.prog 92 #[.int .i64 v] w fun e w' => e = .returned (.bool (rght v)) ∧ w = w' := by
  rcases rght_cases v with ⟨e, h | h | h⟩ | ⟨e, h | h | h | h⟩
  all_goals
    rw [e]; clear e
    go_enter Tryd.func92, Tryd.ntmps92
    go_wp2
    all_goals
      first
        | (go_ret; first | exact ⟨rfl, rfl⟩ | exact ⟨ret_bool (by simp; omega), rfl⟩)
        | (exfalso; omega)
theorem w64_u8 (c : UInt8) : wrap64 (c.toNat : Int) = (c.toNat : Int) := by have := c.toNat_lt; unfold wrap64; omega
/-- The reference's look. -/
def hitS (v : Int) (j : Nat) : Bool := lSk.getD j 0 == v
def skelR (v : Int) : Int := match (List.range 51).find? (hitS v) with | some j => ((sSk.getD j 0).toNat : Int) | none => v
theorem sk_byte (k : Nat) (h : k < (⟨#[65, 66, 69, 90, 72, 73, 75, 77, 78, 79, 80, 84, 89, 88, 118, 111, 112, 83, 73, 74, 65, 66, 69, 75, 77, 72, 79, 80, 67, 84, 88, 97, 101, 111, 112, 99, 121, 120, 115, 105, 106, 100, 113, 119, 59, 45, 45, 47, 47, 46, 44]⟩ : ByteArray).size) : (⟨#[65, 66, 69, 90, 72, 73, 75, 77, 78, 79, 80, 84, 89, 88, 118, 111, 112, 83, 73, 74, 65, 66, 69, 75, 77, 72, 79, 80, 67, 84, 88, 97, 101, 111, 112, 99, 121, 120, 115, 105, 106, 100, 113, 119, 59, 45, 45, 47, 47, 46, 44]⟩ : ByteArray)[k] = sSk.getD k 0 := by
  have h' : k < sSk.length := h
  rw [List.getD, List.getElem?_eq_getElem h']
  rfl
set_option maxRecDepth 100000 in
set_option maxHeartbeats 1000000 in
theorem skel_ref (v : Int) (w : World) : Calls Tryd.prog 94 #[.int .i64 v] w fun e w' => e = .returned (.int .i64 (skelR v)) ∧ Below w.heap.size w w' := by
  have hcell : ∀ i, i < 51 → (w.alloc (.cells #[.int .i64 913, .int .i64 914, .int .i64 917, .int .i64 918, .int .i64 919, .int .i64 921, .int .i64 922, .int .i64 924, .int .i64 925, .int .i64 927, .int .i64 929, .int .i64 932, .int .i64 933, .int .i64 935, .int .i64 957, .int .i64 959, .int .i64 961, .int .i64 1029, .int .i64 1030, .int .i64 1032, .int .i64 1040, .int .i64 1042, .int .i64 1045, .int .i64 1050, .int .i64 1052, .int .i64 1053, .int .i64 1054, .int .i64 1056, .int .i64 1057, .int .i64 1058, .int .i64 1061, .int .i64 1072, .int .i64 1077, .int .i64 1086, .int .i64 1088, .int .i64 1089, .int .i64 1091, .int .i64 1093, .int .i64 1109, .int .i64 1110, .int .i64 1112, .int .i64 1281, .int .i64 1307, .int .i64 1309, .int .i64 894, .int .i64 8208, .int .i64 8722, .int .i64 8260, .int .i64 8725, .int .i64 8228, .int .i64 8218] 3)).cell? ⟨w.heap.size, i, none⟩ = some (.int .i64 (lSk.getD i 0)) := by
    intro i hi
    rw [World.cell?_alloc_new]
    have key : ∀ j : Fin 51, (#[.int .i64 913, .int .i64 914, .int .i64 917, .int .i64 918, .int .i64 919, .int .i64 921, .int .i64 922, .int .i64 924, .int .i64 925, .int .i64 927, .int .i64 929, .int .i64 932, .int .i64 933, .int .i64 935, .int .i64 957, .int .i64 959, .int .i64 961, .int .i64 1029, .int .i64 1030, .int .i64 1032, .int .i64 1040, .int .i64 1042, .int .i64 1045, .int .i64 1050, .int .i64 1052, .int .i64 1053, .int .i64 1054, .int .i64 1056, .int .i64 1057, .int .i64 1058, .int .i64 1061, .int .i64 1072, .int .i64 1077, .int .i64 1086, .int .i64 1088, .int .i64 1089, .int .i64 1091, .int .i64 1093, .int .i64 1109, .int .i64 1110, .int .i64 1112, .int .i64 1281, .int .i64 1307, .int .i64 1309, .int .i64 894, .int .i64 8208, .int .i64 8722, .int .i64 8260, .int .i64 8725, .int .i64 8228, .int .i64 8218] : Array Value)[j.val]? = some (Value.int .i64 (lSk.getD j.val 0)) := by
      intro j
      have : (#[.int .i64 913, .int .i64 914, .int .i64 917, .int .i64 918, .int .i64 919, .int .i64 921, .int .i64 922, .int .i64 924, .int .i64 925, .int .i64 927, .int .i64 929, .int .i64 932, .int .i64 933, .int .i64 935, .int .i64 957, .int .i64 959, .int .i64 961, .int .i64 1029, .int .i64 1030, .int .i64 1032, .int .i64 1040, .int .i64 1042, .int .i64 1045, .int .i64 1050, .int .i64 1052, .int .i64 1053, .int .i64 1054, .int .i64 1056, .int .i64 1057, .int .i64 1058, .int .i64 1061, .int .i64 1072, .int .i64 1077, .int .i64 1086, .int .i64 1088, .int .i64 1089, .int .i64 1091, .int .i64 1093, .int .i64 1109, .int .i64 1110, .int .i64 1112, .int .i64 1281, .int .i64 1307, .int .i64 1309, .int .i64 894, .int .i64 8208, .int .i64 8722, .int .i64 8260, .int .i64 8725, .int .i64 8228, .int .i64 8218] : Array Value) = (lSk.map (Value.int .i64)).toArray := rfl
      rw [this, List.getElem?_toArray, List.getElem?_map, List.getD, List.getElem?_eq_getElem (show j.val < lSk.length from j.isLt)]
      rfl
    exact key ⟨i, hi⟩
  have Hc := Lib.hid hcell; clear hcell
  go_enter Tryd.func94, Tryd.ntmps94
  go_wp2
  go_name_bytes S hS
  have hsz : S.size = 51 := by rw [← hS]; rfl
  have hby : ∀ (k : Nat) (h : k < S.size), S[k] = sSk.getD k 0 := by subst hS; exact sk_byte
  have Hby := Lib.hid hby; clear hby hS
  generalize hW : w.alloc (.cells #[.int .i64 913, .int .i64 914, .int .i64 917, .int .i64 918, .int .i64 919, .int .i64 921, .int .i64 922, .int .i64 924, .int .i64 925, .int .i64 927, .int .i64 929, .int .i64 932, .int .i64 933, .int .i64 935, .int .i64 957, .int .i64 959, .int .i64 961, .int .i64 1029, .int .i64 1030, .int .i64 1032, .int .i64 1040, .int .i64 1042, .int .i64 1045, .int .i64 1050, .int .i64 1052, .int .i64 1053, .int .i64 1054, .int .i64 1056, .int .i64 1057, .int .i64 1058, .int .i64 1061, .int .i64 1072, .int .i64 1077, .int .i64 1086, .int .i64 1088, .int .i64 1089, .int .i64 1091, .int .i64 1093, .int .i64 1109, .int .i64 1110, .int .i64 1112, .int .i64 1281, .int .i64 1307, .int .i64 1309, .int .i64 894, .int .i64 8208, .int .i64 8722, .int .i64 8260, .int .i64 8725, .int .i64 8228, .int .i64 8218] 3) = W at *
  have hbW : Below w.heap.size w W := by rw [← hW]; exact below_alloc _ _
  generalize hBe : w.heap.size = B at *
  have HB := Lib.hid hBe
  clear hW hBe
  have Hsz := Lib.hid hsz
  have hs51 : 51 ≤ S.size := by omega
  clear hsz
  go_loop [5] (fun i => ∃ k : Nat, k ≤ 51 ∧ i = .int .i64 (k : Int) ∧ Hid (∀ j, j < k → hitS v j = false)) (fun i => 51 - (intOf i).toNat)
  case atStart => exact ⟨0, by omega, rfl, Lib.hid (by intro j hj; omega)⟩
  case round =>
    obtain ⟨k, hk, rfl, hno⟩ := hrel
    by_cases hlt : k < 51
    · have c0 := Hc.out k hlt
      have hh : hitS v k = (lSk.getD k 0 == v) := rfl
      have Hy : Hid (hitS v k = true → skelR v = ((sSk.getD k 0).toNat : Int)) := Lib.hid (fun h => by unfold skelR; rw [find_first hlt h hno.out])
      generalize lSk.getD k 0 = x at *
      have hks : k < S.size := by omega
      have Hk := Lib.hid (Hby.out k hks)
      cases hb : (x == v)
      · rw [hb] at hh
        have Hh := Lib.hid hh; clear hh
        go_wp2
        go_round
        case rel => exact ⟨k + 1, by omega, by go_num, Lib.hid (by intro j hj; rcases Nat.lt_succ_iff_lt_or_eq.1 hj with h | rfl; exact hno.out j h; exact Hh.out)⟩
        case measure => simp [intOf]; omega
      · rw [hb] at hh
        have Hy2 := Lib.hid (Hy.out hh)
        clear hh Hy
        go_wp2
        go_ret
        rw [Hy2.out, ← Hk.out]
        exact ⟨congrArg (fun x => Ending.returned (.int .i64 x)) (w64_u8 _), HB.out ▸ hbW⟩
    · obtain rfl : k = 51 := by omega
      have Hn : Hid (skelR v = v) := Lib.hid (by unfold skelR; rw [find_none hno.out])
      clear hlt
      go_wp2
      go_ret
      rw [Hn.out]
      exact ⟨rfl, HB.out ▸ hbW⟩
end Go.Proofs.YtcdecnmhogmhaaaDoor
namespace Go.Proofs.YtcdecnmhogmhaaaDoor
open Go.RowKit
/-- The reference's class and width. -/
def clsR (v : Int) : Int := if rght v = false then 0 else if 1114111 < v then 12 else if 0 < oddR v then oddR v else if skelR v ≠ v then 3 else if wthn lWide v then 2 else 1
def widR (v : Int) : Int := if clsR v = 2 then 2 else if clsR v = 1 ∨ clsR v = 3 then 1 else 0
set_option maxRecDepth 100000 in
set_option maxHeartbeats 2000000 in
theorem of_ref (v : Int) (w : World) : Calls Tryd.prog 42 #[.int .i64 v] w fun e w' => e = .returned (.int .i64 (clsR v)) ∧ Below w.heap.size w w' := by
  have R := fun w => cright_ref v w
  have O := fun w => odd_any v w
  have K := fun w => skel_ref v w
  have W1 := w_lWide v
  have hc : clsR v = if rght v = false then 0 else if 1114111 < v then 12 else if 0 < oddR v then oddR v else if skelR v ≠ v then 3 else if wthn lWide v then 2 else 1 := rfl
  generalize rght v = r at *
  generalize oddR v = o at *
  generalize skelR v = s at *
  generalize wthn lWide v = b at *
  have R := Lib.hid R; have O := Lib.hid O; have K := Lib.hid K; have W1 := Lib.hid W1
  cases r
  · have Hc : Hid (clsR v = 0) := Lib.hid (by rw [hc, if_pos rfl])
    clear hc
    go_enter Tryd.func42, Tryd.ntmps42
    go_wp2_with (go_at_call 92; refine (R.out _).mono ?_; rintro e w' ⟨rfl, rfl⟩)
    go_ret
    rw [Hc.out]; exact ⟨rfl, Below.refl _ _⟩
  · rw [if_neg (by simp)] at hc
    by_cases h1 : 1114111 < v
    · have Hc : Hid (clsR v = 12) := Lib.hid (by rw [hc, if_pos h1])
      clear hc
      go_enter Tryd.func42, Tryd.ntmps42
      go_wp2_with (go_at_call 92; refine (R.out _).mono ?_; rintro e w' ⟨rfl, rfl⟩)
      go_ret
      rw [Hc.out]; exact ⟨rfl, Below.refl _ _⟩
    · rw [if_neg h1] at hc
      by_cases h2 : 0 < o
      · have Hc : Hid (clsR v = o) := Lib.hid (by rw [hc, if_pos h2])
        clear hc
        go_enter Tryd.func42, Tryd.ntmps42
        go_wp2_with (first | (go_at_call 92; refine (R.out _).mono ?_; rintro e w' ⟨rfl, rfl⟩) | (go_at_call 93; refine (O.out _).mono ?_; rintro e w1 ⟨rfl, hb1⟩))
        go_ret
        rw [Hc.out]; exact ⟨rfl, hb1⟩
      · rw [if_neg h2] at hc
        by_cases h3 : s = v
        · have h3b : (s != v) = false := by rw [h3]; simp
          have Hc : Hid (clsR v = if b then 2 else 1) := Lib.hid (by rw [hc, if_neg (by simpa using h3)])
          clear hc h3
          cases b
          all_goals
            go_enter Tryd.func42, Tryd.ntmps42
            go_wp2_with (first | (go_at_call 92; refine (R.out _).mono ?_; rintro e w' ⟨rfl, rfl⟩) | (go_at_call 93; refine (O.out _).mono ?_; rintro e w1 ⟨rfl, hb1⟩) | (go_at_call 94; refine (K.out _).mono ?_; rintro e w2 ⟨rfl, hb2⟩) | (go_at_call 95; (with_reducible refine (W1.out _ _ (by simp)).mono ?_); rintro e w3 ⟨rfl, rfl⟩))
            go_ret
            rw [Hc.out]
            exact ⟨rfl, seqB (seqB hb1 hb2) (below_alloc _ _)⟩
        · have h3b : (s != v) = true := by simpa using h3
          have Hc : Hid (clsR v = 3) := Lib.hid (by rw [hc, if_pos h3])
          clear hc h3
          go_enter Tryd.func42, Tryd.ntmps42
          go_wp2_with (first | (go_at_call 92; refine (R.out _).mono ?_; rintro e w' ⟨rfl, rfl⟩) | (go_at_call 93; refine (O.out _).mono ?_; rintro e w1 ⟨rfl, hb1⟩) | (go_at_call 94; refine (K.out _).mono ?_; rintro e w2 ⟨rfl, hb2⟩))
          go_ret
          rw [Hc.out]; exact ⟨rfl, seqB hb1 hb2⟩
theorem width_ref (v : Int) (w : World) : Calls Tryd.prog 90 #[.int .i64 v] w fun e w' => e = .returned (.int .i64 (widR v)) ∧ Below w.heap.size w w' := by
  have ho := of_ref v w
  have hw : widR v = if clsR v = 2 then 2 else if clsR v = 1 ∨ clsR v = 3 then 1 else 0 := rfl
  generalize clsR v = c at *
  have Ho := Lib.hid ho; clear ho
  rcases (show c = 2 ∨ c = 1 ∨ c = 3 ∨ (c ≠ 2 ∧ c ≠ 1 ∧ c ≠ 3) by omega) with rfl | rfl | rfl | ⟨h1, h2, h3⟩
  · have Hw : Hid (widR v = 2) := Lib.hid (by rw [hw]; rfl)
    clear hw
    go_enter Tryd.func90, Tryd.ntmps90
    go_wp2_with (go_at_call 42; refine Ho.out.mono ?_; rintro e w1 ⟨rfl, hb1⟩)
    go_ret
    rw [Hw.out]; exact ⟨rfl, hb1⟩
  · have Hw : Hid (widR v = 1) := Lib.hid (by rw [hw]; rfl)
    clear hw
    go_enter Tryd.func90, Tryd.ntmps90
    go_wp2_with (go_at_call 42; refine Ho.out.mono ?_; rintro e w1 ⟨rfl, hb1⟩)
    go_ret
    rw [Hw.out]; exact ⟨rfl, hb1⟩
  · have Hw : Hid (widR v = 1) := Lib.hid (by rw [hw]; rfl)
    clear hw
    go_enter Tryd.func90, Tryd.ntmps90
    go_wp2_with (go_at_call 42; refine Ho.out.mono ?_; rintro e w1 ⟨rfl, hb1⟩)
    go_ret
    rw [Hw.out]; exact ⟨rfl, hb1⟩
  · have Hw : Hid (widR v = 0) := Lib.hid (by rw [hw, if_neg h1, if_neg (by omega)])
    have e1 : (c == 1) = false := by rw [beq_eq_false_iff_ne]; exact h2
    have e2 : (c == 2) = false := by rw [beq_eq_false_iff_ne]; exact h1
    have e3 : (c == 3) = false := by rw [beq_eq_false_iff_ne]; exact h3
    clear hw
    go_enter Tryd.func90, Tryd.ntmps90
    go_wp2_with (go_at_call 42; refine Ho.out.mono ?_; rintro e w1 ⟨rfl, hb1⟩)
    go_ret
    rw [Hw.out]; exact ⟨rfl, hb1⟩
end Go.Proofs.YtcdecnmhogmhaaaDoor
namespace Go.Proofs.YtcdecnmhogmhaaaDoor
open Go.RowKit
theorem inb_self (v x : Int) : inb v x x = true ↔ v = x := by
  unfold inb; simp; omega
theorem find_some_lt {p : Nat → Bool} {n j : Nat} (h : (List.range n).find? p = some j) : j < n ∧ p j = true := by
  have h1 := List.mem_of_find?_eq_some h
  exact ⟨by simpa using h1, List.find?_some h⟩
theorem look_keys : ∀ j : Fin 51, skelR (lks.getD (2 * j.val) 0) = skel (lks.getD (2 * j.val) 0) ∧ skel (lks.getD (2 * j.val) 0) ≠ lks.getD (2 * j.val) 0 := by decide +kernel
theorem look_keys2 : ∀ j : Fin 51, skelR (lSk.getD j.val 0) = skel (lSk.getD j.val 0) := by decide +kernel
/-- Both tables tell the same looks. -/
theorem skel_eq (v : Int) : skelR v = skel v := by
  cases h1 : (List.range 51).find? (hitL v) with
  | some j =>
    have ⟨hj, hp⟩ := find_some_lt h1
    have e : v = lks.getD (2 * j) 0 := (inb_self v _).1 hp
    rw [e]; exact (look_keys ⟨j, hj⟩).1
  | none =>
    cases h2 : (List.range 51).find? (hitS v) with
    | some j =>
      have ⟨hj, hp⟩ := find_some_lt h2
      have e : v = lSk.getD j 0 := by unfold hitS at hp; simpa using (beq_iff_eq.1 hp).symm
      rw [e]; exact look_keys2 ⟨j, hj⟩
    | none => unfold skelR skel; rw [h1, h2]
/-- Is it a look-alike? -/
def isL (v : Int) : Bool := (List.range 51).any (hitL v)
theorem isL_iff (v : Int) : isL v = true ↔ skel v ≠ v := by
  cases h1 : (List.range 51).find? (hitL v) with
  | some j =>
    have ⟨hj, hp⟩ := find_some_lt h1
    have e : v = lks.getD (2 * j) 0 := (inb_self v _).1 hp
    have hk := (look_keys ⟨j, hj⟩).2
    constructor
    · intro _; rw [e]; exact hk
    · intro _; unfold isL; rw [List.any_eq_true]; exact ⟨j, by simpa using hj, hp⟩
  | none =>
    have hn : skel v = v := by unfold skel; rw [h1]
    have : isL v = false := by
      unfold isL; rw [List.any_eq_false]
      rw [List.find?_eq_none] at h1; exact h1
    rw [this, hn]; simp
def toldP (v : Int) : Int := match (List.range 53).find? (hitR v) with | some j => rng.getD (3 * j) 0 | none => if isL v then 3 else 1
def oddP (v : Int) : Int := if wthn lSpace v then 10 else if wthn lZero v then 8 else if wthn lBidi v then 7 else if wthn lMark v then 9 else if wthn lOther v then 11 else 0
def clsP (v : Int) : Int := if 0 < oddP v then oddP v else if isL v then 3 else if wthn lWide v then 2 else 1
theorem told_toldP (v : Int) : told v = toldP v := by
  unfold told toldP
  cases (List.range 53).find? (hitR v) with
  | some j => rfl
  | none =>
    show (if skel v = v then (1 : Int) else 3) = if isL v then 3 else 1
    by_cases h : skel v = v
    · rw [if_pos h]
      have : isL v = false := by
        cases hl : isL v with
        | false => rfl
        | true => exact absurd h ((isL_iff v).1 hl)
      rw [this]; rfl
    · rw [if_neg h, (isL_iff v).2 h]; rfl
/-- Where a test may turn. -/
def brk : List Int := 160 :: ((List.range 53).flatMap fun j => [rng.getD (3 * j + 1) 0, rng.getD (3 * j + 2) 0 + 1]) ++ ((List.range 51).flatMap fun j => [lks.getD (2 * j) 0, lks.getD (2 * j) 0 + 1]) ++
  ([lSpace, lZero, lBidi, lMark, lOther, lWide].flatMap fun l => (List.range (l.length / 2)).flatMap fun j => [l.getD (2 * j) 0, l.getD (2 * j + 1) 0 + 1])
theorem floor_ex (v : Int) : ∀ B : List Int, (∃ b ∈ B, b ≤ v) → ∃ p ∈ B, p ≤ v ∧ ∀ b ∈ B, b ≤ v → b ≤ p := by
  intro B
  induction B with
  | nil => rintro ⟨b, hb, _⟩; cases hb
  | cons a B ih =>
    rintro ⟨b, hb, hv⟩
    by_cases hB : ∃ b ∈ B, b ≤ v
    · obtain ⟨p, hp, hpv, hmax⟩ := ih hB
      by_cases ha : a ≤ v ∧ p ≤ a
      · exact ⟨a, List.mem_cons_self .., ha.1, fun c hc hcv => by
          rcases List.mem_cons.1 hc with rfl | hc
          · exact Int.le_refl _
          · exact Int.le_trans (hmax c hc hcv) ha.2⟩
      · exact ⟨p, List.mem_cons_of_mem _ hp, hpv, fun c hc hcv => by
          rcases List.mem_cons.1 hc with rfl | hc
          · omega
          · exact hmax c hc hcv⟩
    · rcases List.mem_cons.1 hb with rfl | hb
      · exact ⟨b, List.mem_cons_self .., hv, fun c hc hcv => by
          rcases List.mem_cons.1 hc with rfl | hc
          · exact Int.le_refl _
          · exact absurd ⟨c, hc, hcv⟩ hB⟩
      · exact absurd ⟨b, hb, hv⟩ hB
theorem inb_floor {v p x y : Int} {B : List Int} (hp : p ≤ v) (hm : ∀ b ∈ B, b ≤ v → b ≤ p) (hx : x ∈ B) (hy : y + 1 ∈ B) : inb v x y = inb p x y := by
  have h1 := hm x hx; have h2 := hm (y + 1) hy
  unfold inb
  have e1 : decide (x ≤ v) = decide (x ≤ p) := by rw [Bool.eq_iff_iff]; simp; omega
  have e2 : decide (v ≤ y) = decide (p ≤ y) := by rw [Bool.eq_iff_iff]; simp; omega
  rw [e1, e2]
theorem brk_R : ∀ j : Fin 53, rng.getD (3 * j.val + 1) 0 ∈ brk ∧ rng.getD (3 * j.val + 2) 0 + 1 ∈ brk := by decide +kernel
theorem brk_L : ∀ j : Fin 51, lks.getD (2 * j.val) 0 ∈ brk ∧ lks.getD (2 * j.val) 0 + 1 ∈ brk := by decide +kernel
def brkW (l : List Int) : Bool := (List.range (l.length / 2)).all fun j => decide (l.getD (2 * j) 0 ∈ brk ∧ l.getD (2 * j + 1) 0 + 1 ∈ brk)
theorem brk_W : ∀ l ∈ [lSpace, lZero, lBidi, lMark, lOther, lWide], brkW l = true := by decide +kernel
theorem find_congr {p q : Nat → Bool} : ∀ {l : List Nat}, (∀ j ∈ l, p j = q j) → l.find? p = l.find? q
  | [], _ => rfl
  | a :: l, h => by
    rw [List.find?_cons, List.find?_cons, h a (List.mem_cons_self ..), find_congr fun j hj => h j (List.mem_cons_of_mem _ hj)]
theorem any_congr {p q : Nat → Bool} : ∀ {l : List Nat}, (∀ j ∈ l, p j = q j) → l.any p = l.any q
  | [], _ => rfl
  | a :: l, h => by
    rw [List.any_cons, List.any_cons, h a (List.mem_cons_self ..), any_congr fun j hj => h j (List.mem_cons_of_mem _ hj)]
theorem cls_points : ∀ p ∈ brk, 160 ≤ p → p ≤ 1114111 → toldP p = clsP p := by decide +kernel
theorem told_cls (v : Int) (h0 : 160 ≤ v) (h1 : v ≤ 1114111) : told v = clsP v := by
  obtain ⟨p, hpB, hpv, hm⟩ := floor_ex v brk ⟨160, by decide +kernel, h0⟩
  have hp0 : 160 ≤ p := hm 160 (by decide +kernel) h0
  have eR : ∀ j, j < 53 → hitR v j = hitR p j := fun j hj => inb_floor hpv hm (brk_R ⟨j, hj⟩).1 (brk_R ⟨j, hj⟩).2
  have eL : ∀ j, j < 51 → hitL v j = hitL p j := fun j hj => inb_floor hpv hm (brk_L ⟨j, hj⟩).1 (brk_L ⟨j, hj⟩).2
  have eW : ∀ l ∈ [lSpace, lZero, lBidi, lMark, lOther, lWide], wthn l v = wthn l p := fun l hl => by
    have hw := brk_W l hl
    unfold brkW at hw
    rw [List.all_eq_true] at hw
    unfold wthn
    exact any_congr fun j hj => by
      have := of_decide_eq_true (hw j hj)
      exact inb_floor hpv hm this.1 this.2
  have eI : isL v = isL p := any_congr fun j hj => eL j (by simpa using hj)
  have eT : toldP v = toldP p := by
    unfold toldP
    rw [find_congr (p := hitR v) (q := hitR p) fun j hj => eR j (by simpa using hj), eI]
  have eO : oddP v = oddP p := by
    unfold oddP
    rw [eW lSpace (by simp), eW lZero (by simp), eW lBidi (by simp), eW lMark (by simp), eW lOther (by simp)]
  have eC : clsP v = clsP p := by
    unfold clsP
    rw [eO, eI, eW lWide (by simp)]
  rw [told_toldP, eT, eC]
  exact cls_points p hpB hp0 (by omega)
theorem wthn_low {l : List Int} {v : Int} (hl : (List.range (l.length / 2)).all (fun j => decide (160 ≤ l.getD (2 * j) 0)) = true) (h : v < 160) : wthn l v = false := by
  refine wthn_no fun j hj => ?_
  rw [List.all_eq_true] at hl
  have := of_decide_eq_true (hl j (by simpa using hj))
  unfold hitW inb
  rw [decide_eq_false (by omega)]; rfl
theorem skelR_low {v : Int} (h : v < 160) : skelR v = v := by
  have hn : ∀ j, j < 51 → hitS v j = false := fun j hj => by
    have key : ∀ j : Fin 51, 160 ≤ lSk.getD j.val 0 := by decide +kernel
    have := key ⟨j, hj⟩
    unfold hitS
    rw [beq_eq_false_iff_ne]; intro h2; simp only at this; omega
  unfold skelR; rw [find_none hn]
theorem cls_small (v : Int) (h0 : 0 ≤ v) (h : v < 160) : cls v = clsR v := by
  have e : rght v = true := by
    rcases rght_cases v with h2 | h2
    · exact h2.1
    · omega
  have hR : clsR v = if 1114111 < v then 12 else if 0 < oddR v then oddR v else if skelR v ≠ v then 3 else if wthn lWide v then 2 else 1 := by unfold clsR; rw [e, if_neg (show ¬ (true = false) by decide)]
  have hL : cls v = if 1114112 ≤ v then 12 else if v < 32 then 4 else if v = 127 then 5 else if 128 ≤ v ∧ v < 160 then 6 else if v < 160 then 1 else told v := by unfold cls; rw [e, if_neg (show ¬ (true = false) by decide)]
  have w1 := wthn_low (l := lSpace) (by decide +kernel) h
  have w2 := wthn_low (l := lZero) (by decide +kernel) h
  have w3 := wthn_low (l := lBidi) (by decide +kernel) h
  have w4 := wthn_low (l := lMark) (by decide +kernel) h
  have w5 := wthn_low (l := lOther) (by decide +kernel) h
  have w6 := wthn_low (l := lWide) (by decide +kernel) h
  have ho : oddR v = if v ≤ 31 then 4 else if v = 127 then 5 else if 128 ≤ v ∧ v ≤ 159 then 6 else 0 := by unfold oddR; rw [w1, w2, w3, w4, w5]; simp only [Bool.false_eq_true, if_false]
  rw [hR, hL, ho, skelR_low h, w6, if_neg (show ¬ 1114112 ≤ v by omega), if_neg (show ¬ 1114111 < v by omega)]
  rcases (show v < 32 ∨ v = 127 ∨ (128 ≤ v ∧ v < 160) ∨ (32 ≤ v ∧ v < 127) by omega) with c | c | c | c
  · rw [if_pos c, if_pos (show v ≤ 31 by omega)]; simp
  · subst c; simp
  · rw [if_neg (show ¬ v < 32 by omega), if_neg (show ¬ v = 127 by omega), if_pos (show 128 ≤ v ∧ v < 160 by omega), if_neg (show ¬ v ≤ 31 by omega), if_neg (show ¬ v = 127 by omega), if_pos (show 128 ≤ v ∧ v ≤ 159 by omega)]; simp
  · rw [if_neg (show ¬ v < 32 by omega), if_neg (show ¬ v = 127 by omega), if_neg (show ¬ (128 ≤ v ∧ v < 160) by omega), if_pos h, if_neg (show ¬ v ≤ 31 by omega), if_neg (show ¬ v = 127 by omega), if_neg (show ¬ (128 ≤ v ∧ v ≤ 159) by omega)]; simp
/-- Both tell the same class of every value. -/
theorem cls_eq (v : Int) : cls v = clsR v := by
  rcases rght_cases v with ⟨e, h⟩ | ⟨e, h⟩
  · by_cases h1 : v < 160
    · exact cls_small v (by omega) h1
    · have hR : clsR v = if 1114111 < v then 12 else if 0 < oddR v then oddR v else if skelR v ≠ v then 3 else if wthn lWide v then 2 else 1 := by unfold clsR; rw [e, if_neg (show ¬ (true = false) by decide)]
      have hL : cls v = if 1114112 ≤ v then 12 else if v < 32 then 4 else if v = 127 then 5 else if 128 ≤ v ∧ v < 160 then 6 else if v < 160 then 1 else told v := by unfold cls; rw [e, if_neg (show ¬ (true = false) by decide)]
      by_cases h2 : 1114111 < v
      · rw [hR, hL, if_pos (by omega), if_pos h2]
      · have ho : oddR v = oddP v := by unfold oddR oddP; rw [if_neg (by omega), if_neg (by omega), if_neg (by omega)]
        rw [hR, hL, if_neg (by omega), if_neg (by omega), if_neg (by omega), if_neg (by omega), if_neg (by omega), told_cls v (by omega) (by omega), if_neg h2, ho, skel_eq]
        unfold clsP
        by_cases h3 : skel v = v
        · have : isL v = false := by
            cases hl : isL v with
            | false => rfl
            | true => exact absurd h3 ((isL_iff v).1 hl)
          rw [this, if_neg (show ¬ skel v ≠ v by simpa using h3), if_neg (show ¬ (false = true) by decide)]
        · rw [(isL_iff v).2 h3, if_pos (show skel v ≠ v from h3), if_pos rfl]
  · unfold cls clsR; rw [e, if_pos rfl, if_pos rfl]
theorem wid_eq (v : Int) : wid v = widR v := by unfold wid widR; rw [cls_eq]
end Go.Proofs.YtcdecnmhogmhaaaDoor
namespace Go.Proofs.YtcdecnmhogmhaaaDoor
open Go.ChangeShapes Go.WideShapes Go.ChangeAt Go.RowKit
section
variable {H : Type} {enc : TypeId × Value → H} {P : Program}
theorem args_stay (hl : laidOutB P = true) {W W' : World} (hb : Below W.heap.size W W') :
    ∀ {ts : List TypeId} {vs : List Value} {ds : List (DataW H)} {ps : List MemPlace}, (ts.all fun t => P.readableRec t && decide (t < P.types.size)) = true → (∀ x ∈ ps, x.block < W.heap.size) →
      DataW.TrodAll enc P W 0 (fun _ => true) true ts vs ds ps → DataW.TrodAll enc P W' 0 (fun b => decide (b < W.heap.size)) true ts vs ds ps
  | [], _, _, _, _, _, h => by
    obtain ⟨rfl, rfl, rfl⟩ := trodAll_nil h
    exact trodAll_mk0
  | t :: ts, _, _, _, hr, hlt, h => by
    obtain ⟨v, vs1, d, ds1, a, b, rfl, rfl, rfl, h1, h2⟩ := trodAll_cons h
    simp only [List.all_cons, Bool.and_eq_true, decide_eq_true_eq] at hr
    exact trodAll_cons_mk (Below.trod hl hr.1.1 hr.1.2 h1 hb fun x hx => hlt x (List.mem_append_left _ hx)) (args_stay hl hb hr.2 (fun x hx => hlt x (List.mem_append_right _ hx)) h2)

theorem law_post {f : Func} {s : ChangeSpec} {tb : TypeId} {apart fresh handsOn : Bool} {W W' : World} {args : Array Value} {ds gs : List (DataW H)} {before : List MemPlace} (hl : laidOutB P = true) (hvars : s.vars = [])
    (hr : (f.params.toList.all fun t => P.readableRec t && decide (t < P.types.size)) = true) (hb1 : f.resultTypes = #[tb]) (ht : P.underlying tb = some .bool)
    (hW : DataW.Whole enc P f.params.toList s.vars apart W args.toList ds gs before) (hfn : gs = [] → s.fn H (ds ++ gs) = { results := [.lit (.bool true)], args := ds }) (hb : Below W.heap.size W W') :
    s.post enc P f apart fresh handsOn false W args (.bool true) W' := by
  have hlt : ∀ p ∈ before, p.block < W.heap.size := fun p hp => hW.lt p hp
  have hW' := hW
  obtain ⟨p, q, hA, hV, rfl, _, _⟩ := hW
  rw [hvars] at hV
  obtain ⟨rfl, rfl⟩ := trodVars_none hV
  rw [List.append_nil] at hlt
  have hf := hfn rfl
  refine ⟨ds, [], _, [], p, [], hW', ?_, ?_, ?_, hb.frame _, fun h => by cases h⟩
  · rw [hf, hb1]; exact trodAll_mk1 (shut_bool ht true)
  · rw [hf]; exact args_stay hl hb hr hlt hA
  · rw [hf, hvars]; rfl
end
end Go.Proofs.YtcdecnmhogmhaaaDoor
namespace Go.Proofs.YtcdecnmhogmhaaaDoor
open Go.ChangeShapes Go.WideShapes Go.ChangeAt Go.RowKit
namespace clsC
theorem own : ownKnob Tryd.prog.godebug = none := by kernel_rfl
theorem laidOut : laidOutB Tryd.prog = true := by kernel_rfl
theorem gR : Tryd.prog.globalNamed "dactyl/class.ranges" = some 1 := by kernel_rfl
theorem gL : Tryd.prog.globalNamed "dactyl/class.looks" = some 2 := by kernel_rfl
theorem gRType : (Tryd.prog.globals[1]?).map (·.type) = some 173 := by kernel_rfl
theorem gLType : (Tryd.prog.globals[2]?).map (·.type) = some 188 := by kernel_rfl
theorem cellsR : Tryd.prog.cellsOf 173 = 159 := by kernel_rfl
theorem cellsL : Tryd.prog.cellsOf 188 = 102 := by kernel_rfl
theorem cellsE : Tryd.prog.cellsOf 21 = 1 := by kernel_rfl
def laid : List (String × DataW Unit) := [("dactyl/class.ranges", Rows.laid_dactyl_class_ranges), ("dactyl/class.looks", Rows.laid_dactyl_class_looks)]
set_option maxRecDepth 100000 in
theorem tables {W : World} (h : laidMetH Tryd.prog laid W) : Tabs W := by
  have h1 : Lib.TabIs Tryd.prog W "dactyl/class.ranges" .i32 rng :=
    Lib.tabIs_of_head (rest := [("dactyl/class.looks", Rows.laid_dactyl_class_looks)]) gR gRType Tryd.underlying173 Tryd.underlying21 cellsE cellsR h
  have h2 : Lib.TabIs Tryd.prog W "dactyl/class.looks" .i32 lks :=
    Lib.tabIs_of_head (rest := []) gL gLType Tryd.underlying188 Tryd.underlying21 cellsE cellsL (laidMet.tail h)
  exact ⟨fun i hi => h1.cell gR i hi, fun i hi => h2.cell gL i hi, block_lt_of_cell (h1.cell gR 0 (by decide)), block_lt_of_cell (h2.cell gL 0 (by decide))⟩
/-- A world for the witness: the settled one, the tables as their initialisers lay them. -/
def lay (cs : Array Value) : Obj → Obj
  | .cells _ t frozen => .cells cs t frozen
  | o => o
noncomputable def laidWorld (os : Os) : World :=
  { World.holding Tryd.prog os ⟨#[], #[], []⟩ with heap := ((World.holding Tryd.prog os ⟨#[], #[], []⟩).heap.modify 1 (lay (rng.map (Value.int .i32)).toArray)).modify 2 (lay (lks.map (Value.int .i32)).toArray) }
theorem laid_met (os : Os) (args : Array Value) : laidMet Tryd.prog laid ((laidWorld os).forCall (fun _ _ => 0) ⟨#[], args, []⟩).memory :=
  laidMet_of_run' 8 (by kernel_rfl) (by kernel_rfl)
end clsC
end Go.Proofs.YtcdecnmhogmhaaaDoor
set_option linter.unusedVariables false
set_option linter.unusedSimpArgs false
namespace Go.Proofs.YtcdecnmhogmhaaaDoor
open Go.RowKit
theorem retI {k : IntKind} {a b : Int} (h : a = b) : Ending.returned (.int k a) = .returned (.int k b) := by rw [h]
theorem retV {k : IntKind} {a b : Int} (h : a = b) : Value.int k a = .int k b := by rw [h]
/-- A slice of signs (values and labels) lies in memory. -/
def Signs (w : World) (a : Option Addr) (l : List (Int × Int)) : Prop :=
  ∀ i, i < l.length → ∃ b off, a = some ⟨b, off, none⟩ ∧ b < w.heap.size ∧ w.cell? ⟨b, off + i * 2, none⟩ = some (.int .i64 (l.getD i (0, 0)).1) ∧ w.cell? ⟨b, off + i * 2 + 1, none⟩ = some (.int .i64 (l.getD i (0, 0)).2)
theorem Signs.below {w w' : World} {a : Option Addr} {l : List (Int × Int)} (h : Signs w a l) (hb : Below w.heap.size w w') : Signs w' a l := fun i hi => by
  obtain ⟨b, off, e, hlt, h1, h2⟩ := h i hi
  exact ⟨b, off, e, Nat.lt_of_lt_of_le hlt hb.size, (hb.cell (p := ⟨b, off + i * 2, none⟩) hlt).trans h1, (hb.cell (p := ⟨b, off + i * 2 + 1, none⟩) hlt).trans h2⟩
/-- A row of signs in memory. -/
def sRow (L : List (Int × Int)) : Array Value := (L.flatMap fun p => [Value.int .i64 p.1, Value.int .i64 p.2]).toArray
theorem sRow_at (L : List (Int × Int)) : ∀ i, i < L.length → (L.flatMap fun p => [Value.int .i64 p.1, Value.int .i64 p.2])[i * 2]? = some (.int .i64 (L.getD i (0, 0)).1) ∧ (L.flatMap fun p => [Value.int .i64 p.1, Value.int .i64 p.2])[i * 2 + 1]? = some (.int .i64 (L.getD i (0, 0)).2) := by
  induction L with
  | nil => intro i hi; simp at hi
  | cons x L ih =>
    intro i hi
    cases i with
    | zero => exact ⟨rfl, rfl⟩
    | succ i =>
      have h := ih i (by simpa using hi)
      rw [show (i + 1) * 2 = i * 2 + 1 + 1 by omega]
      exact h
theorem signs_new (w : World) (L : List (Int × Int)) (t : TypeId) : Signs (w.alloc (.cells (sRow L) t)) (some ⟨w.heap.size, 0, none⟩) L := fun i hi => by
  have h := sRow_at L i hi
  refine ⟨_, _, rfl, by simp, ?_, ?_⟩
  · rw [World.cell?_alloc_new, Nat.zero_add, sRow, List.getElem?_toArray]; exact h.1
  · rw [World.cell?_alloc_new, Nat.zero_add, sRow, List.getElem?_toArray]; exact h.2
/-- A row of numbers in memory. -/
def iRow (L : List Int) : Array Value := (L.map (Value.int .i64)).toArray
theorem iRow_at (L : List Int) (i : Nat) (h : i < L.length) : (iRow L)[i]? = some (.int .i64 (L.getD i 0)) := by
  rw [iRow, List.getElem?_toArray, List.getElem?_map, List.getD, List.getElem?_eq_getElem h]; rfl
theorem iRow_set (L : List Int) (i : Nat) (x : Int) : (iRow L).setIfInBounds i (.int .i64 x) = iRow (L.set i x) := by
  apply Array.ext'
  simp [iRow, List.map_set]
/-- A slice of numbers that came in. -/
structure Ints (w : World) (a : Option Addr) (l : List Int) : Prop where
  some : ∀ i, i < l.length → ∃ b off, a = Option.some ⟨b, off, none⟩ ∧ b < w.heap.size
  cell : ∀ i b off, i < l.length → a = Option.some ⟨b, off, none⟩ → w.cell? ⟨b, off + i, none⟩ = Option.some (.int .i64 (l.getD i 0))
theorem Ints.below {w w' : World} {a : Option Addr} {l : List Int} (h : Ints w a l) (hb : Below w.heap.size w w') : Ints w' a l :=
  ⟨fun i hi => by obtain ⟨b, off, e, hlt⟩ := h.some i hi; exact ⟨b, off, e, Nat.lt_of_lt_of_le hlt hb.size⟩, fun i b off hi e => by
    obtain ⟨b', off', e', hlt⟩ := h.some i hi
    have : b = b' ∧ off = off' := by rw [e] at e'; simpa using e'
    rw [hb.cell (p := ⟨b, off + i, none⟩) (by rw [this.1]; exact hlt)]; exact h.cell i b off hi e⟩
theorem ints_new (w : World) (l : List Int) : Ints (w.alloc (.cells (iRow l) 3)) (some ⟨w.heap.size, 0, none⟩) l :=
  ⟨fun i hi => ⟨_, _, rfl, by simp⟩, fun i b off hi e => by
    obtain ⟨rfl, rfl⟩ : w.heap.size = b ∧ 0 = off := by simpa using e
    rw [World.cell?_alloc_new, Nat.zero_add, iRow_at l i hi]⟩
end Go.Proofs.YtcdecnmhogmhaaaDoor
set_option linter.unusedVariables false
set_option linter.unusedSimpArgs false
namespace Go.Proofs.YtcdecnmhogmhaaaDoor
open Go Go.Lib
theorem get_get (s : ByteArray) (i : Nat) (h : i < s.size) : s.get! i = s[i] := by
  show s.data[i]! = s.data[i]
  exact getElem!_pos _ _ _
/-- A code point; a stray byte; a value that may be. -/
def ptB (v : Int) : Bool := decide (0 ≤ v) && decide (v ≤ 1114111) && (decide (v < 55296) || decide (57343 < v))
def stB (v : Int) : Bool := decide (1114240 ≤ v) && decide (v ≤ 1114367)
/-- The bytes of a value. -/
def bytesI (v : Int) : List Int := if v ≤ 1114111 then Lib.encodeRuneZ v else [v - 1114112]
def oneI (v : Int) : List Int := if ptB v then Lib.encodeRuneZ v else if stB v then [v - 1114112] else []
def encI (l : List Int) : List Int := l.flatMap oneI
theorem ptB_iff (v : Int) : ptB v = true ↔ (0 ≤ v ∧ v < 55296) ∨ (57343 < v ∧ v ≤ 1114111) := by unfold ptB; simp; omega
theorem stB_iff (v : Int) : stB v = true ↔ (1114240 ≤ v ∧ v ≤ 1114367) := by unfold stB; simp
theorem oneI_pt {v : Int} (h : ptB v = true) : oneI v = Lib.encodeRuneZ v := by unfold oneI; rw [if_pos h]
theorem oneI_st {v : Int} (h : stB v = true) : oneI v = [v - 1114112] := by
  have := (stB_iff v).1 h
  have h2 : ¬ ptB v = true := fun h3 => by have := (ptB_iff v).1 h3; omega
  unfold oneI; rw [if_neg h2, if_pos h]
theorem oneI_no {v : Int} (h : ptB v = false) (h2 : stB v = false) : oneI v = [] := by unfold oneI; rw [h, h2]; rfl
theorem oneI_byte (v : Int) : ∀ x ∈ oneI v, 0 ≤ x ∧ x < 256 := by
  intro x hx
  cases h : ptB v
  · cases h2 : stB v
    · rw [oneI_no h h2] at hx; cases hx
    · rw [oneI_st h2] at hx; have := (stB_iff v).1 h2; simp at hx; omega
  · rw [oneI_pt h] at hx; exact Lib.encodeRuneZ_byte v x hx
theorem encI_byte (l : List Int) : ∀ x ∈ encI l, 0 ≤ x ∧ x < 256 := by
  intro x hx
  obtain ⟨v, _, hv⟩ := List.mem_flatMap.1 hx
  exact oneI_byte v x hv
theorem oneI_len (v : Int) : (oneI v).length ≤ 4 := by
  cases h : ptB v
  · cases h2 : stB v
    · rw [oneI_no h h2]; simp
    · rw [oneI_st h2]; simp
  · rw [oneI_pt h]; exact (Lib.encodeRuneZ_length v).2
theorem encI_cons (v : Int) (l : List Int) : encI (v :: l) = oneI v ++ encI l := rfl
theorem encI_append (a b : List Int) : encI (a ++ b) = encI a ++ encI b := by unfold encI; simp
theorem encI_len (l : List Int) : (encI l).length ≤ 4 * l.length := by
  induction l with
  | nil => simp [encI]
  | cons v l ih => rw [encI_cons]; have := oneI_len v; simp; omega
/-- A text of bytes' numbers. -/
def txt (l : List Int) : ByteArray := ⟨(l.map fun x => x.toNat.toUInt8).toArray⟩
def encS (l : List Int) : ByteArray := txt (encI l)
def bytesOf (s : ByteArray) : List Int := s.data.toList.map fun b => (b.toNat : Int)
theorem u8_nat {x : Int} (h0 : 0 ≤ x) (h1 : x < 256) : (x.toNat.toUInt8).toNat = x.toNat := by
  have : x.toNat < 256 := by omega
  rw [Nat.toUInt8, UInt8.toNat_ofNat']; omega
theorem txt_size (l : List Int) : (txt l).size = l.length := by simp [txt, ByteArray.size]
theorem txt_get (l : List Int) (i : Nat) (h : i < l.length) : (txt l).get! i = (l[i]).toNat.toUInt8 := by
  rw [get_get _ i (by rw [txt_size]; exact h)]
  show ((l.map fun x => x.toNat.toUInt8).toArray)[i]'(by simpa using h) = _
  simp
theorem txt_ext (l : List Int) (n : Nat) : (txt l).extract n (txt l).size = txt (l.drop n) := by
  apply ByteArray.ext
  rw [ByteArray.data_extract, txt_size]
  simp only [txt]
  rw [List.extract_toArray]
  congr 1
  rw [List.extract_eq_take_drop]
  exact List.take_of_length_le (by simp) |>.trans (by rw [List.map_drop])
theorem txt_bytesOf (s : ByteArray) : txt (bytesOf s) = s := by
  apply ByteArray.ext
  apply Array.toList_inj.1
  simp only [txt, bytesOf, List.map_map]
  rw [show ((fun x : Int => x.toNat.toUInt8) ∘ fun b : UInt8 => (b.toNat : Int)) = id from by funext b; simp]
  simp
theorem bytesOf_size (s : ByteArray) : (bytesOf s).length = s.size := by unfold bytesOf; rw [List.length_map]; exact Array.length_toList
theorem bytesOf_byte (s : ByteArray) : ∀ x ∈ bytesOf s, 0 ≤ x ∧ x < 256 := by
  intro x hx
  obtain ⟨b, _, rfl⟩ := List.mem_map.1 hx
  have := b.toNat_lt
  omega
theorem bytesOf_txt (l : List Int) (h : ∀ x ∈ l, 0 ≤ x ∧ x < 256) : bytesOf (txt l) = l := by
  simp only [bytesOf, txt, List.map_map]
  conv => rhs; rw [← List.map_id l]
  apply List.map_congr_left
  intro x hx
  have := h x hx
  simp only [Function.comp, id]
  rw [u8_nat this.1 this.2]; omega
theorem bytesOf_get (s : ByteArray) (i : Nat) (h : i < s.size) : (bytesOf s)[i]'(by rw [bytesOf_size]; exact h) = ((s.get! i).toNat : Int) := by
  rw [get_get s i h]; simp [bytesOf]; rfl
theorem nat_of_pt {v : Int} (h : ptB v = true) : ∃ n : Nat, v = n := ⟨v.toNat, by have := (ptB_iff v).1 h; omega⟩
theorem u8n (x : Int) (n : Nat) (h : x = n) (h1 : n < 256) : (x.toNat.toUInt8).toNat = n := by rw [u8_nat (by omega) (by omega)]; omega
end Go.Proofs.YtcdecnmhogmhaaaDoor
set_option linter.unusedVariables false
set_option linter.unusedSimpArgs false
namespace Go.Proofs.YtcdecnmhogmhaaaDoor
open Go.RowKit
theorem ret_boolU {a b : Bool} (h : a = b) : Ending.returned (.bool a) = .returned (.bool b) := by rw [h]
theorem infoByte : (Tryd.prog.info? 5).map (fun i => (i.zero, i.size, i.bytes)) = some (some (.int .u8 0), 1, 1) := by kernel_rfl
/-- A row of ints that can be read. -/
def Row (w : World) (a : Option Addr) (l : List Int) : Prop := ∀ j, j < l.length → ∃ b off, a = some ⟨b, off, none⟩ ∧ w.cell? ⟨b, off + j, none⟩ = some (.int .i64 (l.getD j 0)) ∧ b < w.heap.size
theorem Row.below {w w' : World} {a : Option Addr} {l : List Int} (h : Row w a l) (hb : Below w.heap.size w w') : Row w' a l := by
  intro j hj
  obtain ⟨b, off, ha, hc, hlt⟩ := h j hj
  exact ⟨b, off, ha, (hb.cell (p := ⟨b, off + j, none⟩) hlt).trans hc, Nat.lt_of_lt_of_le hlt hb.size⟩
theorem stray_any (v : Int) (w : World) : Calls Tryd.prog 141 #[.int .i64 v] w fun e w' => e = .returned (.bool (stB v)) ∧ w' = w := by
  have e1 := stB_iff v
  by_cases h1 : 1114240 ≤ v
  · by_cases h2 : v ≤ 1114367
    · have H := Lib.hid (e1.2 ⟨h1, h2⟩); clear e1
      go_enter Tryd.func141, Tryd.ntmps141
      go_wp2
      go_ret
      exact ⟨ret_boolU H.out.symm, rfl⟩
    · have H : Hid (stB v = false) := Lib.hid (by rw [← Bool.not_eq_true]; intro h; exact h2 (e1.1 h).2); clear e1
      go_enter Tryd.func141, Tryd.ntmps141
      go_wp2
      go_ret
      exact ⟨ret_boolU H.out.symm, rfl⟩
  · have H : Hid (stB v = false) := Lib.hid (by rw [← Bool.not_eq_true]; intro h; exact h1 (e1.1 h).1); clear e1
    go_enter Tryd.func141, Tryd.ntmps141
    go_wp2
    go_ret
    exact ⟨ret_boolU H.out.symm, rfl⟩
theorem point_any (v : Int) (w : World) : Calls Tryd.prog 139 #[.int .i64 v] w fun e w' => e = .returned (.bool (ptB v)) ∧ w' = w := by
  have e1 := ptB_iff v
  have hf : ¬ ((0 ≤ v ∧ v < 55296) ∨ (57343 < v ∧ v ≤ 1114111)) → ptB v = false := by intro h; rw [← Bool.not_eq_true]; intro h2; exact h (e1.1 h2)
  by_cases h1 : 0 ≤ v
  · by_cases h2 : v ≤ 1114111
    · by_cases h3 : v < 55296
      · have H := Lib.hid (e1.2 (Or.inl ⟨h1, h3⟩)); clear e1 hf
        go_enter Tryd.func139, Tryd.ntmps139
        go_wp2
        go_ret
        exact ⟨ret_boolU H.out.symm, rfl⟩
      · by_cases h4 : 57343 < v
        · have H := Lib.hid (e1.2 (Or.inr ⟨h4, h2⟩)); clear e1 hf
          go_enter Tryd.func139, Tryd.ntmps139
          go_wp2
          go_ret
          exact ⟨ret_boolU H.out.symm, rfl⟩
        · have h5 : decide (57343 < v) = false := decide_eq_false h4
          have H := Lib.hid (hf (by omega)); clear e1 hf
          go_enter Tryd.func139, Tryd.ntmps139
          go_wp2
          go_ret
          exact ⟨ret_boolU H.out.symm, rfl⟩
    · have H := Lib.hid (hf (by omega)); clear e1 hf
      go_enter Tryd.func139, Tryd.ntmps139
      go_wp2
      go_ret
      exact ⟨ret_boolU H.out.symm, rfl⟩
  · have H := Lib.hid (hf (by omega)); clear e1 hf
    go_enter Tryd.func139, Tryd.ntmps139
    go_wp2
    go_ret
    exact ⟨ret_boolU H.out.symm, rfl⟩
def rightB (v : Int) : Bool := ptB v || stB v
theorem right_any (v : Int) (w : World) : Calls Tryd.prog 137 #[.int .i64 v] w fun e w' => e = .returned (.bool (rightB v)) ∧ w' = w := by
  have P := Lib.hid (fun w => point_any v w)
  have S := Lib.hid (fun w => stray_any v w)
  have e0 : rightB v = (ptB v || stB v) := rfl
  generalize stB v = s at *
  cases h : ptB v
  · rw [h] at P e0
    have H := Lib.hid e0; clear e0 h
    go_enter Tryd.func137, Tryd.ntmps137
    go_wp2_with (first
      | (go_at_call 139; refine (P.out _).mono ?_; rintro e w1 ⟨rfl, rfl⟩)
      | (go_at_call 141; refine (S.out _).mono ?_; rintro e w1 ⟨rfl, rfl⟩))
    go_ret
    exact ⟨ret_boolU (H.out.trans (Bool.false_or _)).symm, rfl⟩
  · rw [h] at P e0
    have H := Lib.hid e0; clear e0 h
    go_enter Tryd.func137, Tryd.ntmps137
    go_wp2_with (first
      | (go_at_call 139; refine (P.out _).mono ?_; rintro e w1 ⟨rfl, rfl⟩)
      | (go_at_call 141; refine (S.out _).mono ?_; rintro e w1 ⟨rfl, rfl⟩))
    go_ret
    exact ⟨ret_boolU (H.out.trans (Bool.true_or _)).symm, rfl⟩
theorem right_ref (v : Int) (w : World) : Calls Tryd.prog 92 #[.int .i64 v] w fun e w' => e = .returned (.bool (rightB v)) ∧ w' = w := by
  have e1 : rightB v = true ↔ ((0 ≤ v ∧ v < 55296) ∨ (57343 < v ∧ v ≤ 1114111)) ∨ (1114240 ≤ v ∧ v ≤ 1114367) := by unfold rightB; rw [Bool.or_eq_true, ptB_iff, stB_iff]
  have hf : ¬ (((0 ≤ v ∧ v < 55296) ∨ (57343 < v ∧ v ≤ 1114111)) ∨ (1114240 ≤ v ∧ v ≤ 1114367)) → rightB v = false := by intro h; rw [← Bool.not_eq_true]; intro h2; exact h (e1.1 h2)
  have E : Hid (∀ b : Bool, rightB v = b → (Calls Tryd.prog 92 #[.int .i64 v] w fun e w' => e = .returned (.bool b) ∧ w' = w) → (Calls Tryd.prog 92 #[.int .i64 v] w fun e w' => e = .returned (.bool (rightB v)) ∧ w' = w)) := Lib.hid (fun b h k => by rw [h]; exact k)
  rcases (by omega : v < 0 ∨ (0 ≤ v ∧ v < 55296) ∨ (55296 ≤ v ∧ v ≤ 57343) ∨ (57343 < v ∧ v ≤ 1114111) ∨ (1114111 < v ∧ v < 1114240) ∨ (1114240 ≤ v ∧ v ≤ 1114367) ∨ 1114367 < v) with h | ⟨h, h'⟩ | ⟨h, h'⟩ | ⟨h, h'⟩ | ⟨h, h'⟩ | ⟨h, h'⟩ | h
  · refine E.out _ (hf (by omega)) ?_; clear e1 hf E
    go_enter Tryd.func92, Tryd.ntmps92
    go_wp2
    go_ret
    exact ⟨rfl, rfl⟩
  · refine E.out _ (e1.2 (by omega)) ?_; clear e1 hf E
    go_enter Tryd.func92, Tryd.ntmps92
    go_wp2
    go_ret
    exact ⟨rfl, rfl⟩
  · refine E.out _ (hf (by omega)) ?_; clear e1 hf E
    go_enter Tryd.func92, Tryd.ntmps92
    go_wp2
    go_ret
    exact ⟨rfl, rfl⟩
  · refine E.out _ (e1.2 (by omega)) ?_; clear e1 hf E
    go_enter Tryd.func92, Tryd.ntmps92
    go_wp2
    go_ret
    exact ⟨rfl, rfl⟩
  · refine E.out _ (hf (by omega)) ?_; clear e1 hf E
    go_enter Tryd.func92, Tryd.ntmps92
    go_wp2
    go_ret
    exact ⟨rfl, rfl⟩
  · refine E.out _ (e1.2 (by omega)) ?_; clear e1 hf E
    go_enter Tryd.func92, Tryd.ntmps92
    go_wp2
    go_ret
    exact ⟨rfl, rfl⟩
  · refine E.out _ (hf (by omega)) ?_; clear e1 hf E
    have hn : decide (v ≤ 1114367) = false := decide_eq_false (by omega)
    go_enter Tryd.func92, Tryd.ntmps92
    go_wp2
    go_ret
    exact ⟨rfl, rfl⟩
theorem ext_getD (a b : List Int) (h : a.length = b.length) (h2 : ∀ j, j < a.length → a.getD j 0 = b.getD j 0) : a = b := by
  apply List.ext_getElem h
  intro j h1 h3
  have := h2 j h1
  simpa [List.getD, List.getElem?_eq_getElem h1, List.getElem?_eq_getElem h3] using this
set_option maxRecDepth 100000 in
set_option maxHeartbeats 2000000 in
theorem ints_ref (a b : List Int) (pa pb : Option Addr) (ca cb : Nat) (w : World) (ha : Row w pa a) (hb : Row w pb b) (hla : a.length ≤ 100000000) (hlb : b.length ≤ 100000000) :
    Calls Tryd.prog 25 #[.slice pa a.length ca, .slice pb b.length cb] w fun e w' => e = .returned (.bool (decide (a = b))) ∧ ∃ n, w' = w.drewN n := by
  by_cases hl : a.length = b.length
  · have hext := ext_getD a b hl
    rw [← hl]
    have Ha := Lib.hid ha; have Hb := Lib.hid hb; have He := Lib.hid hext
    have Hn' : Hid (a.length = b.length) := Lib.hid hl
    clear ha hb hext hl hlb
    generalize hn : a.length = n at *
    have Hn := Lib.hid hn
    clear hn
    go_enter Tryd.func25, Tryd.ntmps25
    go_wp2
    go_loopw [5] (fun iv wr => ∃ (k q : Nat), iv = .int .i64 (k : Int) ∧ k ≤ n ∧ wr = w.drewN q ∧ Hid (∀ j, j < k → a.getD j 0 = b.getD j 0)) (fun iv _ => n - (intOf iv).toNat)
    case atStart => exact ⟨0, 0, rfl, Nat.zero_le _, rfl, Lib.hid (fun j h => absurd h (Nat.not_lt_zero _))⟩
    case round =>
      obtain ⟨k, q, rfl, hk, rfl, hj⟩ := hrel
      by_cases hlt : k < n
      · obtain ⟨ba, oa, rfl, hca, hba⟩ := Ha.out k (by rw [Hn.out]; exact hlt)
        obtain ⟨bb, ob, rfl, hcb, hbb⟩ := Hb.out k (by rw [← Hn'.out]; exact hlt)
        have hlti : (k : Int) < (n : Int) := by omega
        by_cases hx : a.getD k 0 = b.getD k 0
        · have hj2 : Hid (∀ j, j < k + 1 → a.getD j 0 = b.getD j 0) := Lib.hid (fun j h => by
            rcases Nat.lt_succ_iff_lt_or_eq.1 h with h | rfl
            · exact hj.out j h
            · exact hx)
          have hxx : (a.getD k 0 == b.getD k 0) = true := by rw [hx]; simp
          generalize a.getD k 0 = x at *
          generalize b.getD k 0 = y at *
          subst hx
          clear hj Ha Hb
          go_wp2
          go_quiet (fail)
          go_wp2
          go_roundw
          case rel => exact ⟨k + 1, _, by go_num, by omega, rfl, hj2⟩
          case measure => simp [intOf]; omega
        · have hfin : Hid (decide (a = b) = false) := Lib.hid (decide_eq_false (fun h => hx (by rw [h])))
          have hxx : (a.getD k 0 == b.getD k 0) = false := by simpa using hx
          generalize a.getD k 0 = x at *
          generalize b.getD k 0 = y at *
          clear hj Ha Hb
          go_wp2
          go_quiet (fail)
          go_wp2
          go_ret
          rw [hfin.out]
          exact ⟨rfl, _, World.drewN_drewN _ _ _⟩
      · obtain rfl : k = n := by omega
        have hfin : Hid (decide (a = b) = true) := Lib.hid (decide_eq_true (He.out (fun j h => hj.out j h)))
        clear hj Ha Hb
        go_wp2
        go_ret
        rw [hfin.out]
        exact ⟨rfl, _, rfl⟩
  · have hne : decide (a = b) = false := decide_eq_false (fun h => hl (by rw [h]))
    rw [hne]; clear hne ha hb
    generalize a.length = n at *; generalize b.length = m at *
    have hz : ((n : Int) == (m : Int)) = false := by simp; omega
    go_enter Tryd.func25, Tryd.ntmps25
    go_wp2
    go_ret
    exact ⟨rfl, 0, rfl⟩
theorem cell_new (w : World) (v : Value) (e : TypeId) : (w.alloc (Obj.cells #[v] e)).cell? ({ block := w.heap.size, off := 0 } : Addr) = some v := by
  have h : (w.alloc (Obj.cells #[v] e)).heap[w.heap.size]? = some (Obj.cells #[v] e) := Array.getElem?_push_size
  simp only [World.cell?, h]; rfl
end Go.Proofs.YtcdecnmhogmhaaaDoor
namespace Go.Proofs.YtcdecnmhogmhaaaDoor
open Go.RowKit
def u8s (l : List Int) : List Value := l.map (Value.int .u8)
structure EncInv (l : List Int) (a : Option Addr) (w : World) (k : Nat) (v : Value) (wr : World) : Prop where
  own : wr.ownsRow w.heap.size 5 1 v (encI (l.take k)).length (u8s (encI (l.take k)))
  bl : Below w.heap.size w wr
  le : k ≤ l.length
theorem enc_take (l : List Int) (k : Nat) (h : k < l.length) : encI (l.take (k + 1)) = encI (l.take k) ++ oneI (l.getD k 0) := by
  rw [List.take_add_one, encI_append, List.getElem?_eq_getElem h]
  simp [encI, List.getD, List.getElem?_eq_getElem h]
theorem enc_take_len (l : List Int) (k : Nat) (h : l.length ≤ 1000000) : (encI (l.take k)).length ≤ 4000000 := by
  have := encI_len (l.take k); simp at this; omega
theorem conv_own {w : World} {B : Nat} {v : Value} {l : List Int} (h : w.ownsRow B 5 1 v (encI l).length (u8s (encI l))) :
    ∀ dst, Tryd.prog.underlying dst = some .string → (convert 108 dst v).run Tryd.prog w = .ok (.string (encS l)) w := by
  intro dst hd
  rcases h.2 with ⟨rfl, h0⟩ | ⟨g, cap, cur, rfl, _, _, _⟩
  · have e : encI l = [] := List.eq_nil_of_length_eq_zero h0
    rw [run_convert_bytes_nil w _ 5 Tryd.underlying108 Tryd.underlying5 0 0 dst hd, encS, e]
    rfl
  · rw [run_convert_bytes_arg w _ 5 Tryd.underlying108 Tryd.underlying5 g 0 _ _ (encI l) rfl (fun i hi => ?_) dst hd]
    · rfl
    · have := h.cells (g := g) rfl i (.int .u8 ((encI l).getD i 0)) (by simp [u8s, List.getElem?_eq_getElem hi, List.getD])
      have hadd : (⟨g, 0, none⟩ : Addr).add i = ⟨g, 0 + i, none⟩ := by unfold Addr.add; split <;> simp_all
      rw [← hadd]; exact this
set_option maxRecDepth 100000 in
set_option maxHeartbeats 2000000 in
theorem encode_any (l : List Int) (a : Option Addr) (c : Nat) (w : World) (hl : l.length ≤ 1000000) (hr : Row w a l) :
    Calls Tryd.prog 104 #[.slice a l.length c] w fun e w' => e = .returned (.string (encS l)) ∧ Below w.heap.size w w' := by
  obtain ⟨i0, hi, hz0, hz1, hz2⟩ := info_parts infoByte
  have Hr := Lib.hid hr; clear hr
  go_enter Tryd.func104, Tryd.ntmps104
  go_wp2_with (at_make; refine wpList_make_own _ rfl _ _ 108 rfl w.heap.size 5 i0 (.int .u8 0) 1 Tryd.underlying108 hi hz0 hz1 _ _ _ l.length rfl rfl (by omega) ?b2 ?b3 (Nat.le_refl _) ?_)
  case b2 => rw [hz2]; omega
  case b3 => unfold maxLen; omega
  intro w0 hown0 hgrow0
  have hb0 : Below w.heap.size w w0 := (Below.refl _ _).grown hgrow0 (Nat.le_refl _) (fun k h => by cases h)
  go_wp2
  have hb8 := hb0.size
  go_loopw [3, 11] (fun v iv wr => ∃ k : Nat, iv = .int .i64 (k : Int) ∧ EncInv l a w k v wr) (fun _ iv _ => l.length - (intOf iv).toNat)
  case atStart => exact ⟨0, rfl, hown0, hb0, Nat.zero_le _⟩
  case round =>
    obtain ⟨k, rfl, hI⟩ := hrel
    have hbl := hI.bl; have hown := hI.own; have hle := hI.le; have hsz := hbl.size
    have hlen := enc_take_len l k hl
    clear hI
    by_cases hlt : k < l.length
    · obtain ⟨ba, oa, rfl, hca, hba⟩ := (Hr.out.below hbl) k hlt
      have hlti : (k : Int) < (l.length : Int) := by omega
      have hnext := enc_take l k hlt
      have P := fun w => point_any (l.getD k 0) w
      have S := fun w => stray_any (l.getD k 0) w
      have hp := ptB_iff (l.getD k 0)
      have hs := stB_iff (l.getD k 0)
      have e1 := fun h => oneI_pt (v := l.getD k 0) h
      have e2 := fun h => oneI_st (v := l.getD k 0) h
      have e3 := fun h => oneI_no (v := l.getD k 0) h
      generalize l.getD k 0 = x at *
      generalize encI (l.take k) = acc at *
      cases hpt : ptB x
      · rw [hpt] at P e3
        cases hst : stB x
        · rw [hst] at S e3
          have hn := hnext.trans (by rw [e3 rfl rfl, List.append_nil])
          have Hn := Lib.hid hn
          replace P := Lib.hid P; replace S := Lib.hid S
          clear hn hnext e1 e2 e3 hp hs hpt hst
          go_wp2_with (first
            | (go_at_call 139; refine (P.out _).mono ?_; rintro e w1 ⟨rfl, rfl⟩)
            | (go_at_call 141; refine (S.out _).mono ?_; rintro e w1 ⟨rfl, rfl⟩))
          go_roundw
          case rel => exact ⟨k + 1, by go_num, by rw [Hn.out]; exact hown, hbl, by omega⟩
          case measure => simp [intOf]; omega
        · rw [hst] at S
          have hx := hs.1 hst
          have hn := hnext.trans (by rw [e2 hst])
          have Hn := Lib.hid hn
          replace P := Lib.hid P; replace S := Lib.hid S
          clear hn hnext e1 e2 e3 hp hs hpt hst
          go_wp2_with (first
            | (go_at_call 139; refine (P.out _).mono ?_; rintro e w1 ⟨rfl, rfl⟩)
            | (go_at_call 141; refine (S.out _).mono ?_; rintro e w1 ⟨rfl, rfl⟩)
            | (at_builtin; refine wpList_append_own _ rfl _ _ 108 rfl w.heap.size 5 i0 (.int .u8 0) 1 1 Tryd.underlying108 hi hz0 hz1 hz2 rfl (by decide) _ _ _ rfl (hown.alloc _) ⟨w1.heap.size, 0, none⟩ 1 1 [.int .u8 (x - 1114112)] rfl rfl ?c1 ?c2 ?c3 ?c4 ?c5 ?_))
          case c1 =>
            intro j u hj
            match j, hj with
            | 0, hj => simp at hj; subst hj; exact cell_new w1 _ _
          case c2 => intro u hu; simp at hu; subst hu; rfl
          case c3 => unfold maxLen; omega
          case c4 => omega
          case c5 => have := (below_alloc w1 (Obj.cells #[Value.int IntKind.u8 (x - 1114112)] 5)).size; omega
          intro v' w3 hown3 hgrow3 _
          have hbl3 : Below w.heap.size w w3 := (hbl.alloc hsz _).grown hgrow3 (by have := (below_alloc w1 (Obj.cells #[Value.int IntKind.u8 (x - 1114112)] 5)).size; omega) (fun k hk => (hown.lt k hk).1)
          have hown3' : w3.ownsRow w.heap.size 5 1 v' (encI (l.take (k + 1))).length (u8s (encI (l.take (k + 1)))) := by
            rw [Hn.out]; simpa [u8s] using hown3
          clear hown3 hgrow3 hown
          go_wp2
          go_roundw
          case rel => exact ⟨k + 1, by go_num, hown3', hbl3, by omega⟩
          case measure => simp [intOf]; omega
      · rw [hpt] at P
        have hx := hp.1 hpt
        have hn := hnext.trans (by rw [e1 hpt])
        have Hn := Lib.hid hn
        have hx2 : 0 ≤ x ∧ x ≤ 1114111 := by omega
        replace P := Lib.hid P
        clear hn hnext e1 e2 e3 hp hs hpt hx S
        go_wp2_with (first
          | (go_at_call 139; refine (P.out _).mono ?_; rintro e w1 ⟨rfl, rfl⟩)
          | (go_at_call 140; refine (Tryd.utf8_AppendRune_plain w.heap.size _ _ _ x (by omega) (by omega) _ hown (by omega) (by omega)).mono ?_; rintro e w2 ⟨v2, rfl, hown2, o, hg2⟩)
          | fail)
        have hbl3 : Below w.heap.size w w2 := (hbl.alloc hsz o).grown hg2 (by have := (below_alloc w1 o).size; omega) (fun k hk => (hown.lt k hk).1)
        have hown3' : w2.ownsRow w.heap.size 5 1 v2 (encI (l.take (k + 1))).length (u8s (encI (l.take (k + 1)))) := by
          rw [Hn.out]; simpa [u8s, Lib.runeCells] using hown2
        clear hown2 hg2 hown
        go_wp2
        go_roundw
        case rel => exact ⟨k + 1, by go_num, hown3', hbl3, by omega⟩
        case measure => simp [intOf]; omega
    · obtain rfl : k = l.length := by omega
      rw [List.take_length] at hown
      have hcv := conv_own hown
      clear hown
      go_wp2
      go_ret
      exact ⟨rfl, hbl⟩
end Go.Proofs.YtcdecnmhogmhaaaDoor
