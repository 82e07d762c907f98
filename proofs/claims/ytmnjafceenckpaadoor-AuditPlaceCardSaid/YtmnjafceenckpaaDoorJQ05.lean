/-
  Joined: C6 C7 C8 C9 C10 C11 C12.
-/
import Derived.Test.YtmnjafceenckpaaDoorJQ03
import Derived.Test.YtmnjafceenckpaaDoorJQ04
import Derived.Lib.ItoaWalk
import Derived.Lib.QuietBelow
set_option maxRecDepth 100000
set_option linter.unusedVariables false
set_option linter.unusedSimpArgs false
namespace Go.Proofs.YtmnjafceenckpaaDoor
set_option linter.unusedVariables false
set_option linter.unusedSimpArgs false
open Go.RowKit
theorem cright_ref (v : Int) (w : World) : Calls Tryd.prog 52 #[.int .i64 v] w fun e w' => e = .returned (.bool (rght v)) ∧ w = w' := by
  rcases rght_cases v with ⟨e, h | h | h⟩ | ⟨e, h | h | h | h⟩
  all_goals
    rw [e]; clear e
    go_enter Tryd.func52, Tryd.ntmps52
    go_wp2
    all_goals
      first
        | (go_ret; first | exact ⟨rfl, rfl⟩ | exact ⟨ret_bool (by simp; omega), rfl⟩)
        | (exfalso; omega)
theorem w64_u8 (c : UInt8) : wrap64 (c.toNat : Int) = (c.toNat : Int) := by have := c.toNat_lt; unfold wrap64; omega
/-- The reference's look. -/
def hitS (v : Int) (j : Nat) : Bool := lSk.getD j 0 == v
def skelR (v : Int) : Int := match (List.range 51).find? (hitS v) with | some j => ((sSk.getD j 0).toNat : Int) | none => v
theorem sk_byte (k : Nat) (h : k < (⟨#[65, 66, 69, 90, 72, 73, 75, 77, 78, 79, 80, 84, 89, 88, 118, 111, 112, 83, 73, 74, 65, 66, 69, 75, 77, 72, 79, 80, 67, 84, 88, 97, 101, 111, 112, 99, 121, 120, 115, 105, 106, 100, 113, 119, 59, 45, 45, 47, 47, 46, 44]⟩ : ByteArray).size) : (⟨#[65, 66, 69, 90, 72, 73, 75, 77, 78, 79, 80, 84, 89, 88, 118, 111, 112, 83, 73, 74, 65, 66, 69, 75, 77, 72, 79, 80, 67, 84, 88, 97, 101, 111, 112, 99, 121, 120, 115, 105, 106, 100, 113, 119, 59, 45, 45, 47, 47, 46, 44]⟩ : ByteArray)[k] = sSk.getD k 0 := by
  have h' : k < sSk.length := h
  rw [List.getD, List.getElem?_eq_getElem h']
  rfl
set_option maxRecDepth 100000 in
set_option maxHeartbeats 1000000 in
theorem skel_ref (v : Int) (w : World) : Calls Tryd.prog 54 #[.int .i64 v] w fun e w' => e = .returned (.int .i64 (skelR v)) ∧ Below w.heap.size w w' := by
  have hcell : ∀ i, i < 51 → (w.alloc (.cells #[.int .i64 913, .int .i64 914, .int .i64 917, .int .i64 918, .int .i64 919, .int .i64 921, .int .i64 922, .int .i64 924, .int .i64 925, .int .i64 927, .int .i64 929, .int .i64 932, .int .i64 933, .int .i64 935, .int .i64 957, .int .i64 959, .int .i64 961, .int .i64 1029, .int .i64 1030, .int .i64 1032, .int .i64 1040, .int .i64 1042, .int .i64 1045, .int .i64 1050, .int .i64 1052, .int .i64 1053, .int .i64 1054, .int .i64 1056, .int .i64 1057, .int .i64 1058, .int .i64 1061, .int .i64 1072, .int .i64 1077, .int .i64 1086, .int .i64 1088, .int .i64 1089, .int .i64 1091, .int .i64 1093, .int .i64 1109, .int .i64 1110, .int .i64 1112, .int .i64 1281, .int .i64 1307, .int .i64 1309, .int .i64 894, .int .i64 8208, .int .i64 8722, .int .i64 8260, .int .i64 8725, .int .i64 8228, .int .i64 8218] 3)).cell? ⟨w.heap.size, i, none⟩ = some (.int .i64 (lSk.getD i 0)) := by
    intro i hi
    rw [World.cell?_alloc_new]
    have key : ∀ j : Fin 51, (#[.int .i64 913, .int .i64 914, .int .i64 917, .int .i64 918, .int .i64 919, .int .i64 921, .int .i64 922, .int .i64 924, .int .i64 925, .int .i64 927, .int .i64 929, .int .i64 932, .int .i64 933, .int .i64 935, .int .i64 957, .int .i64 959, .int .i64 961, .int .i64 1029, .int .i64 1030, .int .i64 1032, .int .i64 1040, .int .i64 1042, .int .i64 1045, .int .i64 1050, .int .i64 1052, .int .i64 1053, .int .i64 1054, .int .i64 1056, .int .i64 1057, .int .i64 1058, .int .i64 1061, .int .i64 1072, .int .i64 1077, .int .i64 1086, .int .i64 1088, .int .i64 1089, .int .i64 1091, .int .i64 1093, .int .i64 1109, .int .i64 1110, .int .i64 1112, .int .i64 1281, .int .i64 1307, .int .i64 1309, .int .i64 894, .int .i64 8208, .int .i64 8722, .int .i64 8260, .int .i64 8725, .int .i64 8228, .int .i64 8218] : Array Value)[j.val]? = some (Value.int .i64 (lSk.getD j.val 0)) := by
      intro j
      have : (#[.int .i64 913, .int .i64 914, .int .i64 917, .int .i64 918, .int .i64 919, .int .i64 921, .int .i64 922, .int .i64 924, .int .i64 925, .int .i64 927, .int .i64 929, .int .i64 932, .int .i64 933, .int .i64 935, .int .i64 957, .int .i64 959, .int .i64 961, .int .i64 1029, .int .i64 1030, .int .i64 1032, .int .i64 1040, .int .i64 1042, .int .i64 1045, .int .i64 1050, .int .i64 1052, .int .i64 1053, .int .i64 1054, .int .i64 1056, .int .i64 1057, .int .i64 1058, .int .i64 1061, .int .i64 1072, .int .i64 1077, .int .i64 1086, .int .i64 1088, .int .i64 1089, .int .i64 1091, .int .i64 1093, .int .i64 1109, .int .i64 1110, .int .i64 1112, .int .i64 1281, .int .i64 1307, .int .i64 1309, .int .i64 894, .int .i64 8208, .int .i64 8722, .int .i64 8260, .int .i64 8725, .int .i64 8228, .int .i64 8218] : Array Value) = (lSk.map (Value.int .i64)).toArray := rfl
      rw [this, List.getElem?_toArray, List.getElem?_map, List.getD, List.getElem?_eq_getElem (show j.val < lSk.length from j.isLt)]
      rfl
    exact key ⟨i, hi⟩
  have Hc := Lib.hid hcell; clear hcell
  go_enter Tryd.func54, Tryd.ntmps54
  go_wp2
  go_name_bytes S hS
  have hsz : S.size = 51 := by rw [← hS]; rfl
  have hby : ∀ (k : Nat) (h : k < S.size), S[k] = sSk.getD k 0 := by subst hS; exact sk_byte
  have Hby := Lib.hid hby; clear hby hS
  generalize hW : w.alloc (.cells #[.int .i64 913, .int .i64 914, .int .i64 917, .int .i64 918, .int .i64 919, .int .i64 921, .int .i64 922, .int .i64 924, .int .i64 925, .int .i64 927, .int .i64 929, .int .i64 932, .int .i64 933, .int .i64 935, .int .i64 957, .int .i64 959, .int .i64 961, .int .i64 1029, .int .i64 1030, .int .i64 1032, .int .i64 1040, .int .i64 1042, .int .i64 1045, .int .i64 1050, .int .i64 1052, .int .i64 1053, .int .i64 1054, .int .i64 1056, .int .i64 1057, .int .i64 1058, .int .i64 1061, .int .i64 1072, .int .i64 1077, .int .i64 1086, .int .i64 1088, .int .i64 1089, .int .i64 1091, .int .i64 1093, .int .i64 1109, .int .i64 1110, .int .i64 1112, .int .i64 1281, .int .i64 1307, .int .i64 1309, .int .i64 894, .int .i64 8208, .int .i64 8722, .int .i64 8260, .int .i64 8725, .int .i64 8228, .int .i64 8218] 3) = W at *
  have hbW : Below w.heap.size w W := by rw [← hW]; exact below_alloc _ _
  generalize hBe : w.heap.size = B at *
  have HB := Lib.hid hBe
  clear hW hBe
  have Hsz := Lib.hid hsz
  have hs51 : 51 ≤ S.size := by omega
  clear hsz
  go_loop [5] (fun i => ∃ k : Nat, k ≤ 51 ∧ i = .int .i64 (k : Int) ∧ Hid (∀ j, j < k → hitS v j = false)) (fun i => 51 - (intOf i).toNat)
  case atStart => exact ⟨0, by omega, rfl, Lib.hid (by intro j hj; omega)⟩
  case round =>
    obtain ⟨k, hk, rfl, hno⟩ := hrel
    by_cases hlt : k < 51
    · have c0 := Hc.out k hlt
      have hh : hitS v k = (lSk.getD k 0 == v) := rfl
      have Hy : Hid (hitS v k = true → skelR v = ((sSk.getD k 0).toNat : Int)) := Lib.hid (fun h => by unfold skelR; rw [find_first hlt h hno.out])
      generalize lSk.getD k 0 = x at *
      have hks : k < S.size := by omega
      have Hk := Lib.hid (Hby.out k hks)
      cases hb : (x == v)
      · rw [hb] at hh
        have Hh := Lib.hid hh; clear hh
        go_wp2
        go_round
        case rel => exact ⟨k + 1, by omega, by go_num, Lib.hid (by intro j hj; rcases Nat.lt_succ_iff_lt_or_eq.1 hj with h | rfl; exact hno.out j h; exact Hh.out)⟩
        case measure => simp [intOf]; omega
      · rw [hb] at hh
        have Hy2 := Lib.hid (Hy.out hh)
        clear hh Hy
        go_wp2
        go_ret
        rw [Hy2.out, ← Hk.out]
        exact ⟨congrArg (fun x => Ending.returned (.int .i64 x)) (w64_u8 _), HB.out ▸ hbW⟩
    · obtain rfl : k = 51 := by omega
      have Hn : Hid (skelR v = v) := Lib.hid (by unfold skelR; rw [find_none hno.out])
      clear hlt
      go_wp2
      go_ret
      rw [Hn.out]
      exact ⟨rfl, HB.out ▸ hbW⟩
end Go.Proofs.YtmnjafceenckpaaDoor
namespace Go.Proofs.YtmnjafceenckpaaDoor
open Go.RowKit
/-- The reference's class and width. -/
def clsR (v : Int) : Int := if rght v = false then 0 else if 1114111 < v then 12 else if 0 < oddR v then oddR v else if skelR v ≠ v then 3 else if wthn lWide v then 2 else 1
def widR (v : Int) : Int := if clsR v = 2 then 2 else if clsR v = 1 ∨ clsR v = 3 then 1 else 0
set_option maxRecDepth 100000 in
set_option maxHeartbeats 2000000 in
theorem of_ref (v : Int) (w : World) : Calls Tryd.prog 34 #[.int .i64 v] w fun e w' => e = .returned (.int .i64 (clsR v)) ∧ Below w.heap.size w w' := by
  have R := fun w => cright_ref v w
  have O := fun w => odd_any v w
  have K := fun w => skel_ref v w
  have W1 := w_lWide v
  have hc : clsR v = if rght v = false then 0 else if 1114111 < v then 12 else if 0 < oddR v then oddR v else if skelR v ≠ v then 3 else if wthn lWide v then 2 else 1 := rfl
  generalize rght v = r at *
  generalize oddR v = o at *
  generalize skelR v = s at *
  generalize wthn lWide v = b at *
  have R := Lib.hid R; have O := Lib.hid O; have K := Lib.hid K; have W1 := Lib.hid W1
  cases r
  · have Hc : Hid (clsR v = 0) := Lib.hid (by rw [hc, if_pos rfl])
    clear hc
    go_enter Tryd.func34, Tryd.ntmps34
    go_wp2_with (go_at_call 52; refine (R.out _).mono ?_; rintro e w' ⟨rfl, rfl⟩)
    go_ret
    rw [Hc.out]; exact ⟨rfl, Below.refl _ _⟩
  · rw [if_neg (by simp)] at hc
    by_cases h1 : 1114111 < v
    · have Hc : Hid (clsR v = 12) := Lib.hid (by rw [hc, if_pos h1])
      clear hc
      go_enter Tryd.func34, Tryd.ntmps34
      go_wp2_with (go_at_call 52; refine (R.out _).mono ?_; rintro e w' ⟨rfl, rfl⟩)
      go_ret
      rw [Hc.out]; exact ⟨rfl, Below.refl _ _⟩
    · rw [if_neg h1] at hc
      by_cases h2 : 0 < o
      · have Hc : Hid (clsR v = o) := Lib.hid (by rw [hc, if_pos h2])
        clear hc
        go_enter Tryd.func34, Tryd.ntmps34
        go_wp2_with (first | (go_at_call 52; refine (R.out _).mono ?_; rintro e w' ⟨rfl, rfl⟩) | (go_at_call 53; refine (O.out _).mono ?_; rintro e w1 ⟨rfl, hb1⟩))
        go_ret
        rw [Hc.out]; exact ⟨rfl, hb1⟩
      · rw [if_neg h2] at hc
        by_cases h3 : s = v
        · have h3b : (s != v) = false := by rw [h3]; simp
          have Hc : Hid (clsR v = if b then 2 else 1) := Lib.hid (by rw [hc, if_neg (by simpa using h3)])
          clear hc h3
          cases b
          all_goals
            go_enter Tryd.func34, Tryd.ntmps34
            go_wp2_with (first | (go_at_call 52; refine (R.out _).mono ?_; rintro e w' ⟨rfl, rfl⟩) | (go_at_call 53; refine (O.out _).mono ?_; rintro e w1 ⟨rfl, hb1⟩) | (go_at_call 54; refine (K.out _).mono ?_; rintro e w2 ⟨rfl, hb2⟩) | (go_at_call 55; (with_reducible refine (W1.out _ _ (by simp)).mono ?_); rintro e w3 ⟨rfl, rfl⟩))
            go_ret
            rw [Hc.out]
            exact ⟨rfl, seqB (seqB hb1 hb2) (below_alloc _ _)⟩
        · have h3b : (s != v) = true := by simpa using h3
          have Hc : Hid (clsR v = 3) := Lib.hid (by rw [hc, if_pos h3])
          clear hc h3
          go_enter Tryd.func34, Tryd.ntmps34
          go_wp2_with (first | (go_at_call 52; refine (R.out _).mono ?_; rintro e w' ⟨rfl, rfl⟩) | (go_at_call 53; refine (O.out _).mono ?_; rintro e w1 ⟨rfl, hb1⟩) | (go_at_call 54; refine (K.out _).mono ?_; rintro e w2 ⟨rfl, hb2⟩))
          go_ret
          rw [Hc.out]; exact ⟨rfl, seqB hb1 hb2⟩
end Go.Proofs.YtmnjafceenckpaaDoor
namespace Go.Proofs.YtmnjafceenckpaaDoor
open Go.RowKit
theorem inb_self (v x : Int) : inb v x x = true ↔ v = x := by
  unfold inb; simp; omega
theorem find_some_lt {p : Nat → Bool} {n j : Nat} (h : (List.range n).find? p = some j) : j < n ∧ p j = true := by
  have h1 := List.mem_of_find?_eq_some h
  exact ⟨by simpa using h1, List.find?_some h⟩
theorem look_keys : ∀ j : Fin 51, skelR (lks.getD (2 * j.val) 0) = skel (lks.getD (2 * j.val) 0) ∧ skel (lks.getD (2 * j.val) 0) ≠ lks.getD (2 * j.val) 0 := by decide +kernel
theorem look_keys2 : ∀ j : Fin 51, skelR (lSk.getD j.val 0) = skel (lSk.getD j.val 0) := by decide +kernel
/-- Both tables tell the same looks. -/
theorem skel_eq (v : Int) : skelR v = skel v := by
  cases h1 : (List.range 51).find? (hitL v) with
  | some j =>
    have ⟨hj, hp⟩ := find_some_lt h1
    have e : v = lks.getD (2 * j) 0 := (inb_self v _).1 hp
    rw [e]; exact (look_keys ⟨j, hj⟩).1
  | none =>
    cases h2 : (List.range 51).find? (hitS v) with
    | some j =>
      have ⟨hj, hp⟩ := find_some_lt h2
      have e : v = lSk.getD j 0 := by unfold hitS at hp; simpa using (beq_iff_eq.1 hp).symm
      rw [e]; exact look_keys2 ⟨j, hj⟩
    | none => unfold skelR skel; rw [h1, h2]
/-- Is it a look-alike? -/
def isL (v : Int) : Bool := (List.range 51).any (hitL v)
theorem isL_iff (v : Int) : isL v = true ↔ skel v ≠ v := by
  cases h1 : (List.range 51).find? (hitL v) with
  | some j =>
    have ⟨hj, hp⟩ := find_some_lt h1
    have e : v = lks.getD (2 * j) 0 := (inb_self v _).1 hp
    have hk := (look_keys ⟨j, hj⟩).2
    constructor
    · intro _; rw [e]; exact hk
    · intro _; unfold isL; rw [List.any_eq_true]; exact ⟨j, by simpa using hj, hp⟩
  | none =>
    have hn : skel v = v := by unfold skel; rw [h1]
    have : isL v = false := by
      unfold isL; rw [List.any_eq_false]
      rw [List.find?_eq_none] at h1; exact h1
    rw [this, hn]; simp
def toldP (v : Int) : Int := match (List.range 53).find? (hitR v) with | some j => rng.getD (3 * j) 0 | none => if isL v then 3 else 1
def oddP (v : Int) : Int := if wthn lSpace v then 10 else if wthn lZero v then 8 else if wthn lBidi v then 7 else if wthn lMark v then 9 else if wthn lOther v then 11 else 0
def clsP (v : Int) : Int := if 0 < oddP v then oddP v else if isL v then 3 else if wthn lWide v then 2 else 1
theorem told_toldP (v : Int) : told v = toldP v := by
  unfold told toldP
  cases (List.range 53).find? (hitR v) with
  | some j => rfl
  | none =>
    show (if skel v = v then (1 : Int) else 3) = if isL v then 3 else 1
    by_cases h : skel v = v
    · rw [if_pos h]
      have : isL v = false := by
        cases hl : isL v with
        | false => rfl
        | true => exact absurd h ((isL_iff v).1 hl)
      rw [this]; rfl
    · rw [if_neg h, (isL_iff v).2 h]; rfl
/-- Where a test may turn. -/
def brk : List Int := 160 :: ((List.range 53).flatMap fun j => [rng.getD (3 * j + 1) 0, rng.getD (3 * j + 2) 0 + 1]) ++ ((List.range 51).flatMap fun j => [lks.getD (2 * j) 0, lks.getD (2 * j) 0 + 1]) ++
  ([lSpace, lZero, lBidi, lMark, lOther, lWide].flatMap fun l => (List.range (l.length / 2)).flatMap fun j => [l.getD (2 * j) 0, l.getD (2 * j + 1) 0 + 1])
theorem floor_ex (v : Int) : ∀ B : List Int, (∃ b ∈ B, b ≤ v) → ∃ p ∈ B, p ≤ v ∧ ∀ b ∈ B, b ≤ v → b ≤ p := by
  intro B
  induction B with
  | nil => rintro ⟨b, hb, _⟩; cases hb
  | cons a B ih =>
    rintro ⟨b, hb, hv⟩
    by_cases hB : ∃ b ∈ B, b ≤ v
    · obtain ⟨p, hp, hpv, hmax⟩ := ih hB
      by_cases ha : a ≤ v ∧ p ≤ a
      · exact ⟨a, List.mem_cons_self .., ha.1, fun c hc hcv => by
          rcases List.mem_cons.1 hc with rfl | hc
          · exact Int.le_refl _
          · exact Int.le_trans (hmax c hc hcv) ha.2⟩
      · exact ⟨p, List.mem_cons_of_mem _ hp, hpv, fun c hc hcv => by
          rcases List.mem_cons.1 hc with rfl | hc
          · omega
          · exact hmax c hc hcv⟩
    · rcases List.mem_cons.1 hb with rfl | hb
      · exact ⟨b, List.mem_cons_self .., hv, fun c hc hcv => by
          rcases List.mem_cons.1 hc with rfl | hc
          · exact Int.le_refl _
          · exact absurd ⟨c, hc, hcv⟩ hB⟩
      · exact absurd ⟨b, hb, hv⟩ hB
theorem inb_floor {v p x y : Int} {B : List Int} (hp : p ≤ v) (hm : ∀ b ∈ B, b ≤ v → b ≤ p) (hx : x ∈ B) (hy : y + 1 ∈ B) : inb v x y = inb p x y := by
  have h1 := hm x hx; have h2 := hm (y + 1) hy
  unfold inb
  have e1 : decide (x ≤ v) = decide (x ≤ p) := by rw [Bool.eq_iff_iff]; simp; omega
  have e2 : decide (v ≤ y) = decide (p ≤ y) := by rw [Bool.eq_iff_iff]; simp; omega
  rw [e1, e2]
theorem brk_R : ∀ j : Fin 53, rng.getD (3 * j.val + 1) 0 ∈ brk ∧ rng.getD (3 * j.val + 2) 0 + 1 ∈ brk := by decide +kernel
theorem brk_L : ∀ j : Fin 51, lks.getD (2 * j.val) 0 ∈ brk ∧ lks.getD (2 * j.val) 0 + 1 ∈ brk := by decide +kernel
def brkW (l : List Int) : Bool := (List.range (l.length / 2)).all fun j => decide (l.getD (2 * j) 0 ∈ brk ∧ l.getD (2 * j + 1) 0 + 1 ∈ brk)
theorem brk_W : ∀ l ∈ [lSpace, lZero, lBidi, lMark, lOther, lWide], brkW l = true := by decide +kernel
theorem find_congr {p q : Nat → Bool} : ∀ {l : List Nat}, (∀ j ∈ l, p j = q j) → l.find? p = l.find? q
  | [], _ => rfl
  | a :: l, h => by
    rw [List.find?_cons, List.find?_cons, h a (List.mem_cons_self ..), find_congr fun j hj => h j (List.mem_cons_of_mem _ hj)]
theorem any_congr {p q : Nat → Bool} : ∀ {l : List Nat}, (∀ j ∈ l, p j = q j) → l.any p = l.any q
  | [], _ => rfl
  | a :: l, h => by
    rw [List.any_cons, List.any_cons, h a (List.mem_cons_self ..), any_congr fun j hj => h j (List.mem_cons_of_mem _ hj)]
theorem cls_points : ∀ p ∈ brk, 160 ≤ p → p ≤ 1114111 → toldP p = clsP p := by decide +kernel
theorem told_cls (v : Int) (h0 : 160 ≤ v) (h1 : v ≤ 1114111) : told v = clsP v := by
  obtain ⟨p, hpB, hpv, hm⟩ := floor_ex v brk ⟨160, by decide +kernel, h0⟩
  have hp0 : 160 ≤ p := hm 160 (by decide +kernel) h0
  have eR : ∀ j, j < 53 → hitR v j = hitR p j := fun j hj => inb_floor hpv hm (brk_R ⟨j, hj⟩).1 (brk_R ⟨j, hj⟩).2
  have eL : ∀ j, j < 51 → hitL v j = hitL p j := fun j hj => inb_floor hpv hm (brk_L ⟨j, hj⟩).1 (brk_L ⟨j, hj⟩).2
  have eW : ∀ l ∈ [lSpace, lZero, lBidi, lMark, lOther, lWide], wthn l v = wthn l p := fun l hl => by
    have hw := brk_W l hl
    unfold brkW at hw
    rw [List.all_eq_true] at hw
    unfold wthn
    exact any_congr fun j hj => by
      have := of_decide_eq_true (hw j hj)
      exact inb_floor hpv hm this.1 this.2
  have eI : isL v = isL p := any_congr fun j hj => eL j (by simpa using hj)
  have eT : toldP v = toldP p := by
    unfold toldP
    rw [find_congr (p := hitR v) (q := hitR p) fun j hj => eR j (by simpa using hj), eI]
  have eO : oddP v = oddP p := by
    unfold oddP
    rw [eW lSpace (by simp), eW lZero (by simp), eW lBidi (by simp), eW lMark (by simp), eW lOther (by simp)]
  have eC : clsP v = clsP p := by
    unfold clsP
    rw [eO, eI, eW lWide (by simp)]
  rw [told_toldP, eT, eC]
  exact cls_points p hpB hp0 (by omega)
theorem wthn_low {l : List Int} {v : Int} (hl : (List.range (l.length / 2)).all (fun j => decide (160 ≤ l.getD (2 * j) 0)) = true) (h : v < 160) : wthn l v = false := by
  refine wthn_no fun j hj => ?_
  rw [List.all_eq_true] at hl
  have := of_decide_eq_true (hl j (by simpa using hj))
  unfold hitW inb
  rw [decide_eq_false (by omega)]; rfl
theorem skelR_low {v : Int} (h : v < 160) : skelR v = v := by
  have hn : ∀ j, j < 51 → hitS v j = false := fun j hj => by
    have key : ∀ j : Fin 51, 160 ≤ lSk.getD j.val 0 := by decide +kernel
    have := key ⟨j, hj⟩
    unfold hitS
    rw [beq_eq_false_iff_ne]; intro h2; simp only at this; omega
  unfold skelR; rw [find_none hn]
theorem cls_small (v : Int) (h0 : 0 ≤ v) (h : v < 160) : cls v = clsR v := by
  have e : rght v = true := by
    rcases rght_cases v with h2 | h2
    · exact h2.1
    · omega
  have hR : clsR v = if 1114111 < v then 12 else if 0 < oddR v then oddR v else if skelR v ≠ v then 3 else if wthn lWide v then 2 else 1 := by unfold clsR; rw [e, if_neg (show ¬ (true = false) by decide)]
  have hL : cls v = if 1114112 ≤ v then 12 else if v < 32 then 4 else if v = 127 then 5 else if 128 ≤ v ∧ v < 160 then 6 else if v < 160 then 1 else told v := by unfold cls; rw [e, if_neg (show ¬ (true = false) by decide)]
  have w1 := wthn_low (l := lSpace) (by decide +kernel) h
  have w2 := wthn_low (l := lZero) (by decide +kernel) h
  have w3 := wthn_low (l := lBidi) (by decide +kernel) h
  have w4 := wthn_low (l := lMark) (by decide +kernel) h
  have w5 := wthn_low (l := lOther) (by decide +kernel) h
  have w6 := wthn_low (l := lWide) (by decide +kernel) h
  have ho : oddR v = if v ≤ 31 then 4 else if v = 127 then 5 else if 128 ≤ v ∧ v ≤ 159 then 6 else 0 := by unfold oddR; rw [w1, w2, w3, w4, w5]; simp only [Bool.false_eq_true, if_false]
  rw [hR, hL, ho, skelR_low h, w6, if_neg (show ¬ 1114112 ≤ v by omega), if_neg (show ¬ 1114111 < v by omega)]
  rcases (show v < 32 ∨ v = 127 ∨ (128 ≤ v ∧ v < 160) ∨ (32 ≤ v ∧ v < 127) by omega) with c | c | c | c
  · rw [if_pos c, if_pos (show v ≤ 31 by omega)]; simp
  · subst c; simp
  · rw [if_neg (show ¬ v < 32 by omega), if_neg (show ¬ v = 127 by omega), if_pos (show 128 ≤ v ∧ v < 160 by omega), if_neg (show ¬ v ≤ 31 by omega), if_neg (show ¬ v = 127 by omega), if_pos (show 128 ≤ v ∧ v ≤ 159 by omega)]; simp
  · rw [if_neg (show ¬ v < 32 by omega), if_neg (show ¬ v = 127 by omega), if_neg (show ¬ (128 ≤ v ∧ v < 160) by omega), if_pos h, if_neg (show ¬ v ≤ 31 by omega), if_neg (show ¬ v = 127 by omega), if_neg (show ¬ (128 ≤ v ∧ v ≤ 159) by omega)]; simp
/-- Both tell the same class of every value. -/
theorem cls_eq (v : Int) : cls v = clsR v := by
  rcases rght_cases v with ⟨e, h⟩ | ⟨e, h⟩
  · by_cases h1 : v < 160
    · exact cls_small v (by omega) h1
    · have hR : clsR v = if 1114111 < v then 12 else if 0 < oddR v then oddR v else if skelR v ≠ v then 3 else if wthn lWide v then 2 else 1 := by unfold clsR; rw [e, if_neg (show ¬ (true = false) by decide)]
      have hL : cls v = if 1114112 ≤ v then 12 else if v < 32 then 4 else if v = 127 then 5 else if 128 ≤ v ∧ v < 160 then 6 else if v < 160 then 1 else told v := by unfold cls; rw [e, if_neg (show ¬ (true = false) by decide)]
      by_cases h2 : 1114111 < v
      · rw [hR, hL, if_pos (by omega), if_pos h2]
      · have ho : oddR v = oddP v := by unfold oddR oddP; rw [if_neg (by omega), if_neg (by omega), if_neg (by omega)]
        rw [hR, hL, if_neg (by omega), if_neg (by omega), if_neg (by omega), if_neg (by omega), if_neg (by omega), told_cls v (by omega) (by omega), if_neg h2, ho, skel_eq]
        unfold clsP
        by_cases h3 : skel v = v
        · have : isL v = false := by
            cases hl : isL v with
            | false => rfl
            | true => exact absurd h3 ((isL_iff v).1 hl)
          rw [this, if_neg (show ¬ skel v ≠ v by simpa using h3), if_neg (show ¬ (false = true) by decide)]
        · rw [(isL_iff v).2 h3, if_pos (show skel v ≠ v from h3), if_pos rfl]
  · unfold cls clsR; rw [e, if_pos rfl, if_pos rfl]
theorem wid_eq (v : Int) : wid v = widR v := by unfold wid widR; rw [cls_eq]
end Go.Proofs.YtmnjafceenckpaaDoor
set_option linter.unusedVariables false
set_option linter.unusedSimpArgs false
namespace Go.Proofs.YtmnjafceenckpaaDoor
open Go.RowKit
/-- One more of v's class. -/
def bump (f : Int → Int) (L : List Int) (v : Int) : List Int := L.set (f v).toNat (L.getD (f v).toNat 0 + 1)
def zer : List Int := List.replicate 13 0
/-- How many there are of each class. -/
def cnts (f : Int → Int) (l : List Int) : List Int := l.foldl (bump f) zer
theorem cnts_snoc (f : Int → Int) (l : List Int) (v : Int) : cnts f (l ++ [v]) = bump f (cnts f l) v := by simp [cnts]
theorem cnts_take (f : Int → Int) (l : List Int) (k : Nat) (h : k < l.length) : cnts f (l.take (k + 1)) = bump f (cnts f (l.take k)) (l.getD k 0) := by
  rw [List.take_succ_eq_append_getElem h, cnts_snoc, List.getD, List.getElem?_eq_getElem h]; rfl
theorem getD_set (L : List Int) (i j : Nat) (x : Int) : (L.set i x).getD j 0 = if i = j ∧ i < L.length then x else L.getD j 0 := by
  rw [List.getD, List.getD, List.getElem?_set]
  by_cases h : i = j
  · subst h
    by_cases h2 : i < L.length
    · simp [h2]
    · simp [h2]
  · simp [h]
theorem bump_le (f : Int → Int) (L : List Int) (v n : Int) (hn : 0 ≤ n) (h : L.length = 13 ∧ ∀ j, 0 ≤ L.getD j 0 ∧ L.getD j 0 ≤ n) : (bump f L v).length = 13 ∧ ∀ j, 0 ≤ (bump f L v).getD j 0 ∧ (bump f L v).getD j 0 ≤ n + 1 := by
  unfold bump
  refine ⟨by simp [h.1], fun j => ?_⟩
  rw [getD_set]
  have h1 := h.2 j; have h2 := h.2 (f v).toNat
  split <;> omega
theorem cnts_le (f : Int → Int) (l : List Int) : ∀ k, k ≤ l.length → (cnts f (l.take k)).length = 13 ∧ ∀ j, 0 ≤ (cnts f (l.take k)).getD j 0 ∧ (cnts f (l.take k)).getD j 0 ≤ k := by
  intro k
  induction k with
  | zero => intro _; refine ⟨rfl, fun j => ?_⟩
            have : cnts f (l.take 0) = zer := rfl
            rw [this]
            have : zer.getD j 0 = 0 := by
              unfold zer; rw [List.getD, List.getElem?_replicate]; split <;> rfl
            rw [this]; exact ⟨by omega, by omega⟩
  | succ k ih =>
    intro hk
    rw [cnts_take f l k hk]
    have := bump_le f _ (l.getD k 0) k (by omega) (ih (by omega))
    exact ⟨this.1, fun j => by have := this.2 j; omega⟩
theorem iRow_zer : iRow zer = #[.int .i64 0, .int .i64 0, .int .i64 0, .int .i64 0, .int .i64 0, .int .i64 0, .int .i64 0, .int .i64 0, .int .i64 0, .int .i64 0, .int .i64 0, .int .i64 0, .int .i64 0] := rfl
theorem below_setRow (w : World) (g : Nat) (cs : Array Value) : Below g w (w.setRow g cs) :=
  ⟨rfl, rfl, rfl, by simp, fun k hk => setRow_other _ _ _ _ (by omega)⟩
end Go.Proofs.YtmnjafceenckpaaDoor
set_option linter.unusedVariables false
set_option linter.unusedSimpArgs false
namespace Go.Proofs.YtmnjafceenckpaaDoor
open Go.RowKit Go.Sort
/-- Do they look alike? -/
def alk (x y : List Int) : Bool := x.length == y.length && (List.range x.length).all fun i => skel (x.getD i 0) == skel (y.getD i 0)
theorem alk_no {x y : List Int} {k : Nat} (hk : k < x.length) (h : (skel (x.getD k 0) != skel (y.getD k 0)) = true) : alk x y = false := by
  unfold alk
  have : ((List.range x.length).all fun i => skel (x.getD i 0) == skel (y.getD i 0)) = false := by
    rw [List.all_eq_false]; exact ⟨k, by simpa using hk, by simpa using h⟩
  rw [this, Bool.and_false]
theorem alk_yes {x y : List Int} (hl : x.length = y.length) (h : ∀ j, j < x.length → (skel (x.getD j 0) != skel (y.getD j 0)) = false) : alk x y = true := by
  unfold alk
  rw [Bool.and_eq_true]
  refine ⟨by simpa using hl, ?_⟩
  rw [List.all_eq_true]
  intro j hj
  have := h j (by simpa using hj)
  simpa using this
end Go.Proofs.YtmnjafceenckpaaDoor
set_option linter.unusedVariables false
set_option linter.unusedSimpArgs false
namespace Go.Proofs.YtmnjafceenckpaaDoor
open Go.RowKit
theorem cnt_awake : cnts cls [97, 19968, 8238, 7, -1] = [1, 1, 1, 0, 1, 0, 0, 1, 0, 0, 0, 0, 0] := by decide +kernel
theorem awake_facts : cls 97 = 1 ∧ cls 1072 = 3 ∧ skel 1072 = 97 ∧ wid 19968 = 2 ∧ dng 8203 = true ∧ dng 97 = false ∧ alk [1072] [97] = true := by decide +kernel
/-- The tables, and awake's counts at block B. -/
structure Awk (w : World) (B : Nat) : Prop where
  t : Tabs w
  b : B < w.heap.size
  c0 : w.cell? ⟨B, 0, none⟩ = some (.int .i64 1)
  c1 : w.cell? ⟨B, 1, none⟩ = some (.int .i64 1)
  c2 : w.cell? ⟨B, 2, none⟩ = some (.int .i64 1)
  c4 : w.cell? ⟨B, 4, none⟩ = some (.int .i64 1)
  c7 : w.cell? ⟨B, 7, none⟩ = some (.int .i64 1)
theorem Awk.below {w w' : World} {B : Nat} (h : Awk w B) (hb : Below w.heap.size w w') : Awk w' B :=
  ⟨h.t.below hb, Nat.lt_of_lt_of_le h.b hb.size, (hb.cell (p := ⟨B, 0, none⟩) h.b).trans h.c0, (hb.cell (p := ⟨B, 1, none⟩) h.b).trans h.c1, (hb.cell (p := ⟨B, 2, none⟩) h.b).trans h.c2, (hb.cell (p := ⟨B, 4, none⟩) h.b).trans h.c4, (hb.cell (p := ⟨B, 7, none⟩) h.b).trans h.c7⟩
theorem Awk.alloc {w : World} {B : Nat} (h : Awk w B) (o : Obj) : Awk (w.alloc o) B := h.below (below_alloc _ _)
end Go.Proofs.YtmnjafceenckpaaDoor
namespace Go.Proofs.YtmnjafceenckpaaDoor
open Go.RowKit
theorem look_idem_keys : ∀ j : Fin 51, skel (lks.getD (2 * j.val + 1) 0) = lks.getD (2 * j.val + 1) 0 ∧ cls (lks.getD (2 * j.val + 1) 0) = 1 := by decide +kernel
theorem skel_idem (v : Int) : skel (skel v) = skel v ∧ (skel v ≠ v → cls (skel v) = 1) := by
  cases h1 : (List.range 51).find? (hitL v) with
  | some j =>
    have ⟨hj, hp⟩ := find_some_lt h1
    have e : skel v = lks.getD (2 * j + 1) 0 := by unfold skel; rw [h1]
    have hk := look_idem_keys ⟨j, hj⟩
    rw [e]; exact ⟨hk.1, fun _ => hk.2⟩
  | none =>
    have e : skel v = v := by unfold skel; rw [h1]
    rw [e]; exact ⟨e, fun h => absurd rfl h⟩
end Go.Proofs.YtmnjafceenckpaaDoor
