/-
  Joined: C2 C3 C4 C5 W9 W10.
-/
import Derived.Test.YtmnjafceenckpaaDoorJQ01
import Derived.Test.YtmnjafceenckpaaDoorJQ02
import Derived.Test.YtmnjafceenckpaaDoorJQ03
set_option maxRecDepth 100000
set_option linter.unusedVariables false
set_option linter.unusedSimpArgs false
namespace Go.Proofs.YtmnjafceenckpaaDoor
set_option linter.unusedVariables false
set_option linter.unusedSimpArgs false
open Go.RowKit
theorem Tabs.drewN {w : World} (h : Tabs w) (n : Nat) : Tabs (w.drewN n) := ⟨h.r, h.l, h.s, h.s2⟩
set_option maxRecDepth 100000 in
set_option maxHeartbeats 800000 in
theorem told_any (v : Int) (w : World) (hT : Tabs w) : Calls Tryd.prog 46 #[.int .i64 v] w fun e w' => e = .returned (.int .i64 (told v)) ∧ Below w.heap.size w w' := by
  have HT := Lib.hid hT; clear hT
  go_enter Tryd.func46, Tryd.ntmps46
  go_wp2_with (go_at_call 70; refine (finder_any _ _).mono ?_; rintro e w' ⟨rfl, rfl⟩)
  go_loopw [4] (fun i wr => ∃ (k n : Nat), k ≤ 53 ∧ i = .int .i64 ((3 * k : Nat) : Int) ∧ Hid (∀ j, j < k → hitR v j = false) ∧ wr = (w.alloc (.cells #[.int .i64 v] 3)).drewN n) (fun i _ => 159 - (intOf i).toNat)
  case atStart => exact ⟨0, 0, by omega, rfl, Lib.hid (by intro j hj; omega), rfl⟩
  case round =>
    obtain ⟨k, n, hk, rfl, hno, rfl⟩ := hrel
    by_cases hlt : k < 53
    · have hT2 : Tabs (w.alloc (.cells #[.int .i64 v] 3)) := HT.out.alloc _
      have c0 := hT2.r (3 * k) (by omega)
      have c1 := hT2.r (3 * k + 1) (by omega)
      have c2 := hT2.r (3 * k + 2) (by omega)
      have hp : (w.alloc (.cells #[.int .i64 v] 3)).cell? ⟨w.heap.size, 0, none⟩ = some (.int .i64 v) := by rw [World.cell?_alloc_new]; rfl
      have r0 := rng_rng (3 * k)
      have r1 := rng_rng (3 * k + 1)
      have r2 := rng_rng (3 * k + 2)
      have hh : hitR v k = inb v (rng.getD (3 * k + 1) 0) (rng.getD (3 * k + 2) 0) := rfl
      have hs : hitR v k = true → told v = rng.getD (3 * k) 0 := fun h => by unfold told; rw [find_first hlt h hno.out]
      generalize rng.getD (3 * k) 0 = x at *
      generalize rng.getD (3 * k + 1) 0 = y at *
      generalize rng.getD (3 * k + 2) 0 = z at *
      rw [hh] at hs
      have Hs := Lib.hid hs; have Hh := Lib.hid hh; clear hs hh hT2
      have hin := fun n => in_any v y z w.heap.size ((w.alloc (.cells #[.int .i64 v] 3)).drewN n) hp r1.1 r1.2 r2.1 r2.2
      have Hin := Lib.hid hin; clear hin
      have hk1 : 3 * k < 157 := by omega
      have hm : 3 * (k + 1) = 3 * k + 3 := by omega
      generalize 3 * k = m at *
      have Hm := Lib.hid hm; clear hm
      cases hb : inb v y z
      · rw [hb] at Hin Hh
        clear hb
        go_wp2
        go_quiet ((go_at_call 77; exact qsame (Hin.out _)))
        go_wp2
        go_roundw
        case rel => exact ⟨k + 1, _, by omega, by rw [Hm.out]; go_num, Lib.hid (by intro j hj; rcases Nat.lt_succ_iff_lt_or_eq.1 hj with h | rfl; exact hno.out j h; exact Hh.out), rfl⟩
        case measure => simp [intOf]; omega
      · rw [hb] at Hin
        have hsk := Hs.out hb
        have Hsk := Lib.hid hsk
        clear hb hsk
        go_wp2
        go_quiet ((go_at_call 77; exact qsame (Hin.out _)))
        go_wp2
        go_ret
        rw [Hsk.out]
        exact ⟨rfl, drewN_below (below_alloc _ _) _⟩
    · obtain rfl : k = 53 := by omega
      have ht : told v = if skel v = v then 1 else 3 := by unfold told; rw [find_none hno.out]
      have hS : Tabs ((w.alloc (.cells #[.int .i64 v] 3)).drewN n) := (HT.out.alloc _).drewN _
      have hsk := skel_any v _ hS
      clear hlt
      by_cases he : skel v = v
      · have Ht : Hid (told v = 1) := Lib.hid (by rw [ht, if_pos he])
        have hb : (skel v != v) = false := by rw [he]; simp
        clear ht he hS
        generalize skel v = x at *
        have Hsk := Lib.hid hsk; clear hsk
        go_wp2_with (go_at_call 71; refine Hsk.out.mono ?_; rintro e w1 ⟨rfl, hb1⟩)
        go_ret
        rw [Ht.out]
        exact ⟨rfl, seqB (drewN_below (below_alloc _ _) _) hb1⟩
      · have Ht : Hid (told v = 3) := Lib.hid (by rw [ht, if_neg he])
        have hb : (skel v != v) = true := by simpa using he
        clear ht he hS
        generalize skel v = x at *
        have Hsk := Lib.hid hsk; clear hsk
        go_wp2_with (go_at_call 71; refine Hsk.out.mono ?_; rintro e w1 ⟨rfl, hb1⟩)
        go_ret
        rw [Ht.out]
        exact ⟨rfl, seqB (drewN_below (below_alloc _ _) _) hb1⟩
end Go.Proofs.YtmnjafceenckpaaDoor
namespace Go.Proofs.YtmnjafceenckpaaDoor
open Go.RowKit
theorem ret_bool {a b : Bool} (h : a = b) : Ending.returned (.bool a) = .returned (.bool b) := by rw [h]
theorem cpoint_any (v : Int) (w : World) : Calls Tryd.prog 68 #[.int .i64 v] w fun e w' => e = .returned (.bool (pnt v)) ∧ w = w' := by
  rcases pnt_cases v with ⟨e, h | h⟩ | ⟨e, h | h | h⟩
  all_goals
    rw [e]; clear e
    go_enter Tryd.func68, Tryd.ntmps68
    go_wp2
    all_goals
      go_ret
      first | exact ⟨rfl, rfl⟩ | exact ⟨ret_bool (by simp; omega), rfl⟩
theorem cstray_any (v : Int) (w : World) : Calls Tryd.prog 69 #[.int .i64 v] w fun e w' => e = .returned (.bool (stry v)) ∧ w = w' := by
  rcases stry_cases v with ⟨e, h, h'⟩ | ⟨e, h | h⟩
  all_goals
    rw [e]; clear e
    go_enter Tryd.func69, Tryd.ntmps69
    go_wp2
    all_goals
      go_ret
      first | exact ⟨rfl, rfl⟩ | exact ⟨ret_bool (by simp; omega), rfl⟩
theorem cright_any (v : Int) (w : World) : Calls Tryd.prog 45 #[.int .i64 v] w fun e w' => e = .returned (.bool (rght v)) ∧ w = w' := by
  have hp := fun w => cpoint_any v w
  have hs := fun w => cstray_any v w
  have hr : rght v = (pnt v || stry v) := rfl
  rw [hr]; clear hr
  generalize pnt v = a at *
  generalize stry v = b at *
  have Hp := Lib.hid hp; have Hs := Lib.hid hs; clear hp hs
  cases a <;> cases b
  all_goals
    go_enter Tryd.func45, Tryd.ntmps45
    go_wp2_with (first | (go_at_call 68; refine (Hp.out _).mono ?_; rintro e w' ⟨rfl, rfl⟩) | (go_at_call 69; refine (Hs.out _).mono ?_; rintro e w' ⟨rfl, rfl⟩))
    go_ret
    exact ⟨rfl, rfl⟩
theorem rght_cases (v : Int) : (rght v = true ∧ (0 ≤ v ∧ v < 55296 ∨ 57343 < v ∧ v ≤ 1114111 ∨ 1114240 ≤ v ∧ v ≤ 1114367)) ∨ (rght v = false ∧ (v < 0 ∨ 55296 ≤ v ∧ v ≤ 57343 ∨ 1114111 < v ∧ v < 1114240 ∨ 1114367 < v)) := by
  unfold rght
  rcases pnt_cases v with ⟨e, h⟩ | ⟨e, h⟩ <;> rcases stry_cases v with ⟨e2, h2⟩ | ⟨e2, h2⟩ <;> rw [e, e2] <;> simp <;> omega
set_option maxHeartbeats 800000 in
theorem of_any (v : Int) (w : World) (hT : Tabs w) : Calls Tryd.prog 31 #[.int .i64 v] w fun e w' => e = .returned (.int .i64 (cls v)) ∧ Below w.heap.size w w' := by
  have hr := fun w => cright_any v w
  have ht := fun w h => told_any v w h
  have HT := Lib.hid hT; clear hT
  rcases rght_cases v with ⟨e, h⟩ | ⟨e, h⟩
  · rw [e] at hr
    have Hr := Lib.hid hr; clear hr
    rcases (show 1114112 ≤ v ∨ (0 ≤ v ∧ v < 32) ∨ v = 127 ∨ (128 ≤ v ∧ v < 160) ∨ (32 ≤ v ∧ v < 127) ∨ (160 ≤ v ∧ v < 1114112) by omega) with c | ⟨c, c2⟩ | rfl | ⟨c, c2⟩ | ⟨c, c2⟩ | ⟨c, c2⟩
    · have Hc : Hid (cls v = 12) := Lib.hid (by unfold cls; rw [e, if_neg (by simp), if_pos c])
      clear e h ht
      go_enter Tryd.func31, Tryd.ntmps31
      go_wp2_with (go_at_call 45; refine (Hr.out _).mono ?_; rintro e w' ⟨rfl, rfl⟩)
      go_ret
      rw [Hc.out]; exact ⟨rfl, Below.refl _ _⟩
    · have Hc : Hid (cls v = 4) := Lib.hid (by unfold cls; rw [e, if_neg (by simp), if_neg (by omega), if_pos (by omega)])
      clear e h ht
      go_enter Tryd.func31, Tryd.ntmps31
      go_wp2_with (go_at_call 45; refine (Hr.out _).mono ?_; rintro e w' ⟨rfl, rfl⟩)
      go_ret
      rw [Hc.out]; exact ⟨rfl, Below.refl _ _⟩
    · have Hc : Hid (cls 127 = 5) := Lib.hid (by unfold cls; rw [e, if_neg (by simp), if_neg (by omega), if_neg (by omega), if_pos rfl])
      clear e h ht
      go_enter Tryd.func31, Tryd.ntmps31
      go_wp2_with (go_at_call 45; refine (Hr.out _).mono ?_; rintro e w' ⟨rfl, rfl⟩)
      go_ret
      rw [Hc.out]; exact ⟨rfl, Below.refl _ _⟩
    · have Hc : Hid (cls v = 6) := Lib.hid (by unfold cls; rw [e, if_neg (by simp), if_neg (by omega), if_neg (by omega), if_neg (by omega), if_pos (by omega)])
      have h7 : (v == 127) = false := by rw [beq_eq_false_iff_ne]; omega
      clear e h ht
      go_enter Tryd.func31, Tryd.ntmps31
      go_wp2_with (go_at_call 45; refine (Hr.out _).mono ?_; rintro e w' ⟨rfl, rfl⟩)
      go_ret
      rw [Hc.out]; exact ⟨rfl, Below.refl _ _⟩
    · have Hc : Hid (cls v = 1) := Lib.hid (by unfold cls; rw [e, if_neg (by simp), if_neg (by omega), if_neg (by omega), if_neg (by omega), if_neg (by omega), if_pos (by omega)])
      have h7 : (v == 127) = false := by rw [beq_eq_false_iff_ne]; omega
      clear e h ht
      go_enter Tryd.func31, Tryd.ntmps31
      go_wp2_with (go_at_call 45; refine (Hr.out _).mono ?_; rintro e w' ⟨rfl, rfl⟩)
      go_ret
      rw [Hc.out]; exact ⟨rfl, Below.refl _ _⟩
    · have Hc : Hid (cls v = told v) := Lib.hid (by unfold cls; rw [e, if_neg (by simp), if_neg (by omega), if_neg (by omega), if_neg (by omega), if_neg (by omega), if_neg (by omega)])
      have h7 : (v == 127) = false := by rw [beq_eq_false_iff_ne]; omega
      have Ht := Lib.hid ht
      clear e h ht
      go_enter Tryd.func31, Tryd.ntmps31
      go_wp2_with (first | (go_at_call 45; refine (Hr.out _).mono ?_; rintro e w' ⟨rfl, rfl⟩) | (go_at_call 46; refine (Ht.out _ HT.out).mono ?_; rintro e w1 ⟨rfl, hb1⟩))
      go_ret
      rw [Hc.out]; exact ⟨rfl, hb1⟩
  · rw [e] at hr
    have Hr := Lib.hid hr; clear hr
    have Hc : Hid (cls v = 0) := Lib.hid (by unfold cls; rw [e, if_pos rfl])
    clear e h ht
    go_enter Tryd.func31, Tryd.ntmps31
    go_wp2_with (go_at_call 45; refine (Hr.out _).mono ?_; rintro e w' ⟨rfl, rfl⟩)
    go_ret
    rw [Hc.out]; exact ⟨rfl, Below.refl _ _⟩
theorem cls_rng (v : Int) : 0 ≤ cls v ∧ cls v ≤ 12 := by
  have ht : 0 ≤ told v ∧ told v ≤ 12 := by
    unfold told
    split
    · rename_i j _
      rcases Nat.lt_or_ge j 53 with h | h
      · have key : ∀ j : Fin 53, 0 ≤ rng.getD (3 * j.val) 0 ∧ rng.getD (3 * j.val) 0 ≤ 12 := by decide +kernel
        exact key ⟨j, h⟩
      · rw [List.getD, List.getElem?_eq_none (show rng.length ≤ 3 * j by show 159 ≤ 3 * j; omega)]; exact ⟨by decide, by decide⟩
    · split <;> omega
  unfold cls
  repeat' split
  all_goals omega
theorem danger_any (v : Int) (w : World) (hT : Tabs w) : Calls Tryd.prog 20 #[.int .i64 v] w fun e w' => e = .returned (.bool (dng v)) ∧ Below w.heap.size w w' := by
  have ho := of_any v w hT
  have hw : dng v = decide (3 < cls v) := rfl
  have hr := cls_rng v
  generalize cls v = c at *
  have Ho := Lib.hid ho; clear ho hT
  rcases (show c = 0 ∨ c = 1 ∨ c = 2 ∨ c = 3 ∨ 3 < c by omega) with rfl | rfl | rfl | rfl | h
  all_goals try
    have Hw : Hid (dng v = false) := Lib.hid (by rw [hw]; rfl)
    clear hw
    go_enter Tryd.func20, Tryd.ntmps20
    go_wp2_with (go_at_call 31; refine Ho.out.mono ?_; rintro e w1 ⟨rfl, hb1⟩)
    go_ret
    rw [Hw.out]; exact ⟨rfl, hb1⟩
  have Hw : Hid (dng v = true) := Lib.hid (by rw [hw, decide_eq_true h])
  have e0 : (c == 0) = false := by rw [beq_eq_false_iff_ne]; omega
  have e1 : (c == 1) = false := by rw [beq_eq_false_iff_ne]; omega
  have e2 : (c == 2) = false := by rw [beq_eq_false_iff_ne]; omega
  have e3 : (c == 3) = false := by rw [beq_eq_false_iff_ne]; omega
  clear hw
  go_enter Tryd.func20, Tryd.ntmps20
  go_wp2_with (go_at_call 31; refine Ho.out.mono ?_; rintro e w1 ⟨rfl, hb1⟩)
  go_ret
  rw [Hw.out]; exact ⟨rfl, hb1⟩
end Go.Proofs.YtmnjafceenckpaaDoor
namespace Go.Proofs.YtmnjafceenckpaaDoor
open Go.RowKit
/-- Is v in one of some ranges: from, to, from, to? -/
def hitW (l : List Int) (v : Int) (j : Nat) : Bool := inb v (l.getD (2 * j) 0) (l.getD (2 * j + 1) 0)
def wthn (l : List Int) (v : Int) : Bool := (List.range (l.length / 2)).any (hitW l v)
theorem wthn_yes {l : List Int} {v : Int} {k : Nat} (hk : k < l.length / 2) (h : hitW l v k = true) : wthn l v = true := by
  unfold wthn; rw [List.any_eq_true]; exact ⟨k, by simpa using hk, h⟩
theorem wthn_no {l : List Int} {v : Int} (h : ∀ j, j < l.length / 2 → hitW l v j = false) : wthn l v = false := by
  unfold wthn; rw [List.any_eq_false]; intro j hj; rw [h j (by simpa using hj)]; simp
set_option maxHeartbeats 800000 in
theorem within_any (v : Int) (l : List Int) (b off cap : Nat) (w : World) (hl : l.length ≤ 1000) (hc : ∀ i, i < l.length → w.cell? ⟨b, off + i, none⟩ = some (.int .i64 (l.getD i 0))) :
    Calls Tryd.prog 55 #[.int .i64 v, .slice (some ⟨b, off, none⟩) l.length cap] w fun e w' => e = .returned (.bool (wthn l v)) ∧ w = w' := by
  have Hc := Lib.hid hc; clear hc
  go_enter Tryd.func55, Tryd.ntmps55
  go_wp2
  go_loop [5] (fun i => ∃ k : Nat, k ≤ l.length / 2 ∧ i = .int .i64 ((2 * k : Nat) : Int) ∧ Hid (∀ j, j < k → hitW l v j = false)) (fun i => l.length + 2 - (intOf i).toNat)
  case atStart => exact ⟨0, by omega, rfl, Lib.hid (by intro j hj; omega)⟩
  case round =>
    obtain ⟨k, hk, rfl, hno⟩ := hrel
    have hlen : l.length = l.length := rfl
    by_cases hlt : k < l.length / 2
    · have c0 := Hc.out (2 * k) (by omega)
      have c1 := Hc.out (2 * k + 1) (by omega)
      have hh : hitW l v k = inb v (l.getD (2 * k) 0) (l.getD (2 * k + 1) 0) := rfl
      have Hy : Hid (hitW l v k = true → wthn l v = true) := Lib.hid (fun h => wthn_yes hlt h)
      have hm : 2 * (k + 1) = 2 * k + 2 := by omega
      have hm1 : 2 * k + 1 < l.length := by omega
      generalize l.getD (2 * k) 0 = x at *
      generalize l.getD (2 * k + 1) 0 = y at *
      have Hk := Lib.hid hlt; clear hlt hk
      generalize 2 * k = m at *
      have Hm := Lib.hid hm; have Hh := Lib.hid hh; clear hm hh hlen
      rcases (show v < x ∨ (x ≤ v ∧ y < v) ∨ (x ≤ v ∧ v ≤ y) by omega) with h | ⟨h, h'⟩ | ⟨h, h'⟩
      · have Hb : Hid (inb v x y = false) := Lib.hid (by unfold inb; rw [decide_eq_false (by omega)]; rfl)
        rw [Hb.out] at Hh
        go_wp2
        go_round
        case rel => exact ⟨k + 1, by have := Hk.out; omega, by rw [Hm.out]; go_num, Lib.hid (by intro j hj; rcases Nat.lt_succ_iff_lt_or_eq.1 hj with h | rfl; exact hno.out j h; exact Hh.out)⟩
        case measure => simp [intOf]; omega
      · have Hb : Hid (inb v x y = false) := Lib.hid (by unfold inb; rw [decide_eq_false (show ¬ v ≤ y by omega), Bool.and_false])
        have hd : decide (v ≤ y) = false := decide_eq_false (by omega)
        rw [Hb.out] at Hh
        go_wp2
        go_round
        case rel => exact ⟨k + 1, by have := Hk.out; omega, by rw [Hm.out]; go_num, Lib.hid (by intro j hj; rcases Nat.lt_succ_iff_lt_or_eq.1 hj with h | rfl; exact hno.out j h; exact Hh.out)⟩
        case measure => simp [intOf]; omega
      · have Hb : Hid (inb v x y = true) := Lib.hid (by unfold inb; rw [decide_eq_true h, decide_eq_true h']; rfl)
        have hd : decide (v ≤ y) = true := decide_eq_true h'
        have Hy2 := Lib.hid (Hy.out (by rw [Hh.out]; exact Hb.out))
        clear Hy
        go_wp2
        go_ret
        rw [Hy2.out]
        exact ⟨rfl, rfl⟩
    · obtain rfl : k = l.length / 2 := by omega
      have Hn : Hid (wthn l v = false) := Lib.hid (wthn_no hno.out)
      have hge : l.length ≤ 2 * (l.length / 2) + 1 := by omega
      have hme : 2 * (l.length / 2) ≤ 1000 := by omega
      clear hlt hk hlen hno
      generalize 2 * (l.length / 2) = m at *
      go_wp2
      go_ret
      rw [Hn.out]
      exact ⟨rfl, rfl⟩
theorem within_new (v : Int) (l : List Int) (w : World) (hl : l.length ≤ 1000) :
    Calls Tryd.prog 55 #[.int .i64 v, .slice (some ⟨w.heap.size, 0, none⟩) l.length l.length] (w.alloc (.cells (l.map (Value.int .i64)).toArray 3)) fun e w' => e = .returned (.bool (wthn l v)) ∧ w.alloc (.cells (l.map (Value.int .i64)).toArray 3) = w' := by
  refine within_any v l w.heap.size 0 l.length _ hl fun i hi => ?_
  rw [World.cell?_alloc_new, Nat.zero_add, List.getElem?_toArray, List.getElem?_map, List.getD, List.getElem?_eq_getElem hi]
  rfl
def lSpace : List Int := [160, 160, 5760, 5760, 8192, 8202, 8232, 8233, 8239, 8239, 8287, 8287, 12288, 12288]
def lZero : List Int := [173, 173, 6155, 6158, 8203, 8205, 8288, 8292, 65279, 65279, 65529, 65531]
def lBidi : List Int := [1564, 1564, 8206, 8207, 8234, 8238, 8294, 8297]
def lMark : List Int := [768, 879, 1155, 1161, 1425, 1469, 1552, 1562, 1611, 1631, 1750, 1756, 6832, 6862, 7616, 7679, 8400, 8432, 12330, 12335, 12441, 12442, 65024, 65039, 65056, 65071]
def lOther : List Int := [57344, 63743, 64976, 65007, 65520, 65528, 65534, 65535, 131070, 131071, 262142, 1114111]
def lWide : List Int := [4352, 4447, 8986, 8987, 11904, 12287, 12289, 12350, 12353, 13311, 13312, 19903, 19968, 42191, 43360, 43391, 44032, 55203, 63744, 64255, 65072, 65135, 65280, 65376, 65504, 65510, 127744, 128591, 128640, 128767, 129280, 129535, 131072, 262141]
def lSk : List Int := [913, 914, 917, 918, 919, 921, 922, 924, 925, 927, 929, 932, 933, 935, 957, 959, 961, 1029, 1030, 1032, 1040, 1042, 1045, 1050, 1052, 1053, 1054, 1056, 1057, 1058, 1061, 1072, 1077, 1086, 1088, 1089, 1091, 1093, 1109, 1110, 1112, 1281, 1307, 1309, 894, 8208, 8722, 8260, 8725, 8228, 8218]
def sSk : List UInt8 := [65, 66, 69, 90, 72, 73, 75, 77, 78, 79, 80, 84, 89, 88, 118, 111, 112, 83, 73, 74, 65, 66, 69, 75, 77, 72, 79, 80, 67, 84, 88, 97, 101, 111, 112, 99, 121, 120, 115, 105, 106, 100, 113, 119, 59, 45, 45, 47, 47, 46, 44]
theorem w_lSpace (v : Int) (w : World) (B : Nat) (hB : w.heap.size = B) : Calls Tryd.prog 55 #[.int .i64 v, .slice (some ⟨B, 0, none⟩) 14 14] (w.alloc (.cells #[.int .i64 160, .int .i64 160, .int .i64 5760, .int .i64 5760, .int .i64 8192, .int .i64 8202, .int .i64 8232, .int .i64 8233, .int .i64 8239, .int .i64 8239, .int .i64 8287, .int .i64 8287, .int .i64 12288, .int .i64 12288] 3)) fun e w' => e = .returned (.bool (wthn lSpace v)) ∧ w.alloc (.cells #[.int .i64 160, .int .i64 160, .int .i64 5760, .int .i64 5760, .int .i64 8192, .int .i64 8202, .int .i64 8232, .int .i64 8233, .int .i64 8239, .int .i64 8239, .int .i64 8287, .int .i64 8287, .int .i64 12288, .int .i64 12288] 3) = w' := hB ▸ within_new v lSpace w (by decide)
theorem w_lZero (v : Int) (w : World) (B : Nat) (hB : w.heap.size = B) : Calls Tryd.prog 55 #[.int .i64 v, .slice (some ⟨B, 0, none⟩) 12 12] (w.alloc (.cells #[.int .i64 173, .int .i64 173, .int .i64 6155, .int .i64 6158, .int .i64 8203, .int .i64 8205, .int .i64 8288, .int .i64 8292, .int .i64 65279, .int .i64 65279, .int .i64 65529, .int .i64 65531] 3)) fun e w' => e = .returned (.bool (wthn lZero v)) ∧ w.alloc (.cells #[.int .i64 173, .int .i64 173, .int .i64 6155, .int .i64 6158, .int .i64 8203, .int .i64 8205, .int .i64 8288, .int .i64 8292, .int .i64 65279, .int .i64 65279, .int .i64 65529, .int .i64 65531] 3) = w' := hB ▸ within_new v lZero w (by decide)
theorem w_lBidi (v : Int) (w : World) (B : Nat) (hB : w.heap.size = B) : Calls Tryd.prog 55 #[.int .i64 v, .slice (some ⟨B, 0, none⟩) 8 8] (w.alloc (.cells #[.int .i64 1564, .int .i64 1564, .int .i64 8206, .int .i64 8207, .int .i64 8234, .int .i64 8238, .int .i64 8294, .int .i64 8297] 3)) fun e w' => e = .returned (.bool (wthn lBidi v)) ∧ w.alloc (.cells #[.int .i64 1564, .int .i64 1564, .int .i64 8206, .int .i64 8207, .int .i64 8234, .int .i64 8238, .int .i64 8294, .int .i64 8297] 3) = w' := hB ▸ within_new v lBidi w (by decide)
theorem w_lMark (v : Int) (w : World) (B : Nat) (hB : w.heap.size = B) : Calls Tryd.prog 55 #[.int .i64 v, .slice (some ⟨B, 0, none⟩) 26 26] (w.alloc (.cells #[.int .i64 768, .int .i64 879, .int .i64 1155, .int .i64 1161, .int .i64 1425, .int .i64 1469, .int .i64 1552, .int .i64 1562, .int .i64 1611, .int .i64 1631, .int .i64 1750, .int .i64 1756, .int .i64 6832, .int .i64 6862, .int .i64 7616, .int .i64 7679, .int .i64 8400, .int .i64 8432, .int .i64 12330, .int .i64 12335, .int .i64 12441, .int .i64 12442, .int .i64 65024, .int .i64 65039, .int .i64 65056, .int .i64 65071] 3)) fun e w' => e = .returned (.bool (wthn lMark v)) ∧ w.alloc (.cells #[.int .i64 768, .int .i64 879, .int .i64 1155, .int .i64 1161, .int .i64 1425, .int .i64 1469, .int .i64 1552, .int .i64 1562, .int .i64 1611, .int .i64 1631, .int .i64 1750, .int .i64 1756, .int .i64 6832, .int .i64 6862, .int .i64 7616, .int .i64 7679, .int .i64 8400, .int .i64 8432, .int .i64 12330, .int .i64 12335, .int .i64 12441, .int .i64 12442, .int .i64 65024, .int .i64 65039, .int .i64 65056, .int .i64 65071] 3) = w' := hB ▸ within_new v lMark w (by decide)
theorem w_lOther (v : Int) (w : World) (B : Nat) (hB : w.heap.size = B) : Calls Tryd.prog 55 #[.int .i64 v, .slice (some ⟨B, 0, none⟩) 12 12] (w.alloc (.cells #[.int .i64 57344, .int .i64 63743, .int .i64 64976, .int .i64 65007, .int .i64 65520, .int .i64 65528, .int .i64 65534, .int .i64 65535, .int .i64 131070, .int .i64 131071, .int .i64 262142, .int .i64 1114111] 3)) fun e w' => e = .returned (.bool (wthn lOther v)) ∧ w.alloc (.cells #[.int .i64 57344, .int .i64 63743, .int .i64 64976, .int .i64 65007, .int .i64 65520, .int .i64 65528, .int .i64 65534, .int .i64 65535, .int .i64 131070, .int .i64 131071, .int .i64 262142, .int .i64 1114111] 3) = w' := hB ▸ within_new v lOther w (by decide)
theorem w_lWide (v : Int) (w : World) (B : Nat) (hB : w.heap.size = B) : Calls Tryd.prog 55 #[.int .i64 v, .slice (some ⟨B, 0, none⟩) 34 34] (w.alloc (.cells #[.int .i64 4352, .int .i64 4447, .int .i64 8986, .int .i64 8987, .int .i64 11904, .int .i64 12287, .int .i64 12289, .int .i64 12350, .int .i64 12353, .int .i64 13311, .int .i64 13312, .int .i64 19903, .int .i64 19968, .int .i64 42191, .int .i64 43360, .int .i64 43391, .int .i64 44032, .int .i64 55203, .int .i64 63744, .int .i64 64255, .int .i64 65072, .int .i64 65135, .int .i64 65280, .int .i64 65376, .int .i64 65504, .int .i64 65510, .int .i64 127744, .int .i64 128591, .int .i64 128640, .int .i64 128767, .int .i64 129280, .int .i64 129535, .int .i64 131072, .int .i64 262141] 3)) fun e w' => e = .returned (.bool (wthn lWide v)) ∧ w.alloc (.cells #[.int .i64 4352, .int .i64 4447, .int .i64 8986, .int .i64 8987, .int .i64 11904, .int .i64 12287, .int .i64 12289, .int .i64 12350, .int .i64 12353, .int .i64 13311, .int .i64 13312, .int .i64 19903, .int .i64 19968, .int .i64 42191, .int .i64 43360, .int .i64 43391, .int .i64 44032, .int .i64 55203, .int .i64 63744, .int .i64 64255, .int .i64 65072, .int .i64 65135, .int .i64 65280, .int .i64 65376, .int .i64 65504, .int .i64 65510, .int .i64 127744, .int .i64 128591, .int .i64 128640, .int .i64 128767, .int .i64 129280, .int .i64 129535, .int .i64 131072, .int .i64 262141] 3) = w' := hB ▸ within_new v lWide w (by decide)
end Go.Proofs.YtmnjafceenckpaaDoor
namespace Go.Proofs.YtmnjafceenckpaaDoor
open Go.RowKit
/-- The reference's: the class of code points that are told; 0: none of these. -/
def oddR (v : Int) : Int := if v ≤ 31 then 4 else if v = 127 then 5 else if 128 ≤ v ∧ v ≤ 159 then 6 else if wthn lSpace v then 10 else if wthn lZero v then 8 else if wthn lBidi v then 7 else if wthn lMark v then 9 else if wthn lOther v then 11 else 0
set_option maxRecDepth 100000 in
set_option maxHeartbeats 4000000 in
theorem odd_any (v : Int) (w : World) : Calls Tryd.prog 53 #[.int .i64 v] w fun e w' => e = .returned (.int .i64 (oddR v)) ∧ Below w.heap.size w w' := by
  rcases (show v ≤ 31 ∨ v = 127 ∨ (128 ≤ v ∧ v ≤ 159) ∨ (31 < v ∧ v < 127) ∨ 159 < v by omega) with h | rfl | ⟨h, h'⟩ | h | h
  · have Hd : Hid (oddR v = 4) := Lib.hid (by unfold oddR; rw [if_pos h])
    go_enter Tryd.func53, Tryd.ntmps53
    go_wp2
    go_ret
    rw [Hd.out]; exact ⟨rfl, Below.refl _ _⟩
  · have Hd : Hid (oddR 127 = 5) := Lib.hid (by unfold oddR; rw [if_neg (by omega), if_pos rfl])
    go_enter Tryd.func53, Tryd.ntmps53
    go_wp2
    go_ret
    rw [Hd.out]; exact ⟨rfl, Below.refl _ _⟩
  · have Hd : Hid (oddR v = 6) := Lib.hid (by unfold oddR; rw [if_neg (by omega), if_neg (by omega), if_pos (by omega)])
    have h7 : (v == 127) = false := by rw [beq_eq_false_iff_ne]; omega
    go_enter Tryd.func53, Tryd.ntmps53
    go_wp2
    go_ret
    rw [Hd.out]; exact ⟨rfl, Below.refl _ _⟩
  all_goals
    have h7 : (v == 127) = false := by rw [beq_eq_false_iff_ne]; omega
    have ho : oddR v = if wthn lSpace v then 10 else if wthn lZero v then 8 else if wthn lBidi v then 7 else if wthn lMark v then 9 else if wthn lOther v then 11 else 0 := by unfold oddR; rw [if_neg (by omega), if_neg (by omega), if_neg (by omega)]
    have w1 := w_lSpace v
    have w2 := w_lZero v
    have w3 := w_lBidi v
    have w4 := w_lMark v
    have w5 := w_lOther v
    generalize wthn lSpace v = b1 at *
    generalize wthn lZero v = b2 at *
    generalize wthn lBidi v = b3 at *
    generalize wthn lMark v = b4 at *
    generalize wthn lOther v = b5 at *
    have W1 := Lib.hid w1; have W2 := Lib.hid w2; have W3 := Lib.hid w3; have W4 := Lib.hid w4; have W5 := Lib.hid w5; have Ho := Lib.hid ho
    clear w1 w2 w3 w4 w5 ho
    cases b1
    case' false => cases b2
    case' false.false => cases b3
    case' false.false.false => cases b4
    case' false.false.false.false => cases b5
    all_goals
      go_enter Tryd.func53, Tryd.ntmps53
      go_wp2_with (first | (go_at_call 55; (with_reducible refine (W1.out _ _ (by simp)).mono ?_); rintro e w' ⟨rfl, rfl⟩) | (go_at_call 55; (with_reducible refine (W2.out _ _ (by simp)).mono ?_); rintro e w' ⟨rfl, rfl⟩) | (go_at_call 55; (with_reducible refine (W3.out _ _ (by simp)).mono ?_); rintro e w' ⟨rfl, rfl⟩) | (go_at_call 55; (with_reducible refine (W4.out _ _ (by simp)).mono ?_); rintro e w' ⟨rfl, rfl⟩) | (go_at_call 55; (with_reducible refine (W5.out _ _ (by simp)).mono ?_); rintro e w' ⟨rfl, rfl⟩))
      go_ret
      rw [Ho.out]
      exact ⟨rfl, by go_grown⟩
end Go.Proofs.YtmnjafceenckpaaDoor
namespace Go.Proofs.YtmnjafceenckpaaDoor
open Go.RowKit
theorem und_range (l : List UInt8) : -9223372036854775808 ≤ undR l ∧ undR l ≤ 9223372036854775807 := by
  unfold undR undV
  split
  · split
    · exact rng_wrap _
    · exact rng_wrap _
  · omega
theorem und_cases (l : List UInt8) : (undE l = 0 ∧ decS (undR l) = l) ∨ (undE l = 6 ∧ undR l = 0) := by
  by_cases h : undOk l = true
  · left
    have e := und_yes h
    refine ⟨e.2, ?_⟩
    rw [e.1]
    unfold undOk at h
    rw [Bool.and_eq_true] at h
    simpa using h.2
  · right
    have e := und_no (by simpa using h)
    exact ⟨e.2, e.1⟩
end Go.Proofs.YtmnjafceenckpaaDoor
namespace Go.Proofs.YtmnjafceenckpaaDoor
open Go.RowKit
theorem lst_low (l : Int) : lowI (highI l 1) 16 = lst l := by unfold lowI highI lst; split <;> split <;> (try split) <;> (try split) <;> omega
theorem hexS_pos (n l : Int) (h : 0 ≤ n) : hexS n l = hexN n (lst l) := by
  have := lst_rng l
  unfold hexS hexN; rw [if_neg (by omega), show (max (lst l) 1).toNat = (lst l).toNat by omega]
theorem hexS_neg (n l : Int) (h : n < 0) : hexS n l = [] := by unfold hexS; rw [if_pos h]
theorem hexN_ne (n l : Int) : hexN n l ≠ [] := tell_ne 16 19 _ _ (Or.inl (by omega))
theorem uh_hex (n l : Int) (h : 0 ≤ n) (h1 : n ≤ 9223372036854775807) (hl : (hexN n l).length ≤ 15) : uhR (hexN n l) = n ∧ uhE (hexN n l) = 0 := by
  have e : readOk 16 ⟨(hexN n l).toArray⟩ = true := readOk_tell 16 19 _ _ (by omega) (by omega) (Or.inl (by omega))
  have e2 : readVal 16 ⟨(hexN n l).toArray⟩ = n := by
    unfold hexN
    rw [readVal_tell 16 20 _ _ (by omega) (by omega) (by omega) (by omega)]; omega
  have ho : uhOk (hexN n l) = true := by unfold uhOk; rw [e, decide_eq_true hl]; rfl
  unfold uhR uhE
  rw [ho, e2]
  exact ⟨by rw [if_pos rfl]; unfold wrap64; omega, rfl⟩
theorem uh_cases (l : List UInt8) : (0 ≤ unhexR l ∧ uhE l = 0 ∧ uhR l = unhexR l) ∨ (unhexR l < 0 ∧ uhE l = 6 ∧ uhR l = 0) := by
  have hne : (⟨l.toArray⟩ : ByteArray).data.toList = l := by simp
  by_cases h : l.length = 0 ∨ 15 < l.length ∨ digs 16 l = false
  · right
    have ho : uhOk l = false := by
      unfold uhOk readOk
      rw [hne, ByteArray.toList_eq, hne]
      rcases h with h | h | h
      · cases l with
        | nil => simp
        | cons => simp at h
      · rw [decide_eq_false (by omega)]; simp
      · rw [h]; simp
    refine ⟨?_, ?_, ?_⟩
    · unfold unhexR; rw [if_pos h]; omega
    · simp [uhE, ho]
    · simp [uhR, ho]
  · left
    have hd : digs 16 l = true := by
      cases hx : digs 16 l with
      | true => rfl
      | false => exact absurd (Or.inr (Or.inr hx)) h
    have ⟨b1, b2⟩ := dv_bound 16 l hd
    have b3 := pow16 l.length (by omega)
    have b4 : ((16 : Nat) : Int) ^ l.length = (16 : Int) ^ l.length := rfl
    rw [b4] at b2
    have hu : unhexR l = dv 16 l := by unfold unhexR; rw [if_neg h]
    have ho : uhOk l = true := by
      unfold uhOk readOk
      rw [hne, ByteArray.toList_eq, hne, hd, decide_eq_true (by omega)]
      cases l with
      | nil => simp at h
      | cons => rfl
    have hv : readVal 16 ⟨l.toArray⟩ = dv 16 l := by
      unfold readVal; rw [hne, hd, if_pos rfl, rdv_dv, wu]; omega
    refine ⟨by omega, by simp [uhE, ho], ?_⟩
    unfold uhR
    rw [ho, if_pos rfl, hv, hu]; unfold wrap64; omega
theorem unhexR_rng (l : List UInt8) : -1 ≤ unhexR l := by
  rcases uh_cases l with h | h
  · omega
  · by_cases h2 : l.length = 0 ∨ 15 < l.length ∨ digs 16 l = false
    · unfold unhexR; rw [if_pos h2]; omega
    · have hd : digs 16 l = true := by
        cases hx : digs 16 l with
        | true => rfl
        | false => exact absurd (Or.inr (Or.inr hx)) h2
      have := (dv_bound 16 l hd).1
      unfold unhexR at *; rw [if_neg h2] at *; omega
end Go.Proofs.YtmnjafceenckpaaDoor
