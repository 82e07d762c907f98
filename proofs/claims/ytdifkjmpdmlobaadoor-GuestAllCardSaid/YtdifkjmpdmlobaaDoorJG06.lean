/-
  Joined: G0 G14 C9 C10 C11 C12 P1 P2 P3 P4 Lo P5 Sg3 Sg4 Ln1 U15.
-/
import Derived.Test.YtdifkjmpdmlobaaDoorJG01
import Derived.Test.YtdifkjmpdmlobaaDoorJG04
import Derived.Test.YtdifkjmpdmlobaaDoorJG05
import Derived.Deep.QuietTactic
import Derived.BigQuiet
import Derived.Deep.Cut
import Derived.Lib.QuietBelow
import Derived.Laws.StructEq
set_option linter.unusedVariables false
set_option linter.unusedSimpArgs false
set_option maxRecDepth 100000
set_option linter.unusedVariables false
set_option linter.unusedSimpArgs false
namespace Go.Proofs.YtdifkjmpdmlobaaDoor
open Go.RowKit
abbrev Sn := Int × Int
/-- The room of a buffer: none, or a block of its own. -/
def RoomIn (p : Nat) (v : Value) (R : List Sn) (w : World) : Prop :=
  (v = .slice none 0 0 ∧ R = []) ∨ ∃ r, v = .slice (some ⟨r, 0, none⟩) R.length R.length ∧ r ≠ p ∧ w.heap[r]? = some (.cells (sRow R) 89 (0, 0))
/-- A buffer's signs. -/
def gsL (R : List Sn) (a e : Nat) : List Sn := R.take a ++ R.drop e
theorem gsL_len (R : List Sn) (a e : Nat) (h1 : a ≤ e) (h2 : e ≤ R.length) : (gsL R a e).length = R.length - (e - a) := by
  unfold gsL; rw [List.length_append, List.length_take, List.length_drop]; omega
/-- What a call of a buffer leaves: all blocks but its own two. -/
structure Kept (p : Nat) (v : Value) (w w' : World) : Prop where
  os : w'.os = w.os
  tape : w'.tape = w.tape
  output : w'.output = w.output
  size : w.heap.size ≤ w'.heap.size
  block : ∀ k, k < w.heap.size → k ≠ p → some k ≠ v.ownBlock → w'.heap[k]? = w.heap[k]?
theorem Kept.of {p : Nat} {v : Value} {w w' : World} (h : Below w.heap.size w w') : Kept p v w w' := ⟨h.os, h.tape, h.output, h.size, fun k hk _ _ => h.block k hk⟩
theorem Kept.set {p : Nat} {v : Value} {w w' : World} (h : Kept p v w w') (i : Nat) (u : Value) : Kept p v w (w'.setCell ⟨p, i, none⟩ u) :=
  ⟨h.os, h.tape, h.output, by have := h.size; simpa [World.setCell] using this, fun k hk hne hv => (Below.heap_setCell _ _ _ _ hne).trans (h.block k hk hne hv)⟩
theorem Kept.drew {p : Nat} {v : Value} {w w' : World} (h : Kept p v w w') (n : Nat) : Kept p v w (w'.drewN n) := by
  induction n with
  | zero => exact h
  | succ n ih => exact ⟨ih.os, ih.tape, ih.output, ih.size, ih.block⟩
theorem Kept.trans {p : Nat} {v v' : Value} {w w1 w2 : World} (h : Kept p v w w1) (k : Kept p v' w1 w2) (hv : v'.ownBlock = v.ownBlock ∨ ∀ r, v'.ownBlock = some r → w.heap.size ≤ r) : Kept p v w w2 :=
  ⟨k.os.trans h.os, k.tape.trans h.tape, k.output.trans h.output, Nat.le_trans h.size k.size, fun j hj hne hjv => by
    refine (k.block j (Nat.lt_of_lt_of_le hj h.size) hne (fun e => ?_)).trans (h.block j hj hne hjv)
    rcases hv with hv | hv
    · exact hjv (e.trans hv)
    · have := hv j e.symm; omega⟩
/-- Behind a call of a buffer that is not as old as B, what is older stays. -/
theorem Kept.below {p : Nat} {v : Value} {B : Nat} {w0 w w' : World} (h : Kept p v w w') (hb : Below B w0 w) (hB : B ≤ w.heap.size) (hp : B ≤ p) (hv : ∀ r, v.ownBlock = some r → B ≤ r) : Below B w0 w' :=
  hb.trans ⟨h.os, h.tape, h.output, h.size, fun k hk => h.block k (by omega) (by omega) (fun e => by have := hv k e.symm; omega)⟩
theorem RoomIn.keep {p : Nat} {v : Value} {R : List Sn} {w w' : World} (h : RoomIn p v R w) (hk : ∀ r, v.ownBlock = some r → w'.heap[r]? = w.heap[r]?) : RoomIn p v R w' := by
  rcases h with h | ⟨r, rfl, h1, h2⟩
  · exact Or.inl h
  · exact Or.inr ⟨r, rfl, h1, (hk r rfl).trans h2⟩
theorem RoomIn.lt {p : Nat} {v : Value} {R : List Sn} {w : World} (h : RoomIn p v R w) : ∀ r, v.ownBlock = some r → r < w.heap.size := by
  rcases h with ⟨rfl, _⟩ | ⟨r, rfl, _, h2⟩
  · intro r e; cases e
  · intro r' e; cases e; exact blk_lt h2
theorem RoomIn.ne {p : Nat} {v : Value} {R : List Sn} {w : World} (h : RoomIn p v R w) : ∀ r, v.ownBlock = some r → r ≠ p := by
  rcases h with ⟨rfl, _⟩ | ⟨r, rfl, h1, _⟩
  · intro r e; cases e
  · intro r' e; cases e; exact h1
theorem RoomIn.below {p : Nat} {v : Value} {R : List Sn} {w w' : World} (h : RoomIn p v R w) (hb : Below w.heap.size w w') : RoomIn p v R w' :=
  h.keep fun r e => hb.block r (h.lt r e)
theorem RoomIn.set {p : Nat} {v : Value} {R : List Sn} {w : World} (h : RoomIn p v R w) (i : Nat) (u : Value) : RoomIn p v R (w.setCell ⟨p, i, none⟩ u) :=
  h.keep fun r e => Below.heap_setCell _ _ _ _ (h.ne r e)
end Go.Proofs.YtdifkjmpdmlobaaDoor
set_option linter.unusedVariables false
set_option linter.unusedSimpArgs false
namespace Go.Proofs.YtdifkjmpdmlobaaDoor
open Go.RowKit
set_option maxHeartbeats 1000000 in
theorem sgright_ref (v l : Int) (w : World) : Calls Tryd.prog 88 #[.agg #[.int .i64 v, .int .i64 l]] w fun e w' => e = .returned (.bool (sgR v l)) ∧ Below w.heap.size w w' := by
  have R := fun w => right_ref v w
  have hb := below_alloc w (.cells #[.int .i64 v, .int .i64 l] 89)
  cases hr : rightB v
  · have e : Hid (sgR v l = false) := Lib.hid (by unfold sgR; rw [hr]; simp)
    rw [hr] at R
    replace R := Lib.hid R
    go_enter Tryd.func88, Tryd.ntmps88
    go_wp2_with (go_at_call 109; refine (R.out _).mono ?_; rintro e w1 ⟨rfl, rfl⟩)
    go_ret
    rw [e.out]; exact ⟨rfl, hb⟩
  · rw [hr] at R
    replace R := Lib.hid R
    by_cases h0 : 0 ≤ l
    · by_cases h5 : l ≤ 5
      · have e : Hid (sgR v l = true) := Lib.hid (by unfold sgR; rw [decide_eq_true h0, decide_eq_true h5, hr]; simp)
        clear hr
        go_enter Tryd.func88, Tryd.ntmps88
        go_wp2_with (go_at_call 109; refine (R.out _).mono ?_; rintro e w1 ⟨rfl, rfl⟩)
        go_ret
        rw [e.out]; exact ⟨rfl, hb⟩
      · have e : Hid (sgR v l = false) := Lib.hid (by unfold sgR; rw [decide_eq_false h5]; simp)
        have h5d := decide_eq_false h5
        clear hr
        go_enter Tryd.func88, Tryd.ntmps88
        go_wp2_with (go_at_call 109; refine (R.out _).mono ?_; rintro e w1 ⟨rfl, rfl⟩)
        go_ret
        rw [e.out]; exact ⟨by first | rfl | (rw [h5d]; rfl) | exact ret_boolU h5d, hb⟩
    · have e : Hid (sgR v l = false) := Lib.hid (by unfold sgR; rw [decide_eq_false h0]; simp)
      clear hr
      go_enter Tryd.func88, Tryd.ntmps88
      go_wp2_with (go_at_call 109; refine (R.out _).mono ?_; rintro e w1 ⟨rfl, rfl⟩)
      go_ret
      rw [e.out]; exact ⟨rfl, hb⟩
set_option maxHeartbeats 1000000 in
theorem sgall_ref (l : List (Int × Int)) (a : Option Addr) (c : Nat) (w : World) (hl : l.length ≤ 1000000) (hs : Signs w a l) :
    Calls Tryd.prog 66 #[.slice a l.length c] w fun e w' => e = .returned (.bool (sgC l)) ∧ Below w.heap.size w w' := by
  have HS := Lib.hid hs; clear hs
  go_enter Tryd.func66, Tryd.ntmps66
  go_wp2
  go_loopw [3] (fun iv wr => ∃ k : Nat, k ≤ l.length ∧ iv = .int .i64 (k : Int) ∧ Hid (∀ j, j < k → sgR (l.getD j (0, 0)).1 (l.getD j (0, 0)).2 = true) ∧ Below w.heap.size w wr) (fun iv _ => l.length - (intOf iv).toNat)
  case atStart => exact ⟨0, Nat.zero_le _, rfl, Lib.hid (fun j hj => absurd hj (by omega)), Below.refl _ _⟩
  case round =>
    obtain ⟨k, hk, rfl, hall, hb⟩ := hrel
    by_cases hlt : k < l.length
    · obtain ⟨b, off, rfl, hblk, c1, c2⟩ := (HS.out.below hb) k hlt
      have hk1 : (k : Int) < l.length := by omega
      have hk0 : (0 : Int) ≤ k := by omega
      have R := fun w => sgright_ref (l.getD k (0, 0)).1 (l.getD k (0, 0)).2 w
      have hin := getD_mem hlt
      cases hr : sgR (l.getD k (0, 0)).1 (l.getD k (0, 0)).2
      · have HF : Hid (sgC l = false) := Lib.hid (by unfold sgC; rw [List.all_eq_false]; exact ⟨_, hin, by rw [hr]; simp⟩)
        rw [hr] at R
        generalize (l.getD k (0, 0)).1 = v at *
        generalize (l.getD k (0, 0)).2 = u at *
        replace R := Lib.hid R
        clear hin hr
        go_wp2_with (go_at_call 88; refine (R.out _).mono ?_; rintro e w1 ⟨rfl, hb1⟩)
        go_ret
        rw [HF.out]
        exact ⟨rfl, hb.trans (hb1.mono hb.size)⟩
      · have HF : Hid (∀ j, j < k + 1 → sgR (l.getD j (0, 0)).1 (l.getD j (0, 0)).2 = true) := Lib.hid (by
          intro j hj
          rcases Nat.lt_succ_iff_lt_or_eq.1 hj with h | rfl
          · exact hall.out j h
          · exact hr)
        rw [hr] at R
        generalize (l.getD k (0, 0)).1 = v at *
        generalize (l.getD k (0, 0)).2 = u at *
        replace R := Lib.hid R
        clear hin hr
        go_wp2_with (go_at_call 88; refine (R.out _).mono ?_; rintro e w1 ⟨rfl, hb1⟩)
        go_roundw
        case rel => exact ⟨k + 1, by omega, by go_num, HF, hb.trans (hb1.mono hb.size)⟩
        case measure => (simp [intOf]; try omega)
    · obtain rfl : k = l.length := by omega
      have HF : Hid (sgC l = true) := Lib.hid (by
        unfold sgC; rw [List.all_eq_true]; intro p hp
        obtain ⟨j, hj, rfl⟩ := List.getElem_of_mem hp
        have := hall.out j hj
        rwa [List.getD, List.getElem?_eq_getElem hj] at this)
      go_wp2
      go_ret
      rw [HF.out]
      exact ⟨rfl, hb⟩
theorem sn_ext {l m : List Sn} (h : l.length = m.length) (hh : ∀ j, j < l.length → l.getD j (0, 0) = m.getD j (0, 0)) : l = m := by
  apply List.ext_getElem h
  intro j h1 h2
  have := hh j h1
  simpa [List.getD, List.getElem?_eq_getElem h1, List.getElem?_eq_getElem h2] using this
set_option maxHeartbeats 1000000 in
theorem sgsame_ref (l m : List Sn) (a b : Option Addr) (c d : Nat) (w : World) (hl : l.length ≤ 9223372036854775807) (hm : m.length ≤ 9223372036854775807) (hs : Signs w a l) (ht : Signs w b m) :
    Calls Tryd.prog 14 #[.slice a l.length c, .slice b m.length d] w fun e w' => e = .returned (.bool (decide (l = m))) ∧ Below w.heap.size w w' := by
  have HS := Lib.hid hs; have HT := Lib.hid ht; clear hs ht
  by_cases hlen : l.length = m.length
  · have hli : (l.length : Int) = (m.length : Int) := by omega
    go_enter Tryd.func14, Tryd.ntmps14
    go_wp2
    go_loopw [5] (fun iv wr => ∃ k : Nat, k ≤ l.length ∧ iv = .int .i64 (k : Int) ∧ Hid (∀ j, j < k → l.getD j (0, 0) = m.getD j (0, 0)) ∧ Below w.heap.size w wr) (fun iv _ => l.length - (intOf iv).toNat)
    case atStart => exact ⟨0, Nat.zero_le _, rfl, Lib.hid (fun j hj => absurd hj (by omega)), Below.refl _ _⟩
    case round =>
      obtain ⟨k, hk, rfl, hall, hb⟩ := hrel
      by_cases hlt : k < l.length
      · obtain ⟨b1, o1, rfl, hblk1, c1, c2⟩ := (HS.out.below hb) k hlt
        obtain ⟨b2, o2, rfl, hblk2, d1, d2⟩ := (HT.out.below hb) k (by omega)
        have hk1 : (k : Int) < l.length := by omega
        have hk2 : (k : Int) < m.length := by omega
        have hk0 : (0 : Int) ≤ k := by omega
        obtain ⟨x, hx⟩ : ∃ x, l.getD k (0, 0) = x := ⟨_, rfl⟩
        obtain ⟨y, hy⟩ : ∃ y, m.getD k (0, 0) = y := ⟨_, rfl⟩
        rw [hx] at c1 c2
        rw [hy] at d1 d2
        by_cases he : x = y
        · have HF : Hid (∀ j, j < k + 1 → l.getD j (0, 0) = m.getD j (0, 0)) := Lib.hid (by
            intro j hj
            rcases Nat.lt_succ_iff_lt_or_eq.1 hj with h | rfl
            · exact hall.out j h
            · rw [hx, hy, he])
          clear hall hx hy
          subst he
          obtain ⟨x1, x2⟩ := x
          dsimp at c1 c2 d1 d2
          go_wp2
          go_quiet (fail)
          go_wp2
          go_roundw
          case rel => exact ⟨k + 1, by omega, by go_num, HF, drewN_below hb _⟩
          case measure => (simp [intOf]; try omega)
        · have HF : Hid (decide (l = m) = false) := Lib.hid (decide_eq_false fun e => he (by rw [← hx, ← hy, e]))
          clear hall hx hy
          obtain ⟨x1, x2⟩ := x
          obtain ⟨y1, y2⟩ := y
          have he2 : ¬ (x1 = y1 ∧ x2 = y2) := fun h => he (by rw [h.1, h.2])
          dsimp at c1 c2 d1 d2
          clear he
          by_cases h1 : x1 = y1
          · subst h1
            have h2 : ¬ x2 = y2 := fun h => he2 ⟨rfl, h⟩
            clear he2
            go_wp2
            go_quiet (fail)
            go_wp2
            go_ret
            rw [HF.out]; exact ⟨rfl, drewN_below hb _⟩
          · clear he2
            go_wp2
            go_quiet (fail)
            go_wp2
            go_ret
            rw [HF.out]; exact ⟨rfl, drewN_below hb _⟩
      · obtain rfl : k = l.length := by omega
        have HF : Hid (decide (l = m) = true) := Lib.hid (decide_eq_true (sn_ext hlen hall.out))
        clear hall
        go_wp2
        go_ret
        rw [HF.out]
        exact ⟨rfl, hb⟩
  · have hne : decide (l = m) = false := decide_eq_false (fun e => hlen (by rw [e]))
    rw [hne]
    go_enter Tryd.func14, Tryd.ntmps14
    go_wp2
    go_ret
    exact ⟨rfl, Below.refl _ _⟩
end Go.Proofs.YtdifkjmpdmlobaaDoor
set_option linter.unusedVariables false
set_option linter.unusedSimpArgs false
namespace Go.Proofs.YtdifkjmpdmlobaaDoor
open Go.RowKit
/-- One more of v's class. -/
def bump (f : Int → Int) (L : List Int) (v : Int) : List Int := L.set (f v).toNat (L.getD (f v).toNat 0 + 1)
def zer : List Int := List.replicate 13 0
/-- How many there are of each class. -/
def cnts (f : Int → Int) (l : List Int) : List Int := l.foldl (bump f) zer
theorem cnts_snoc (f : Int → Int) (l : List Int) (v : Int) : cnts f (l ++ [v]) = bump f (cnts f l) v := by simp [cnts]
theorem cnts_take (f : Int → Int) (l : List Int) (k : Nat) (h : k < l.length) : cnts f (l.take (k + 1)) = bump f (cnts f (l.take k)) (l.getD k 0) := by
  rw [List.take_succ_eq_append_getElem h, cnts_snoc, List.getD, List.getElem?_eq_getElem h]; rfl
theorem getD_set (L : List Int) (i j : Nat) (x : Int) : (L.set i x).getD j 0 = if i = j ∧ i < L.length then x else L.getD j 0 := by
  rw [List.getD, List.getD, List.getElem?_set]
  by_cases h : i = j
  · subst h
    by_cases h2 : i < L.length
    · simp [h2]
    · simp [h2]
  · simp [h]
theorem bump_le (f : Int → Int) (L : List Int) (v n : Int) (hn : 0 ≤ n) (h : L.length = 13 ∧ ∀ j, 0 ≤ L.getD j 0 ∧ L.getD j 0 ≤ n) : (bump f L v).length = 13 ∧ ∀ j, 0 ≤ (bump f L v).getD j 0 ∧ (bump f L v).getD j 0 ≤ n + 1 := by
  unfold bump
  refine ⟨by simp [h.1], fun j => ?_⟩
  rw [getD_set]
  have h1 := h.2 j; have h2 := h.2 (f v).toNat
  split <;> omega
theorem cnts_le (f : Int → Int) (l : List Int) : ∀ k, k ≤ l.length → (cnts f (l.take k)).length = 13 ∧ ∀ j, 0 ≤ (cnts f (l.take k)).getD j 0 ∧ (cnts f (l.take k)).getD j 0 ≤ k := by
  intro k
  induction k with
  | zero => intro _; refine ⟨rfl, fun j => ?_⟩
            have : cnts f (l.take 0) = zer := rfl
            rw [this]
            have : zer.getD j 0 = 0 := by
              unfold zer; rw [List.getD, List.getElem?_replicate]; split <;> rfl
            rw [this]; exact ⟨by omega, by omega⟩
  | succ k ih =>
    intro hk
    rw [cnts_take f l k hk]
    have := bump_le f _ (l.getD k 0) k (by omega) (ih (by omega))
    exact ⟨this.1, fun j => by have := this.2 j; omega⟩
theorem iRow_zer : iRow zer = #[.int .i64 0, .int .i64 0, .int .i64 0, .int .i64 0, .int .i64 0, .int .i64 0, .int .i64 0, .int .i64 0, .int .i64 0, .int .i64 0, .int .i64 0, .int .i64 0, .int .i64 0] := rfl
theorem below_setRow (w : World) (g : Nat) (cs : Array Value) : Below g w (w.setRow g cs) :=
  ⟨rfl, rfl, rfl, by simp, fun k hk => setRow_other _ _ _ _ (by omega)⟩
end Go.Proofs.YtdifkjmpdmlobaaDoor
set_option linter.unusedVariables false
set_option linter.unusedSimpArgs false
namespace Go.Proofs.YtdifkjmpdmlobaaDoor
open Go.RowKit Go.Sort
/-- Do they look alike? -/
def alk (x y : List Int) : Bool := x.length == y.length && (List.range x.length).all fun i => skel (x.getD i 0) == skel (y.getD i 0)
theorem alk_no {x y : List Int} {k : Nat} (hk : k < x.length) (h : (skel (x.getD k 0) != skel (y.getD k 0)) = true) : alk x y = false := by
  unfold alk
  have : ((List.range x.length).all fun i => skel (x.getD i 0) == skel (y.getD i 0)) = false := by
    rw [List.all_eq_false]; exact ⟨k, by simpa using hk, by simpa using h⟩
  rw [this, Bool.and_false]
theorem alk_yes {x y : List Int} (hl : x.length = y.length) (h : ∀ j, j < x.length → (skel (x.getD j 0) != skel (y.getD j 0)) = false) : alk x y = true := by
  unfold alk
  rw [Bool.and_eq_true]
  refine ⟨by simpa using hl, ?_⟩
  rw [List.all_eq_true]
  intro j hj
  have := h j (by simpa using hj)
  simpa using this
end Go.Proofs.YtdifkjmpdmlobaaDoor
set_option linter.unusedVariables false
set_option linter.unusedSimpArgs false
namespace Go.Proofs.YtdifkjmpdmlobaaDoor
open Go.RowKit
theorem cnt_awake : cnts cls [97, 19968, 8238, 7, -1] = [1, 1, 1, 0, 1, 0, 0, 1, 0, 0, 0, 0, 0] := by decide +kernel
theorem awake_facts : cls 97 = 1 ∧ cls 1072 = 3 ∧ skel 1072 = 97 ∧ wid 19968 = 2 ∧ dng 8203 = true ∧ dng 97 = false ∧ alk [1072] [97] = true := by decide +kernel
end Go.Proofs.YtdifkjmpdmlobaaDoor
namespace Go.Proofs.YtdifkjmpdmlobaaDoor
open Go.RowKit
theorem look_idem_keys : ∀ j : Fin 51, skel (lks.getD (2 * j.val + 1) 0) = lks.getD (2 * j.val + 1) 0 ∧ cls (lks.getD (2 * j.val + 1) 0) = 1 := by decide +kernel
theorem skel_idem (v : Int) : skel (skel v) = skel v ∧ (skel v ≠ v → cls (skel v) = 1) := by
  cases h1 : (List.range 51).find? (hitL v) with
  | some j =>
    have ⟨hj, hp⟩ := find_some_lt h1
    have e : skel v = lks.getD (2 * j + 1) 0 := by unfold skel; rw [h1]
    have hk := look_idem_keys ⟨j, hj⟩
    rw [e]; exact ⟨hk.1, fun _ => hk.2⟩
  | none =>
    have e : skel v = v := by unfold skel; rw [h1]
    rw [e]; exact ⟨e, fun h => absurd rfl h⟩
end Go.Proofs.YtdifkjmpdmlobaaDoor
set_option linter.unusedVariables false
set_option linter.unusedSimpArgs false
namespace Go.Proofs.YtdifkjmpdmlobaaDoor
open Go.RowKit
/-- A value's kind. -/
def knd (v : Int) : Int := if v = 9 ∨ v = 10 ∨ v = 13 ∨ v = 32 then 0 else if 97 ≤ v ∧ v ≤ 122 ∨ 65 ≤ v ∧ v ≤ 90 ∨ 48 ≤ v ∧ v ≤ 57 ∨ v = 95 then 1 else if v < 128 then 2 else if cls v = 10 then 0 else if cls v = 1 ∨ cls v = 2 ∨ cls v = 3 then 1 else 2
theorem knd_rng (v : Int) : 0 ≤ knd v ∧ knd v ≤ 2 := by unfold knd; repeat' split
                                                        all_goals omega
theorem cls_lo (v : Int) (h : v < 128) : cls v ≠ 10 := by
  by_cases h0 : v < 0
  · have : cls v = 0 := by
      unfold cls rght
      rcases pnt_cases v with ⟨h1, h2⟩ | ⟨h1, h2⟩
      · omega
      rcases stry_cases v with ⟨h3, h4, h5⟩ | ⟨h3, h4⟩
      · omega
      rw [h1, h3]; rfl
    omega
  · have key : ∀ i : Fin 128, cls (i.val : Int) ≠ 10 := by decide +kernel
    have := key ⟨v.toNat, by omega⟩
    have e : ((v.toNat : Nat) : Int) = v := by omega
    simpa [e] using this
theorem knd_0 {v : Int} (h : v = 9 ∨ v = 10 ∨ v = 13 ∨ v = 32) : knd v = 0 := by unfold knd; rw [if_pos h]
theorem knd_1 {v : Int} (h0 : ¬ (v = 9 ∨ v = 10 ∨ v = 13 ∨ v = 32)) (h : 97 ≤ v ∧ v ≤ 122 ∨ 65 ≤ v ∧ v ≤ 90 ∨ 48 ≤ v ∧ v ≤ 57 ∨ v = 95) : knd v = 1 := by unfold knd; rw [if_neg h0, if_pos h]
theorem knd_2 {v : Int} (h0 : ¬ (v = 9 ∨ v = 10 ∨ v = 13 ∨ v = 32)) (h1 : ¬ (97 ≤ v ∧ v ≤ 122 ∨ 65 ≤ v ∧ v ≤ 90 ∨ 48 ≤ v ∧ v ≤ 57 ∨ v = 95)) (h : v < 128) : knd v = 2 := by unfold knd; rw [if_neg h0, if_neg h1, if_pos h]
theorem knd_far {v : Int} (h : 128 ≤ v) : knd v = if cls v = 10 then 0 else if cls v = 1 ∨ cls v = 2 ∨ cls v = 3 then 1 else 2 := by unfold knd; rw [if_neg (by omega), if_neg (by omega), if_neg (by omega)]
end Go.Proofs.YtdifkjmpdmlobaaDoor
set_option linter.unusedVariables false
set_option linter.unusedSimpArgs false
namespace Go.Proofs.YtdifkjmpdmlobaaDoor
open Go.RowKit
end Go.Proofs.YtdifkjmpdmlobaaDoor
set_option linter.unusedVariables false
set_option linter.unusedSimpArgs false
namespace Go.Proofs.YtdifkjmpdmlobaaDoor
open Go.RowKit
/-- The kind at a place; -1: none. -/
def kAt (l : List (Int × Int)) (big : Bool) (i : Int) : Int := if i < 0 ∨ (l.length : Int) ≤ i then -1 else if big = true then min (knd (l.getD i.toNat (0, 0)).1) 1 else knd (l.getD i.toNat (0, 0)).1
theorem kAt_rng (l : List (Int × Int)) (big : Bool) (i : Int) : -1 ≤ kAt l big i ∧ kAt l big i ≤ 2 := by
  unfold kAt
  have := knd_rng (l.getD i.toNat (0, 0)).1
  repeat' split
  all_goals omega
/-- A place that is handed in. -/
def plc (n : Nat) (i : Int) : Int := min (max i 0) n
end Go.Proofs.YtdifkjmpdmlobaaDoor
set_option linter.unusedVariables false
set_option linter.unusedSimpArgs false
namespace Go.Proofs.YtdifkjmpdmlobaaDoor
open Go.RowKit
theorem plc_cases (n : Nat) (i : Int) : ∃ m : Nat, plc n i = m ∧ m ≤ n := ⟨(plc n i).toNat, by unfold plc; omega, by unfold plc; omega⟩
def tNext (l : List (Int × Int)) (p : Int) : Bool := kAt l false (p - 1) == 1 && kAt l false p != 1
def tBack (l : List (Int × Int)) (p : Int) : Bool := kAt l false p == 1 && kAt l false (p - 1) != 1
def tRun (l : List (Int × Int)) (big : Bool) (p : Int) : Bool := kAt l big p != 0 && kAt l big p != kAt l big (p - 1)
def tEnd (l : List (Int × Int)) (big : Bool) (p : Int) : Bool := kAt l big p != 0 && kAt l big p != kAt l big (p + 1)
def nextM (l : List (Int × Int)) (i : Int) : Int := upF (tNext l) l.length (l.length - (plc l.length i).toNat - 1) (plc l.length i + 1)
def backM (l : List (Int × Int)) (i : Int) : Int := dnF (tBack l) 0 ((plc l.length i).toNat - 1) (plc l.length i - 1)
def startM (l : List (Int × Int)) (i : Int) (big : Bool) : Int := upF (tRun l big) l.length (l.length - (plc l.length i).toNat - 1) (plc l.length i + 1)
def prevM (l : List (Int × Int)) (i : Int) (big : Bool) : Int := dnF (tRun l big) 0 ((plc l.length i).toNat - 1) (plc l.length i - 1)
def endM (l : List (Int × Int)) (i : Int) (big : Bool) : Int := upF (tEnd l big) (plc l.length i) (l.length - (plc l.length i).toNat - 1) (plc l.length i + 1)
end Go.Proofs.YtdifkjmpdmlobaaDoor
set_option linter.unusedVariables false
set_option linter.unusedSimpArgs false
namespace Go.Proofs.YtdifkjmpdmlobaaDoor
open Go.RowKit
end Go.Proofs.YtdifkjmpdmlobaaDoor
set_option linter.unusedVariables false
set_option linter.unusedSimpArgs false
namespace Go.Proofs.YtdifkjmpdmlobaaDoor
open Go.RowKit
end Go.Proofs.YtdifkjmpdmlobaaDoor
set_option linter.unusedVariables false
set_option linter.unusedSimpArgs false
namespace Go.Proofs.YtdifkjmpdmlobaaDoor
open Go.RowKit
theorem own_row {w : World} {B : Nat} {v : Value} {l : List Int} (h : w.ownsRow B 3 1 v l.length (l.map (Value.int .i64))) : ∃ a cap, v = .slice a l.length cap ∧ Row w a l := by
  rcases h.2 with ⟨rfl, h0⟩ | ⟨g, cap, cur, rfl, _, hg, _⟩
  · exact ⟨none, 0, by rw [h0], fun j hj => by omega⟩
  · refine ⟨_, cap, rfl, fun j hj => ⟨g, 0, rfl, ?_, blk_lt hg⟩⟩
    have := h.cells (g := g) rfl j (.int .i64 (l.getD j 0)) (by simp [List.getElem?_eq_getElem hj, List.getD])
    have hadd : (⟨g, 0, none⟩ : Addr).add j = ⟨g, 0 + j, none⟩ := by unfold Addr.add; split <;> simp_all
    rw [← hadd]; exact this
theorem row_below {w w' : World} {a : Option Addr} {l : List Int} (h : Row w a l) (hb : Below w.heap.size w w') : Row w' a l := fun j hj => by
  obtain ⟨b, off, e, h1, h2⟩ := h j hj
  exact ⟨b, off, e, (hb.cell (p := ⟨b, off + j, none⟩) h2).trans h1, Nat.lt_of_lt_of_le h2 hb.size⟩
/-- A text's signs. -/
def sOf (u : Int) (s : ByteArray) : List (Int × Int) := (valsS s).map fun v => (v, u)
def ofL (l : List Int) (u : Int) (k : Nat) : List (Int × Int) := (l.take k).map (fun v => (v, u)) ++ List.replicate (l.length - k) (0, 0)
theorem ofL_len (l : List Int) (u : Int) (k : Nat) (h : k ≤ l.length) : (ofL l u k).length = l.length := by simp [ofL]; omega
set_option maxRecDepth 100000 in
set_option maxHeartbeats 1000000 in
theorem sof_any (u : Int) (s : ByteArray) (w : World) (hT : UT w) (hs : s.size ≤ 1000000) (hv : (valsS s).length ≤ 1000000) :
    Calls Tryd.prog 40 #[.int .i64 u, .string s] w fun e w' => ∃ g, e = .returned (.slice (some ⟨g, 0, none⟩) (sOf u s).length (sOf u s).length) ∧ w.heap.size ≤ g ∧ w'.heap[g]? = some (.cells (sRow (sOf u s)) 89 (0, 0)) ∧ Below w.heap.size w w' := by
  obtain ⟨i0, hi, hz0, hz1, hz2⟩ := info_parts infoSign
  have D := Lib.hid (decode_any s w hT hs)
  have hso : sOf u s = (valsS s).map fun v => (v, u) := rfl
  generalize valsS s = l at *
  rw [hso, List.length_map]
  clear hso
  have hmk := make_rowN (P := Tryd.prog) 28 89 i0 _ Tryd.underlying28 hi hz0 l.length (by rw [hz2]; omega) (by omega)
  rw [hz1] at hmk
  have hmade : madeCells (Value.agg #[.int .i64 0, .int .i64 0]).cells (l.length * 2) = sRow (ofL l u 0) := by rw [show (Value.agg #[.int .i64 0, .int .i64 0]).cells = #[.int .i64 0, .int .i64 0] from rfl, made_signs]; simp [ofL]
  rw [hmade] at hmk
  go_enter Tryd.func40, Tryd.ntmps40
  go_wp2_with (go_at_call 69; refine D.out.mono ?_; rintro e w1 ⟨v, rfl, hown, hb1⟩; obtain ⟨a, cap, rfl, hr⟩ := own_row hown; have HR := Lib.hid hr; clear hr hown)
  have hsz := hb1.size
  go_loopw [16] (fun iv wr => ∃ k : Nat, k ≤ l.length ∧ iv = .int .i64 (k : Int) ∧ wr.heap[w1.heap.size]? = some (.cells (sRow (ofL l u k)) 89 (0, 0)) ∧ Below w1.heap.size w1 wr) (fun iv _ => l.length - (intOf iv).toNat)
  case atStart => exact ⟨0, Nat.zero_le _, rfl, heap_alloc_new _ _, below_alloc _ _⟩
  case round =>
    obtain ⟨k, hk, rfl, hown, hb⟩ := hrel
    by_cases hlt : k < l.length
    · obtain ⟨b, off, rfl, c1, hblk⟩ := (row_below HR.out hb) k hlt
      have hk1 : (k : Int) < l.length := by omega
      have hk0 : (0 : Int) ≤ k := by omega
      have hnext := put_snoc l (fun v : Int => (v, u)) (0, 0) 0 k hlt
      have hlen := ofL_len l u k hk
      have s12 := sg_cells hown (k := k) (by rw [hlen]; exact hlt)
      have s1 := s12.1
      have s2 := s12.2
      have f12 := fun i => frozen_of_row wr w1.heap.size i _ _ hown
      generalize l.getD k 0 = x at *
      generalize (ofL l u k).getD k (0, 0) = q at *
      have Hset : Hid ((ofL l u k).set k (x, u) = ofL l u (k + 1)) := Lib.hid hnext
      have Hset2 := Lib.hid (sRow_set (ofL l u k) k (x, u) (by rw [hlen]; exact hlt))
      have Hlen := Lib.hid hlen
      clear hnext hlen s12
      go_wp2
      go_roundw
      case rel => exact ⟨k + 1, by omega, by go_num, by rw [← Hset.out, ← Hset2.out]; exact blk_set (blk_set hown _ _) _ _, (hb.setCell (Nat.le_refl _) _).setCell (Nat.le_refl _) _⟩
      case measure => simp [intOf]; omega
    · obtain rfl : k = l.length := by omega
      have hfin : ofL l u l.length = l.map fun v => (v, u) := by unfold ofL; rw [List.take_length, Nat.sub_self, List.replicate_zero, List.append_nil]
      rw [hfin] at hown
      clear hfin hmade
      go_wp2
      go_ret
      exact ⟨w1.heap.size, rfl, hsz, hown, seqB hb1 hb⟩
/-- The same signs? -/
def sgS (a b : List (Int × Int)) : Bool := decide (a = b)
set_option maxRecDepth 100000 in
set_option maxHeartbeats 1000000 in
theorem same1_any (v u x y : Int) (w : World) : Calls Tryd.prog 97 #[.agg #[.int .i64 v, .int .i64 u], .agg #[.int .i64 x, .int .i64 y]] w fun e w' => e = .returned (.bool (decide ((v, u) = (x, y)))) ∧ Below w.heap.size w w' := by
  have hb := seqB (below_alloc w (.cells #[.int .i64 v, .int .i64 u] 89)) (below_alloc _ (.cells #[.int .i64 x, .int .i64 y] 89))
  by_cases h1 : v = x
  · by_cases h2 : u = y
    · have e : Hid (decide ((v, u) = (x, y)) = true) := Lib.hid (by rw [h1, h2]; simp)
      have b1 : (v == x) = true := by rw [h1]; simp
      have b2 : (u == y) = true := by rw [h2]; simp
      rw [e.out]
      clear h1 h2 e
      go_enter Tryd.func97, Tryd.ntmps97
      go_wp2
      go_ret
      exact ⟨rfl, hb⟩
    · have e : Hid (decide ((v, u) = (x, y)) = false) := Lib.hid (by simp; intro _; exact h2)
      have b1 : (v == x) = true := by rw [h1]; simp
      have b2 : (u == y) = false := by simpa using h2
      rw [e.out]
      clear h1 h2 e
      go_enter Tryd.func97, Tryd.ntmps97
      go_wp2
      go_ret
      exact ⟨rfl, hb⟩
  · have e : Hid (decide ((v, u) = (x, y)) = false) := Lib.hid (by simp; intro h; exact absurd h h1)
    have b1 : (v == x) = false := by simpa using h1
    rw [e.out]
    clear h1 e
    go_enter Tryd.func97, Tryd.ntmps97
    go_wp2
    go_ret
    exact ⟨rfl, hb⟩
end Go.Proofs.YtdifkjmpdmlobaaDoor
set_option linter.unusedVariables false
set_option linter.unusedSimpArgs false
namespace Go.Proofs.YtdifkjmpdmlobaaDoor
open Go.RowKit
theorem sgS_len {a b : List (Int × Int)} (h : a.length ≠ b.length) : sgS a b = false := by
  unfold sgS; rw [decide_eq_false]; intro e; exact h (by rw [e])
theorem sgS_no {a b : List (Int × Int)} {k : Nat} (h : a.getD k (0, 0) ≠ b.getD k (0, 0)) : sgS a b = false := by
  unfold sgS; rw [decide_eq_false]; intro e; exact h (by rw [e])
theorem sgS_yes {a b : List (Int × Int)} (hl : a.length = b.length) (h : ∀ j, j < a.length → a.getD j (0, 0) = b.getD j (0, 0)) : sgS a b = true := by
  unfold sgS; rw [decide_eq_true]
  apply List.ext_getElem hl
  intro j h1 h2
  have := h j h1
  rwa [List.getD, List.getD, List.getElem?_eq_getElem h1, List.getElem?_eq_getElem h2] at this
set_option maxRecDepth 100000 in
set_option maxHeartbeats 1000000 in
theorem equal_any (x y : List (Int × Int)) (a b : Option Addr) (c d : Nat) (w : World) (hx : x.length ≤ 9223372036854775807) (hy : y.length ≤ 9223372036854775807) (ha : Signs w a x) (hb : Signs w b y) :
    Calls Tryd.prog 96 #[.slice a x.length c, .slice b y.length d, .func (.func 97) #[] #[]] w fun e w' => e = .returned (.bool (sgS x y)) ∧ Below w.heap.size w w' := by
  have HA := Lib.hid ha; have HB := Lib.hid hb; clear ha hb
  by_cases hl : x.length = y.length
  · have hln : ((x.length : Int) != (y.length : Int)) = false := by rw [hl]; simp
    have hyl : y.length ≤ x.length ∧ x.length ≤ y.length := by omega
    have Hl := Lib.hid hl; clear hl
    go_enter Tryd.func96, Tryd.ntmps96
    go_wp2
    go_loopw [17] (fun iv wr => ∃ k : Nat, k ≤ x.length ∧ iv = .int .i64 (k : Int) ∧ Hid (∀ j, j < k → x.getD j (0, 0) = y.getD j (0, 0)) ∧ Below w.heap.size w wr) (fun iv _ => x.length - (intOf iv).toNat)
    case atStart => exact ⟨0, Nat.zero_le _, rfl, Lib.hid (fun j hj => absurd hj (by omega)), Below.refl _ _⟩
    case round =>
      obtain ⟨k, hk, rfl, hall, hbl⟩ := hrel
      by_cases hlt : k < x.length
      · obtain ⟨b1, o1, rfl, hb1, c1, c2⟩ := (HA.out.below hbl) k hlt
        obtain ⟨b2, o2, rfl, hb2, d1, d2⟩ := (HB.out.below hbl) k (by omega)
        have hk1 : (k : Int) < x.length := by omega
        have hk2 : (k : Int) < y.length := by omega
        have hk0 : (0 : Int) ≤ k := by omega
        have hne := sgS_no (a := x) (b := y) (k := k)
        have d1' := fun o => (World.cell?_alloc_lt wr o (⟨b2, o2 + k * 2, none⟩ : Addr) hb2).trans d1
        have d2' := fun o => (World.cell?_alloc_lt wr o (⟨b2, o2 + k * 2 + 1, none⟩ : Addr) hb2).trans d2
        obtain ⟨v, u, hp⟩ : ∃ v u, x.getD k (0, 0) = (v, u) := ⟨_, _, rfl⟩
        obtain ⟨v', u', hq⟩ : ∃ v u, y.getD k (0, 0) = (v, u) := ⟨_, _, rfl⟩
        rw [hp] at c1 c2; rw [hq] at d1' d2'
        rw [hp, hq] at hne
        have S := fun w => same1_any v u v' u' w
        have hbb := fun o1 o2 => (hbl.alloc hbl.size o1).alloc (by have := hbl.size; simp; omega) o2
        cases he : decide ((v, u) = (v', u'))
        · rw [he] at S
          have HF : Hid (sgS x y = false) := Lib.hid (hne (by simpa using he))
          replace S := Lib.hid S
          clear hne he hp hq
          go_wp2_with (go_at_call 97; refine (S.out _).mono ?_; rintro e w1 ⟨rfl, hb3⟩)
          go_ret
          rw [HF.out]
          exact ⟨rfl, (hbb _ _).trans (hb3.mono (hbb _ _).size)⟩
        · rw [he] at S
          have HF : Hid (∀ j, j < k + 1 → x.getD j (0, 0) = y.getD j (0, 0)) := Lib.hid (by
            intro j hj
            rcases Nat.lt_succ_iff_lt_or_eq.1 hj with h | rfl
            · exact hall.out j h
            · rw [hp, hq]; simpa using he)
          replace S := Lib.hid S
          clear hne he hp hq
          go_wp2_with (go_at_call 97; refine (S.out _).mono ?_; rintro e w1 ⟨rfl, hb3⟩)
          go_roundw
          case rel => exact ⟨k + 1, by omega, by go_num, HF, (hbb _ _).trans (hb3.mono (hbb _ _).size)⟩
          case measure => simp [intOf]; omega
      · obtain rfl : k = x.length := by omega
        have HF : Hid (sgS x y = true) := Lib.hid (sgS_yes Hl.out hall.out)
        go_wp2
        go_ret
        rw [HF.out]
        exact ⟨rfl, hbl⟩
  · have hln : ((x.length : Int) != (y.length : Int)) = true := by rw [bne_iff_ne]; omega
    have HF : Hid (sgS x y = false) := Lib.hid (sgS_len hl)
    go_enter Tryd.func96, Tryd.ntmps96
    go_wp2
    go_ret
    rw [HF.out]
    exact ⟨rfl, Below.refl _ _⟩
theorem ssame_any (x y : List (Int × Int)) (a b : Option Addr) (c d : Nat) (w : World) (hx : x.length ≤ 9223372036854775807) (hy : y.length ≤ 9223372036854775807) (ha : Signs w a x) (hb : Signs w b y) :
    Calls Tryd.prog 77 #[.slice a x.length c, .slice b y.length d] w fun e w' => e = .returned (.bool (sgS x y)) ∧ Below w.heap.size w w' := by
  have E := Lib.hid (equal_any x y a b c d w hx hy ha hb)
  clear ha hb
  go_enter Tryd.func77, Tryd.ntmps77
  go_wp2_with (go_at_call 96; refine E.out.mono ?_; rintro e w1 ⟨rfl, hb1⟩)
  go_ret
  exact ⟨rfl, hb1⟩
/-- Do the values of part stand at a place? -/
def atM (l part : List (Int × Int)) (at_ : Int) : Bool := (List.range part.length).all fun i => (l.getD (at_.toNat + i) (0, 0)).1 == (part.getD i (0, 0)).1
theorem atM_no {l part : List (Int × Int)} {at_ : Int} {k : Nat} (hk : k < part.length) (h : ((l.getD (at_.toNat + k) (0, 0)).1 != (part.getD k (0, 0)).1) = true) : atM l part at_ = false := by
  unfold atM; rw [List.all_eq_false]; exact ⟨k, by simpa using hk, by simpa using h⟩
theorem atM_yes {l part : List (Int × Int)} {at_ : Int} (h : ∀ j, j < part.length → ((l.getD (at_.toNat + j) (0, 0)).1 != (part.getD j (0, 0)).1) = false) : atM l part at_ = true := by
  unfold atM; rw [List.all_eq_true]; intro j hj
  have := h j (by simpa using hj)
  simpa using this
/-- A closure's two blocks. -/
structure Fin2 (w : World) (p q : Nat) (a b : Option Addr) (l part : List (Int × Int)) (c d : Nat) : Prop where
  cp : w.cell? ⟨p, 0, none⟩ = some (.slice b part.length d)
  cq : w.cell? ⟨q, 0, none⟩ = some (.slice a l.length c)
  s : Signs w a l
  t : Signs w b part
  pl : p < w.heap.size
  ql : q < w.heap.size
theorem Fin2.below {w w' : World} {p q : Nat} {a b : Option Addr} {l part : List (Int × Int)} {c d : Nat} (h : Fin2 w p q a b l part c d) (hb : Below w.heap.size w w') : Fin2 w' p q a b l part c d :=
  ⟨(hb.cell (p := ⟨p, 0, none⟩) h.pl).trans h.cp, (hb.cell (p := ⟨q, 0, none⟩) h.ql).trans h.cq, h.s.below hb, h.t.below hb, Nat.lt_of_lt_of_le h.pl hb.size, Nat.lt_of_lt_of_le h.ql hb.size⟩
set_option maxRecDepth 100000 in
set_option maxHeartbeats 1000000 in
theorem finder1_any (m : Nat) (p q : Nat) (a b : Option Addr) (l part : List (Int × Int)) (c d : Nat) (w : World) (hl : l.length ≤ 1000000000000000000) (hm : m + part.length ≤ l.length) (hK : Fin2 w p q a b l part c d) :
    Calls Tryd.prog 114 #[.int .i64 (m : Int), .pointer (some ⟨p, 0, none⟩), .pointer (some ⟨q, 0, none⟩)] w fun e w' => e = .returned (.bool (atM l part m)) ∧ Below w.heap.size w w' := by
  have hp := hK.cp
  have HK := Lib.hid hK; clear hK
  go_enter Tryd.func114, Tryd.ntmps114
  go_wp2
  go_loopw [9] (fun iv wr => ∃ k : Nat, k ≤ part.length ∧ iv = .int .i64 (k : Int) ∧ Hid (∀ j, j < k → ((l.getD ((m : Int).toNat + j) (0, 0)).1 != (part.getD j (0, 0)).1) = false) ∧ Below w.heap.size w wr) (fun iv _ => part.length - (intOf iv).toNat)
  case atStart => exact ⟨0, Nat.zero_le _, rfl, Lib.hid (fun j hj => absurd hj (by omega)), Below.refl _ _⟩
  case round =>
    obtain ⟨k, hk, rfl, hall, hbl⟩ := hrel
    by_cases hlt : k < part.length
    · have hK := HK.out.below hbl
      obtain ⟨b1, o1, rfl, hb1, c1, c2⟩ := hK.s (m + k) (by omega)
      obtain ⟨b2, o2, rfl, hb2, d1, d2⟩ := hK.t k hlt
      have hq := hK.cq
      have hql := hK.ql
      have hk1 : (k : Int) < part.length := by omega
      have hk0 : (0 : Int) ≤ (m : Int) + (k : Int) := by omega
      have hk2 : (m : Int) + (k : Int) < l.length := by omega
      have hno := atM_no (l := l) (at_ := (m : Int)) hlt
      rw [Int.toNat_natCast] at hno
      obtain ⟨v, u, hpp⟩ : ∃ v u, part.getD k (0, 0) = (v, u) := ⟨_, _, rfl⟩
      obtain ⟨v', u', hqq⟩ : ∃ v u, l.getD (m + k) (0, 0) = (v, u) := ⟨_, _, rfl⟩
      rw [hpp] at d1 d2; rw [hqq] at c1
      rw [hpp, hqq] at hno
      have c1' := fun o => (World.cell?_alloc_lt wr o (⟨b1, o1 + (m + k) * 2, none⟩ : Addr) hb1).trans c1
      have hq' := fun o => (World.cell?_alloc_lt wr o (⟨q, 0, none⟩ : Addr) hql).trans hq
      have hbb := fun o1 => hbl.alloc hbl.size o1
      clear c1 c2 hq hK
      cases he : (v' != v)
      · have HF : Hid (∀ j, j < k + 1 → ((l.getD ((m : Int).toNat + j) (0, 0)).1 != (part.getD j (0, 0)).1) = false) := Lib.hid (by
          intro j hj
          rcases Nat.lt_succ_iff_lt_or_eq.1 hj with h | rfl
          · exact hall.out j h
          · rw [Int.toNat_natCast, hpp, hqq]; exact he)
        clear hno hpp hqq
        go_wp2
        go_quiet (fail)
        go_wp2
        go_roundw
        case rel => exact ⟨k + 1, by omega, by go_num, HF, drewN_below (hbb _) _⟩
        case measure => simp [intOf]; omega
      · have HF : Hid (atM l part m = false) := Lib.hid (hno he)
        clear hno hpp hqq
        go_wp2
        go_quiet (fail)
        go_wp2
        go_ret
        rw [HF.out]
        exact ⟨rfl, drewN_below (hbb _) _⟩
    · obtain rfl : k = part.length := by omega
      have HF : Hid (atM l part m = true) := Lib.hid (atM_yes hall.out)
      go_wp2
      go_ret
      rw [HF.out]
      exact ⟨rfl, hbl⟩
end Go.Proofs.YtdifkjmpdmlobaaDoor
set_option linter.unusedVariables false
set_option linter.unusedSimpArgs false
namespace Go.Proofs.YtdifkjmpdmlobaaDoor
open Go.RowKit
theorem up_first {t : Int → Bool} {d : Int} : ∀ {f : Nat} {p k : Int}, p ≤ k → k < p + f → t k = true → (∀ j, p ≤ j → j < k → t j = false) → upF t d f p = k
  | 0, p, k, h1, h2, _, _ => by omega
  | f + 1, p, k, h1, h2, ht, hn => by
    by_cases e : p = k
    · subst e; exact up_hit (by omega) ht
    · rw [up_miss (by omega) (hn p (by omega) (by omega))]
      exact up_first (by omega) (by omega) ht (fun j hj1 hj2 => hn j (by omega) hj2)
theorem up_none {t : Int → Bool} {d : Int} : ∀ {f : Nat} {p : Int}, (∀ j, p ≤ j → j < p + f → t j = false) → upF t d f p = d
  | 0, p, _ => rfl
  | f + 1, p, hn => by
    rw [up_miss (by omega) (hn p (by omega) (by omega))]
    exact up_none (fun j hj1 hj2 => hn j (by omega) (by omega))
theorem dn_first {t : Int → Bool} {d : Int} : ∀ {f : Nat} {p k : Int}, k ≤ p → p - f < k → t k = true → (∀ j, k < j → j ≤ p → t j = false) → dnF t d f p = k
  | 0, p, k, h1, h2, _, _ => by omega
  | f + 1, p, k, h1, h2, ht, hn => by
    by_cases e : p = k
    · subst e; exact dn_hit (by omega) ht
    · rw [dn_miss (by omega) (hn p (by omega) (by omega))]
      exact dn_first (by omega) (by omega) ht (fun j hj1 hj2 => hn j hj1 (by omega))
theorem dn_none {t : Int → Bool} {d : Int} : ∀ {f : Nat} {p : Int}, (∀ j, p - f < j → j ≤ p → t j = false) → dnF t d f p = d
  | 0, p, _ => rfl
  | f + 1, p, hn => by
    rw [dn_miss (by omega) (hn p (by omega) (by omega))]
    exact dn_none (fun j hj1 hj2 => hn j (by omega) (by omega))
/-- The document's kind at a place; 9: none. -/
def kRf (l : List (Int × Int)) (i : Int) : Int := if i < 0 ∨ (l.length : Int) ≤ i then 9 else knd (l.getD i.toNat (0, 0)).1
theorem kRf_one (l : List (Int × Int)) (i : Int) : (kRf l i == 1) = (kAt l false i == 1) := by
  unfold kRf kAt
  split
  · rfl
  · rfl
theorem kRf_ne (l : List (Int × Int)) (i : Int) : (kRf l i != 1) = (kAt l false i != 1) := by
  unfold kRf kAt
  split
  · rfl
  · rfl
theorem tNext_eq (l : List (Int × Int)) (p : Int) : tNext l p = (kRf l (p - 1) == 1 && kRf l p != 1) := by unfold tNext; rw [kRf_one, kRf_ne]
theorem tBack_eq (l : List (Int × Int)) (p : Int) : tBack l p = (kRf l p == 1 && kRf l (p - 1) != 1) := by unfold tBack; rw [kRf_one, kRf_ne]
theorem next_is {l : List (Int × Int)} {i : Int} {m k : Nat} (hm : plc l.length i = m) (h1 : m < k) (h2 : k < l.length) (ht : tNext l k = true) (hn : ∀ j : Nat, m < j → j < k → tNext l j = false) : nextM l i = k := by
  unfold nextM
  rw [hm, Int.toNat_natCast]
  refine up_first (by omega) (by omega) ht (fun j hj1 hj2 => ?_)
  obtain ⟨q, rfl⟩ := Int.eq_ofNat_of_zero_le (show 0 ≤ j by omega)
  exact hn q (by omega) (by omega)
theorem next_end {l : List (Int × Int)} {i : Int} {m : Nat} (hm : plc l.length i = m) (hn : ∀ j : Nat, m < j → j < l.length → tNext l j = false) : nextM l i = l.length := by
  unfold nextM
  rw [hm, Int.toNat_natCast]
  refine up_none (fun j hj1 hj2 => ?_)
  obtain ⟨q, rfl⟩ := Int.eq_ofNat_of_zero_le (show 0 ≤ j by omega)
  exact hn q (by omega) (by omega)
theorem back_is {l : List (Int × Int)} {i : Int} {m k : Nat} (hm : plc l.length i = m) (h1 : k < m) (h2 : 0 < k) (ht : tBack l k = true) (hn : ∀ j : Nat, k < j → j < m → tBack l j = false) : backM l i = k := by
  unfold backM
  rw [hm, Int.toNat_natCast]
  refine dn_first (by omega) (by omega) ht (fun j hj1 hj2 => ?_)
  obtain ⟨q, rfl⟩ := Int.eq_ofNat_of_zero_le (show 0 ≤ j by omega)
  exact hn q (by omega) (by omega)
theorem back_end {l : List (Int × Int)} {i : Int} {m : Nat} (hm : plc l.length i = m) (hn : ∀ j : Nat, 0 < j → j < m → tBack l j = false) : backM l i = 0 := by
  unfold backM
  rw [hm, Int.toNat_natCast]
  refine dn_none (fun j hj1 hj2 => ?_)
  obtain ⟨q, rfl⟩ := Int.eq_ofNat_of_zero_le (show 0 ≤ j by omega)
  exact hn q (by omega) (by omega)
theorem next_rng (l : List (Int × Int)) (i : Int) : plc l.length i ≤ nextM l i ∧ nextM l i ≤ l.length ∧ (plc l.length i < l.length → plc l.length i < nextM l i) := by
  obtain ⟨m, hm, hml⟩ := plc_cases l.length i
  rw [hm]
  by_cases h : ∃ k : Nat, m < k ∧ k < l.length ∧ tNext l k = true
  · obtain ⟨k, hk1, hk2, hk3⟩ := h
    have key : ∀ f k : Nat, k ≤ f → m < k → k < l.length → tNext l k = true → ∃ q : Nat, nextM l i = q ∧ m < q ∧ q ≤ l.length := by
      intro f
      induction f with
      | zero => intro k h1 h2; omega
      | succ f ih =>
        intro k h1 h2 h3 h4
        by_cases hh : ∃ j : Nat, m < j ∧ j < k ∧ tNext l j = true
        · obtain ⟨j, j1, j2, j3⟩ := hh
          exact ih j (by omega) j1 (by omega) j3
        · refine ⟨k, next_is hm h2 h3 h4 (fun j j1 j2 => ?_), h2, by omega⟩
          cases hc : tNext l j with
          | false => rfl
          | true => exact absurd ⟨j, j1, j2, hc⟩ hh
    obtain ⟨q, h1, h2, h3⟩ := key k k (Nat.le_refl _) hk1 hk2 hk3
    rw [h1]; omega
  · rw [next_end hm (fun j j1 j2 => by
      cases hc : tNext l j with
      | false => rfl
      | true => exact absurd ⟨j, j1, j2, hc⟩ h)]
    omega
theorem back_rng (l : List (Int × Int)) (i : Int) : 0 ≤ backM l i ∧ backM l i ≤ plc l.length i := by
  obtain ⟨m, hm, hml⟩ := plc_cases l.length i
  rw [hm]
  by_cases h : ∃ k : Nat, 0 < k ∧ k < m ∧ tBack l k = true
  · obtain ⟨k, hk1, hk2, hk3⟩ := h
    have key : ∀ f k : Nat, m - k ≤ f → 0 < k → k < m → tBack l k = true → ∃ q : Nat, backM l i = q ∧ q ≤ m := by
      intro f
      induction f with
      | zero => intro k h1 h2; omega
      | succ f ih =>
        intro k h1 h2 h3 h4
        by_cases hh : ∃ j : Nat, k < j ∧ j < m ∧ tBack l j = true
        · obtain ⟨j, j1, j2, j3⟩ := hh
          exact ih j (by omega) (by omega) j2 j3
        · refine ⟨k, back_is hm h3 h2 h4 (fun j j1 j2 => ?_), by omega⟩
          cases hc : tBack l j with
          | false => rfl
          | true => exact absurd ⟨j, j1, j2, hc⟩ hh
    obtain ⟨q, h1, h2⟩ := key (m - k) k (Nat.le_refl _) hk1 hk2 hk3
    rw [h1]; omega
  · rw [back_end hm (fun j j1 j2 => by
      cases hc : tBack l j with
      | false => rfl
      | true => exact absurd ⟨j, j1, j2, hc⟩ h)]
    omega
end Go.Proofs.YtdifkjmpdmlobaaDoor
namespace Go.Proofs.YtdifkjmpdmlobaaDoor
open Go.RowKit
theorem toList_len (s : ByteArray) : s.toList.length = s.size := by rw [ByteArray.toList_eq]; exact Array.length_toList
def pB (s : ByteArray) : Bool := decide (0 < s.size) && partB s
theorem row_own {w : World} {B : Nat} {v : Value} {l : List Int} (h : w.ownsRow B 3 1 v l.length (l.map (Value.int .i64))) : ∃ a cap, v = .slice a l.length cap ∧ Row w a l := by
  rcases h.2 with ⟨rfl, h0⟩ | ⟨g, cap, cur, rfl, _, hg, _⟩
  · exact ⟨none, 0, by rw [h0], fun j hj => by omega⟩
  · refine ⟨_, cap, rfl, fun j hj => ⟨g, 0, rfl, ?_, (Array.getElem?_eq_some_iff.1 hg).1⟩⟩
    have := h.cells (g := g) rfl j (.int .i64 (l.getD j 0)) (by simp [List.getElem?_eq_getElem hj, List.getD])
    have hadd : (⟨g, 0, none⟩ : Addr).add j = ⟨g, 0 + j, none⟩ := by unfold Addr.add; split <;> simp_all
    rw [← hadd]; exact this
def lit1 : ByteArray := ⟨#[195, 169, 195]⟩
def lit2 : ByteArray := ⟨#[226, 130, 172, 120]⟩
theorem v1 : valsS lit1 = [233, 1114307] := by decide +kernel
theorem v2 : oneS lit2 = (8364, 3) := by decide +kernel
theorem v3 : (valsS ⟨#[97, 98]⟩).length = 2 := by decide +kernel
theorem v4 : pB ⟨#[226, 130]⟩ = true := by decide +kernel
theorem v5 : rightB 65 = true := by decide +kernel
theorem v6 : encS [233, 1114307] = lit1 := by rw [← v1]; exact encS_vals lit1
theorem dec_lit (w : World) (hT : UT w) : Calls Tryd.prog 69 #[.string lit1] w fun e w' => ∃ b off cap, e = .returned (.slice (some ⟨b, off, none⟩) 2 cap) ∧ w'.cell? ⟨b, off, none⟩ = some (.int .i64 233) ∧ w'.cell? ⟨b, off + 1, none⟩ = some (.int .i64 1114307) ∧ b < w'.heap.size ∧ Hid (Row w' (some ⟨b, off, none⟩) [233, 1114307]) ∧ Below w.heap.size w w' := by
  refine (decode_any lit1 w hT (by decide)).mono ?_
  rintro e w' ⟨v, rfl, hown, hb⟩
  rw [v1] at hown
  obtain ⟨a, cap, rfl, hr⟩ := row_own hown
  obtain ⟨b, off, rfl, h0, hlt⟩ := hr 0 (by decide)
  obtain ⟨b1, off1, e1, h1, _⟩ := hr 1 (by decide)
  cases e1
  exact ⟨b, off, cap, rfl, h0, h1, hlt, Lib.hid hr, hb⟩
end Go.Proofs.YtdifkjmpdmlobaaDoor
