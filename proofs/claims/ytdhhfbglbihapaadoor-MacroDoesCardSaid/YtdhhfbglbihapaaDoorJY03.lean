/-
  Joined: Sg1 Mk Ow Ap Ky2 M6 Ky3 Ky4.
-/
import Derived.Test.YtdhhfbglbihapaaDoorJY01
import Derived.Test.YtdhhfbglbihapaaDoorJY0A
import Derived.Laws.OwnMore
import Derived.Laws.MakeOwn
import Derived.Deep.OwnRows
import Derived.OwnWalk
import Derived.Laws.AppendOwnNone
import Derived.Laws.Rows
import Derived.Deep.RegionHeld3
import Derived.Test.YtdhhfbglbihapaaDoorProg
import Derived.Shelf.Strings.BuilderX
import Derived.Lib.Builder
import Derived.Lib.AppendStr
import Derived.Laws.Externs
import Derived.Deep.Cut
set_option linter.unusedVariables false
set_option linter.unusedSimpArgs false
set_option maxRecDepth 100000
set_option linter.unusedVariables false
set_option linter.unusedSimpArgs false
namespace Go.Proofs.YtdhhfbglbihapaaDoor
open Go.RowKit
theorem blk_alloc {w : World} {g : Nat} {o : Obj} (h : w.heap[g]? = some o) (o' : Obj) : (w.alloc o').heap[g]? = some o :=
  (Below.heap_alloc w o' g (by
    rcases Nat.lt_or_ge g w.heap.size with h1 | h1
    · exact h1
    · rw [Array.getElem?_eq_none h1] at h; cases h)).trans h
theorem blk_set {w : World} {g : Nat} {cs : Array Value} {t : TypeId} {f : Nat × Nat} (h : w.heap[g]? = some (.cells cs t f)) (i : Nat) (u : Value) : (w.setCell ⟨g, i, none⟩ u).heap[g]? = some (.cells (cs.setIfInBounds i u) t f) := by
  simp [World.setCell, Array.getElem?_modify, h]
theorem blk_far {w : World} {g : Nat} {o : Obj} {p : Addr} (h : w.heap[g]? = some o) (hp : g ≠ p.block) (u : Value) : (w.setCell p u).heap[g]? = some o := (Below.heap_setCell w p u g hp).trans h
theorem blk_lt {w : World} {g : Nat} {o : Obj} (h : w.heap[g]? = some o) : g < w.heap.size := by
  rcases Nat.lt_or_ge g w.heap.size with h1 | h1
  · exact h1
  · rw [Array.getElem?_eq_none h1] at h; cases h
theorem blk_below {w w' : World} {g : Nat} {o : Obj} (h : w.heap[g]? = some o) (hb : Below w.heap.size w w') : w'.heap[g]? = some o := (hb.block g (blk_lt h)).trans h
theorem ownsRow_pos {w : World} {base : Nat} {e : TypeId} {size : Nat} {v : Value} {n : Nat} {xs : List Value} (h : w.ownsRow base e size v n xs) (hn : 0 < n) : ∃ g cap, v = .slice (some ⟨g, 0, none⟩) n cap := by
  rcases h.2 with ⟨_, h0⟩ | ⟨g, cap, _, rfl, _⟩
  · omega
  · exact ⟨g, cap, rfl⟩
/-- May a sign be? -/
def sgR (v l : Int) : Bool := decide (0 ≤ l) && (decide (l ≤ 5) && rightB v)
set_option maxRecDepth 100000 in
set_option maxHeartbeats 1000000 in
theorem sright_any (v l : Int) (w : World) : Calls Tryd.prog 99 #[.agg #[.int .i64 v, .int .i64 l]] w fun e w' => e = .returned (.bool (sgR v l)) ∧ Below w.heap.size w w' := by
  have R := Lib.hid fun w => right_any v w
  have hb := below_alloc w (.cells #[.int .i64 v, .int .i64 l] 89)
  by_cases h0 : 0 ≤ l
  · by_cases h5 : l ≤ 5
    · have e : Hid (sgR v l = rightB v) := Lib.hid (by unfold sgR; rw [decide_eq_true h0, decide_eq_true h5]; simp)
      go_enter Tryd.func99, Tryd.ntmps99
      go_wp2_with (go_at_call 109; refine (R.out _).mono ?_; rintro e w1 ⟨rfl, rfl⟩)
      go_ret
      rw [e.out]; exact ⟨rfl, hb⟩
    · have e : Hid (sgR v l = false) := Lib.hid (by unfold sgR; rw [decide_eq_false h5]; simp)
      go_enter Tryd.func99, Tryd.ntmps99
      go_wp2
      go_ret
      rw [e.out]; exact ⟨rfl, hb⟩
  · have e : Hid (sgR v l = false) := Lib.hid (by unfold sgR; rw [decide_eq_false h0]; simp)
    go_enter Tryd.func99, Tryd.ntmps99
    go_wp2
    go_ret
    rw [e.out]; exact ⟨rfl, hb⟩
theorem getD_mem {l : List (Int × Int)} {k : Nat} (h : k < l.length) : l.getD k (0, 0) ∈ l := by
  rw [List.getD, List.getElem?_eq_getElem h]; exact List.getElem_mem h
/-- May all signs be? -/
def sgC (l : List (Int × Int)) : Bool := l.all fun p => sgR p.1 p.2
def sgE (l : List (Int × Int)) : Int := if sgC l = true then 0 else 2
theorem sgE_no {l : List (Int × Int)} (h : sgC l = false) : sgE l = 2 := by unfold sgE; rw [h]; rfl
theorem sgE_yes {l : List (Int × Int)} (h : sgC l = true) : sgE l = 0 := by unfold sgE; rw [h]; rfl
set_option maxRecDepth 100000 in
set_option maxHeartbeats 1000000 in
theorem scheck_any (l : List (Int × Int)) (a : Option Addr) (c : Nat) (w : World) (hl : l.length ≤ 9223372036854775807) (hs : Signs w a l) :
    Calls Tryd.prog 60 #[.slice a l.length c] w fun e w' => e = .returned (.int .i64 (sgE l)) ∧ Below w.heap.size w w' := by
  have HS := Lib.hid hs; clear hs
  go_enter Tryd.func60, Tryd.ntmps60
  go_wp2
  go_loopw [7] (fun iv wr => ∃ k : Nat, k ≤ l.length ∧ iv = .int .i64 (k : Int) ∧ Hid (∀ j, j < k → sgR (l.getD j (0, 0)).1 (l.getD j (0, 0)).2 = true) ∧ Below w.heap.size w wr) (fun iv _ => l.length - (intOf iv).toNat)
  case atStart => exact ⟨0, Nat.zero_le _, rfl, Lib.hid (fun j hj => absurd hj (by omega)), Below.refl _ _⟩
  case round =>
    obtain ⟨k, hk, rfl, hall, hb⟩ := hrel
    by_cases hlt : k < l.length
    · obtain ⟨b, off, rfl, hblk, c1, c2⟩ := (HS.out.below hb) k hlt
      have hk1 : (k : Int) < l.length := by omega
      have hk0 : (0 : Int) ≤ k := by omega
      have R := fun w => sright_any (l.getD k (0, 0)).1 (l.getD k (0, 0)).2 w
      have hin := getD_mem hlt
      cases hr : sgR (l.getD k (0, 0)).1 (l.getD k (0, 0)).2
      · have HF : Hid (sgE l = 2) := Lib.hid (sgE_no (by unfold sgC; rw [List.all_eq_false]; exact ⟨_, hin, by rw [hr]; simp⟩))
        rw [hr] at R
        generalize (l.getD k (0, 0)).1 = v at *
        generalize (l.getD k (0, 0)).2 = u at *
        replace R := Lib.hid R
        clear hin hr
        go_wp2_with (go_at_call 99; refine (R.out _).mono ?_; rintro e w1 ⟨rfl, hb1⟩)
        go_ret
        rw [HF.out]
        exact ⟨rfl, hb.trans ((seqB (below_alloc _ _) hb1).mono hb.size)⟩
      · have HF : Hid (∀ j, j < k + 1 → sgR (l.getD j (0, 0)).1 (l.getD j (0, 0)).2 = true) := Lib.hid (by
          intro j hj
          rcases Nat.lt_succ_iff_lt_or_eq.1 hj with h | rfl
          · exact hall.out j h
          · exact hr)
        rw [hr] at R
        generalize (l.getD k (0, 0)).1 = v at *
        generalize (l.getD k (0, 0)).2 = u at *
        replace R := Lib.hid R
        clear hin hr
        go_wp2_with (go_at_call 99; refine (R.out _).mono ?_; rintro e w1 ⟨rfl, hb1⟩)
        go_roundw
        case rel => exact ⟨k + 1, by omega, by go_num, HF, hb.trans ((seqB (below_alloc _ _) hb1).mono hb.size)⟩
        case measure => simp [intOf]; omega
    · obtain rfl : k = l.length := by omega
      have HF : Hid (sgE l = 0) := Lib.hid (sgE_yes (by
        unfold sgC; rw [List.all_eq_true]; intro p hp
        obtain ⟨j, hj, rfl⟩ := List.getElem_of_mem hp
        have := hall.out j hj
        rwa [List.getD, List.getElem?_eq_getElem hj] at this))
      go_wp2
      go_ret
      rw [HF.out]
      exact ⟨rfl, hb⟩
end Go.Proofs.YtdhhfbglbihapaaDoor
set_option linter.unusedVariables false
set_option linter.unusedSimpArgs false
namespace Go.Proofs.YtdhhfbglbihapaaDoor
open Go.RowKit
/-- A make of elements of several cells. -/
theorem make_rowN {P : Program} (t e : TypeId) (i : TypeInfo) (z : Value) (ht : P.underlying t = some (.slice e)) (hi : P.info? e = some i) (hz : i.zero = some z)
    (n : Nat) (hb : i.bytes * n ≤ 281474976710656) (h63 : n ≤ 9223372036854775807) (w : World) :
    (Instr.makeSlice t (.int .i64 (n : Int)) (.int .i64 (n : Int))).run P w = .ok (.slice (some ⟨w.heap.size, 0, none⟩) n n) (w.alloc (.cells (madeCells z.cells (n * i.size)) e)) := by
  have h := run_make (P := P) w t e i z ht hi hz .i64 .i64 (n : Int) (n : Int) (by omega) (by omega) (by
    have : ((i.bytes * n : Nat) : Int) ≤ 281474976710656 := by omega
    rwa [Int.natCast_mul] at this) (by omega)
  simpa only [Int.toNat_natCast] using h
theorem infoSign : (Tryd.prog.info? 89).map (fun i => (i.zero, i.size, i.bytes)) = some (some (.agg #[.int .i64 0, .int .i64 0]), 2, 16) := by kernel_rfl
theorem made_signs (n : Nat) : madeCells #[.int .i64 0, .int .i64 0] (n * 2) = sRow (List.replicate n (0, 0)) := by
  apply Array.ext
  · simp [madeCells, sRow, List.length_flatMap]
  · intro i h1 h2
    simp only [madeCells, Array.getElem_map, Array.getElem_range]
    have hi : i < n * 2 := by simpa [madeCells] using h1
    have hlt : i / 2 < (List.replicate n ((0 : Int), (0 : Int))).length := by simp; omega
    have h := sRow_at (List.replicate n ((0 : Int), (0 : Int))) (i / 2) hlt
    have hz : (List.replicate n ((0 : Int), (0 : Int))).getD (i / 2) (0, 0) = (0, 0) := by
      rw [List.getD, List.getElem?_replicate]; split <;> rfl
    rw [hz] at h
    have e : (sRow (List.replicate n ((0 : Int), (0 : Int))))[i]? = some (.int .i64 0) := by
      rw [sRow, List.getElem?_toArray]
      rcases Nat.mod_two_eq_zero_or_one i with hm | hm
      · have : i / 2 * 2 = i := by omega
        rw [this] at h; exact h.1
      · have : i / 2 * 2 + 1 = i := by omega
        rw [this] at h; exact h.2
    have e2 := Array.getElem?_eq_getElem h2
    rw [e] at e2
    injection e2 with e2
    rw [← e2]
    rcases Nat.mod_two_eq_zero_or_one i with hm | hm <;> simp [hm]
theorem sRow_set (L : List (Int × Int)) (k : Nat) (p : Int × Int) (h : k < L.length) : ((sRow L).setIfInBounds (k * 2) (.int .i64 p.1)).setIfInBounds (k * 2 + 1) (.int .i64 p.2) = sRow (L.set k p) := by
  apply Array.ext'
  simp only [sRow, Array.toList_setIfInBounds]
  induction L generalizing k with
  | nil => simp at h
  | cons x L ih =>
    cases k with
    | zero => rfl
    | succ k =>
      have := ih k (by simpa using h)
      rw [show (k + 1) * 2 = k * 2 + 1 + 1 by omega]
      simp only [List.flatMap_cons, List.cons_append, List.nil_append, List.set_cons_succ, this]
theorem sg_cells {w : World} {g k : Nat} {L : List (Int × Int)} {t : TypeId} {f : Nat × Nat} (h : w.heap[g]? = some (.cells (sRow L) t f)) (hk : k < L.length) :
    w.cell? ⟨g, k * 2, none⟩ = some (.int .i64 (L.getD k (0, 0)).1) ∧ w.cell? ⟨g, k * 2 + 1, none⟩ = some (.int .i64 (L.getD k (0, 0)).2) := by
  have hh := sRow_at L k hk
  rw [cell_of_row _ _ _ _ _ _ h, cell_of_row _ _ _ _ _ _ h, sRow, List.getElem?_toArray, List.getElem?_toArray]
  exact hh
theorem put_snoc {α β : Type} (l : List α) (f : α → β) (z : β) (d : α) (k : Nat) (h : k < l.length) :
    ((l.take k).map f ++ List.replicate (l.length - k) z).set k (f (l.getD k d)) = (l.take (k + 1)).map f ++ List.replicate (l.length - (k + 1)) z := by
  have hl : ((l.take k).map f).length = k := by simp; omega
  rw [List.set_append_right _ _ (by omega), hl, Nat.sub_self, List.take_succ_eq_append_getElem h, List.map_append, List.append_assoc]
  congr 1
  obtain ⟨m, hm⟩ : ∃ m, l.length - k = m + 1 := ⟨l.length - k - 1, by omega⟩
  have hm2 : l.length - (k + 1) = m := by omega
  rw [hm, hm2, List.replicate_succ, List.set_cons_zero, List.getD, List.getElem?_eq_getElem h]; rfl
theorem infoIntS : (Tryd.prog.info? 3).map (fun i => (i.zero, i.size, i.bytes)) = some (some (.int .i64 0), 1, 8) := by kernel_rfl
theorem made_ints (n : Nat) : madeCells #[.int .i64 0] (n * 1) = iRow (List.replicate n 0) := by
  apply Array.ext'
  rw [toList_madeCells_one]; simp [iRow]
theorem i_cell {w : World} {g k : Nat} {L : List Int} {t : TypeId} {f : Nat × Nat} (h : w.heap[g]? = some (.cells (iRow L) t f)) (hk : k < L.length) :
    w.cell? ⟨g, k, none⟩ = some (.int .i64 (L.getD k 0)) := by
  rw [cell_of_row _ _ _ _ _ _ h, iRow_at L k hk]
/-- A slice of numbers, out of a block. -/
theorem row_of_blk {w : World} {g : Nat} {L : List Int} {t : TypeId} {f : Nat × Nat} (h : w.heap[g]? = some (.cells (iRow L) t f)) : Row w (some ⟨g, 0, none⟩) L := fun j hj =>
  ⟨g, 0, rfl, by rw [Nat.zero_add]; exact i_cell h hj, blk_lt h⟩
theorem signs_of_blk {w : World} {g : Nat} {L : List (Int × Int)} {t : TypeId} {f : Nat × Nat} (h : w.heap[g]? = some (.cells (sRow L) t f)) : Signs w (some ⟨g, 0, none⟩) L := fun j hj =>
  ⟨g, 0, rfl, blk_lt h, by rw [Nat.zero_add]; exact (sg_cells h hj).1, by rw [Nat.zero_add]; exact (sg_cells h hj).2⟩
theorem app_cells {w : World} {h : Nat} {L : List Value} {t : TypeId} (hh : w.heap.size = h) {j : Nat} {x : Value} (hj : L[j]? = some x) : (w.alloc (.cells L.toArray t)).cell? ((⟨h, 0, none⟩ : Addr).add j) = some x := by
  subst hh
  have hadd : (⟨w.heap.size, 0, none⟩ : Addr).add j = ⟨w.heap.size, 0 + j, none⟩ := by unfold Addr.add; split <;> simp_all
  rw [hadd, World.cell?_alloc_new, Nat.zero_add, List.getElem?_toArray]; exact hj
end Go.Proofs.YtdhhfbglbihapaaDoor
set_option linter.unusedVariables false
set_option linter.unusedSimpArgs false
namespace Go.Proofs.YtdhhfbglbihapaaDoor
open Go.RowKit
theorem own_ne_kind {w : World} {B n size b : Nat} {e T : TypeId} {v : Value} {xs : List Value} {cs : Array Value} {fr : Nat × Nat} (h : w.ownsRow B e size v n xs) (hb : w.heap[b]? = some (.cells cs T fr)) (hT : T ≠ e) : v.ownBlock ≠ some b := by
  rcases h.2 with ⟨rfl, _⟩ | ⟨g, cap, cur, rfl, _, hg, _⟩
  · simp [Value.ownBlock]
  · intro e'
    obtain rfl : g = b := by simpa [Value.ownBlock] using e'
    rw [hg] at hb; simp at hb; exact hT hb.2.1.symm
theorem own_ne_own {w : World} {B B' n n' size size' : Nat} {e e' : TypeId} {v v' : Value} {xs xs' : List Value} (h : w.ownsRow B e size v n xs) (h' : w.ownsRow B' e' size' v' n' xs') (hT : e ≠ e') : v.ownBlock = none ∨ v.ownBlock ≠ v'.ownBlock := by
  rcases h.2 with ⟨rfl, _⟩ | ⟨g, cap, cur, rfl, _, hg, _⟩
  · exact .inl rfl
  · exact .inr fun e'' => own_ne_kind h' hg hT e''.symm
theorem own_set {w : World} {B n size : Nat} {e : TypeId} {v : Value} {xs : List Value} (h : w.ownsRow B e size v n xs) {a : Addr} (ha : v.ownBlock ≠ some a.block) (u : Value) : (w.setCell a u).ownsRow B e size v n xs := by
  refine ⟨h.1, ?_⟩
  rcases h.2 with h2 | ⟨g, cap, cur, rfl, hB, hg, r⟩
  · exact .inl h2
  · exact .inr ⟨g, cap, cur, rfl, hB, by rw [Below.heap_setCell _ _ _ _ (fun e => ha (by rw [← e]; rfl))]; exact hg, r⟩
/-- A row of numbers of the call's own, read as a slice. -/
theorem row_ofI {w : World} {B : Nat} {v : Value} {L : List Int} (h : w.ownsRow B 3 1 v L.length (L.map (Value.int .i64))) : ∃ a c, v = .slice a L.length c ∧ Row w a L := by
  rcases h.2 with ⟨rfl, h0⟩ | ⟨g, cap, cur, rfl, _, hg, _⟩
  · exact ⟨none, 0, by rw [h0], fun j hj => by omega⟩
  · refine ⟨_, cap, rfl, fun j hj => ⟨g, 0, rfl, ?_, blk_lt hg⟩⟩
    rw [Nat.zero_add, h.cellAt j (by omega), List.getElem?_map, List.getD, List.getElem?_eq_getElem hj]; rfl
end Go.Proofs.YtdhhfbglbihapaaDoor
set_option linter.unusedVariables false
set_option linter.unusedSimpArgs false
namespace Go.Proofs.YtdhhfbglbihapaaDoor
open Go.RowKit
theorem apR_app (a b : List (Int × Int)) : (sRow (a ++ b)).toList = (sRow a).toList ++ (sRow b).toList := by simp [sRow]
theorem apR_one (l : List (Int × Int)) : ∀ u ∈ (sRow l).toList, u.oneCell' = true := by
  intro u hu
  simp only [sRow, List.toList_toArray, List.mem_flatMap] at hu
  obtain ⟨p, _, hp⟩ := hu
  simp at hp
  rcases hp with rfl | rfl <;> rfl
theorem apR_len (l : List (Int × Int)) : (sRow l).toList.length = l.length * 2 := by
  simp only [sRow, List.toList_toArray]
  induction l with
  | nil => rfl
  | cons x l ih => simp only [List.flatMap_cons, List.length_append, List.length_cons, List.length_nil, ih]; omega
theorem apR_news {w : World} {ad : Addr} {l : List (Int × Int)} (h : Signs w (some ad) l) : ∀ j u, (sRow l).toList[j]? = some u → w.cell? (ad.add j) = some u := by
  intro j u hj
  have hlen := apR_len l
  have hj2 : j < l.length * 2 := by
    rw [← hlen]
    exact (List.getElem?_eq_some_iff.1 hj).1
  obtain ⟨b, off, e, _, h1, h2⟩ := h (j / 2) (by omega)
  injection e with e
  subst e
  have hadd : (⟨b, off, none⟩ : Addr).add j = ⟨b, off + j, none⟩ := by unfold Addr.add; split <;> simp_all
  have hs := sRow_at l (j / 2) (by omega)
  have hj' : (l.flatMap fun p => [Value.int .i64 p.1, Value.int .i64 p.2])[j]? = some u := hj
  rw [hadd]
  rcases Nat.mod_two_eq_zero_or_one j with hm | hm
  · have e : j / 2 * 2 = j := by omega
    rw [e] at hs h1
    rw [hs.1] at hj'
    rw [h1]; exact hj'
  · have e : j / 2 * 2 + 1 = j := by omega
    rw [e] at hs
    rw [show off + j / 2 * 2 + 1 = off + j by omega] at h2
    rw [hs.2] at hj'
    rw [h2]; exact hj'
/-- A row of signs of the call's own. -/
def OwS (w : World) (B : Nat) (v : Value) (L : List (Int × Int)) : Prop := w.ownsRow B 89 2 v L.length (sRow L).toList
/-- A slice of signs, its room, and where its block is. -/
structure SlS (S : Nat → Prop) (w : World) (a : Option Addr) (L : List (Int × Int)) (c : Nat) : Prop where
  s : Signs w a L
  le : L.length ≤ c
  nl : a = none → c = 0
  st : ∀ ad, a = some ad → L ≠ [] → S ad.block
theorem SlS.mono {S T : Nat → Prop} {w : World} {a : Option Addr} {L : List (Int × Int)} {c : Nat} (h : SlS S w a L c) (hT : ∀ k, S k → T k) : SlS T w a L c := ⟨h.s, h.le, h.nl, fun ad e hn => hT _ (h.st ad e hn)⟩
theorem SlS.keep {S : Nat → Prop} {w w' : World} {a : Option Addr} {L : List (Int × Int)} {c : Nat} (h : SlS S w a L c) (hs : w.heap.size ≤ w'.heap.size) (hk : ∀ k, S k → w'.heap[k]? = w.heap[k]?) : SlS S w' a L c := by
  refine ⟨fun i hi => ?_, h.le, h.nl, h.st⟩
  obtain ⟨b, off, e, hb, h1, h2⟩ := h.s i hi
  have hS := h.st _ e (fun h0 => by rw [h0] at hi; simp at hi)
  have hkb : w'.heap[b]? = w.heap[b]? := hk b hS
  refine ⟨b, off, e, Nat.lt_of_lt_of_le hb hs, ?_, ?_⟩
  · rw [← h1]; unfold World.cell?; rw [hkb]
  · rw [← h2]; unfold World.cell?; rw [hkb]
theorem SlS.below {S : Nat → Prop} {w w' : World} {a : Option Addr} {L : List (Int × Int)} {c : Nat} (h : SlS S w a L c) (hb : Below w.heap.size w w') : SlS S w' a L c := ⟨h.s.below hb, h.le, h.nl, h.st⟩
/-- A part of a slice. -/
theorem SlS.sub {S : Nat → Prop} {w : World} {a : Option Addr} {L : List (Int × Int)} {c : Nat} (h : SlS S w a L c) (f t : Nat) (hf : f ≤ t) (ht : t ≤ L.length) : SlS S w (if c = f then a else a.map (·.add (f * 2))) ((L.drop f).take (t - f)) (c - f) ∧ ((L.drop f).take (t - f)).length = t - f := by
  have hlen : ((L.drop f).take (t - f)).length = t - f := by rw [List.length_take, List.length_drop]; omega
  have hle := h.le
  refine ⟨⟨fun i hi => ?_, by omega, fun h0 => ?_, fun ad e hn => ?_⟩, hlen⟩
  · rw [hlen] at hi
    obtain ⟨b, off, e, hb, h1, h2⟩ := h.s (f + i) (by omega)
    have hg : ((L.drop f).take (t - f)).getD i (0, 0) = L.getD (f + i) (0, 0) := by
      rw [List.getD, List.getElem?_take, if_pos hi, List.getElem?_drop, List.getD]
    rw [if_neg (by omega), e, hg]
    refine ⟨b, off + f * 2, ?_, hb, ?_, ?_⟩
    · have hadd : (⟨b, off, none⟩ : Addr).add (f * 2) = ⟨b, off + f * 2, none⟩ := by unfold Addr.add; split <;> simp_all
      simp only [Option.map_some, hadd]
    · rw [show off + f * 2 + i * 2 = off + (f + i) * 2 by omega]; exact h1
    · rw [show off + f * 2 + i * 2 + 1 = off + (f + i) * 2 + 1 by omega]; exact h2
  · have : a = none := by
      by_cases hc : c = f
      · rw [if_pos hc] at h0; exact h0
      · rw [if_neg hc] at h0; cases a with
        | none => rfl
        | some x => cases h0
    have := h.nl this; omega
  · have hpos : 0 < ((L.drop f).take (t - f)).length := List.length_pos_iff.2 hn
    rw [hlen] at hpos
    have hL : L ≠ [] := fun h0 => by rw [h0] at ht; simp at ht; omega
    rw [if_neg (by omega)] at e
    cases a with
    | none => cases e
    | some x =>
      have := h.st x rfl hL
      simp only [Option.map_some, Option.some.injEq] at e
      rw [← e]
      unfold Addr.add; split <;> exact this
theorem elemSg : Tryd.prog.elem 31 = 89 := by kernel_rfl
theorem sizeSg (w : World) : (sizeOf 89).run Tryd.prog w = .ok 2 w := by kernel_rfl
/-- Slices of slices of signs. -/
theorem run_cutH (w : World) (a : Option Addr) (n c t : Nat) (h : t ≤ c) : (Instr.slice 31 (.slice a n c) none (some (.int .i64 (t : Int))) none).run Tryd.prog w = .ok (.slice (if c = 0 then a else a.map (·.add (0 * 2))) t c) w := by
  rw [run_slice_h (P := Tryd.prog) w 31 a n c (by kernel_rfl) .i64 (t : Int) (by omega) (by omega), elemSg, sizeSg]
  rfl
theorem run_cutL (w : World) (a : Option Addr) (n c f : Nat) (h : f ≤ n) : (Instr.slice 31 (.slice a n c) (some (.int .i64 (f : Int))) none none).run Tryd.prog w = .ok (.slice (if c = f then a else a.map (·.add (f * 2))) (n - f) (c - f)) w := by
  rw [run_slice_l (P := Tryd.prog) w 31 a n c (by kernel_rfl) .i64 (f : Int) (by omega) (by omega), elemSg, sizeSg]
  rfl
theorem run_cutLH (w : World) (a : Option Addr) (n c f t : Nat) (h : f ≤ t) (h2 : t ≤ c) : (Instr.slice 31 (.slice a n c) (some (.int .i64 (f : Int))) (some (.int .i64 (t : Int))) none).run Tryd.prog w = .ok (.slice (if c = f then a else a.map (·.add (f * 2))) (t - f) (c - f)) w := by
  rw [run_slice_lh (P := Tryd.prog) w 31 a n c (by kernel_rfl) .i64 .i64 (f : Int) (t : Int) (by omega) (by omega) (by omega), elemSg, sizeSg]
  rfl
theorem ows_new (w : World) : OwS (w.alloc (.cells #[] 89)) w.heap.size (.slice (some ⟨w.heap.size, 0, none⟩) 0 0) [] :=
  ⟨rfl, .inr ⟨w.heap.size, 0, #[], rfl, Nat.le_refl _, heap_alloc_new _ _, Nat.le_refl _, by decide, rfl, rfl⟩⟩
theorem OwS.sl {w : World} {B : Nat} {v : Value} {L : List (Int × Int)} (h : OwS w B v L) : ∃ a c, v = .slice a L.length c ∧ SlS (fun k => B ≤ k ∧ k < w.heap.size) w a L c := by
  unfold OwS at h
  rcases h.2 with ⟨rfl, h0⟩ | ⟨g, cap, cur, rfl, hB, hg, hle, _⟩
  · exact ⟨none, 0, by rw [h0], fun j hj => by omega, by omega, fun _ => rfl, fun ad e => by cases e⟩
  · refine ⟨_, cap, rfl, fun j hj => ⟨g, 0, rfl, blk_lt hg, ?_, ?_⟩, hle, fun e => (by cases e), fun ad e _ => (by cases e; exact ⟨hB, blk_lt hg⟩)⟩
    · have := sRow_at L j hj
      rw [Nat.zero_add, h.cellAt (j * 2) (by omega)]; exact this.1
    · have := sRow_at L j hj
      rw [Nat.zero_add, h.cellAt (j * 2 + 1) (by omega)]; exact this.2
/-- A row of the call's own is a slice. -/
theorem OwS.form {w : World} {B : Nat} {v : Value} {L : List (Int × Int)} {n : Nat} (h : OwS w B v L) (hn : L.length = n) : ∃ a c, v = .slice a n c := by
  obtain ⟨a, c, e, _⟩ := h.sl
  exact ⟨a, c, by rw [e, hn]⟩
/-- An append of signs to a row of the call's own. -/
theorem step_app_signs {w : World} {ops : Array Oper} {o : Oper} {a : Act} {K : Act → World → Prop} {Q : Exit → Act → World → Prop} {E : Prop} (hgd : Region.wanted o (yielded ops a.tmps) = true) (s x : Operand)
    (ho : o.op = .call { callee := .builtin .append, args := #[s, x], argTypes := #[31, 31] }) (base : Nat)
    (v : Value) (np : Nat) (p : List (Int × Int)) (hs : a.eval s = v) (hp : p.length = np) (hown : OwS w base v p) (ad : Option Addr) (n c : Nat) (l : List (Int × Int)) (hx : a.eval x = .slice ad n c) (hl : l.length = n) (hsg : Signs w ad l) (hnl : ad = none → c = 0)
    (hlen : np + n ≤ 1000000) (hbase : base ≤ w.heap.size)
    (h : ∀ ad' c' w', OwS w' base (.slice ad' (np + n) c') (p ++ l) → w.grownBy w' v.ownBlock → K (a.put o.dst (.slice ad' (np + n) c')) w') :
    if Region.wanted o (yielded ops a.tmps) = true then Oper.wp Tryd.prog o a w K Q else E := by
  obtain ⟨i0, hi, hz0, hz1, hz2⟩ := info_parts infoSign
  subst hl; subst hp
  rw [if_pos hgd]
  have hfin : ∀ v' w', OwS w' base v' (p ++ l) → w.grownBy w' v.ownBlock → K (a.put o.dst v') w' := by
    intro v' w' h1 h2
    obtain ⟨ad', c', rfl⟩ := h1.form (n := p.length + l.length) (by rw [List.length_append])
    exact h ad' c' w' h1 h2
  cases ad with
  | none =>
    obtain rfl := hnl rfl
    have hnil : l = [] := by
      cases l with
      | nil => rfl
      | cons x l => obtain ⟨_, _, e, _⟩ := hsg 0 (by simp); cases e
    subst hnil
    have hrun := run_append_owned_none (P := Tryd.prog) (w := w) base 31 o.type 89 i0 2 Tryd.underlying31 hi v p.length _ hown
    have h' := hfin v w (by rw [List.append_nil]; exact hown) ⟨rfl, rfl, rfl, Nat.le_refl _, fun _ _ _ => rfl⟩
    unfold Oper.wp
    simp only [List.length_nil] at hx
    simp [execOp, ho, resolve, invoke, builtin, hs, hx, hrun, Result.andThen]
    exact h'
  | some ad =>
    refine wp_append_own w s x 31 ho base 89 i0 _ 2 16 Tryd.underlying31 hi hz0 hz1 hz2 rfl (by decide) v p.length _ hs hown ad l.length c (sRow l).toList hx (apR_len l) (apR_news hsg) (apR_one l) (by unfold maxLen; omega) (by omega) hbase (fun v' w' a1 a2 _ => hfin v' w' ?_ a2)
    unfold OwS
    rw [List.length_append, apR_app]
    exact a1
theorem wpList_app_signs {w : World} {ops : Array Oper} {rest : List Oper} {o : Oper} {a : Act} {Q : Exit → Act → World → Prop} (hgd : Region.wanted o (yielded ops a.tmps) = true) (s x : Operand)
    (ho : o.op = .call { callee := .builtin .append, args := #[s, x], argTypes := #[31, 31] }) (base : Nat)
    (v : Value) (np : Nat) (p : List (Int × Int)) (hs : a.eval s = v) (hp : p.length = np) (hown : OwS w base v p) (ad : Option Addr) (n c : Nat) (l : List (Int × Int)) (hx : a.eval x = .slice ad n c) (hl : l.length = n) (hsg : Signs w ad l) (hnl : ad = none → c = 0)
    (hlen : np + n ≤ 1000000) (hbase : base ≤ w.heap.size)
    (h : ∀ ad' c' w', OwS w' base (.slice ad' (np + n) c') (p ++ l) → w.grownBy w' v.ownBlock → wpList Tryd.prog ops Q rest (a.put o.dst (.slice ad' (np + n) c')) w') : wpList Tryd.prog ops Q (o :: rest) a w :=
  wpList_step fun K hK => step_app_signs hgd s x ho base v np p hs hp hown ad n c l hx hl hsg hnl hlen hbase (fun ad' c' w' h1 h2 => hK _ _ (h ad' c' w' h1 h2))
set_option maxHeartbeats 4000000 in
theorem joinS_ref (S : Nat → Prop) (p l : List (Int × Int)) (a b : Option Addr) (c d n m : Nat) (w : World) (hn : p.length = n) (hm : l.length = m) (hp : n ≤ 100000) (hl : m ≤ 100000) (ha : SlS S w a p c) (hb : SlS S w b l d) :
    Calls Tryd.prog 63 #[.slice a n c, .slice b m d] w fun e w' => ∃ ad c', e = .returned (.slice ad (n + m) c') ∧ OwS w' w.heap.size (.slice ad (n + m) c') (p ++ l) ∧ Below w.heap.size w w' := by
  have N0 := below_alloc w (.cells #[] 89)
  have H0 := Lib.hid (ows_new w)
  have hsz : (w.alloc (.cells #[] 89)).heap.size = w.heap.size + 1 := by simp
  have HA := Lib.hid (ha.below N0)
  have HB := Lib.hid hb
  have HN := Lib.hid hn
  have HM := Lib.hid hm
  clear ha hb hn hm
  generalize hW : w.alloc (.cells #[] 89) = W at *
  go_enter Tryd.func63, Tryd.ntmps63
  go_wp2_with (at_builtin; refine wpList_app_signs rfl _ _ rfl w.heap.size _ 0 [] rfl rfl H0.out a n c p rfl HN.out HA.out.s HA.out.nl ?c3 ?c4 ?_)
  case c3 => omega
  case c4 => omega
  intro ad5 c5 w5 hown5 hgrow5
  have N5 := N0.grown hgrow5 (by omega) (fun j hj => by simp [Value.ownBlock] at hj; omega)
  have HB5 := Lib.hid (HB.out.s.below N5)
  have Hown := Lib.hid (show OwS w5 w.heap.size (.slice ad5 n c5) p from hown5)
  have HS5 := Lib.hid N5.size
  clear hown5 hgrow5
  go_wp2_with (at_builtin; refine wpList_app_signs rfl _ _ rfl w.heap.size _ n p rfl HN.out Hown.out b m d l rfl HM.out HB5.out HB.out.nl ?c3 ?c4 ?_)
  case c3 => omega
  case c4 => exact HS5.out
  intro ad6 c6 w6 hown6 hgrow6
  have N6 := N5.grown hgrow6 N5.size (fun j hj => (Hown.out.lt j hj).1)
  have HO := Lib.hid hown6
  clear hown6 hgrow6
  go_wp2
  go_ret
  exact ⟨_, _, rfl, HO.out, N6⟩
end Go.Proofs.YtdhhfbglbihapaaDoor
set_option linter.unusedVariables false
set_option linter.unusedSimpArgs false
namespace Go.Proofs.YtdhhfbglbihapaaDoor
open Go.RowKit
def rowL (r : KRow) : List Value := [.int .i64 r.1, .int .i64 r.2.1, .string ⟨r.2.2.1.toArray⟩, .string ⟨r.2.2.2.toArray⟩]
def rowV (r : KRow) : Value := .agg #[.int .i64 r.1, .int .i64 r.2.1, .string ⟨r.2.2.1.toArray⟩, .string ⟨r.2.2.2.toArray⟩]
def kCells : List Value := kTab.flatMap rowL
/-- The table lies in memory. -/
structure KT (w : World) : Prop where
  cell : ∀ i, i < 52 → w.cell? ⟨2, i, none⟩ = kCells[i]?
  lt : 2 < w.heap.size
theorem KT.below {w w' : World} (h : KT w) (hb : Below w.heap.size w w') : KT w' :=
  ⟨fun i hi => (hb.cell (p := ⟨2, i, none⟩) h.lt).trans (h.cell i hi), Nat.lt_of_lt_of_le h.lt hb.size⟩
theorem undK : Tryd.prog.underlying 200 = some (.array 13 184) := by kernel_rfl
theorem infoK : (Tryd.prog.info? 200).map (·.size) = some 52 := by kernel_rfl
theorem infoR : (Tryd.prog.info? 184).map (·.size) = some 4 := by kernel_rfl
/-- A whole variable, out of its cells. -/
theorem run_loadVar_cells {P : Program} (w : World) (g : Nat) (ty : TypeId) (cs : List Value) (d : TypeDesc) (hg : ∀ j v, cs[j]? = some v → w.cell? ⟨g, j, none⟩ = some v)
    (hu : P.underlying ty = some d) (hd : (match d with | .struct _ | .array _ _ => true | _ => false) = true) (hi : (P.info? ty).map (·.size) = some cs.length) :
    (loadVar ty ⟨g, 0, none⟩).run P w = .ok (.agg cs.toArray) w := by
  have hl : (loadCells ⟨g, 0, none⟩ cs.length).run P w = .ok cs.toArray w :=
    run_loadCells_list (P := P) w ⟨g, 0, none⟩ cs (fun j v hv => by
      have hadd : (⟨g, 0, none⟩ : Addr).add j = ⟨g, j, none⟩ := by unfold Addr.add; split <;> simp_all
      rw [hadd]; exact hg j v hv)
  cases hq : P.info? ty with
  | none => simp [hq] at hi
  | some i =>
    have hs : i.size = cs.length := by simpa [hq] using hi
    have hagg : (isAgg ty).run P w = .ok true w := by
      unfold isAgg
      rw [Sem.run_bind, run_underlying hu w]
      cases d <;> simp_all
    simp [loadVar, Sem.run_bind, hagg, sizeOf, typeInfo, hq, hs, hl]
theorem kLoad (w : World) (h : KT w) : (loadVar 200 ⟨2, 0, none⟩).run Tryd.prog w = .ok (.agg kCells.toArray) w :=
  run_loadVar_cells w _ _ kCells _ (fun j v hv => by
    have hj : j < 52 := by
      have := (List.getElem?_eq_some_iff.1 hv).1
      exact this
    rw [h.cell j hj]; exact hv) undK rfl infoK
theorem kLoad2 (w : World) (h : KT w) : (loadCellsFrom ⟨2, 0, none⟩ 0 52 #[]).run Tryd.prog w = .ok kCells.toArray w := by
  have := run_loadCells_list (P := Tryd.prog) w ⟨2, 0, none⟩ kCells (fun j v hv => by
      have hadd : (⟨2, 0, none⟩ : Addr).add j = ⟨2, j, none⟩ := by unfold Addr.add; split <;> simp_all
      have hj : j < 52 := (List.getElem?_eq_some_iff.1 hv).1
      rw [hadd, h.cell j hj]; exact hv)
  have e : kCells.length = 52 := rfl
  simpa [loadCells, e] using this
/-- The walk's step where the whole table is loaded. -/
theorem wpList_load_kt {ops : Array Oper} {rest : List Oper} {dst : Option Tmp} {ty : TypeId} {pos : String} {after : Array Edge} {a : Act} {w : World} {Q : Exit → Act → World → Prop} (hT : KT w)
    (h : wpList Tryd.prog ops Q rest (a.put dst (.agg kCells.toArray)) w) :
    wpList Tryd.prog ops Q ({ dst := dst, op := .load 200 (.global 2), type := ty, pos := pos, after := after, guard := none } :: rest) a w := by
  refine wpList_plain rfl fun _ hK => ?_
  have hx : a.eval (.global 2) = .pointer (some ⟨2, 0, none⟩) := rfl
  unfold Oper.wp execOp
  simp only [hx, Instr.loadAt, Instr.sureAddr, Sem.run_bind, Sem.run_pure, Result.andThen_ok, kLoad w hT]
  exact hK _ _ h
theorem kIdx (k : Nat) (hk : k < 13) (w : World) : (Instr.index 200 (.agg kCells.toArray) (.int .i64 (k : Int))).run Tryd.prog w = .ok (rowV (kTab.getD k kr0)) w := by
  have hagg : (isAgg 184).run Tryd.prog w = .ok true w := by kernel_rfl
  have hsz : (sizeOf 184).run Tryd.prog w = .ok 4 w := by kernel_rfl
  have hex : List.take 4 (List.drop (k * 4) kCells) = rowL (kTab.getD k kr0) := by
    match k, hk with
    | 0, _ => rfl
    | 1, _ => rfl
    | 2, _ => rfl
    | 3, _ => rfl
    | 4, _ => rfl
    | 5, _ => rfl
    | 6, _ => rfl
    | 7, _ => rfl
    | 8, _ => rfl
    | 9, _ => rfl
    | 10, _ => rfl
    | 11, _ => rfl
    | 12, _ => rfl
  have h0 : (0 : Int) ≤ k := by omega
  have h1 : (k : Int) < 13 := by omega
  simp only [Instr.index, asIntOf, Sem.run_bind, run_underlying undK, Sem.run_pure, Result.andThen, Result.andThen_ok]
  simp only [h0, h1, true_and, if_true, part, Sem.run_bind, hsz, hagg, Result.andThen, Result.andThen_ok, Sem.run_pure, Int.toNat_natCast]
  simp [hex, rowV, h1]
  simp [rowL]
/-- From a row on: which is a key's. -/
def kFrom (kind v : Int) (k : Nat) : Option KRow := (kTab.drop k).find? (kIs kind v)
theorem kFrom_end (kind v : Int) : kFrom kind v 13 = none := rfl
theorem kTab_len : kTab.length = 13 := rfl
theorem kFrom_step (kind v : Int) (k : Nat) (hk : k < 13) : kFrom kind v k = if (kTab.getD k kr0).1 = kind ∧ (kTab.getD k kr0).2.1 = v then some (kTab.getD k kr0) else kFrom kind v (k + 1) := by
  unfold kFrom
  have hk' : k < kTab.length := hk
  rw [List.drop_eq_getElem_cons hk', List.find?_cons]
  have e : kTab.getD k kr0 = kTab[k] := by rw [List.getD, List.getElem?_eq_getElem hk']; rfl
  rw [e]
  unfold kIs
  by_cases h : (kTab[k]).1 = kind ∧ (kTab[k]).2.1 = v
  · rw [if_pos h, show ((kTab[k]).1 == kind && (kTab[k]).2.1 == v) = true by rw [h.1, h.2]; simp]
  · rw [if_neg h]
    have hb : ((kTab[k]).1 == kind && (kTab[k]).2.1 == v) = false := by
      cases hx : ((kTab[k]).1 == kind && (kTab[k]).2.1 == v) with
      | false => rfl
      | true => exact absurd (by simpa using hx) h
    rw [hb]
set_option maxRecDepth 100000 in
theorem kfinder_any (kind : Int) (w : World) : Calls Tryd.prog 151 #[.int .i64 kind] w fun e w' => e = .returned (.func (.func 172) #[] #[.pointer (some ⟨w.heap.size, 0, none⟩)]) ∧ w.alloc (.cells #[.int .i64 kind] 3) = w' := by
  have hmf : ∀ (fn : Fn) (first cap : Array Value) (w : World), (Instr.makeFunc fn first cap).run Tryd.prog w = .ok (.func fn first cap) w := fun _ _ _ _ => rfl
  go_enter Tryd.func151, Tryd.ntmps151
  go_wp2
  go_ret
  exact ⟨rfl, rfl⟩
end Go.Proofs.YtdhhfbglbihapaaDoor
set_option linter.unusedVariables false
set_option linter.unusedSimpArgs false
namespace Go.Proofs.YtdhhfbglbihapaaDoor
open Go.RowKit
/-- A builder of the call's own, at block b, that holds some bytes. -/
abbrev BldAt (B b : Nat) (p : Value) (bs : List Value) (w : World) : Prop := Lib.BuilderAt 102 5 B b p bs w
abbrev IsBld (B b : Nat) (bs : List Value) (w : World) : Prop := Lib.IsBuilder 102 5 B b bs w
theorem sizeBld : (Tryd.prog.info? 102).map (fun i => i.size) = some 2 := by kernel_rfl
theorem liesBld : liesAt Tryd.prog Tryd.prog.depth 102 (2 / Tryd.prog.cellsOf 102) 0 102 1 = true := by kernel_rfl
theorem infoU8 : (Tryd.prog.info? 5).map (fun i => (i.zero, i.size, i.bytes)) = some (some (.int .u8 0), 1, 1) := by kernel_rfl
set_option maxHeartbeats 1000000 in
set_option maxRecDepth 100000 in
theorem bcheck_used (b : Nat) (w : World) (h0 : w.cell? ⟨b, 0, none⟩ = some (.pointer (some ⟨b, 0, none⟩))) :
    Calls Tryd.prog 103 #[.pointer (some ⟨b, 0, none⟩)] w fun e w' => e = .returned (.tuple #[]) ∧ w = w' := by
  obtain ⟨j, hj, _⟩ := Option.map_eq_some_iff.1 sizeBld
  go_enter Tryd.func103, Tryd.ntmps103
  go_wp2
  rw [Lib.run_neq_ptr_same w _ Tryd.underlying100 hj]
  go_wp2
  go_end0
  exact ⟨rfl, rfl⟩
set_option maxHeartbeats 1000000 in
set_option maxRecDepth 100000 in
theorem bcheck_fresh (b : Nat) (w : World) (h0 : w.cell? ⟨b, 0, none⟩ = some (.pointer none)) (hsh : w.shape? b = some (102, 2)) (hfz : w.frozen? ⟨b, 0, none⟩ = false) :
    Calls Tryd.prog 103 #[.pointer (some ⟨b, 0, none⟩)] w fun e w' => e = .returned (.tuple #[]) ∧ w' = w.setCell ⟨b, 0, none⟩ (.pointer (some ⟨b, 0, none⟩)) := by
  obtain ⟨j, hj, hjs⟩ := Option.map_eq_some_iff.1 sizeBld
  go_enter Tryd.func103, Tryd.ntmps103
  go_wp2
  rw [Lib.run_to_unsafe w ⟨b, 0, none⟩ Tryd.underlying100 Tryd.underlying167 hj (by rw [hjs]; decide) hsh (Nat.zero_lt_succ 1)]
  simp only [Result.andThen]
  rw [Oper.upon_value]
  go_wp2
  rw [run_callFunc_extern Tryd.func135 (by kernel_rfl) (by kernel_rfl) (by kernel_rfl) (e := Extern.AbiNoEscape.same) (by kernel_rfl)]
  rw [Lib.run_noEscape]
  simp only [Result.andThen]
  rw [Oper.upon_value]
  go_wp2
  rw [Lib.run_from_unsafe w ⟨b, 0, none⟩ Tryd.underlying167 Tryd.underlying100 hj hsh liesBld]
  simp only [Result.andThen]
  rw [Oper.upon_value]
  go_wp2
  go_end0
  exact ⟨rfl, rfl⟩
theorem bcheck_any (B b : Nat) (bs : List Value) (w : World) (h : IsBld B b bs w) :
    Calls Tryd.prog 103 #[.pointer (some ⟨b, 0, none⟩)] w fun e w' => e = .returned (.tuple #[]) ∧ BldAt B b (.pointer (some ⟨b, 0, none⟩)) bs w' ∧ Below B w w' := by
  rcases h with h | h
  · refine (bcheck_fresh b w h.cell0 h.shape h.frozen0).mono ?_
    rintro e w' ⟨rfl, rfl⟩
    exact ⟨rfl, h.used _, (Below.refl B w).setCell (p := ⟨b, 0, none⟩) h.1 _⟩
  · refine (bcheck_used b w h.cell0).mono ?_
    rintro e w' ⟨rfl, rfl⟩
    exact ⟨rfl, h, Below.refl B _⟩
set_option maxHeartbeats 2000000 in
set_option maxRecDepth 100000 in
theorem bwrite_any (B b : Nat) (bs : List Value) (s : ByteArray) (w : World) (h : IsBld B b bs w) (hlen : bs.length + s.size ≤ 140737488355328) (hBw : B ≤ w.heap.size) :
    Calls Tryd.prog 65 #[.pointer (some ⟨b, 0, none⟩), .string s] w fun e w' => e = .returned (.tuple #[.int .i64 s.size, .nilIface]) ∧ BldAt B b (.pointer (some ⟨b, 0, none⟩)) (bs ++ Lib.strCells s) w' ∧ Below B w w' := by
  obtain ⟨i0, hi, hz0, hz1, hz2⟩ := info_parts infoU8
  have C := Lib.hid (bcheck_any B b bs w h)
  clear h
  go_enter Tryd.func65, Tryd.ntmps65
  go_wp2_with (go_at_call 103; refine C.out.mono ?_)
  rintro e w1 ⟨rfl, ⟨hB, v, hbk, hown, hne⟩, hb1⟩
  have c0 := Lib.cell_of_heap hbk 0; have c1 := Lib.cell_of_heap hbk 1
  dsimp at c0 c1
  go_wp2_with (at_builtin; refine Lib.wpList_append_own_string _ rfl _ _ 44 9 rfl B 5 i0 Tryd.underlying44 Tryd.underlying9 hi hz0 hz1 hz2 _ _ _ rfl hown s rfl ?g3 ?g4 ?g5 ?_)
  case g3 => unfold maxLen; omega
  case g4 => omega
  case g5 => have := hb1.size; omega
  intro v' w2 hown' hgrow _
  have hlt := blk_lt hbk
  have hb2 : w2.heap[b]? = some (.cells #[.pointer (some ⟨b, 0, none⟩), v] 102 (0, 0)) := (hgrow.block b hlt (fun e => hne e.symm)).trans hbk
  have d0 := Lib.cell_of_heap hb2 0
  have d1 := Lib.cell_of_heap hb2 1
  have f1 : w2.frozen? ⟨b, 1, none⟩ = false := Lib.frozen_of_heap hb2 1
  dsimp at d0 d1
  obtain ⟨ao, n', cap, rfl⟩ : ∃ ao n' cap, v' = .slice ao n' cap := by
    rcases hown'.2 with ⟨hv, _⟩ | ⟨g, cap, cur, hv, _⟩
    · exact ⟨_, _, _, hv⟩
    · exact ⟨_, _, _, hv⟩
  go_wp2
  go_ret2
  refine ⟨rfl, ?_, ?_⟩
  · exact Lib.BuilderAt.put (T := 102) (e := 5) hB hb2 (bs' := bs ++ Lib.strCells s) (by simpa [Lib.strCells_length] using hown') (by decide)
  · exact (hb1.grown hgrow (by have := hb1.size; omega) (fun k hk => (hown.lt k hk).1)).setCell (p := ⟨b, 1, none⟩) hB _
end Go.Proofs.YtdhhfbglbihapaaDoor
set_option linter.unusedVariables false
set_option linter.unusedSimpArgs false
namespace Go.Proofs.YtdhhfbglbihapaaDoor
open Go.RowKit
theorem rowV_eq (a b : Int) (c d : List UInt8) : rowV (a, b, c, d) = .agg #[.int .i64 a, .int .i64 b, .string ⟨c.toArray⟩, .string ⟨d.toArray⟩] := rfl
theorem kFrom_hit {kind v : Int} {k : Nat} {r : KRow} (h : kFrom kind v k = kFind kind v) (hk : k < 13) (e : kTab.getD k kr0 = r) (h1 : r.1 = kind) (h2 : r.2.1 = v) : kFind kind v = some r := by
  rw [← h, kFrom_step kind v k hk, e, if_pos ⟨h1, h2⟩]
theorem kFrom_miss {kind v : Int} {k : Nat} {r : KRow} (h : kFrom kind v k = kFind kind v) (hk : k < 13) (e : kTab.getD k kr0 = r) (h1 : ¬ (r.1 = kind ∧ r.2.1 = v)) : kFrom kind v (k + 1) = kFind kind v := by
  rw [← h, kFrom_step kind v k hk, e, if_neg h1]
/-- Four stores into a block. -/
theorem four_set {w : World} {b : Nat} {x0 x1 x2 x3 : Value} {T : TypeId} {f : Nat × Nat} (h : w.heap[b]? = some (.cells #[x0, x1, x2, x3] T f)) (v0 v1 v2 v3 : Value) :
    ((((w.setCell ⟨b, 0, none⟩ v0).setCell ⟨b, 1, none⟩ v1).setCell ⟨b, 2, none⟩ v2).setCell ⟨b, 3, none⟩ v3).heap[b]? = some (.cells #[v0, v1, v2, v3] T f) :=
  blk_set (blk_set (blk_set (blk_set h 0 _) 1 _) 2 _) 3 _
theorem four_below (w w0 : World) (b : Nat) (v0 v1 v2 v3 : Value) (hb : w0.heap.size ≤ b) (h : Below w0.heap.size w0 w) :
    Below w0.heap.size w0 ((((w.setCell ⟨b, 0, none⟩ v0).setCell ⟨b, 1, none⟩ v1).setCell ⟨b, 2, none⟩ v2).setCell ⟨b, 3, none⟩ v3) :=
  (((h.setCell (p := ⟨b, 0, none⟩) hb v0).setCell (p := ⟨b, 1, none⟩) hb v1).setCell (p := ⟨b, 2, none⟩) hb v2).setCell (p := ⟨b, 3, none⟩) hb v3
set_option maxHeartbeats 4000000 in
set_option maxRecDepth 100000 in
theorem kfind_any (v kind : Int) (p : Nat) (w : World) (hK : KT w) (hp : w.cell? ⟨p, 0, none⟩ = some (.int .i64 kind)) :
    Calls Tryd.prog 172 #[.int .i64 v, .pointer (some ⟨p, 0, none⟩)] w fun e w' => e = .returned (.tuple #[rowV (kRowOf kind v), .bool (kFind kind v).isSome]) ∧ Below w.heap.size w w' := by
  have B0 := below_alloc w (.cells #[.int .i64 0, .int .i64 0, .string ⟨#[]⟩, .string ⟨#[]⟩] 184)
  have hq := Lib.hid (heap_alloc_new w (.cells #[.int .i64 0, .int .i64 0, .string ⟨#[]⟩, .string ⟨#[]⟩] 184))
  have hpl : p < w.heap.size := block_lt_of_cell hp
  have hld := Lib.hid (hK.below B0)
  have hp0 := Lib.hid ((B0.cell (p := ⟨p, 0, none⟩) hpl).trans hp)
  have hs0 := B0.size
  clear hK hp
  go_enter Tryd.func172, Tryd.ntmps172
  go_wp2_with (with_reducible refine wpList_load_kt hld.out ?_)
  clear hld
  go_loopw [8] (fun iv wr => ∃ k : Nat, k ≤ 13 ∧ iv = .int .i64 (k : Int) ∧ Hid (kFrom kind v k = kFind kind v) ∧ Below (w.alloc (.cells #[.int .i64 0, .int .i64 0, .string ⟨#[]⟩, .string ⟨#[]⟩] 184)).heap.size (w.alloc (.cells #[.int .i64 0, .int .i64 0, .string ⟨#[]⟩, .string ⟨#[]⟩] 184)) wr) (fun iv _ => 13 - (intOf iv).toNat)
  case atStart => exact ⟨0, by omega, rfl, Lib.hid rfl, Below.refl _ _⟩
  case round =>
    obtain ⟨k, hk, rfl, HE, hb⟩ := hrel
    have hql : w.heap.size < (w.alloc (.cells #[.int .i64 0, .int .i64 0, .string ⟨#[]⟩, .string ⟨#[]⟩] 184)).heap.size := blk_lt hq.out
    have hqr := blk_below hq.out hb
    have hpr : wr.cell? ⟨p, 0, none⟩ = some (.int .i64 kind) := (hb.cell (p := ⟨p, 0, none⟩) (by show p < _; omega)).trans hp0.out
    have hsz := hb.size
    by_cases hlt : k < 13
    · have hk0 : (0 : Int) ≤ k := by omega
      have hk1 : (k : Int) < 13 := by omega
      have hix := fun w => kIdx k hlt w
      obtain ⟨r, hr⟩ : ∃ r, kTab.getD k kr0 = r := ⟨_, rfl⟩
      rw [hr] at hix
      obtain ⟨a, b, c, d⟩ := r
      rw [rowV_eq] at hix
      have B1 := below_alloc wr (.cells #[.int .i64 a, .int .i64 b, .string ⟨c.toArray⟩, .string ⟨d.toArray⟩] 184)
      have hpr1 := (B1.cell (p := ⟨p, 0, none⟩) (by show p < _; omega)).trans hpr
      by_cases h1 : a = kind
      · by_cases h2 : b = v
        · have HF := Lib.hid (kFrom_hit HE.out hlt hr h1 h2)
          have hq1 := blk_below hqr B1
          have HN := seqB B0 (hb.trans (B1.mono hsz))
          clear HE hr hqr
          subst h1; subst h2
          have zf := fun i => frozen_of_row _ w.heap.size i _ _ hq1
          have zz := fun i => cell_of_row _ _ i _ _ _ hq1
          have z0 := zz 0; have z1 := zz 1; have z2 := zz 2; have z3 := zz 3
          dsimp at z0 z1 z2 z3
          have hql1 := blk_lt hq1
          have hfin := Lib.hid (four_set hq1 (.int .i64 a) (.int .i64 b) (.string ⟨c.toArray⟩) (.string ⟨d.toArray⟩))
          have NF := Lib.hid (four_below _ w w.heap.size (.int .i64 a) (.int .i64 b) (.string ⟨c.toArray⟩) (.string ⟨d.toArray⟩) (Nat.le_refl _) HN)
          clear zz hq1 HN
          go_wp2
          generalize hWF : World.setCell _ _ _ = WF
          have hqf : WF.heap[w.heap.size]? = some (.cells #[.int .i64 a, .int .i64 b, .string ⟨c.toArray⟩, .string ⟨d.toArray⟩] 184 (0, 0)) := by rw [← hWF]; exact hfin.out
          have hN : Below w.heap.size w WF := by rw [← hWF]; exact NF.out
          have y := fun i => cell_of_row _ _ i _ _ _ hqf
          have y0 := y 0; have y1 := y 1; have y2 := y 2; have y3 := y 3
          dsimp at y0 y1 y2 y3
          clear y hqf hWF
          refine bodyPost_ret (v := .tuple #[.agg #[.int .i64 a, .int .i64 b, .string ⟨c.toArray⟩, .string ⟨d.toArray⟩], .bool true]) (by simp [results, Tryd.results172, go_sem, y0, y1, y2, y3]) rfl ?_
          unfold kRowOf
          rw [HF.out]
          exact ⟨rfl, hN⟩
        · have HF := Lib.hid (kFrom_miss HE.out hlt hr (fun h => h2 h.2))
          clear HE hr hqr
          subst h1
          go_wp2
          go_roundw
          case rel => exact ⟨k + 1, by omega, by go_num, HF, hb.trans (B1.mono hsz)⟩
          case measure => (simp [intOf]; try omega)
      · have HF := Lib.hid (kFrom_miss HE.out hlt hr (fun h => h1 h.1))
        clear HE hr hqr
        go_wp2
        go_roundw
        case rel => exact ⟨k + 1, by omega, by go_num, HF, hb.trans (B1.mono hsz)⟩
        case measure => (simp [intOf]; try omega)
    · obtain rfl : k = 13 := by omega
      have HF : Hid (kFind kind v = none) := Lib.hid (by rw [← HE.out]; rfl)
      have HN := seqB B0 hb
      have zf := fun i => frozen_of_row _ w.heap.size i _ _ hqr
      have zz := fun i => cell_of_row _ _ i _ _ _ hqr
      have z0 := zz 0; have z1 := zz 1; have z2 := zz 2; have z3 := zz 3
      dsimp at z0 z1 z2 z3
      have hql1 := blk_lt hqr
      have hfin := Lib.hid (four_set hqr (.int .i64 0) (.int .i64 0) (.string ⟨#[]⟩) (.string ⟨#[]⟩))
      have NF := Lib.hid (four_below _ w w.heap.size (.int .i64 0) (.int .i64 0) (.string ⟨#[]⟩) (.string ⟨#[]⟩) (Nat.le_refl _) HN)
      clear zz hqr HN HE
      go_wp2
      generalize hWF : World.setCell _ _ _ = WF
      have hqf : WF.heap[w.heap.size]? = some (.cells #[.int .i64 0, .int .i64 0, .string ⟨#[]⟩, .string ⟨#[]⟩] 184 (0, 0)) := by rw [← hWF]; exact hfin.out
      have hN : Below w.heap.size w WF := by rw [← hWF]; exact NF.out
      have y := fun i => cell_of_row _ _ i _ _ _ hqf
      have y0 := y 0; have y1 := y 1; have y2 := y 2; have y3 := y 3
      dsimp at y0 y1 y2 y3
      clear y hqf hWF
      refine bodyPost_ret (v := .tuple #[.agg #[.int .i64 0, .int .i64 0, .string ⟨#[]⟩, .string ⟨#[]⟩], .bool false]) (by simp [results, Tryd.results172, go_sem, y0, y1, y2, y3]) rfl ?_
      unfold kRowOf
      rw [HF.out]
      exact ⟨rfl, hN⟩
end Go.Proofs.YtdhhfbglbihapaaDoor
set_option linter.unusedVariables false
set_option linter.unusedSimpArgs false
namespace Go.Proofs.YtdhhfbglbihapaaDoor
open Go.RowKit
theorem kcell (w : World) (v : Value) (t : TypeId) : (w.alloc (.cells #[v] t)).cell? ⟨w.heap.size, 0, none⟩ = some v := by rw [World.cell?_alloc_new]; rfl
theorem may_sign (v : Int) : mayB 1 v = (decide (32 ≤ v) && decide (v ≠ 127) && rightB v) := by unfold mayB; rw [if_pos rfl]
theorem may_ctrl (v : Int) : mayB 2 v = ctB v := by unfold mayB; rw [if_neg (by decide), if_pos rfl]
theorem may_meta (v : Int) : mayB 3 v = (decide (0 ≤ v ∧ v < 128) && !lnB v) := by unfold mayB; rw [if_neg (by decide), if_neg (by decide), if_pos rfl]
theorem may_other (kind v : Int) (h1 : kind ≠ 1) (h2 : kind ≠ 2) (h3 : kind ≠ 3) : mayB kind v = (kFind kind v).isSome := by unfold mayB; rw [if_neg h1, if_neg h2, if_neg h3]
set_option maxHeartbeats 2000000 in
set_option maxRecDepth 100000 in
theorem kmay_any (kind v : Int) (w : World) (hK : KT w) : Calls Tryd.prog 119 #[.int .i64 kind, .int .i64 v] w fun e w' => e = .returned (.bool (mayB kind v)) ∧ Below w.heap.size w w' := by
  by_cases h1 : kind = 1
  · subst h1
    rw [may_sign]
    have R := Lib.hid fun w => right_any v w
    clear hK
    by_cases h32 : 32 ≤ v
    · by_cases h127 : v = 127
      · subst h127
        go_enter Tryd.func119, Tryd.ntmps119
        go_wp2_with fail
        go_ret
        exact ⟨rfl, Below.refl _ _⟩
      · rw [decide_eq_true h32, decide_eq_true h127]
        go_enter Tryd.func119, Tryd.ntmps119
        go_wp2_with (go_at_call 109; refine (R.out _).mono ?_; rintro e w1 ⟨rfl, rfl⟩)
        go_ret
        refine ⟨?_, Below.refl _ _⟩
        show Ending.returned (.bool (v != 127 && rightB v)) = _
        rw [show (v != 127) = true by simp [h127]]
        rfl
    · rw [decide_eq_false h32]
      go_enter Tryd.func119, Tryd.ntmps119
      go_wp2_with fail
      go_ret
      exact ⟨rfl, Below.refl _ _⟩
  by_cases h2 : kind = 2
  · subst h2
    rw [may_ctrl]
    have L := Lib.hid fun w => lineByte_any v w
    clear hK h1
    by_cases h0 : 0 ≤ v
    · by_cases h32 : v < 32
      · have e : ctB v = !lnB v := by unfold ctB; rw [decide_eq_true (by omega)]; rfl
        rw [e]
        go_enter Tryd.func119, Tryd.ntmps119
        go_wp2_with (go_at_call 150; refine (L.out _).mono ?_; rintro e w1 ⟨rfl, hb1⟩)
        go_ret
        exact ⟨rfl, hb1⟩
      · have e : ctB v = false := by unfold ctB; rw [decide_eq_false (by omega)]; rfl
        rw [e]
        go_enter Tryd.func119, Tryd.ntmps119
        go_wp2_with fail
        go_ret
        exact ⟨rfl, Below.refl _ _⟩
    · have e : ctB v = false := by unfold ctB; rw [decide_eq_false (by omega)]; rfl
      rw [e]
      go_enter Tryd.func119, Tryd.ntmps119
      go_wp2_with fail
      go_ret
      exact ⟨rfl, Below.refl _ _⟩
  by_cases h3 : kind = 3
  · subst h3
    rw [may_meta]
    have L := Lib.hid fun w => lineByte_any v w
    clear hK h1 h2
    by_cases h0 : 0 ≤ v
    · by_cases h32 : v < 128
      · rw [decide_eq_true ⟨h0, h32⟩]
        go_enter Tryd.func119, Tryd.ntmps119
        go_wp2_with (go_at_call 150; refine (L.out _).mono ?_; rintro e w1 ⟨rfl, hb1⟩)
        go_ret
        exact ⟨rfl, hb1⟩
      · rw [decide_eq_false (by omega)]
        go_enter Tryd.func119, Tryd.ntmps119
        go_wp2_with fail
        go_ret
        exact ⟨rfl, Below.refl _ _⟩
    · rw [decide_eq_false (by omega)]
      go_enter Tryd.func119, Tryd.ntmps119
      go_wp2_with fail
      go_ret
      exact ⟨rfl, Below.refl _ _⟩
  · rw [may_other kind v h1 h2 h3]
    have B0 := below_alloc w (.cells #[.int .i64 kind] 3)
    have F := kfind_any v kind w.heap.size (w.alloc (.cells #[.int .i64 kind] 3)) (hK.below B0) (kcell _ _ _)
    obtain ⟨r, hr⟩ : ∃ r, kRowOf kind v = r := ⟨_, rfl⟩
    rw [hr] at F
    obtain ⟨a, b, c, d⟩ := r
    rw [rowV_eq] at F
    generalize (kFind kind v).isSome = q at *
    replace F := Lib.hid F
    clear hK hr
    go_enter Tryd.func119, Tryd.ntmps119
    go_wp2_with (first
      | (go_at_call 151; refine (kfinder_any _ _).mono ?_; rintro e w1 ⟨rfl, rfl⟩)
      | (go_at_call 172; refine F.out.mono ?_; rintro e w1 ⟨rfl, hb1⟩))
    go_ret
    exact ⟨rfl, seqB (seqB B0 hb1) (below_alloc _ _)⟩
/-- A key as a value. -/
def kyV (k : Ky) : Value := .agg #[.int .i64 k.1, .int .i64 k.2.1, .string k.2.2.1, .bool k.2.2.2]
theorem key_paste (v : Int) (t : ByteArray) (c : Bool) : keyB (15, v, t, c) = (decide (v = 0) && decide (t.size ≤ 65536)) := by unfold keyB; rw [if_pos rfl]
theorem key_other (kind v : Int) (t : ByteArray) (c : Bool) (h : kind ≠ 15) : keyB (kind, v, t, c) = (decide (t.size = 0) && !c && mayB kind v) := by unfold keyB; rw [if_neg h]
theorem kstr_ne {s t : ByteArray} (h : ¬ s = t) : (s.toList == t.toList) = false ∧ (s.toList != t.toList) = true ∧ ¬ s.toList = t.toList := by
  have h1 : ¬ s.toList = t.toList := by rw [ByteArray.toList_eq, ByteArray.toList_eq]; intro e; exact h (ByteArray.ext (Array.ext' e))
  exact ⟨by simpa using h1, by simpa using h1, h1⟩
theorem kstr_nil {t : ByteArray} (h : ¬ t = ⟨#[]⟩) : ¬ t.toList = [] := by
  have h1 := (kstr_ne h).2.2
  rwa [show (⟨#[]⟩ : ByteArray).toList = [] by rw [ByteArray.toList_eq]] at h1
def ckE (k : Ky) : Int := if keyB k then 0 else 2
theorem ckE_yes {k : Ky} (h : keyB k = true) : ckE k = 0 := by unfold ckE; rw [h]; rfl
theorem ckE_no {k : Ky} (h : keyB k = false) : ckE k = 2 := by unfold ckE; rw [h]; rfl
set_option maxHeartbeats 2000000 in
set_option maxRecDepth 100000 in
theorem kcheck_any (k : Ky) (w : World) (hK : KT w) : Calls Tryd.prog 89 #[kyV k] w fun e w' => e = .returned (.int .i64 (ckE k)) ∧ Below w.heap.size w w' := by
  obtain ⟨kind, v, t, c⟩ := k
  show Calls _ _ #[.agg #[.int .i64 kind, .int .i64 v, .string t, .bool c]] _ _
  have B0 := below_alloc w (.cells #[.int .i64 kind, .int .i64 v, .string t, .bool c] 75)
  by_cases h15 : kind = 15
  · subst h15
    clear hK
    by_cases hv : v = 0
    · subst hv
      by_cases ht : t.size ≤ 65536
      · have e : Hid (ckE (15, 0, t, c) = 0) := Lib.hid (ckE_yes (by rw [key_paste, decide_eq_true rfl, decide_eq_true ht]; rfl))
        have ht' : (t.size : Int) ≤ 65536 := by omega
        go_enter Tryd.func89, Tryd.ntmps89
        go_wp2_with fail
        go_ret
        rw [e.out]; exact ⟨rfl, B0⟩
      · have e : Hid (ckE (15, 0, t, c) = 2) := Lib.hid (ckE_no (by rw [key_paste, decide_eq_false ht]; simp))
        have ht' : ¬ (t.size : Int) ≤ 65536 := by omega
        go_enter Tryd.func89, Tryd.ntmps89
        go_wp2_with fail
        go_ret
        rw [e.out]; exact ⟨rfl, B0⟩
    · have e : Hid (ckE (15, v, t, c) = 2) := Lib.hid (ckE_no (by rw [key_paste, decide_eq_false hv]; rfl))
      go_enter Tryd.func89, Tryd.ntmps89
      go_wp2_with fail
      go_ret
      rw [e.out]; exact ⟨rfl, B0⟩
  · by_cases ht : t = ⟨#[]⟩
    · subst ht
      cases c with
      | true =>
        have e : Hid (ckE (kind, v, ⟨#[]⟩, true) = 2) := Lib.hid (ckE_no (by rw [key_other _ _ _ _ h15]; simp))
        clear hK
        go_enter Tryd.func89, Tryd.ntmps89
        go_wp2_with fail
        go_ret
        rw [e.out]; exact ⟨rfl, B0⟩
      | false =>
        have M := kmay_any kind v (w.alloc (.cells #[.int .i64 kind, .int .i64 v, .string ⟨#[]⟩, .bool false] 75)) (hK.below B0)
        have e : keyB (kind, v, ⟨#[]⟩, false) = mayB kind v := by rw [key_other _ _ _ _ h15]; show (decide (0 = 0) && !false && mayB kind v) = _; simp
        have e2 : ckE (kind, v, ⟨#[]⟩, false) = if mayB kind v then 0 else 2 := by unfold ckE; rw [e]
        rw [e2]
        clear e e2 hK
        cases hm : mayB kind v with
        | true =>
          rw [hm] at M
          replace M := Lib.hid M
          clear hm
          go_enter Tryd.func89, Tryd.ntmps89
          go_wp2_with (go_at_call 119; refine M.out.mono ?_; rintro e w1 ⟨rfl, hb1⟩)
          go_ret
          exact ⟨rfl, seqB B0 hb1⟩
        | false =>
          rw [hm] at M
          replace M := Lib.hid M
          clear hm
          go_enter Tryd.func89, Tryd.ntmps89
          go_wp2_with (go_at_call 119; refine M.out.mono ?_; rintro e w1 ⟨rfl, hb1⟩)
          go_ret
          exact ⟨rfl, seqB B0 hb1⟩
    · have e : Hid (ckE (kind, v, t, c) = 2) := Lib.hid (ckE_no (by rw [key_other _ _ _ _ h15, decide_eq_false (fun h => ht (kzero h))]; rfl))
      have s3 : ¬ t.toList = [] := kstr_nil ht
      clear hK
      go_enter Tryd.func89, Tryd.ntmps89
      go_wp2_with fail
      go_ret
      rw [e.out]; exact ⟨rfl, B0⟩
end Go.Proofs.YtdhhfbglbihapaaDoor
