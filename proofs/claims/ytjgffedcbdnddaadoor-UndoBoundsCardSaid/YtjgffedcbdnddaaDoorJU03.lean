/-
  Joined: U2 Mk Of0 U3 C6 Ow Sg2 U4 C7 U5 C8 U6 U7 U8 U9.
-/
import Derived.Test.YtjgffedcbdnddaaDoorJU01
import Derived.Test.YtjgffedcbdnddaaDoorJU02
import Derived.Lib.ItoaWalk
import Derived.Lib.RuneBytes
set_option maxRecDepth 100000
set_option linter.unusedVariables false
set_option linter.unusedSimpArgs false
namespace Go.Proofs.YtjgffedcbdnddaaDoor
set_option linter.unusedVariables false
set_option linter.unusedSimpArgs false
open Go.RowKit
theorem dec_pos (s : ByteArray) (i : Nat) (h : i < s.size) : 1 ≤ (Utf8.decode s i).2 ∧ (Utf8.decode s i).2 ≤ 4 ∧ i + (Utf8.decode s i).2 ≤ s.size := by
  rw [Lib.decode_at]
  unfold Lib.decodeN
  repeat' split
  all_goals (simp only; omega)
theorem vAt_size (s : ByteArray) (i : Nat) (h : i < s.size) : (vAt s i).2 = (Utf8.decode s i).2 := by
  have hp := dec_pos s i h
  unfold vAt
  split
  · rename_i h2
    have := dec_cases s i
    rcases this with h3 | h3
    · rw [h3]
    · rcases h3 with h3 | h3 | h3 | h3 <;> omega
  · rfl
/-- A text's first value. -/
def oneS (s : ByteArray) : Nat × Nat := if s.size = 0 then (0, 0) else vAt s 0
/-- A text's values, from a place on, at most so many. -/
def valsF (s : ByteArray) : Nat → Nat → List Int
  | 0, _ => []
  | f + 1, i => if i < s.size then ((vAt s i).1 : Int) :: valsF s f (i + (Utf8.decode s i).2) else []
def valsS (s : ByteArray) : List Int := valsF s s.size 0
theorem valsF_end (s : ByteArray) (f i : Nat) (h : ¬ i < s.size) : valsF s f i = [] := by
  cases f with
  | zero => rfl
  | succ f => rw [valsF, if_neg h]
theorem valsF_step (s : ByteArray) (f i : Nat) (h : i < s.size) : valsF s (f + 1) i = ((vAt s i).1 : Int) :: valsF s f (i + (Utf8.decode s i).2) := by rw [valsF, if_pos h]
theorem valsF_len (s : ByteArray) : ∀ f i, (valsF s f i).length + i ≤ s.size ∨ valsF s f i = [] := by
  intro f
  induction f with
  | zero => intro i; right; rfl
  | succ f ih =>
    intro i
    by_cases h : i < s.size
    · rw [valsF_step s f i h]
      have hp := dec_pos s i h
      left
      rcases ih (i + (Utf8.decode s i).2) with h2 | h2
      · simp; omega
      · rw [h2]; simp; omega
    · right; exact valsF_end s _ i h
end Go.Proofs.YtjgffedcbdnddaaDoor
set_option linter.unusedVariables false
set_option linter.unusedSimpArgs false
namespace Go.Proofs.YtjgffedcbdnddaaDoor
open Go.RowKit
/-- A make of elements of several cells. -/
theorem make_rowN {P : Program} (t e : TypeId) (i : TypeInfo) (z : Value) (ht : P.underlying t = some (.slice e)) (hi : P.info? e = some i) (hz : i.zero = some z)
    (n : Nat) (hb : i.bytes * n ≤ 281474976710656) (h63 : n ≤ 9223372036854775807) (w : World) :
    (Instr.makeSlice t (.int .i64 (n : Int)) (.int .i64 (n : Int))).run P w = .ok (.slice (some ⟨w.heap.size, 0, none⟩) n n) (w.alloc (.cells (madeCells z.cells (n * i.size)) e)) := by
  have h := run_make (P := P) w t e i z ht hi hz .i64 .i64 (n : Int) (n : Int) (by omega) (by omega) (by
    have : ((i.bytes * n : Nat) : Int) ≤ 281474976710656 := by omega
    rwa [Int.natCast_mul] at this) (by omega)
  simpa only [Int.toNat_natCast] using h
theorem infoSign : (Tryd.prog.info? 56).map (fun i => (i.zero, i.size, i.bytes)) = some (some (.agg #[.int .i64 0, .int .i64 0]), 2, 16) := by kernel_rfl
theorem made_signs (n : Nat) : madeCells #[.int .i64 0, .int .i64 0] (n * 2) = sRow (List.replicate n (0, 0)) := by
  apply Array.ext
  · simp [madeCells, sRow, List.length_flatMap]
  · intro i h1 h2
    simp only [madeCells, Array.getElem_map, Array.getElem_range]
    have hi : i < n * 2 := by simpa [madeCells] using h1
    have hlt : i / 2 < (List.replicate n ((0 : Int), (0 : Int))).length := by simp; omega
    have h := sRow_at (List.replicate n ((0 : Int), (0 : Int))) (i / 2) hlt
    have hz : (List.replicate n ((0 : Int), (0 : Int))).getD (i / 2) (0, 0) = (0, 0) := by
      rw [List.getD, List.getElem?_replicate]; split <;> rfl
    rw [hz] at h
    have e : (sRow (List.replicate n ((0 : Int), (0 : Int))))[i]? = some (.int .i64 0) := by
      rw [sRow, List.getElem?_toArray]
      rcases Nat.mod_two_eq_zero_or_one i with hm | hm
      · have : i / 2 * 2 = i := by omega
        rw [this] at h; exact h.1
      · have : i / 2 * 2 + 1 = i := by omega
        rw [this] at h; exact h.2
    have e2 := Array.getElem?_eq_getElem h2
    rw [e] at e2
    injection e2 with e2
    rw [← e2]
    rcases Nat.mod_two_eq_zero_or_one i with hm | hm <;> simp [hm]
theorem sRow_set (L : List (Int × Int)) (k : Nat) (p : Int × Int) (h : k < L.length) : ((sRow L).setIfInBounds (k * 2) (.int .i64 p.1)).setIfInBounds (k * 2 + 1) (.int .i64 p.2) = sRow (L.set k p) := by
  apply Array.ext'
  simp only [sRow, Array.toList_setIfInBounds]
  induction L generalizing k with
  | nil => simp at h
  | cons x L ih =>
    cases k with
    | zero => rfl
    | succ k =>
      have := ih k (by simpa using h)
      rw [show (k + 1) * 2 = k * 2 + 1 + 1 by omega]
      simp only [List.flatMap_cons, List.cons_append, List.nil_append, List.set_cons_succ, this]
theorem sg_cells {w : World} {g k : Nat} {L : List (Int × Int)} {t : TypeId} {f : Nat × Nat} (h : w.heap[g]? = some (.cells (sRow L) t f)) (hk : k < L.length) :
    w.cell? ⟨g, k * 2, none⟩ = some (.int .i64 (L.getD k (0, 0)).1) ∧ w.cell? ⟨g, k * 2 + 1, none⟩ = some (.int .i64 (L.getD k (0, 0)).2) := by
  have hh := sRow_at L k hk
  rw [cell_of_row _ _ _ _ _ _ h, cell_of_row _ _ _ _ _ _ h, sRow, List.getElem?_toArray, List.getElem?_toArray]
  exact hh
theorem put_snoc {α β : Type} (l : List α) (f : α → β) (z : β) (d : α) (k : Nat) (h : k < l.length) :
    ((l.take k).map f ++ List.replicate (l.length - k) z).set k (f (l.getD k d)) = (l.take (k + 1)).map f ++ List.replicate (l.length - (k + 1)) z := by
  have hl : ((l.take k).map f).length = k := by simp; omega
  rw [List.set_append_right _ _ (by omega), hl, Nat.sub_self, List.take_succ_eq_append_getElem h, List.map_append, List.append_assoc]
  congr 1
  obtain ⟨m, hm⟩ : ∃ m, l.length - k = m + 1 := ⟨l.length - k - 1, by omega⟩
  have hm2 : l.length - (k + 1) = m := by omega
  rw [hm, hm2, List.replicate_succ, List.set_cons_zero, List.getD, List.getElem?_eq_getElem h]; rfl
theorem infoIntS : (Tryd.prog.info? 3).map (fun i => (i.zero, i.size, i.bytes)) = some (some (.int .i64 0), 1, 8) := by kernel_rfl
theorem made_ints (n : Nat) : madeCells #[.int .i64 0] (n * 1) = iRow (List.replicate n 0) := by
  apply Array.ext'
  rw [toList_madeCells_one]; simp [iRow]
theorem i_cell {w : World} {g k : Nat} {L : List Int} {t : TypeId} {f : Nat × Nat} (h : w.heap[g]? = some (.cells (iRow L) t f)) (hk : k < L.length) :
    w.cell? ⟨g, k, none⟩ = some (.int .i64 (L.getD k 0)) := by
  rw [cell_of_row _ _ _ _ _ _ h, iRow_at L k hk]
/-- A slice of numbers, out of a block. -/
theorem row_of_blk {w : World} {g : Nat} {L : List Int} {t : TypeId} {f : Nat × Nat} (h : w.heap[g]? = some (.cells (iRow L) t f)) : Row w (some ⟨g, 0, none⟩) L := fun j hj =>
  ⟨g, 0, rfl, by rw [Nat.zero_add]; exact i_cell h hj, blk_lt h⟩
theorem signs_of_blk {w : World} {g : Nat} {L : List (Int × Int)} {t : TypeId} {f : Nat × Nat} (h : w.heap[g]? = some (.cells (sRow L) t f)) : Signs w (some ⟨g, 0, none⟩) L := fun j hj =>
  ⟨g, 0, rfl, blk_lt h, by rw [Nat.zero_add]; exact (sg_cells h hj).1, by rw [Nat.zero_add]; exact (sg_cells h hj).2⟩
theorem app_cells {w : World} {h : Nat} {L : List Value} {t : TypeId} (hh : w.heap.size = h) {j : Nat} {x : Value} (hj : L[j]? = some x) : (w.alloc (.cells L.toArray t)).cell? ((⟨h, 0, none⟩ : Addr).add j) = some x := by
  subst hh
  have hadd : (⟨w.heap.size, 0, none⟩ : Addr).add j = ⟨w.heap.size, 0 + j, none⟩ := by unfold Addr.add; split <;> simp_all
  rw [hadd, World.cell?_alloc_new, Nat.zero_add, List.getElem?_toArray]; exact hj
end Go.Proofs.YtjgffedcbdnddaaDoor
set_option linter.unusedVariables false
set_option linter.unusedSimpArgs false
namespace Go.Proofs.YtjgffedcbdnddaaDoor
def vsL (l : List (Int × Int)) : List Int := l.map (·.1)
theorem vsL_len (l : List (Int × Int)) : (vsL l).length = l.length := by simp [vsL]
theorem vsL_at (l : List (Int × Int)) (j : Nat) (h : j < l.length) : (vsL l).getD j 0 = (l.getD j (0, 0)).1 := by
  rw [vsL, List.getD, List.getD, List.getElem?_map, List.getElem?_eq_getElem h]; rfl
def cmn : List Int → List Int → Nat
  | x :: xs, y :: ys => if x = y then cmn xs ys + 1 else 0
  | _, _ => 0
theorem cmn_is : ∀ (a b : List Int) (n : Nat), n ≤ a.length → n ≤ b.length → (∀ j, j < n → a.getD j 0 = b.getD j 0) → (n = a.length ∨ n = b.length ∨ a.getD n 0 ≠ b.getD n 0) → cmn a b = n
  | [], b, n, h1, h2, _, _ => by simp at h1; subst h1; cases b <;> rfl
  | x :: xs, [], n, h1, h2, _, _ => by simp at h2; subst h2; rfl
  | x :: xs, y :: ys, 0, _, _, _, h => by
    have hne : x ≠ y := by
      rcases h with h | h | h
      · simp at h
      · simp at h
      · exact h
    show (if x = y then _ else 0) = 0
    rw [if_neg hne]
  | x :: xs, y :: ys, n + 1, h1, h2, h3, h4 => by
    have hxy : x = y := h3 0 (by omega)
    show (if x = y then cmn xs ys + 1 else 0) = n + 1
    rw [if_pos hxy, cmn_is xs ys n (by simpa using h1) (by simpa using h2) (fun j hj => h3 (j + 1) (by omega)) (by
      rcases h4 with h | h | h
      · exact Or.inl (by simpa using h)
      · exact Or.inr (Or.inl (by simpa using h))
      · exact Or.inr (Or.inr h))]
theorem cmn_le : ∀ a b : List Int, cmn a b ≤ a.length ∧ cmn a b ≤ b.length
  | [], b => by cases b <;> exact ⟨Nat.zero_le _, Nat.zero_le _⟩
  | x :: xs, [] => ⟨Nat.zero_le _, Nat.zero_le _⟩
  | x :: xs, y :: ys => by
    have h := cmn_le xs ys
    show (if x = y then cmn xs ys + 1 else 0) ≤ _ ∧ (if x = y then cmn xs ys + 1 else 0) ≤ _
    split
    · simp only [List.length_cons]; omega
    · exact ⟨Nat.zero_le _, Nat.zero_le _⟩
theorem cmn_take : ∀ (a b : List Int) (n : Nat), n ≤ cmn a b → a.take n = b.take n
  | a, b, 0, _ => rfl
  | [], b, n + 1, h => by cases b <;> exact absurd h (by show ¬ n + 1 ≤ 0; omega)
  | x :: xs, [], n + 1, h => absurd h (by show ¬ n + 1 ≤ 0; omega)
  | x :: xs, y :: ys, n + 1, h => by
    change n + 1 ≤ (if x = y then cmn xs ys + 1 else 0) at h
    split at h
    · rename_i e; rw [e, List.take_succ_cons, List.take_succ_cons, cmn_take xs ys n (by omega)]
    · omega
theorem cmn_ge : ∀ (a b : List Int) (n : Nat), n ≤ a.length → n ≤ b.length → a.take n = b.take n → n ≤ cmn a b
  | _, _, 0, _, _, _ => Nat.zero_le _
  | [], b, n + 1, h, _, _ => by simp at h
  | x :: xs, [], n + 1, _, h, _ => by simp at h
  | x :: xs, y :: ys, n + 1, h1, h2, h3 => by
    rw [List.take_succ_cons, List.take_succ_cons] at h3
    injection h3 with e1 e2
    show n + 1 ≤ (if x = y then cmn xs ys + 1 else 0)
    rw [if_pos e1]
    have := cmn_ge xs ys n (by simpa using h1) (by simpa using h2) e2
    omega
/-- A candidate that is offered for a word, if it has not been. -/
def okC (w c : List (Int × Int)) : Bool := decide (w.length < c.length) && (decide (c.length ≤ 4096) && (decide (w.length ≤ cmn (vsL w) (vsL c)) && sgC c))
theorem okC_out {w c : List (Int × Int)} (h : okC w c = true) : w.length < c.length ∧ c.length ≤ 4096 ∧ w.length ≤ cmn (vsL w) (vsL c) ∧ sgC c = true := by
  simp only [okC, Bool.and_eq_true, decide_eq_true_eq] at h; exact h
/-- Three bytes of a value. -/
def b3 (v : Int) : List UInt8 := [UInt8.ofNat (v / 65536 % 256).toNat, UInt8.ofNat (v / 256 % 256).toNat, UInt8.ofNat (v % 256).toNat]
theorem u8_inj {a b : Nat} (ha : a < 256) (hb : b < 256) (h : UInt8.ofNat a = UInt8.ofNat b) : a = b := by
  have := congrArg UInt8.toNat h
  simpa [UInt8.toNat_ofNat', Nat.mod_eq_of_lt ha, Nat.mod_eq_of_lt hb] using this
theorem b3_inj {v u : Int} (h1 : 0 ≤ v) (h2 : v < 16777216) (h3 : 0 ≤ u) (h4 : u < 16777216) (h : b3 v = b3 u) : v = u := by
  simp only [b3, List.cons.injEq, and_true] at h
  obtain ⟨e1, e2, e3⟩ := h
  have f1 := u8_inj (by omega) (by omega) e1
  have f2 := u8_inj (by omega) (by omega) e2
  have f3 := u8_inj (by omega) (by omega) e3
  omega
def tx3 (l : List Int) : List UInt8 := l.flatMap b3
theorem tx3_inj : ∀ {l m : List Int}, (∀ v ∈ l, 0 ≤ v ∧ v < 16777216) → (∀ v ∈ m, 0 ≤ v ∧ v < 16777216) → tx3 l = tx3 m → l = m
  | [], [], _, _, _ => rfl
  | [], y :: ys, _, _, h => by simp [tx3, b3] at h
  | x :: xs, [], _, _, h => by simp [tx3, b3] at h
  | x :: xs, y :: ys, h1, h2, h => by
    have e : b3 x ++ tx3 xs = b3 y ++ tx3 ys := by simpa [tx3] using h
    obtain ⟨e1, e2⟩ := List.append_inj e rfl
    have hx := h1 x (List.mem_cons_self ..); have hy := h2 y (List.mem_cons_self ..)
    rw [b3_inj hx.1 hx.2 hy.1 hy.2 e1, tx3_inj (fun v hv => h1 v (List.mem_cons_of_mem _ hv)) (fun v hv => h2 v (List.mem_cons_of_mem _ hv)) e2]
theorem sgC_vals {l : List (Int × Int)} (h : sgC l = true) : ∀ v ∈ vsL l, 0 ≤ v ∧ v < 16777216 := by
  intro v hv
  obtain ⟨p, hp, rfl⟩ := List.mem_map.1 hv
  have := List.all_eq_true.1 h p hp
  simp only [sgR, Bool.and_eq_true] at this
  have h2 := this.2.2
  unfold rightB at h2
  rw [Bool.or_eq_true, ptB_iff, stB_iff] at h2
  omega
def w4 (c : List (Int × Int)) : List (Int × Int) := c.map fun s => (s.1, 4)
theorem w4_len (c : List (Int × Int)) : (w4 c).length = c.length := by simp [w4]
theorem w4_vs (c : List (Int × Int)) : vsL (w4 c) = vsL c := by simp [w4, vsL]
def was (st : List (List (Int × Int))) (c : List (Int × Int)) : Bool := st.any fun t => decide (vsL t = vsL c)
def offStep (w : List (Int × Int)) (st : List (List (Int × Int))) (c : List (Int × Int)) : List (List (Int × Int)) := if okC w c && !was st c then st ++ [w4 c] else st
def offK (w : List (Int × Int)) (cands : List (List (Int × Int))) (k : Nat) : List (List (Int × Int)) := (cands.take k).foldl (offStep w) []
theorem offK_next (w : List (Int × Int)) (cands : List (List (Int × Int))) (k : Nat) (h : k < cands.length) : offK w cands (k + 1) = offStep w (offK w cands k) (cands.getD k []) := by
  rw [offK, List.take_add_one, List.getElem?_eq_getElem h, List.foldl_append, List.getD, List.getElem?_eq_getElem h]; rfl
theorem offK_len (w : List (Int × Int)) (cands : List (List (Int × Int))) : ∀ k, k ≤ cands.length → (offK w cands k).length ≤ k
  | 0, _ => by simp [offK]
  | k + 1, h => by
    rw [offK_next w cands k (by omega)]
    have := offK_len w cands k (by omega)
    unfold offStep
    split
    · simp; omega
    · omega
/-- The texts that were seen. -/
def sawK (w : List (Int × Int)) (cands : List (List (Int × Int))) (k : Nat) : List (List UInt8) := (cands.take k).flatMap fun c => if okC w c then [tx3 (vsL c)] else []
theorem sawK_next (w : List (Int × Int)) (cands : List (List (Int × Int))) (k : Nat) (h : k < cands.length) : sawK w cands (k + 1) = sawK w cands k ++ (if okC w (cands.getD k []) then [tx3 (vsL (cands.getD k []))] else []) := by
  rw [sawK, List.take_add_one, List.getElem?_eq_getElem h, List.flatMap_append, List.getD, List.getElem?_eq_getElem h]; simp [sawK]
structure OffOk (w : List (Int × Int)) (st : List (List (Int × Int))) : Prop where
  each : ∀ t ∈ st, okC w t = true ∧ (∀ s ∈ t, s.2 = 4)
  apart : st.Pairwise fun t u => vsL t ≠ vsL u
theorem okC_w4 {w c : List (Int × Int)} (h : okC w c = true) : okC w (w4 c) = true := by
  have := okC_out h
  have hc : sgC (w4 c) = true := by
    rw [sgC, List.all_eq_true]
    intro p hp
    obtain ⟨q, hq, rfl⟩ := List.mem_map.1 hp
    have := List.all_eq_true.1 this.2.2.2 q hq
    simp only [sgR, Bool.and_eq_true, decide_eq_true_eq] at this ⊢
    exact ⟨by decide, by decide, this.2.2⟩
  simp only [okC, Bool.and_eq_true, decide_eq_true_eq, w4_len, w4_vs]
  exact ⟨this.1, this.2.1, this.2.2.1, hc⟩
theorem was_iff {st : List (List (Int × Int))} {c : List (Int × Int)} : was st c = true ↔ ∃ t ∈ st, vsL t = vsL c := by simp [was]
theorem offStep_ok {w : List (Int × Int)} {st : List (List (Int × Int))} (h : OffOk w st) (c : List (Int × Int)) : OffOk w (offStep w st c) := by
  unfold offStep
  split
  · rename_i hc
    simp only [Bool.and_eq_true, Bool.not_eq_true'] at hc
    refine ⟨fun t ht => ?_, ?_⟩
    · rcases List.mem_append.1 ht with ht | ht
      · exact h.each t ht
      · obtain rfl : t = w4 c := by simpa using ht
        refine ⟨okC_w4 hc.1, fun s hs => ?_⟩
        obtain ⟨q, _, rfl⟩ := List.mem_map.1 hs
        rfl
    · rw [List.pairwise_append]
      refine ⟨h.apart, List.pairwise_singleton _ _, fun t ht u hu => ?_⟩
      obtain rfl : u = w4 c := by simpa using hu
      rw [w4_vs]
      intro e
      have := was_iff.2 ⟨t, ht, e⟩
      rw [hc.2] at this; cases this
  · exact h
theorem offK_ok (w : List (Int × Int)) (cands : List (List (Int × Int))) : ∀ k, k ≤ cands.length → OffOk w (offK w cands k)
  | 0, _ => ⟨fun t ht => by simp [offK] at ht, by simp [offK]⟩
  | k + 1, h => by rw [offK_next w cands k (by omega)]; exact offStep_ok (offK_ok w cands k (by omega)) _
/-- What was seen is what is offered. -/
theorem saw_was (w : List (Int × Int)) (cands : List (List (Int × Int))) : ∀ k, k ≤ cands.length → ∀ c, okC w c = true → (tx3 (vsL c) ∈ sawK w cands k ↔ was (offK w cands k) c = true)
  | 0, _, c, _ => by simp [sawK, offK, was]
  | k + 1, h, c, hc => by
    have ih := saw_was w cands k (by omega)
    rw [sawK_next w cands k (by omega), offK_next w cands k (by omega)]
    obtain ⟨d, hd⟩ : ∃ d, cands.getD k [] = d := ⟨_, rfl⟩
    rw [hd, List.mem_append, ih c hc]
    by_cases ho : okC w d = true
    · rw [if_pos ho]
      have key : tx3 (vsL c) ∈ [tx3 (vsL d)] ↔ vsL d = vsL c := by
        rw [List.mem_singleton]
        exact ⟨fun e => (tx3_inj (sgC_vals (okC_out hc).2.2.2) (sgC_vals (okC_out ho).2.2.2) e).symm, fun e => by rw [e]⟩
      rw [key]
      unfold offStep
      rw [ho, Bool.true_and]
      cases hw : was (offK w cands k) d with
      | true =>
        have : (if (!true) = true then offK w cands k ++ [w4 d] else offK w cands k) = offK w cands k := rfl
        rw [this]
        refine ⟨fun h => h.elim id (fun e => ?_), Or.inl⟩
        obtain ⟨t, ht, e2⟩ := was_iff.1 hw
        exact was_iff.2 ⟨t, ht, e2.trans e⟩
      | false =>
        have : (if (!false) = true then offK w cands k ++ [w4 d] else offK w cands k) = offK w cands k ++ [w4 d] := rfl
        rw [this, was_iff, was_iff]
        constructor
        · rintro (⟨t, ht, e⟩ | e)
          · exact ⟨t, List.mem_append_left _ ht, e⟩
          · exact ⟨w4 d, List.mem_append_right _ (List.mem_singleton.2 rfl), by rw [w4_vs]; exact e⟩
        · rintro ⟨t, ht, e⟩
          rcases List.mem_append.1 ht with ht | ht
          · exact Or.inl ⟨t, ht, e⟩
          · obtain rfl : t = w4 d := by simpa using ht
            rw [w4_vs] at e
            exact Or.inr e
    · have : offStep w (offK w cands k) d = offK w cands k := by unfold offStep; rw [Bool.eq_false_iff.2 ho]; rfl
      rw [if_neg ho, this]
      simp
/-- The stem. -/
def stm : List (List (Int × Int)) → Nat
  | [] => 0
  | t :: ts => ts.foldl (fun n c => min n (cmn (vsL t) (vsL c))) t.length
theorem cmn_self (a : List Int) : cmn a a = a.length := cmn_is a a a.length (Nat.le_refl _) (Nat.le_refl _) (fun _ _ => rfl) (Or.inl rfl)
theorem stm_one (c : List (Int × Int)) : stm [c] = c.length := rfl
theorem stm_snoc {st : List (List (Int × Int))} (h : st ≠ []) (c : List (Int × Int)) : stm (st ++ [c]) = min (stm st) (cmn (vsL (st.getD 0 [])) (vsL c)) := by
  cases st with
  | nil => exact absurd rfl h
  | cons t ts => simp [stm, List.foldl_append]
theorem stm_cons (t : List (Int × Int)) (ts : List (List (Int × Int))) (n m : Nat) : n ≤ ts.foldl (fun n c => min n (cmn (vsL t) (vsL c))) m ↔ n ≤ m ∧ ∀ c ∈ ts, n ≤ cmn (vsL t) (vsL c) := by
  induction ts generalizing m with
  | nil => simp
  | cons c ts ih => rw [List.foldl_cons, ih]; simp only [List.mem_cons, forall_eq_or_imp, Nat.le_min, and_assoc]
theorem stm_le_iff (t : List (Int × Int)) (ts : List (List (Int × Int))) (n : Nat) : n ≤ stm (t :: ts) ↔ ∀ c ∈ t :: ts, n ≤ cmn (vsL t) (vsL c) := by
  show n ≤ List.foldl _ _ _ ↔ _
  rw [stm_cons]
  simp only [List.mem_cons, forall_eq_or_imp, cmn_self, vsL_len]
theorem stm_rng {w : List (Int × Int)} {st : List (List (Int × Int))} (h : OffOk w st) (hne : st ≠ []) : w.length ≤ stm st ∧ stm st ≤ (st.getD 0 []).length := by
  cases st with
  | nil => exact absurd rfl hne
  | cons t ts =>
    constructor
    · rw [stm_le_iff]
      intro c hc
      have h1 := okC_out (h.each t (List.mem_cons_self ..)).1
      have h2 := okC_out (h.each c hc).1
      refine cmn_ge _ _ _ (by rw [vsL_len]; omega) (by rw [vsL_len]; omega) ?_
      rw [← cmn_take _ _ _ h1.2.2.1, ← cmn_take _ _ _ h2.2.2.1]
    · have := (stm_le_iff t ts (stm (t :: ts))).1 (Nat.le_refl _) t (List.mem_cons_self ..)
      rw [cmn_self, vsL_len] at this
      exact this
theorem stm_take {st : List (List (Int × Int))} {c : List (Int × Int)} (hc : c ∈ st) : (vsL c).take (stm st) = (vsL (st.getD 0 [])).take (stm st) := by
  cases st with
  | nil => cases hc
  | cons t ts => exact (cmn_take _ _ _ ((stm_le_iff t ts _).1 (Nat.le_refl _) c hc)).symm
end Go.Proofs.YtjgffedcbdnddaaDoor
namespace Go.Proofs.YtjgffedcbdnddaaDoor
open Go.RowKit
theorem infoInt : (Tryd.prog.info? 3).map (fun i => (i.zero, i.size, i.bytes)) = some (some (.int .i64 0), 1, 8) := by kernel_rfl
theorem iBuild (l : List Int) (x : Int) : l.map (Value.int .i64) ++ [Value.int .i64 x] = (l ++ [x]).map (Value.int .i64) := by simp
/-- The loop of Decode. -/
structure DecInv (s : ByteArray) (w : World) (B : Nat) (i f : Nat) (acc : List Int) (v : Value) (wr : World) : Prop where
  own : wr.ownsRow w.heap.size 3 1 v acc.length (acc.map (Value.int .i64))
  it : wr.heap[B]? = some (.stringIter s i)
  bl : Below w.heap.size w wr
  ac : acc ++ valsF s f i = valsS s
  le : i ≤ s.size
  fu : s.size ≤ i + f
  al : acc.length ≤ i
theorem grown_of_below {w w' : World} (h : Below w.heap.size w w') : w.grownBy w' none := ⟨h.os, h.tape, h.output, h.size, fun k hk _ => h.block k hk⟩
theorem own_apart {w : World} {base : Nat} {e : TypeId} {size : Nat} {v : Value} {n : Nat} {xs : List Value} (h : w.ownsRow base e size v n xs) {B : Nat} {s : ByteArray} {i : Nat} (hb : w.heap[B]? = some (.stringIter s i)) : v.ownBlock ≠ some B := by
  rcases h.2 with ⟨rfl, _⟩ | ⟨g, cap, cur, rfl, _, hg, _⟩
  · simp [Value.ownBlock]
  · intro e1
    have : g = B := by simpa [Value.ownBlock] using e1
    subst this
    rw [hg] at hb; cases hb
theorem own_iter {w : World} {base : Nat} {e : TypeId} {size : Nat} {v : Value} {n : Nat} {xs : List Value} (h : w.ownsRow base e size v n xs) {B : Nat} {s : ByteArray} {i : Nat} (hb : w.heap[B]? = some (.stringIter s i)) (j : Nat) :
    (w.iterAt B s j).ownsRow base e size v n xs := by
  have hg : w.grownBy (w.iterAt B s j) (some B) := ⟨rfl, rfl, rfl, by rw [Lib.iterAt_size]; exact Nat.le_refl _, fun k _ hne => Lib.iterAt_other w B k s j (by intro e1; exact hne (by rw [e1]))⟩
  exact h.kept hg (Or.inr (own_apart h hb))
theorem own_below {w w' : World} {base : Nat} {e : TypeId} {size : Nat} {v : Value} {n : Nat} {xs : List Value} (h : w.ownsRow base e size v n xs) (hb : Below w.heap.size w w') : w'.ownsRow base e size v n xs :=
  h.kept (grown_of_below hb) (by cases hv : v.ownBlock <;> simp)
set_option maxRecDepth 100000 in
set_option maxHeartbeats 2000000 in
theorem decode_any (s : ByteArray) (w : World) (hT : UT w) (hs : s.size ≤ 1000000) :
    Calls Tryd.prog 28 #[.string s] w fun e w' => ∃ v, e = .returned v ∧ w'.ownsRow w.heap.size 3 1 v (valsS s).length ((valsS s).map (Value.int .i64)) ∧ Below w.heap.size w w' := by
  obtain ⟨i0, hi, hz0, hz1, hz2⟩ := info_parts infoInt
  have HT := Lib.hid hT; clear hT
  go_enter Tryd.func28, Tryd.ntmps28
  go_wp2_with (at_make; refine wpList_make_own _ rfl _ _ 66 rfl w.heap.size 3 i0 (.int .i64 0) 1 Tryd.underlying66 hi hz0 hz1 _ _ _ s.size rfl rfl (by omega) ?b2 ?b3 (Nat.le_refl _) ?_)
  case b2 => rw [hz2]; omega
  case b3 => unfold maxLen; omega
  intro w0 hown0 hgrow0
  have hb0 : Below w.heap.size w w0 := (Below.refl _ _).grown hgrow0 (Nat.le_refl _) (fun k h => by cases h)
  go_wp2
  go_loopw [3] (fun v wr => ∃ i f acc, DecInv s w w0.heap.size i f acc v wr) (fun _ wr => s.size - wr.iterPos w0.heap.size)
  case atStart => exact ⟨0, s.size, [], own_below hown0 (below_alloc _ _), World.iter_heap _ _ _, hb0.trans ((below_alloc _ _).mono hb0.size), rfl, Nat.zero_le _, by omega, Nat.le_refl _⟩
  case round =>
    obtain ⟨i, f, acc, hI⟩ := hrel
    have hsz : w0.heap.size < wr.heap.size := (Array.getElem?_eq_some_iff.1 hI.it).1
    have hsz0 := hb0.size
    by_cases hlt : i < s.size
    · obtain ⟨f', rfl⟩ : ∃ f', f = f' + 1 := ⟨f - 1, by have := hI.fu; omega⟩
      have hp := dec_pos s i hlt
      have hb1 : Below wr.heap.size wr wr := Below.refl _ _
      have hnx : ∀ ty, (Instr.next (.pointer (some ⟨w0.heap.size, 0, none⟩)) true ty).run Tryd.prog wr = _ := fun ty => Lib.run_next_any_at wr w0.heap.size s i ty hI.it hlt
      have hbl1 : Below w.heap.size w (wr.iterAt w0.heap.size s (i + (Utf8.decode s i).2)) := Lib.below_iterAt hI.bl hsz0 s _
      have hown1 := own_iter hI.own hI.it (i + (Utf8.decode s i).2)
      have hit1 := Lib.iterAt_heap wr w0.heap.size s i (i + (Utf8.decode s i).2) hI.it
      have hv := value_any s i _ (HT.out.below hbl1) hs hlt
      have hap := Lib.hid (own_apart hown1 hit1)
      have hac := hI.ac
      rw [valsF_step s f' i hlt] at hac
      have hal := hI.al; have hle := hI.le; have hfu := hI.fu
      have hip : wr.iterPos w0.heap.size = i := by simp [World.iterPos, hI.it]
      have hs1 : (wr.iterAt w0.heap.size s (i + (Utf8.decode s i).2)).heap.size = wr.heap.size := Lib.iterAt_size _ _ _ _
      clear hI
      generalize wr.iterAt w0.heap.size s (i + (Utf8.decode s i).2) = W1 at *
      generalize ((vAt s i).1 : Int) = x at *
      generalize ((vAt s i).2 : Int) = y at *
      generalize hn : (Utf8.decode s i).2 = n at *
      have Hn := Lib.hid hn; have Hv := Lib.hid hv; have Hac := Lib.hid hac; have Hip := Lib.hid hip; have Hs1 := Lib.hid hs1
      clear hn hv hac hip hs1
      go_wp2_with (first
        | (go_at_call 38; refine Hv.out.mono ?_; rintro e w2 ⟨rfl, hb2⟩; have hown2 := own_below hown1 hb2)
        | (at_builtin; refine wpList_append_own _ rfl _ _ 66 rfl w.heap.size 3 i0 (.int .i64 0) 1 8 Tryd.underlying66 hi hz0 hz1 hz2 rfl (by decide) _ _ _ rfl (hown2.alloc _) ⟨w2.heap.size, 0, none⟩ 1 1 [.int .i64 x] rfl rfl ?c1 ?c2 ?c3 ?c4 ?c5 ?_))
      case c1 =>
        intro j u hj
        match j, hj with
        | 0, hj => simp at hj; subst hj; simp [Addr.add]
      case c2 => intro u hu; simp at hu; subst hu; rfl
      case c3 => unfold maxLen; omega
      case c4 => omega
      case c5 => have := hb2.size; have := Hs1.out; simp; omega
      intro v' w3 hown3 hgrow3 _
      have hB : w0.heap.size < W1.heap.size := by have := Hs1.out; omega
      have hit2 : w2.heap[w0.heap.size]? = some (.stringIter s (i + n)) := (hb2.block _ hB).trans hit1
      have hit3 : w3.heap[w0.heap.size]? = some (.stringIter s (i + n)) := by
        rw [hgrow3.block _ (by have := hb2.size; simp; omega) (by intro e1; exact hap.out e1.symm), (below_alloc w2 _).block _ (by have := hb2.size; omega)]; exact hit2
      have hbl3 : Below w.heap.size w w3 := by
        have h1 : Below w.heap.size w w2 := hbl1.trans (hb2.mono hbl1.size)
        have h2 : Below w.heap.size w (w2.alloc (.cells #[.int .i64 x] 3)) := h1.alloc h1.size _
        exact h2.grown hgrow3 (by have := h1.size; simp; omega) (fun k hk => by have := (hown1.lt k hk).1; exact this)
      have hown3' : w3.ownsRow w.heap.size 3 1 v' (acc ++ [x]).length ((acc ++ [x]).map (Value.int .i64)) := by
        have := hown3
        rw [iBuild] at this
        simpa using this
      clear hown3 hgrow3 hown2 hown1 hit1 hit2 hbl1 hap
      go_wp2
      go_roundw
      case rel => exact ⟨i + n, f', acc ++ [x], hown3', hit3, hbl3, by rw [List.append_assoc]; exact Hac.out, by omega, by omega, by simp; omega⟩
      case measure => simp only [World.iterPos, hit3]; have := Hip.out; simp only [World.iterPos] at this; omega
    · have hnx : ∀ ty, (Instr.next (.pointer (some ⟨w0.heap.size, 0, none⟩)) true ty).run Tryd.prog wr = _ := fun ty => Lib.run_next_end_at wr w0.heap.size s i ty hI.it hlt
      have hac := hI.ac
      rw [valsF_end s f i hlt, List.append_nil] at hac
      subst hac
      have hown := hI.own; have hbl := hI.bl
      clear hI hlt
      go_wp2
      go_ret
      exact ⟨_, rfl, hown, hbl⟩
end Go.Proofs.YtjgffedcbdnddaaDoor
namespace Go.Proofs.YtjgffedcbdnddaaDoor
open Go.RowKit
theorem cright_ref (v : Int) (w : World) : Calls Tryd.prog 51 #[.int .i64 v] w fun e w' => e = .returned (.bool (rght v)) ∧ w = w' := by
  rcases rght_cases v with ⟨e, h | h | h⟩ | ⟨e, h | h | h | h⟩
  all_goals
    rw [e]; clear e
    go_enter Tryd.func51, Tryd.ntmps51
    go_wp2
    all_goals
      first
        | (go_ret; first | exact ⟨rfl, rfl⟩ | exact ⟨ret_bool (by simp; omega), rfl⟩)
        | (exfalso; omega)
theorem w64_u8 (c : UInt8) : wrap64 (c.toNat : Int) = (c.toNat : Int) := by have := c.toNat_lt; unfold wrap64; omega
/-- The reference's look. -/
def hitS (v : Int) (j : Nat) : Bool := lSk.getD j 0 == v
def skelR (v : Int) : Int := match (List.range 51).find? (hitS v) with | some j => ((sSk.getD j 0).toNat : Int) | none => v
theorem sk_byte (k : Nat) (h : k < (⟨#[65, 66, 69, 90, 72, 73, 75, 77, 78, 79, 80, 84, 89, 88, 118, 111, 112, 83, 73, 74, 65, 66, 69, 75, 77, 72, 79, 80, 67, 84, 88, 97, 101, 111, 112, 99, 121, 120, 115, 105, 106, 100, 113, 119, 59, 45, 45, 47, 47, 46, 44]⟩ : ByteArray).size) : (⟨#[65, 66, 69, 90, 72, 73, 75, 77, 78, 79, 80, 84, 89, 88, 118, 111, 112, 83, 73, 74, 65, 66, 69, 75, 77, 72, 79, 80, 67, 84, 88, 97, 101, 111, 112, 99, 121, 120, 115, 105, 106, 100, 113, 119, 59, 45, 45, 47, 47, 46, 44]⟩ : ByteArray)[k] = sSk.getD k 0 := by
  have h' : k < sSk.length := h
  rw [List.getD, List.getElem?_eq_getElem h']
  rfl
end Go.Proofs.YtjgffedcbdnddaaDoor
set_option linter.unusedVariables false
set_option linter.unusedSimpArgs false
namespace Go.Proofs.YtjgffedcbdnddaaDoor
open Go.RowKit
theorem own_ne_kind {w : World} {B n size b : Nat} {e T : TypeId} {v : Value} {xs : List Value} {cs : Array Value} {fr : Nat × Nat} (h : w.ownsRow B e size v n xs) (hb : w.heap[b]? = some (.cells cs T fr)) (hT : T ≠ e) : v.ownBlock ≠ some b := by
  rcases h.2 with ⟨rfl, _⟩ | ⟨g, cap, cur, rfl, _, hg, _⟩
  · simp [Value.ownBlock]
  · intro e'
    obtain rfl : g = b := by simpa [Value.ownBlock] using e'
    rw [hg] at hb; simp at hb; exact hT hb.2.1.symm
theorem own_ne_own {w : World} {B B' n n' size size' : Nat} {e e' : TypeId} {v v' : Value} {xs xs' : List Value} (h : w.ownsRow B e size v n xs) (h' : w.ownsRow B' e' size' v' n' xs') (hT : e ≠ e') : v.ownBlock = none ∨ v.ownBlock ≠ v'.ownBlock := by
  rcases h.2 with ⟨rfl, _⟩ | ⟨g, cap, cur, rfl, _, hg, _⟩
  · exact .inl rfl
  · exact .inr fun e'' => own_ne_kind h' hg hT e''.symm
theorem own_set {w : World} {B n size : Nat} {e : TypeId} {v : Value} {xs : List Value} (h : w.ownsRow B e size v n xs) {a : Addr} (ha : v.ownBlock ≠ some a.block) (u : Value) : (w.setCell a u).ownsRow B e size v n xs := by
  refine ⟨h.1, ?_⟩
  rcases h.2 with h2 | ⟨g, cap, cur, rfl, hB, hg, r⟩
  · exact .inl h2
  · exact .inr ⟨g, cap, cur, rfl, hB, by rw [Below.heap_setCell _ _ _ _ (fun e => ha (by rw [← e]; rfl))]; exact hg, r⟩
/-- A row of numbers of the call's own, read as a slice. -/
theorem row_ofI {w : World} {B : Nat} {v : Value} {L : List Int} (h : w.ownsRow B 3 1 v L.length (L.map (Value.int .i64))) : ∃ a c, v = .slice a L.length c ∧ Row w a L := by
  rcases h.2 with ⟨rfl, h0⟩ | ⟨g, cap, cur, rfl, _, hg, _⟩
  · exact ⟨none, 0, by rw [h0], fun j hj => by omega⟩
  · refine ⟨_, cap, rfl, fun j hj => ⟨g, 0, rfl, ?_, blk_lt hg⟩⟩
    rw [Nat.zero_add, h.cellAt j (by omega), List.getElem?_map, List.getD, List.getElem?_eq_getElem hj]; rfl
end Go.Proofs.YtjgffedcbdnddaaDoor
set_option linter.unusedVariables false
set_option linter.unusedSimpArgs false
namespace Go.Proofs.YtjgffedcbdnddaaDoor
open Go.RowKit
/-- What With has made after k rounds. -/
def wthL (l : List (Int × Int)) (u : Int) (k : Nat) : List (Int × Int) := (l.take k).map (fun p => (p.1, u)) ++ List.replicate (l.length - k) (0, 0)
theorem wthL_len (l : List (Int × Int)) (u : Int) (k : Nat) (h : k ≤ l.length) : (wthL l u k).length = l.length := by simp [wthL]; omega
/-- What Values has made after k rounds. -/
def valL (l : List (Int × Int)) (k : Nat) : List Int := (l.take k).map (·.1) ++ List.replicate (l.length - k) 0
theorem valL_len (l : List (Int × Int)) (k : Nat) (h : k ≤ l.length) : (valL l k).length = l.length := by simp [valL]; omega
set_option maxRecDepth 100000 in
set_option maxHeartbeats 1000000 in
theorem values_any (l : List (Int × Int)) (a : Option Addr) (c : Nat) (w : World) (hl : l.length ≤ 1000000) (hs : Signs w a l) :
    Calls Tryd.prog 30 #[.slice a l.length c] w fun e w' => e = .returned (.slice (some ⟨w.heap.size, 0, none⟩) l.length l.length) ∧ w'.heap[w.heap.size]? = some (.cells (iRow (l.map (·.1))) 3 (0, 0)) ∧ Below w.heap.size w w' := by
  obtain ⟨i0, hi, hz0, hz1, hz2⟩ := info_parts infoIntS
  have HS := Lib.hid hs; clear hs
  have hmk := make_rowN (P := Tryd.prog) 66 3 i0 _ Tryd.underlying66 hi hz0 l.length (by rw [hz2]; omega) (by omega)
  rw [hz1] at hmk
  have hmade : madeCells (Value.int .i64 0).cells (l.length * 1) = iRow (valL l 0) := by rw [show (Value.int .i64 0).cells = #[.int .i64 0] from rfl, made_ints]; simp [valL]
  rw [hmade] at hmk
  go_enter Tryd.func30, Tryd.ntmps30
  go_wp2
  go_loopw [11] (fun iv wr => ∃ k : Nat, k ≤ l.length ∧ iv = .int .i64 (k : Int) ∧ wr.heap[w.heap.size]? = some (.cells (iRow (valL l k)) 3 (0, 0)) ∧ Below w.heap.size w wr) (fun iv _ => l.length - (intOf iv).toNat)
  case atStart => exact ⟨0, Nat.zero_le _, rfl, heap_alloc_new _ _, below_alloc _ _⟩
  case round =>
    obtain ⟨k, hk, rfl, hown, hb⟩ := hrel
    by_cases hlt : k < l.length
    · obtain ⟨b, off, rfl, hblk, c1, c2⟩ := (HS.out.below hb) k hlt
      have hk1 : (k : Int) < l.length := by omega
      have hk0 : (0 : Int) ≤ k := by omega
      have hnext := put_snoc l (fun p : Int × Int => p.1) 0 (0, 0) k hlt
      obtain ⟨p1, p2, hp⟩ : ∃ p1 p2, l.getD k (0, 0) = (p1, p2) := ⟨_, _, rfl⟩
      rw [hp] at c1 c2 hnext
      have hlen := valL_len l k hk
      have s1 := fun o => i_cell (blk_alloc hown o) (k := k) (by rw [hlen]; exact hlt)
      have f12 := fun o i => frozen_of_row (wr.alloc o) w.heap.size i _ _ (blk_alloc hown o)
      generalize (valL l k).getD k 0 = q at *
      have Hset : Hid ((valL l k).set k p1 = valL l (k + 1)) := Lib.hid hnext
      have Hset2 := Lib.hid (iRow_set (valL l k) k p1)
      have Hlen := Lib.hid hlen
      clear hnext hlen hp
      go_wp2
      go_roundw
      case rel => exact ⟨k + 1, by omega, by go_num, by rw [← Hset.out, ← Hset2.out]; exact blk_set (blk_alloc hown _) _ _, (hb.alloc hb.size _).setCell (Nat.le_refl _) _⟩
      case measure => simp [intOf]; omega
    · obtain rfl : k = l.length := by omega
      have hfin : valL l l.length = l.map (·.1) := by unfold valL; rw [List.take_length, Nat.sub_self, List.replicate_zero, List.append_nil]
      rw [hfin] at hown
      clear hfin hmade
      go_wp2
      go_ret
      exact ⟨rfl, hown, hb⟩
/-- What signs say. -/
def sTxt (l : List (Int × Int)) : ByteArray := encS (l.map (·.1))
set_option maxRecDepth 100000 in
set_option maxHeartbeats 1000000 in
theorem stext_any (l : List (Int × Int)) (a : Option Addr) (c : Nat) (w : World) (hl : l.length ≤ 1000000) (hs : Signs w a l) :
    Calls Tryd.prog 15 #[.slice a l.length c] w fun e w' => e = .returned (.string (sTxt l)) ∧ Below w.heap.size w w' := by
  have V := Lib.hid (values_any l a c w hl hs)
  have E := Lib.hid fun g w1 (h : w1.heap[g]? = some (.cells (iRow (l.map (·.1))) 3 (0, 0))) => (by
    have h := encode_any (l.map (·.1)) (some ⟨g, 0, none⟩) l.length w1 (by simpa using hl) (row_of_blk h)
    rw [List.length_map] at h; exact h : Calls Tryd.prog 29 #[.slice (some ⟨g, 0, none⟩) l.length l.length] w1 fun e w' => e = .returned (.string (encS (l.map (·.1)))) ∧ Below w1.heap.size w1 w')
  go_enter Tryd.func15, Tryd.ntmps15
  go_wp2_with (first
    | (go_at_call 30; refine V.out.mono ?_; rintro e w1 ⟨rfl, hg, hb1⟩; have Hg := Lib.hid hg; clear hg)
    | (go_at_call 29; refine (E.out _ _ Hg.out).mono ?_; rintro e w2 ⟨rfl, hb2⟩))
  go_ret
  exact ⟨rfl, seqB hb1 hb2⟩
end Go.Proofs.YtjgffedcbdnddaaDoor
namespace Go.Proofs.YtjgffedcbdnddaaDoor
open Go.RowKit
theorem sizeB_cases (c : Nat) (h : c < 256) : (c < 128 ∧ sizeB c = 1) ∨ (194 ≤ c ∧ c ≤ 223 ∧ sizeB c = 2) ∨ (224 ≤ c ∧ c ≤ 239 ∧ sizeB c = 3) ∨ (240 ≤ c ∧ c ≤ 244 ∧ sizeB c = 4) ∨ (128 ≤ c ∧ c < 194 ∧ sizeB c = 0) ∨ (244 < c ∧ sizeB c = 0) := by
  unfold sizeB; repeat' split
  all_goals omega
end Go.Proofs.YtjgffedcbdnddaaDoor
namespace Go.Proofs.YtjgffedcbdnddaaDoor
open Go.RowKit
/-- The reference's class and width. -/
def clsR (v : Int) : Int := if rght v = false then 0 else if 1114111 < v then 12 else if 0 < oddR v then oddR v else if skelR v ≠ v then 3 else if wthn lWide v then 2 else 1
def widR (v : Int) : Int := if clsR v = 2 then 2 else if clsR v = 1 ∨ clsR v = 3 then 1 else 0
end Go.Proofs.YtjgffedcbdnddaaDoor
set_option linter.unusedVariables false
set_option linter.unusedSimpArgs false
namespace Go.Proofs.YtjgffedcbdnddaaDoor
open Go.RowKit
/-- Does another byte belong to it? -/
def more (s : ByteArray) (m : Nat) : Prop := m < sizeB (s.get! 0).toNat ∧ m < s.size ∧ mayB (s.get! 0).toNat (s.get! m).toNat m = true
/-- How many bytes belong to what the first one begins, from m on. -/
def bgF (s : ByteArray) : Nat → Nat → Nat
  | 0, m => m
  | f + 1, m => if m < sizeB (s.get! 0).toNat ∧ m < s.size ∧ mayB (s.get! 0).toNat (s.get! m).toNat m = true then bgF s f (m + 1) else m
def begS (s : ByteArray) : Nat := bgF s 4 1
theorem sizeB_le (c : Nat) : sizeB c ≤ 4 := by unfold sizeB; repeat' split
                                               all_goals omega
theorem begS_B (s : ByteArray) : begS s = begB s.size (s.get! 0).toNat (s.get! 1).toNat (s.get! 2).toNat (s.get! 3).toNat := by
  have h4 : ¬ (4 < sizeB (s.get! 0).toNat ∧ 4 < s.size ∧ mayB (s.get! 0).toNat (s.get! 4).toNat 4 = true) := by have := sizeB_le (s.get! 0).toNat; omega
  unfold begS begB
  simp only [bgF]
  rw [if_neg h4]
theorem bgF_le (s : ByteArray) (hs : 0 < s.size) : ∀ f m, m ≤ s.size → bgF s f m ≤ s.size := by
  intro f
  induction f with
  | zero => intro m h; exact h
  | succ f ih =>
    intro m h
    rw [bgF]
    split
    · rename_i hm; exact ih (m + 1) hm.2.1
    · exact h
theorem begS_rng (s : ByteArray) (hs : 0 < s.size) : 1 ≤ begS s ∧ begS s ≤ 4 ∧ begS s ≤ s.size := by
  refine ⟨?_, ?_, bgF_le s hs 4 1 (by omega)⟩
  · rw [begS_B]; unfold begB; repeat' split
    all_goals omega
  · rw [begS_B]; unfold begB; repeat' split
    all_goals omega
end Go.Proofs.YtjgffedcbdnddaaDoor
namespace Go.Proofs.YtjgffedcbdnddaaDoor
open Go.RowKit
theorem inb_self (v x : Int) : inb v x x = true ↔ v = x := by
  unfold inb; simp; omega
theorem find_some_lt {p : Nat → Bool} {n j : Nat} (h : (List.range n).find? p = some j) : j < n ∧ p j = true := by
  have h1 := List.mem_of_find?_eq_some h
  exact ⟨by simpa using h1, List.find?_some h⟩
theorem look_keys : ∀ j : Fin 51, skelR (lks.getD (2 * j.val) 0) = skel (lks.getD (2 * j.val) 0) ∧ skel (lks.getD (2 * j.val) 0) ≠ lks.getD (2 * j.val) 0 := by decide +kernel
theorem look_keys2 : ∀ j : Fin 51, skelR (lSk.getD j.val 0) = skel (lSk.getD j.val 0) := by decide +kernel
/-- Both tables tell the same looks. -/
theorem skel_eq (v : Int) : skelR v = skel v := by
  cases h1 : (List.range 51).find? (hitL v) with
  | some j =>
    have ⟨hj, hp⟩ := find_some_lt h1
    have e : v = lks.getD (2 * j) 0 := (inb_self v _).1 hp
    rw [e]; exact (look_keys ⟨j, hj⟩).1
  | none =>
    cases h2 : (List.range 51).find? (hitS v) with
    | some j =>
      have ⟨hj, hp⟩ := find_some_lt h2
      have e : v = lSk.getD j 0 := by unfold hitS at hp; simpa using (beq_iff_eq.1 hp).symm
      rw [e]; exact look_keys2 ⟨j, hj⟩
    | none => unfold skelR skel; rw [h1, h2]
/-- Is it a look-alike? -/
def isL (v : Int) : Bool := (List.range 51).any (hitL v)
theorem isL_iff (v : Int) : isL v = true ↔ skel v ≠ v := by
  cases h1 : (List.range 51).find? (hitL v) with
  | some j =>
    have ⟨hj, hp⟩ := find_some_lt h1
    have e : v = lks.getD (2 * j) 0 := (inb_self v _).1 hp
    have hk := (look_keys ⟨j, hj⟩).2
    constructor
    · intro _; rw [e]; exact hk
    · intro _; unfold isL; rw [List.any_eq_true]; exact ⟨j, by simpa using hj, hp⟩
  | none =>
    have hn : skel v = v := by unfold skel; rw [h1]
    have : isL v = false := by
      unfold isL; rw [List.any_eq_false]
      rw [List.find?_eq_none] at h1; exact h1
    rw [this, hn]; simp
def toldP (v : Int) : Int := match (List.range 53).find? (hitR v) with | some j => rng.getD (3 * j) 0 | none => if isL v then 3 else 1
def oddP (v : Int) : Int := if wthn lSpace v then 10 else if wthn lZero v then 8 else if wthn lBidi v then 7 else if wthn lMark v then 9 else if wthn lOther v then 11 else 0
def clsP (v : Int) : Int := if 0 < oddP v then oddP v else if isL v then 3 else if wthn lWide v then 2 else 1
theorem told_toldP (v : Int) : told v = toldP v := by
  unfold told toldP
  cases (List.range 53).find? (hitR v) with
  | some j => rfl
  | none =>
    show (if skel v = v then (1 : Int) else 3) = if isL v then 3 else 1
    by_cases h : skel v = v
    · rw [if_pos h]
      have : isL v = false := by
        cases hl : isL v with
        | false => rfl
        | true => exact absurd h ((isL_iff v).1 hl)
      rw [this]; rfl
    · rw [if_neg h, (isL_iff v).2 h]; rfl
/-- Where a test may turn. -/
def brk : List Int := 160 :: ((List.range 53).flatMap fun j => [rng.getD (3 * j + 1) 0, rng.getD (3 * j + 2) 0 + 1]) ++ ((List.range 51).flatMap fun j => [lks.getD (2 * j) 0, lks.getD (2 * j) 0 + 1]) ++
  ([lSpace, lZero, lBidi, lMark, lOther, lWide].flatMap fun l => (List.range (l.length / 2)).flatMap fun j => [l.getD (2 * j) 0, l.getD (2 * j + 1) 0 + 1])
theorem floor_ex (v : Int) : ∀ B : List Int, (∃ b ∈ B, b ≤ v) → ∃ p ∈ B, p ≤ v ∧ ∀ b ∈ B, b ≤ v → b ≤ p := by
  intro B
  induction B with
  | nil => rintro ⟨b, hb, _⟩; cases hb
  | cons a B ih =>
    rintro ⟨b, hb, hv⟩
    by_cases hB : ∃ b ∈ B, b ≤ v
    · obtain ⟨p, hp, hpv, hmax⟩ := ih hB
      by_cases ha : a ≤ v ∧ p ≤ a
      · exact ⟨a, List.mem_cons_self .., ha.1, fun c hc hcv => by
          rcases List.mem_cons.1 hc with rfl | hc
          · exact Int.le_refl _
          · exact Int.le_trans (hmax c hc hcv) ha.2⟩
      · exact ⟨p, List.mem_cons_of_mem _ hp, hpv, fun c hc hcv => by
          rcases List.mem_cons.1 hc with rfl | hc
          · omega
          · exact hmax c hc hcv⟩
    · rcases List.mem_cons.1 hb with rfl | hb
      · exact ⟨b, List.mem_cons_self .., hv, fun c hc hcv => by
          rcases List.mem_cons.1 hc with rfl | hc
          · exact Int.le_refl _
          · exact absurd ⟨c, hc, hcv⟩ hB⟩
      · exact absurd ⟨b, hb, hv⟩ hB
theorem inb_floor {v p x y : Int} {B : List Int} (hp : p ≤ v) (hm : ∀ b ∈ B, b ≤ v → b ≤ p) (hx : x ∈ B) (hy : y + 1 ∈ B) : inb v x y = inb p x y := by
  have h1 := hm x hx; have h2 := hm (y + 1) hy
  unfold inb
  have e1 : decide (x ≤ v) = decide (x ≤ p) := by rw [Bool.eq_iff_iff]; simp; omega
  have e2 : decide (v ≤ y) = decide (p ≤ y) := by rw [Bool.eq_iff_iff]; simp; omega
  rw [e1, e2]
theorem brk_R : ∀ j : Fin 53, rng.getD (3 * j.val + 1) 0 ∈ brk ∧ rng.getD (3 * j.val + 2) 0 + 1 ∈ brk := by decide +kernel
theorem brk_L : ∀ j : Fin 51, lks.getD (2 * j.val) 0 ∈ brk ∧ lks.getD (2 * j.val) 0 + 1 ∈ brk := by decide +kernel
def brkW (l : List Int) : Bool := (List.range (l.length / 2)).all fun j => decide (l.getD (2 * j) 0 ∈ brk ∧ l.getD (2 * j + 1) 0 + 1 ∈ brk)
theorem brk_W : ∀ l ∈ [lSpace, lZero, lBidi, lMark, lOther, lWide], brkW l = true := by decide +kernel
theorem find_congr {p q : Nat → Bool} : ∀ {l : List Nat}, (∀ j ∈ l, p j = q j) → l.find? p = l.find? q
  | [], _ => rfl
  | a :: l, h => by
    rw [List.find?_cons, List.find?_cons, h a (List.mem_cons_self ..), find_congr fun j hj => h j (List.mem_cons_of_mem _ hj)]
theorem any_congr {p q : Nat → Bool} : ∀ {l : List Nat}, (∀ j ∈ l, p j = q j) → l.any p = l.any q
  | [], _ => rfl
  | a :: l, h => by
    rw [List.any_cons, List.any_cons, h a (List.mem_cons_self ..), any_congr fun j hj => h j (List.mem_cons_of_mem _ hj)]
theorem cls_points : ∀ p ∈ brk, 160 ≤ p → p ≤ 1114111 → toldP p = clsP p := by decide +kernel
theorem told_cls (v : Int) (h0 : 160 ≤ v) (h1 : v ≤ 1114111) : told v = clsP v := by
  obtain ⟨p, hpB, hpv, hm⟩ := floor_ex v brk ⟨160, by decide +kernel, h0⟩
  have hp0 : 160 ≤ p := hm 160 (by decide +kernel) h0
  have eR : ∀ j, j < 53 → hitR v j = hitR p j := fun j hj => inb_floor hpv hm (brk_R ⟨j, hj⟩).1 (brk_R ⟨j, hj⟩).2
  have eL : ∀ j, j < 51 → hitL v j = hitL p j := fun j hj => inb_floor hpv hm (brk_L ⟨j, hj⟩).1 (brk_L ⟨j, hj⟩).2
  have eW : ∀ l ∈ [lSpace, lZero, lBidi, lMark, lOther, lWide], wthn l v = wthn l p := fun l hl => by
    have hw := brk_W l hl
    unfold brkW at hw
    rw [List.all_eq_true] at hw
    unfold wthn
    exact any_congr fun j hj => by
      have := of_decide_eq_true (hw j hj)
      exact inb_floor hpv hm this.1 this.2
  have eI : isL v = isL p := any_congr fun j hj => eL j (by simpa using hj)
  have eT : toldP v = toldP p := by
    unfold toldP
    rw [find_congr (p := hitR v) (q := hitR p) fun j hj => eR j (by simpa using hj), eI]
  have eO : oddP v = oddP p := by
    unfold oddP
    rw [eW lSpace (by simp), eW lZero (by simp), eW lBidi (by simp), eW lMark (by simp), eW lOther (by simp)]
  have eC : clsP v = clsP p := by
    unfold clsP
    rw [eO, eI, eW lWide (by simp)]
  rw [told_toldP, eT, eC]
  exact cls_points p hpB hp0 (by omega)
theorem wthn_low {l : List Int} {v : Int} (hl : (List.range (l.length / 2)).all (fun j => decide (160 ≤ l.getD (2 * j) 0)) = true) (h : v < 160) : wthn l v = false := by
  refine wthn_no fun j hj => ?_
  rw [List.all_eq_true] at hl
  have := of_decide_eq_true (hl j (by simpa using hj))
  unfold hitW inb
  rw [decide_eq_false (by omega)]; rfl
theorem skelR_low {v : Int} (h : v < 160) : skelR v = v := by
  have hn : ∀ j, j < 51 → hitS v j = false := fun j hj => by
    have key : ∀ j : Fin 51, 160 ≤ lSk.getD j.val 0 := by decide +kernel
    have := key ⟨j, hj⟩
    unfold hitS
    rw [beq_eq_false_iff_ne]; intro h2; simp only at this; omega
  unfold skelR; rw [find_none hn]
theorem cls_small (v : Int) (h0 : 0 ≤ v) (h : v < 160) : cls v = clsR v := by
  have e : rght v = true := by
    rcases rght_cases v with h2 | h2
    · exact h2.1
    · omega
  have hR : clsR v = if 1114111 < v then 12 else if 0 < oddR v then oddR v else if skelR v ≠ v then 3 else if wthn lWide v then 2 else 1 := by unfold clsR; rw [e, if_neg (show ¬ (true = false) by decide)]
  have hL : cls v = if 1114112 ≤ v then 12 else if v < 32 then 4 else if v = 127 then 5 else if 128 ≤ v ∧ v < 160 then 6 else if v < 160 then 1 else told v := by unfold cls; rw [e, if_neg (show ¬ (true = false) by decide)]
  have w1 := wthn_low (l := lSpace) (by decide +kernel) h
  have w2 := wthn_low (l := lZero) (by decide +kernel) h
  have w3 := wthn_low (l := lBidi) (by decide +kernel) h
  have w4 := wthn_low (l := lMark) (by decide +kernel) h
  have w5 := wthn_low (l := lOther) (by decide +kernel) h
  have w6 := wthn_low (l := lWide) (by decide +kernel) h
  have ho : oddR v = if v ≤ 31 then 4 else if v = 127 then 5 else if 128 ≤ v ∧ v ≤ 159 then 6 else 0 := by unfold oddR; rw [w1, w2, w3, w4, w5]; simp only [Bool.false_eq_true, if_false]
  rw [hR, hL, ho, skelR_low h, w6, if_neg (show ¬ 1114112 ≤ v by omega), if_neg (show ¬ 1114111 < v by omega)]
  rcases (show v < 32 ∨ v = 127 ∨ (128 ≤ v ∧ v < 160) ∨ (32 ≤ v ∧ v < 127) by omega) with c | c | c | c
  · rw [if_pos c, if_pos (show v ≤ 31 by omega)]; simp
  · subst c; simp
  · rw [if_neg (show ¬ v < 32 by omega), if_neg (show ¬ v = 127 by omega), if_pos (show 128 ≤ v ∧ v < 160 by omega), if_neg (show ¬ v ≤ 31 by omega), if_neg (show ¬ v = 127 by omega), if_pos (show 128 ≤ v ∧ v ≤ 159 by omega)]; simp
  · rw [if_neg (show ¬ v < 32 by omega), if_neg (show ¬ v = 127 by omega), if_neg (show ¬ (128 ≤ v ∧ v < 160) by omega), if_pos h, if_neg (show ¬ v ≤ 31 by omega), if_neg (show ¬ v = 127 by omega), if_neg (show ¬ (128 ≤ v ∧ v ≤ 159) by omega)]; simp
/-- Both tell the same class of every value. -/
theorem cls_eq (v : Int) : cls v = clsR v := by
  rcases rght_cases v with ⟨e, h⟩ | ⟨e, h⟩
  · by_cases h1 : v < 160
    · exact cls_small v (by omega) h1
    · have hR : clsR v = if 1114111 < v then 12 else if 0 < oddR v then oddR v else if skelR v ≠ v then 3 else if wthn lWide v then 2 else 1 := by unfold clsR; rw [e, if_neg (show ¬ (true = false) by decide)]
      have hL : cls v = if 1114112 ≤ v then 12 else if v < 32 then 4 else if v = 127 then 5 else if 128 ≤ v ∧ v < 160 then 6 else if v < 160 then 1 else told v := by unfold cls; rw [e, if_neg (show ¬ (true = false) by decide)]
      by_cases h2 : 1114111 < v
      · rw [hR, hL, if_pos (by omega), if_pos h2]
      · have ho : oddR v = oddP v := by unfold oddR oddP; rw [if_neg (by omega), if_neg (by omega), if_neg (by omega)]
        rw [hR, hL, if_neg (by omega), if_neg (by omega), if_neg (by omega), if_neg (by omega), if_neg (by omega), told_cls v (by omega) (by omega), if_neg h2, ho, skel_eq]
        unfold clsP
        by_cases h3 : skel v = v
        · have : isL v = false := by
            cases hl : isL v with
            | false => rfl
            | true => exact absurd h3 ((isL_iff v).1 hl)
          rw [this, if_neg (show ¬ skel v ≠ v by simpa using h3), if_neg (show ¬ (false = true) by decide)]
        · rw [(isL_iff v).2 h3, if_pos (show skel v ≠ v from h3), if_pos rfl]
  · unfold cls clsR; rw [e, if_pos rfl, if_pos rfl]
theorem wid_eq (v : Int) : wid v = widR v := by unfold wid widR; rw [cls_eq]
end Go.Proofs.YtjgffedcbdnddaaDoor
namespace Go.Proofs.YtjgffedcbdnddaaDoor
open Go.RowKit
theorem get0 (s : ByteArray) (i : Nat) : (s.get! i).toNat < 256 := (s.get! i).toNat_lt
theorem vAt_one (s : ByteArray) (hs : 0 < s.size) : vAt s 0 = oneB s.size (s.get! 0).toNat (s.get! 1).toNat (s.get! 2).toNat (s.get! 3).toNat := by
  rw [vAt_val, one_val _ _ _ _ _ (by omega) (get0 _ _) (get0 _ _) (get0 _ _) (get0 _ _)]; simp
theorem beg_m1 {n b0 b1 b2 b3 : Nat} (h : 2 ≤ begB n b0 b1 b2 b3) : 128 ≤ b1 := by
  unfold begB at h
  split at h
  · rename_i h1; exact ((mayB_iff _ _ _).1 h1.2.2).1.1
  · omega
theorem beg_m2 {n b0 b1 b2 b3 : Nat} (h : 3 ≤ begB n b0 b1 b2 b3) : 128 ≤ b2 := by
  unfold begB at h
  split at h
  · split at h
    · rename_i h1; exact ((mayB_iff _ _ _).1 h1.2.2).1.1
    · omega
  · omega
theorem beg_m3 {n b0 b1 b2 b3 : Nat} (h : 4 ≤ begB n b0 b1 b2 b3) : 128 ≤ b3 := by
  unfold begB at h
  split at h
  · split at h
    · split at h
      · rename_i h1; exact ((mayB_iff _ _ _).1 h1.2.2).1.1
      · omega
    · omega
  · omega
theorem wv2 (a b : Nat) (h0 : 194 ≤ a) (h1 : a ≤ 223) (h2 : 128 ≤ b) (h3 : b < 256) :
    wrap64 (wrap64 (wrap64 (wrap64 (wrap64 (a : Int) - 192) * 64) + wrap64 (b : Int)) - 128) = (((a - 192) * 64 + b - 128 : Nat) : Int) := by
  simp (disch := omega) only [IntWalk.wrap64_in]; omega
theorem wv3 (a b c : Nat) (h0 : 224 ≤ a) (h1 : a ≤ 239) (h2 : 128 ≤ b) (h3 : b < 256) (h4 : 128 ≤ c) (h5 : c < 256) :
    wrap64 (wrap64 (wrap64 (wrap64 (wrap64 (wrap64 (wrap64 (wrap64 (a : Int) - 224) * 64) + wrap64 (b : Int)) - 128) * 64) + wrap64 (c : Int)) - 128) = ((((a - 224) * 64 + b - 128) * 64 + c - 128 : Nat) : Int) := by
  simp (disch := omega) only [IntWalk.wrap64_in]; omega
theorem wv4 (a b c d : Nat) (h0 : 240 ≤ a) (h1 : a ≤ 244) (h2 : 128 ≤ b) (h3 : b < 256) (h4 : 128 ≤ c) (h5 : c < 256) (h6 : 128 ≤ d) (h7 : d < 256) :
    wrap64 (wrap64 (wrap64 (wrap64 (wrap64 (wrap64 (wrap64 (wrap64 (wrap64 (wrap64 (wrap64 (a : Int) - 240) * 64) + wrap64 (b : Int)) - 128) * 64) + wrap64 (c : Int)) - 128) * 64) + wrap64 (d : Int)) - 128) = (((((a - 240) * 64 + b - 128) * 64 + c - 128) * 64 + d - 128 : Nat) : Int) := by
  simp (disch := omega) only [IntWalk.wrap64_in]; omega
end Go.Proofs.YtjgffedcbdnddaaDoor
namespace Go.Proofs.YtjgffedcbdnddaaDoor
open Go.RowKit
theorem ext_size (s : ByteArray) (n : Nat) : (s.extract n s.size).size = s.size - n := by simp
theorem ext_get (s : ByteArray) (n j : Nat) (h : n + j < s.size) : (s.extract n s.size).get! j = s.get! (n + j) := by
  rw [get_get _ j (by rw [ext_size]; omega), get_get _ (n + j) h]
  simp [ByteArray.getElem_extract]
theorem vAt_tail (s : ByteArray) (n j : Nat) (h : n + j < s.size) : vAt (s.extract n s.size) j = vAt s (n + j) := by
  unfold vAt; rw [Lib.tail_decode, ext_get s n j h]
theorem valsF_tail (s : ByteArray) (n : Nat) : ∀ f j, valsF (s.extract n s.size) f j = valsF s f (n + j) := by
  intro f
  induction f with
  | zero => intro j; rfl
  | succ f ih =>
    intro j
    by_cases h : n + j < s.size
    · rw [valsF_step _ f j (by rw [ext_size]; omega), valsF_step s f (n + j) h, vAt_tail s n j h, Lib.tail_decode, ih, Nat.add_assoc]
    · rw [valsF_end _ _ _ (by rw [ext_size]; omega), valsF_end _ _ _ h]
theorem valsF_fuel (s : ByteArray) : ∀ f f' i, s.size ≤ i + f → s.size ≤ i + f' → valsF s f i = valsF s f' i := by
  intro f
  induction f with
  | zero => intro f' i h h'; rw [valsF_end s 0 i (by omega), valsF_end s f' i (by omega)]
  | succ f ih =>
    intro f' i h h'
    by_cases hi : i < s.size
    · obtain ⟨g, rfl⟩ : ∃ g, f' = g + 1 := ⟨f' - 1, by omega⟩
      have := (dec_pos s i hi).1
      rw [valsF_step s f i hi, valsF_step s g i hi, ih g _ (by omega) (by omega)]
    · rw [valsF_end _ _ _ hi, valsF_end _ _ _ hi]
theorem valsS_cons (s : ByteArray) (h : 0 < s.size) : valsS s = ((vAt s 0).1 : Int) :: valsS (s.extract (vAt s 0).2 s.size) := by
  have hp := dec_pos s 0 h
  obtain ⟨f, hf⟩ : ∃ f, s.size = f + 1 := ⟨s.size - 1, by omega⟩
  unfold valsS
  rw [vAt_size s 0 h, valsF_tail, Nat.add_zero]
  have e : valsF s s.size 0 = valsF s (f + 1) 0 := by rw [hf]
  rw [e, valsF_step s f 0 h, Nat.zero_add]
  rw [valsF_fuel s f (s.extract (Utf8.decode s 0).2 s.size).size _ (by omega) (by rw [ext_size]; omega)]
theorem valsS_nil (s : ByteArray) (h : ¬ 0 < s.size) : valsS s = [] := by unfold valsS; exact valsF_end s _ 0 h
theorem valsS_len (s : ByteArray) : (valsS s).length ≤ s.size := by
  rcases valsF_len s s.size 0 with h | h
  · exact h
  · unfold valsS; rw [h]; simp
def strSize : Value → Nat
  | .string t => t.size
  | _ => 0
structure DrInv (s : ByteArray) (w : World) (t : ByteArray) (acc : List Int) (v : Value) (wr : World) : Prop where
  sz : t.size + acc.length ≤ s.size
  own : wr.ownsRow w.heap.size 3 1 v acc.length (acc.map (Value.int .i64))
  ac : acc ++ valsS t = valsS s
  bl : Below w.heap.size w wr
theorem cut_nat (t : ByteArray) (n : Nat) : t.extract (n : Int).toNat t.size = t.extract n t.size := rfl
theorem cell_k (w : World) (k : Nat) (x : Int) : ((w.drewN k).alloc (Obj.cells #[Value.int IntKind.i64 x] 3)).cell? ({ block := w.heap.size, off := 0 } : Addr) = some (Value.int .i64 x) := cell_new (w.drewN k) _ _
end Go.Proofs.YtjgffedcbdnddaaDoor
set_option linter.unusedVariables false
set_option linter.unusedSimpArgs false
namespace Go.Proofs.YtjgffedcbdnddaaDoor
open Go.RowKit
/-- The value at the front is the bytes that it took. -/
theorem val_bytes (n b0 b1 b2 b3 : Nat) (h0 : b0 < 256) (h1 : b1 < 256) (h2 : b2 < 256) (h3 : b3 < 256) :
    oneI ((valN n b0 b1 b2 b3).1 : Int) = ([b0, b1, b2, b3].take (valN n b0 b1 b2 b3).2).map Int.ofNat ∧ (valN n b0 b1 b2 b3).2 ≤ max n 1 := by
  have bad : valN n b0 b1 b2 b3 = (1114112 + b0, 1) → 128 ≤ b0 → oneI ((valN n b0 b1 b2 b3).1 : Int) = ([b0, b1, b2, b3].take (valN n b0 b1 b2 b3).2).map Int.ofNat ∧ (valN n b0 b1 b2 b3).2 ≤ max n 1 := by
    intro h hb; rw [h]
    refine ⟨?_, by simp; omega⟩
    rw [oneI_st ((stB_iff _).2 (by simp; omega))]
    simp; omega
  by_cases c0 : b0 < 128
  · have hv : valN n b0 b1 b2 b3 = (b0, 1) := val_ok (b0, 1) (by unfold Lib.decodeN; rw [if_pos c0]) (Or.inl (by simp; omega))
    rw [hv]
    refine ⟨?_, by simp; omega⟩
    rw [oneI_pt ((ptB_iff _).2 (Or.inl (by simp; omega))), Lib.encodeRuneZ_one (by simp) (by simp; omega)]
    simp
  · by_cases c1 : b0 / 32 = 6 ∧ (1 < n ∧ b1 / 64 = 2)
    · by_cases c2 : b0 % 32 * 64 + b1 % 64 ≥ 128
      · have hv : valN n b0 b1 b2 b3 = (b0 % 32 * 64 + b1 % 64, 2) := val_ok _ (by unfold Lib.decodeN; rw [if_neg c0, if_pos c1, if_pos c2]) (Or.inl (by simp; omega))
        rw [hv]
        refine ⟨?_, by simp; omega⟩
        rw [oneI_pt ((ptB_iff _).2 (Or.inl (by simp; omega))), Lib.encodeRuneZ_two (by simp; omega) (by simp; omega)]
        simp; omega
      · exact bad (val_bad (by unfold Lib.decodeN; rw [if_neg c0, if_pos c1, if_neg c2])) (by omega)
    · by_cases c3 : b0 / 16 = 14 ∧ (1 < n ∧ b1 / 64 = 2) ∧ (2 < n ∧ b2 / 64 = 2)
      · by_cases c2 : b0 % 16 * 4096 + b1 % 64 * 64 + b2 % 64 ≥ 2048 ∧ (b0 % 16 * 4096 + b1 % 64 * 64 + b2 % 64 < 55296 ∨ (57344 ≤ b0 % 16 * 4096 + b1 % 64 * 64 + b2 % 64 ∧ b0 % 16 * 4096 + b1 % 64 * 64 + b2 % 64 ≤ 1114111))
        · have hv : valN n b0 b1 b2 b3 = (b0 % 16 * 4096 + b1 % 64 * 64 + b2 % 64, 3) := val_ok _ (by unfold Lib.decodeN; rw [if_neg c0, if_neg c1, if_pos c3, if_pos c2]) (Or.inr (by simp))
          rw [hv]
          refine ⟨?_, by simp; omega⟩
          rw [oneI_pt ((ptB_iff _).2 (by simp; omega)), Lib.encodeRuneZ_three (by simp; omega)]
          simp; omega
        · exact bad (val_bad (by unfold Lib.decodeN; rw [if_neg c0, if_neg c1, if_pos c3, if_neg c2])) (by omega)
      · by_cases c4 : b0 / 8 = 30 ∧ (1 < n ∧ b1 / 64 = 2) ∧ (2 < n ∧ b2 / 64 = 2) ∧ (3 < n ∧ b3 / 64 = 2)
        · by_cases c2 : b0 % 8 * 262144 + b1 % 64 * 4096 + b2 % 64 * 64 + b3 % 64 ≥ 65536 ∧ (b0 % 8 * 262144 + b1 % 64 * 4096 + b2 % 64 * 64 + b3 % 64 < 55296 ∨ (57344 ≤ b0 % 8 * 262144 + b1 % 64 * 4096 + b2 % 64 * 64 + b3 % 64 ∧ b0 % 8 * 262144 + b1 % 64 * 4096 + b2 % 64 * 64 + b3 % 64 ≤ 1114111))
          · have hv : valN n b0 b1 b2 b3 = (b0 % 8 * 262144 + b1 % 64 * 4096 + b2 % 64 * 64 + b3 % 64, 4) := val_ok _ (by unfold Lib.decodeN; rw [if_neg c0, if_neg c1, if_neg c3, if_pos c4, if_pos c2]) (Or.inr (by simp))
            rw [hv]
            refine ⟨?_, by simp; omega⟩
            rw [oneI_pt ((ptB_iff _).2 (by simp; omega)), Lib.encodeRuneZ_four (by simp; omega) (by simp; omega)]
            simp; omega
          · exact bad (val_bad (by unfold Lib.decodeN; rw [if_neg c0, if_neg c1, if_neg c3, if_pos c4, if_neg c2])) (by omega)
        · exact bad (val_bad (by unfold Lib.decodeN; rw [if_neg c0, if_neg c1, if_neg c3, if_neg c4])) (by omega)
/-- .. and what a code point's bytes begin is that code point. -/
theorem bytes_val1 (n v b1 b2 b3 : Nat) (h : v < 128) : valN n v b1 b2 b3 = (v, 1) := val_ok (v, 1) (by unfold Lib.decodeN; rw [if_pos h]) (Or.inl (by simp; omega))
theorem bytes_val2 (n v b2 b3 : Nat) (h : 128 ≤ v) (h' : v < 2048) (hn : 2 ≤ n) : valN n (192 + v / 64) (128 + v % 64) b2 b3 = (v, 2) := by
  have e : (192 + v / 64) % 32 * 64 + (128 + v % 64) % 64 = v := by omega
  refine val_ok (v, 2) ?_ (Or.inl (by simp; omega))
  unfold Lib.decodeN
  rw [if_neg (by omega), if_pos (by omega), e, if_pos (by omega)]
theorem bytes_val3 (n v b3 : Nat) (h : 2048 ≤ v) (h' : v < 65536) (hs : v < 55296 ∨ 57344 ≤ v) (hn : 3 ≤ n) : valN n (224 + v / 4096) (128 + v / 64 % 64) (128 + v % 64) b3 = (v, 3) := by
  have e : (224 + v / 4096) % 16 * 4096 + (128 + v / 64 % 64) % 64 * 64 + (128 + v % 64) % 64 = v := by omega
  refine val_ok (v, 3) ?_ (Or.inr (by simp))
  unfold Lib.decodeN
  rw [if_neg (by omega), if_neg (by omega), if_pos (by omega), e, if_pos (by omega)]
theorem bytes_val4 (n v : Nat) (h : 65536 ≤ v) (h' : v ≤ 1114111) (hn : 4 ≤ n) : valN n (240 + v / 262144) (128 + v / 4096 % 64) (128 + v / 64 % 64) (128 + v % 64) = (v, 4) := by
  have e : (240 + v / 262144) % 8 * 262144 + (128 + v / 4096 % 64) % 64 * 4096 + (128 + v / 64 % 64) % 64 * 64 + (128 + v % 64) % 64 = v := by omega
  refine val_ok (v, 4) ?_ (Or.inr (by simp))
  unfold Lib.decodeN
  rw [if_neg (by omega), if_neg (by omega), if_neg (by omega), if_pos (by omega), e, if_pos (by omega)]
end Go.Proofs.YtjgffedcbdnddaaDoor
namespace Go.Proofs.YtjgffedcbdnddaaDoor
open Go.RowKit
theorem front (s : ByteArray) (i n : Nat) (hn : n ≤ 4) (h : i + n ≤ s.size) :
    ([(s.get! i).toNat, (s.get! (i + 1)).toNat, (s.get! (i + 2)).toNat, (s.get! (i + 3)).toNat].take n).map Int.ofNat = ((bytesOf s).drop i).take n := by
  apply List.ext_getElem
  · simp [bytesOf_size]; omega
  · intro j h1 h2
    have hj : j < n := by simp at h1; omega
    rw [List.getElem_map, List.getElem_take, List.getElem_take, List.getElem_drop, bytesOf_get s (i + j) (by omega)]
    match j, hj with
    | 0, _ => rfl
    | 1, _ => rfl
    | 2, _ => rfl
    | 3, _ => rfl
    | k + 4, hj => omega
theorem enc_valsF (s : ByteArray) : ∀ f i, s.size ≤ i + f → encI (valsF s f i) = (bytesOf s).drop i := by
  intro f
  induction f with
  | zero =>
    intro i h
    rw [valsF_end s 0 i (by omega), List.drop_of_length_le (by rw [bytesOf_size]; omega)]; rfl
  | succ f ih =>
    intro i h
    by_cases hi : i < s.size
    · have hp := dec_pos s i hi
      rw [valsF_step s f i hi, encI_cons, ih _ (by omega), ← vAt_size s i hi]
      have hv := (val_bytes (s.size - i) (s.get! i).toNat (s.get! (i + 1)).toNat (s.get! (i + 2)).toNat (s.get! (i + 3)).toNat (get0 _ _) (get0 _ _) (get0 _ _) (get0 _ _)).1
      rw [← vAt_val] at hv
      rw [← vAt_size s i hi] at hp
      rw [hv, front s i _ hp.2.1 hp.2.2, ← List.drop_drop, List.take_append_drop]
    · rw [valsF_end s _ i hi, List.drop_of_length_le (by rw [bytesOf_size]; omega)]; rfl
theorem enc_vals (s : ByteArray) : encI (valsS s) = bytesOf s := enc_valsF s _ 0 (by omega)
theorem encS_vals (s : ByteArray) : encS (valsS s) = s := by unfold encS; rw [enc_vals, txt_bytesOf]
theorem vAt_enc (v : Int) (r : List Int) (h : ptB v = true) : vAt (txt (oneI v ++ r)) 0 = (v.toNat, (oneI v).length) := by
  obtain ⟨n, rfl⟩ := nat_of_pt h
  have hp := (ptB_iff _).1 h
  rw [vAt_val, oneI_pt h, txt_size]
  rcases (by omega : n < 128 ∨ (128 ≤ n ∧ n < 2048) ∨ (2048 ≤ n ∧ n < 65536) ∨ (65536 ≤ n ∧ n ≤ 1114111)) with h1 | h1 | h1 | h1
  · rw [Lib.encodeRuneZ_one (by omega) (by omega)]
    rw [txt_get _ 0 (by simp)]
    have e0 : ((([(n : Int)] ++ r)[0]'(by simp)).toNat.toUInt8).toNat = n := u8n _ _ rfl (by omega)
    rw [e0, bytes_val1 _ n _ _ _ h1]; simp
  · rw [Lib.encodeRuneZ_two (by omega) (by omega)]
    rw [txt_get _ 0 (by simp), txt_get _ (0 + 1) (by simp)]
    have e0 : ((([192 + (n : Int) / 64, 128 + (n : Int) % 64] ++ r)[0]'(by simp)).toNat.toUInt8).toNat = 192 + n / 64 := u8n _ _ (by show 192 + (n : Int) / 64 = _; omega) (by omega)
    have e1 : ((([192 + (n : Int) / 64, 128 + (n : Int) % 64] ++ r)[0 + 1]'(by simp)).toNat.toUInt8).toNat = 128 + n % 64 := u8n _ _ (by show 128 + (n : Int) % 64 = _; omega) (by omega)
    rw [e0, e1, bytes_val2 _ n _ _ h1.1 h1.2 (by simp)]; simp
  · rw [Lib.encodeRuneZ_three (by omega)]
    rw [txt_get _ 0 (by simp), txt_get _ (0 + 1) (by simp), txt_get _ (0 + 2) (by simp)]
    have e0 : ((([224 + (n : Int) / 4096, 128 + (n : Int) / 64 % 64, 128 + (n : Int) % 64] ++ r)[0]'(by simp)).toNat.toUInt8).toNat = 224 + n / 4096 := u8n _ _ (by show 224 + (n : Int) / 4096 = _; omega) (by omega)
    have e1 : ((([224 + (n : Int) / 4096, 128 + (n : Int) / 64 % 64, 128 + (n : Int) % 64] ++ r)[0 + 1]'(by simp)).toNat.toUInt8).toNat = 128 + n / 64 % 64 := u8n _ _ (by show 128 + (n : Int) / 64 % 64 = _; omega) (by omega)
    have e2 : ((([224 + (n : Int) / 4096, 128 + (n : Int) / 64 % 64, 128 + (n : Int) % 64] ++ r)[0 + 2]'(by simp)).toNat.toUInt8).toNat = 128 + n % 64 := u8n _ _ (by show 128 + (n : Int) % 64 = _; omega) (by omega)
    rw [e0, e1, e2, bytes_val3 _ n _ h1.1 h1.2 (by omega) (by simp)]; simp
  · rw [Lib.encodeRuneZ_four (by omega) (by omega)]
    rw [txt_get _ 0 (by simp), txt_get _ (0 + 1) (by simp), txt_get _ (0 + 2) (by simp), txt_get _ (0 + 3) (by simp)]
    have e0 : ((([240 + (n : Int) / 262144, 128 + (n : Int) / 4096 % 64, 128 + (n : Int) / 64 % 64, 128 + (n : Int) % 64] ++ r)[0]'(by simp)).toNat.toUInt8).toNat = 240 + n / 262144 := u8n _ _ (by show 240 + (n : Int) / 262144 = _; omega) (by omega)
    have e1 : ((([240 + (n : Int) / 262144, 128 + (n : Int) / 4096 % 64, 128 + (n : Int) / 64 % 64, 128 + (n : Int) % 64] ++ r)[0 + 1]'(by simp)).toNat.toUInt8).toNat = 128 + n / 4096 % 64 := u8n _ _ (by show 128 + (n : Int) / 4096 % 64 = _; omega) (by omega)
    have e2 : ((([240 + (n : Int) / 262144, 128 + (n : Int) / 4096 % 64, 128 + (n : Int) / 64 % 64, 128 + (n : Int) % 64] ++ r)[0 + 2]'(by simp)).toNat.toUInt8).toNat = 128 + n / 64 % 64 := u8n _ _ (by show 128 + (n : Int) / 64 % 64 = _; omega) (by omega)
    have e3 : ((([240 + (n : Int) / 262144, 128 + (n : Int) / 4096 % 64, 128 + (n : Int) / 64 % 64, 128 + (n : Int) % 64] ++ r)[0 + 3]'(by simp)).toNat.toUInt8).toNat = 128 + n % 64 := u8n _ _ (by show 128 + (n : Int) % 64 = _; omega) (by omega)
    rw [e0, e1, e2, e3, bytes_val4 _ n h1.1 h1.2 (by simp)]; simp
theorem vals_enc1 (v : Int) (r : List Int) (h : ptB v = true) : valsS (txt (oneI v ++ r)) = v :: valsS (txt r) := by
  have hl : 1 ≤ (oneI v).length := by rw [oneI_pt h]; exact (Lib.encodeRuneZ_length v).1
  rw [valsS_cons _ (by rw [txt_size]; simp; omega), vAt_enc v r h, txt_ext]
  obtain ⟨n, rfl⟩ := nat_of_pt h
  simp
theorem vals_encs (a : List Int) (r : List Int) (h : ∀ v ∈ a, ptB v = true) : valsS (txt (encI a ++ r)) = a ++ valsS (txt r) := by
  induction a with
  | nil => rfl
  | cons v a ih =>
    rw [encI_cons, List.append_assoc, vals_enc1 v _ (h v (by simp)), ih (fun x hx => h x (by simp [hx]))]; rfl
theorem valsS_enc (a : List Int) (h : ∀ v ∈ a, ptB v = true) : valsS (encS a) = a := by
  have := vals_encs a [] h
  rw [List.append_nil] at this
  rw [encS, this, valsS_nil (txt []) (by rw [txt_size]; simp), List.append_nil]
/-- Values of a text: each may be. -/
theorem vals_right (s : ByteArray) : ∀ f i, ∀ v ∈ valsF s f i, ptB v = true ∨ stB v = true := by
  intro f
  induction f with
  | zero => intro i v hv; rw [valsF] at hv; cases hv
  | succ f ih =>
    intro i v hv
    by_cases hi : i < s.size
    · rw [valsF_step s f i hi] at hv
      rcases List.mem_cons.1 hv with rfl | hv
      · have hb := (val_bytes (s.size - i) (s.get! i).toNat (s.get! (i + 1)).toNat (s.get! (i + 2)).toNat (s.get! (i + 3)).toNat (get0 _ _) (get0 _ _) (get0 _ _) (get0 _ _)).1
        rw [← vAt_val] at hb
        have hp := dec_pos s i hi
        rw [← vAt_size s i hi] at hp
        cases h1 : ptB ((vAt s i).1 : Int)
        · cases h2 : stB ((vAt s i).1 : Int)
          · rw [oneI_no h1 h2] at hb
            have := congrArg List.length hb
            simp at this; omega
          · right; rfl
        · left; rfl
      · exact ih _ v hv
    · rw [valsF_end s _ i hi] at hv; cases hv
theorem pt_of_le {s : ByteArray} {v : Int} (h : v ∈ valsS s) (hl : v ≤ 1114111) : ptB v = true := by
  rcases vals_right s _ _ v h with h1 | h1
  · exact h1
  · have := (stB_iff v).1 h1; omega
theorem vals_join (s t : ByteArray) (h : ∀ v ∈ valsS s, v ≤ 1114111) : valsS (s ++ t) = valsS s ++ valsS t := by
  have e : s ++ t = txt (encI (valsS s) ++ bytesOf t) := by
    rw [enc_vals]
    conv => lhs; rw [← txt_bytesOf s, ← txt_bytesOf t]
    apply ByteArray.ext
    simp [txt]
  rw [e, vals_encs _ _ (fun v hv => pt_of_le hv (h v hv)), txt_bytesOf]
/-- How many. -/
theorem valsF_count (s : ByteArray) : ∀ f i, (valsF s f i).length = Lib.runeCountFrom s f i := by
  intro f
  induction f with
  | zero => intro i; rfl
  | succ f ih =>
    intro i
    by_cases hi : i < s.size
    · rw [valsF_step s f i hi, Lib.runeCountFrom, if_pos hi, ← ih]; simp; omega
    · rw [valsF_end s _ i hi, Lib.runeCountFrom_end s _ _ hi]; rfl
theorem vals_count (s : ByteArray) : (valsS s).length = Lib.runeCount s := valsF_count s _ _
end Go.Proofs.YtjgffedcbdnddaaDoor
