/-
  Joined: U14 Sg3 M1.
-/
import Derived.Test.YtmnjafceenckpaaDoorJQ01
import Derived.Test.YtmnjafceenckpaaDoorJQ02
import Derived.Test.YtmnjafceenckpaaDoorJQ07
import Derived.Test.YtmnjafceenckpaaDoorJQ08
import Derived.Laws.StructEq
set_option linter.unusedVariables false
set_option linter.unusedSimpArgs false
set_option maxRecDepth 100000
set_option linter.unusedVariables false
set_option linter.unusedSimpArgs false
namespace Go.Proofs.YtmnjafceenckpaaDoor
open Go.RowKit
/-- Is a text that is not empty a code point's beginning? -/
def partB (s : ByteArray) : Bool := decide (begS s = s.size) && decide (s.size < sizeB (s.get! 0).toNat)
theorem partB_iff (s : ByteArray) : partB s = true ↔ (begS s = s.size ∧ s.size < sizeB (s.get! 0).toNat) := by unfold partB; rw [Bool.and_eq_true, decide_eq_true_eq, decide_eq_true_eq]
theorem part_cl (n b0 b1 b2 b3 z lo hi : Nat) (hn : 1 ≤ n) (hz : sizeB b0 = z) (h1 : 2 ≤ z) (hm : ∀ c, mayB b0 c 1 = true ↔ lo ≤ c ∧ c ≤ hi) :
    (begB n b0 b1 b2 b3 = n ∧ n < z) ↔ (n < z ∧ (1 < n → lo ≤ b1 ∧ b1 ≤ hi) ∧ (2 < n → 128 ≤ b2 ∧ b2 ≤ 191)) := by
  have h4 : z ≤ 4 := by rw [← hz]; exact sizeB_le b0
  have m1 := hm b1
  have m2 : mayB b0 b2 2 = true ↔ 128 ≤ b2 ∧ b2 ≤ 191 := by rw [mayB_iff]; omega
  subst hz
  by_cases c1 : 1 < n
  · by_cases c2 : mayB b0 b1 1 = true
    · have g1 := m1.1 c2
      by_cases c3 : 2 < n
      · by_cases c5 : 2 < sizeB b0
        · by_cases c4 : mayB b0 b2 2 = true
          · have g2 := m2.1 c4
            by_cases c6 : n < sizeB b0
            · rw [beg3 ⟨by omega, c1, c2⟩ ⟨c5, c3, c4⟩ (fun h => by have := h.1; have := h.2.1; omega)]; omega
            · omega
          · have g2 : ¬ (128 ≤ b2 ∧ b2 ≤ 191) := fun h => c4 (m2.2 h)
            rw [beg2 ⟨by omega, c1, c2⟩ (by simp [c4])]; omega
        · omega
      · by_cases c6 : n < sizeB b0
        · rw [beg2 ⟨by omega, c1, c2⟩ (fun h => by have := h.1; have := h.2.1; omega)]; omega
        · omega
    · have g1 : ¬ (lo ≤ b1 ∧ b1 ≤ hi) := fun h => c2 (m1.2 h)
      rw [beg1 (by simp [c2])]; omega
  · rw [beg1 (fun h => by have := h.2.1; omega)]; omega
theorem may_cl (b0 c : Nat) : mayB b0 c 1 = true ↔ (128 ≤ c ∧ c ≤ 191) ∧ ¬ (b0 = 224 ∧ c < 160 ∨ b0 = 237 ∧ 159 < c ∨ b0 = 240 ∧ c < 144 ∨ b0 = 244 ∧ 143 < c) := by rw [mayB_iff]; omega
theorem cl_cases (b0 : Nat) : (Lib.firstT b0 = 240 ∧ sizeB b0 = 1) ∨ (Lib.firstT b0 = 241 ∧ sizeB b0 = 0)
    ∨ (Lib.firstT b0 = 2 ∧ sizeB b0 = 2 ∧ ∀ c, mayB b0 c 1 = true ↔ 128 ≤ c ∧ c ≤ 191) ∨ (Lib.firstT b0 = 19 ∧ sizeB b0 = 3 ∧ ∀ c, mayB b0 c 1 = true ↔ 160 ≤ c ∧ c ≤ 191)
    ∨ (Lib.firstT b0 = 3 ∧ sizeB b0 = 3 ∧ ∀ c, mayB b0 c 1 = true ↔ 128 ≤ c ∧ c ≤ 191) ∨ (Lib.firstT b0 = 35 ∧ sizeB b0 = 3 ∧ ∀ c, mayB b0 c 1 = true ↔ 128 ≤ c ∧ c ≤ 159)
    ∨ (Lib.firstT b0 = 52 ∧ sizeB b0 = 4 ∧ ∀ c, mayB b0 c 1 = true ↔ 144 ≤ c ∧ c ≤ 191) ∨ (Lib.firstT b0 = 4 ∧ sizeB b0 = 4 ∧ ∀ c, mayB b0 c 1 = true ↔ 128 ≤ c ∧ c ≤ 191)
    ∨ (Lib.firstT b0 = 68 ∧ sizeB b0 = 4 ∧ ∀ c, mayB b0 c 1 = true ↔ 128 ≤ c ∧ c ≤ 143) := by
  have hm := fun c => may_cl b0 c
  rcases (by omega : b0 < 128 ∨ (128 ≤ b0 ∧ b0 < 194) ∨ (194 ≤ b0 ∧ b0 < 224) ∨ b0 = 224 ∨ (225 ≤ b0 ∧ b0 < 237) ∨ b0 = 237 ∨ (238 ≤ b0 ∧ b0 < 240) ∨ b0 = 240 ∨ (241 ≤ b0 ∧ b0 < 244) ∨ b0 = 244 ∨ 245 ≤ b0) with h | h | h | h | h | h | h | h | h | h | h
  · left; unfold Lib.firstT sizeB; rw [if_pos h, if_pos h]; exact ⟨rfl, rfl⟩
  · right; left; unfold Lib.firstT sizeB; simp only [show ¬ b0 < 128 by omega, show b0 < 194 by omega, show ¬ (194 ≤ b0 ∧ b0 ≤ 223) by omega, show ¬ (224 ≤ b0 ∧ b0 ≤ 239) by omega, show ¬ (240 ≤ b0 ∧ b0 ≤ 244) by omega, if_true, if_false]; exact ⟨trivial, trivial⟩
  · right; right; left; refine ⟨?_, ?_, fun c => by rw [hm c]; omega⟩
    · unfold Lib.firstT; simp only [show ¬ b0 < 128 by omega, show ¬ b0 < 194 by omega, show b0 < 224 by omega, if_true, if_false]
    · unfold sizeB; simp only [show ¬ b0 < 128 by omega, show (194 ≤ b0 ∧ b0 ≤ 223) by omega, and_self, if_true, if_false]
  · right; right; right; left; subst h; exact ⟨by decide, by decide, fun c => by rw [hm c]; omega⟩
  · right; right; right; right; left; refine ⟨?_, ?_, fun c => by rw [hm c]; omega⟩
    · unfold Lib.firstT; simp only [show ¬ b0 < 128 by omega, show ¬ b0 < 194 by omega, show ¬ b0 < 224 by omega, show ¬ b0 = 224 by omega, show b0 < 237 by omega, if_true, if_false]
    · unfold sizeB; rw [if_neg (by omega), if_neg (by omega), if_pos (by omega)]
  · right; right; right; right; right; left; subst h; exact ⟨by decide, by decide, fun c => by rw [hm c]; omega⟩
  · right; right; right; right; left; refine ⟨?_, ?_, fun c => by rw [hm c]; omega⟩
    · unfold Lib.firstT; simp only [show ¬ b0 < 128 by omega, show ¬ b0 < 194 by omega, show ¬ b0 < 224 by omega, show ¬ b0 = 224 by omega, show ¬ b0 < 237 by omega, show ¬ b0 = 237 by omega, show b0 < 240 by omega, if_true, if_false]
    · unfold sizeB; rw [if_neg (by omega), if_neg (by omega), if_pos (by omega)]
  · right; right; right; right; right; right; left; subst h; exact ⟨by decide, by decide, fun c => by rw [hm c]; omega⟩
  · right; right; right; right; right; right; right; left; refine ⟨?_, ?_, fun c => by rw [hm c]; omega⟩
    · unfold Lib.firstT; simp only [show ¬ b0 < 128 by omega, show ¬ b0 < 194 by omega, show ¬ b0 < 224 by omega, show ¬ b0 = 224 by omega, show ¬ b0 < 237 by omega, show ¬ b0 = 237 by omega, show ¬ b0 < 240 by omega, show ¬ b0 = 240 by omega, show b0 < 244 by omega, if_true, if_false]
    · unfold sizeB; rw [if_neg (by omega), if_neg (by omega), if_neg (by omega), if_pos (by omega)]
  · right; right; right; right; right; right; right; right; subst h; exact ⟨by decide, by decide, fun c => by rw [hm c]; omega⟩
  · right; left; unfold Lib.firstT sizeB; simp only [show ¬ b0 < 128 by omega, show ¬ b0 < 194 by omega, show ¬ b0 < 224 by omega, show ¬ b0 = 224 by omega, show ¬ b0 < 237 by omega, show ¬ b0 = 237 by omega, show ¬ b0 < 240 by omega, show ¬ b0 = 240 by omega, show ¬ b0 < 244 by omega, show ¬ b0 = 244 by omega, show ¬ (194 ≤ b0 ∧ b0 ≤ 223) by omega, show ¬ (224 ≤ b0 ∧ b0 ≤ 239) by omega, show ¬ (240 ≤ b0 ∧ b0 ≤ 244) by omega, if_true, if_false]; exact ⟨trivial, trivial⟩
theorem ret_nn {a b : Bool} (h : b = !a) : Ending.returned (.bool b) = .returned (.bool (!a)) := by rw [h]
end Go.Proofs.YtmnjafceenckpaaDoor
set_option linter.unusedVariables false
set_option linter.unusedSimpArgs false
namespace Go.Proofs.YtmnjafceenckpaaDoor
open Go.RowKit
theorem own_row {w : World} {B : Nat} {v : Value} {l : List Int} (h : w.ownsRow B 3 1 v l.length (l.map (Value.int .i64))) : ∃ a cap, v = .slice a l.length cap ∧ Row w a l := by
  rcases h.2 with ⟨rfl, h0⟩ | ⟨g, cap, cur, rfl, _, hg, _⟩
  · exact ⟨none, 0, by rw [h0], fun j hj => by omega⟩
  · refine ⟨_, cap, rfl, fun j hj => ⟨g, 0, rfl, ?_, blk_lt hg⟩⟩
    have := h.cells (g := g) rfl j (.int .i64 (l.getD j 0)) (by simp [List.getElem?_eq_getElem hj, List.getD])
    have hadd : (⟨g, 0, none⟩ : Addr).add j = ⟨g, 0 + j, none⟩ := by unfold Addr.add; split <;> simp_all
    rw [← hadd]; exact this
theorem row_below {w w' : World} {a : Option Addr} {l : List Int} (h : Row w a l) (hb : Below w.heap.size w w') : Row w' a l := fun j hj => by
  obtain ⟨b, off, e, h1, h2⟩ := h j hj
  exact ⟨b, off, e, (hb.cell (p := ⟨b, off + j, none⟩) h2).trans h1, Nat.lt_of_lt_of_le h2 hb.size⟩
/-- A text's signs. -/
def sOf (u : Int) (s : ByteArray) : List (Int × Int) := (valsS s).map fun v => (v, u)
def ofL (l : List Int) (u : Int) (k : Nat) : List (Int × Int) := (l.take k).map (fun v => (v, u)) ++ List.replicate (l.length - k) (0, 0)
theorem ofL_len (l : List Int) (u : Int) (k : Nat) (h : k ≤ l.length) : (ofL l u k).length = l.length := by simp [ofL]; omega
/-- The same signs? -/
def sgS (a b : List (Int × Int)) : Bool := decide (a = b)
end Go.Proofs.YtmnjafceenckpaaDoor
set_option linter.unusedVariables false
set_option linter.unusedSimpArgs false
namespace Go.Proofs.YtmnjafceenckpaaDoor
open Go.RowKit
def mt : ByteArray := ⟨#[]⟩
def bL (s : ByteArray) : List UInt8 := s.data.toList
def mkB (l : List UInt8) : ByteArray := ⟨l.toArray⟩
theorem mkB_bL (s : ByteArray) : mkB (bL s) = s := by apply ByteArray.ext; simp [mkB, bL]
theorem bL_mkB (l : List UInt8) : bL (mkB l) = l := by simp [mkB, bL]
theorem bL_app (a b : ByteArray) : bL (a ++ b) = bL a ++ bL b := by unfold bL; rw [ByteArray.data_append]; simp
theorem bL_ext (s : ByteArray) (a b : Nat) : bL (s.extract a b) = ((bL s).take b).drop a := by
  unfold bL; rw [ByteArray.data_extract, Array.toList_extract, List.extract_eq_take_drop, List.drop_take]
theorem bL_inj {a b : ByteArray} (h : bL a = bL b) : a = b := by rw [← mkB_bL a, ← mkB_bL b, h]
theorem bL_len (s : ByteArray) : (bL s).length = s.size := by unfold bL; exact Array.length_toList
theorem bL_mt : bL mt = [] := rfl
theorem app_mt (s : ByteArray) : s ++ mt = s := bL_inj (by rw [bL_app, bL_mt, List.append_nil])
theorem mt_app (s : ByteArray) : mt ++ s = s := bL_inj (by rw [bL_app, bL_mt, List.nil_append])
theorem size0 {s : ByteArray} (h : s.size = 0) : s = mt := bL_inj (by rw [bL_mt]; apply List.eq_nil_of_length_eq_zero; rw [bL_len]; exact h)
theorem ext_all (s : ByteArray) : s.extract 0 s.size = s := bL_inj (by rw [bL_ext, ← bL_len, List.take_length, List.drop_zero])
theorem ext_front (a b : ByteArray) : (a ++ b).extract 0 a.size = a := bL_inj (by rw [bL_ext, bL_app, ← bL_len, List.take_left, List.drop_zero])
theorem ext_back (a b : ByteArray) : (a ++ b).extract a.size (a ++ b).size = b := bL_inj (by rw [bL_ext, ← bL_len (a ++ b), List.take_length, bL_app, ← bL_len a, List.drop_left])
theorem ext_join (s : ByteArray) (n : Nat) (h : n ≤ s.size) : s.extract 0 n ++ s.extract n s.size = s := bL_inj (by rw [bL_app, bL_ext, bL_ext, ← bL_len, List.take_length, List.drop_zero, List.take_append_drop])
theorem ba_asc (a b c : ByteArray) : a ++ b ++ c = a ++ (b ++ c) := bL_inj (by simp only [bL_app, List.append_assoc])
theorem bytesOf_bL (s : ByteArray) : bytesOf s = (bL s).map fun b => (b.toNat : Int) := rfl
theorem bytesOf_ext (s : ByteArray) (a b : Nat) : bytesOf (s.extract a b) = ((bytesOf s).take b).drop a := by rw [bytesOf_bL, bL_ext, List.map_drop, List.map_take]; rfl
/-- Is a value shown as it is? -/
def shwB (v : Int) : Bool := decide (1 ≤ cls v) && decide (cls v ≤ 3)
theorem shwB_pt {v : Int} (h : shwB v = true) : ptB v = true := by
  unfold shwB at h
  simp only [Bool.and_eq_true, decide_eq_true_eq] at h
  unfold cls at h
  rw [ptB_iff]
  rcases pnt_cases v with ⟨h1, h2⟩ | ⟨h1, h2⟩
  · omega
  · rcases stry_cases v with ⟨h3, h4⟩ | ⟨h3, h4⟩
    · have hr : rght v = true := by unfold rght; rw [h3]; simp
      rw [if_neg (by rw [hr]; simp), if_pos (by omega)] at h
      omega
    · have hr : rght v = false := by unfold rght; rw [h1, h3]; rfl
      rw [if_pos hr] at h
      omega
theorem pt_le {v : Int} (h : ptB v = true) : v ≤ 1114111 := by have := (ptB_iff v).1 h; omega
theorem shwB_low (v : Int) (h : v < 32) : shwB v = false := by
  unfold shwB
  by_cases h0 : v < 0
  · have : cls v = 0 := by
      unfold cls
      rw [if_pos]
      rcases pnt_cases v with ⟨h1, h2⟩ | ⟨h1, h2⟩
      · omega
      · rcases stry_cases v with ⟨h3, h4⟩ | ⟨h3, h4⟩
        · omega
        · unfold rght; rw [h1, h3]; rfl
    rw [this]; rfl
  · have : cls v = 4 := by
      unfold cls
      rw [if_neg, if_neg (by omega), if_pos h]
      rcases pnt_cases v with ⟨h1, h2⟩ | ⟨h1, h2⟩
      · unfold rght; rw [h1]; simp
      · omega
    rw [this]; rfl
/-- How long a text's beginning is that is shown as it is. -/
def tl (s : ByteArray) : Nat := (encI ((valsS s).takeWhile shwB)).length
def allW (t : ByteArray) : Bool := (valsS t).all shwB
theorem enc_split (s : ByteArray) : bytesOf s = encI ((valsS s).takeWhile shwB) ++ encI ((valsS s).dropWhile shwB) := by
  rw [← encI_append, List.takeWhile_append_dropWhile, enc_vals]
theorem tl_le (s : ByteArray) : tl s ≤ s.size := by
  have := congrArg List.length (enc_split s)
  rw [bytesOf_size, List.length_append] at this
  unfold tl; omega
theorem tl_take (s : ByteArray) : s.extract 0 (tl s) = encS ((valsS s).takeWhile shwB) := by
  rw [← txt_bytesOf (s.extract 0 (tl s)), bytesOf_ext, enc_split s, List.drop_zero]
  unfold tl encS
  rw [List.take_left]
theorem tl_drop (s : ByteArray) : s.extract (tl s) s.size = encS ((valsS s).dropWhile shwB) := by
  rw [← txt_bytesOf (s.extract (tl s) s.size), bytesOf_ext, List.take_of_length_le (by rw [bytesOf_size]; exact Nat.le_refl _), enc_split s]
  unfold tl encS
  rw [List.drop_left]
theorem pts_take (s : ByteArray) : ∀ v ∈ (valsS s).takeWhile shwB, ptB v = true := fun v hv => shwB_pt (List.all_eq_true.1 List.all_takeWhile v hv)
theorem vals_take (s : ByteArray) : valsS (s.extract 0 (tl s)) = (valsS s).takeWhile shwB := by rw [tl_take]; exact valsS_enc _ (pts_take s)
theorem vals_drop (s : ByteArray) : valsS (s.extract (tl s) s.size) = (valsS s).dropWhile shwB := by
  rw [tl_drop]
  have h := vals_encs ((valsS s).takeWhile shwB) (encI ((valsS s).dropWhile shwB)) (pts_take s)
  rw [← enc_split, txt_bytesOf] at h
  have h2 := List.takeWhile_append_dropWhile (p := shwB) (l := valsS s)
  exact List.append_cancel_left (h.symm.trans h2.symm)
theorem tw_dw {α : Type} (p : α → Bool) : ∀ l : List α, (l.dropWhile p).takeWhile p = []
  | [] => rfl
  | a :: l => by
    cases h : p a
    · rw [List.dropWhile_cons, h]; simp [List.takeWhile_cons, h]
    · rw [List.dropWhile_cons, h]; simpa using tw_dw p l
theorem tl_rest (s : ByteArray) : tl (s.extract (tl s) s.size) = 0 := by
  show (encI ((valsS (s.extract (tl s) s.size)).takeWhile shwB)).length = 0
  rw [vals_drop, tw_dw]; rfl
theorem allW_take (s : ByteArray) : allW (s.extract 0 (tl s)) = true := by unfold allW; rw [vals_take]; exact List.all_takeWhile
theorem allW_pt {t : ByteArray} (h : allW t = true) : ∀ v ∈ valsS t, v ≤ 1114111 := fun v hv => pt_le (shwB_pt (List.all_eq_true.1 h v hv))
theorem tl_app (t r : ByteArray) (h : allW t = true) : tl (t ++ r) = t.size + tl r := by
  have hp : ∀ v ∈ valsS t, shwB v = true := List.all_eq_true.1 h
  unfold tl
  rw [vals_join t r (allW_pt h), List.takeWhile_append_of_pos hp, encI_append, List.length_append, enc_vals, bytesOf_size]
theorem vals_mt : valsS mt = [] := rfl
theorem tl_mt : tl mt = 0 := rfl
theorem tl_all {t : ByteArray} (h : allW t = true) : tl t = t.size := by
  have := tl_app t mt h
  rw [app_mt, tl_mt] at this; exact this
theorem allW_of {s : ByteArray} (h : tl s = s.size) : allW s = true := by
  have := allW_take s
  rw [h, ext_all] at this; exact this
theorem allW_app {t r : ByteArray} (h : allW t = true) (h2 : allW r = true) : allW (t ++ r) = true := by
  unfold allW at *
  rw [vals_join t r (allW_pt h), List.all_append, h, h2]; rfl
theorem vAt_low (s : ByteArray) (h : (s.get! 0).toNat < 128) : vAt s 0 = ((s.get! 0).toNat, 1) := by
  rw [vAt_val]; exact bytes_val1 _ _ _ _ _ h
theorem tl_low (s : ByteArray) (h : 0 < s.size) (hc : (s.get! 0).toNat < 32) : tl s = 0 := by
  unfold tl
  rw [valsS_cons s h, vAt_low s (by omega), List.takeWhile_cons, if_neg (by rw [shwB_low _ (by omega)]; simp)]; rfl
end Go.Proofs.YtmnjafceenckpaaDoor
