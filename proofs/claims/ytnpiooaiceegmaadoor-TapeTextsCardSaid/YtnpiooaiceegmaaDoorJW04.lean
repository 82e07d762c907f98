/-
  Joined: Ky1 U1 Sg1 U2 Mk U3 C6 Ow U4 C7 U5 C8 U6 U7 U8.
-/
import Derived.Test.YtnpiooaiceegmaaDoorJW01
import Derived.Test.YtnpiooaiceegmaaDoorJW03
import Derived.Test.YtnpiooaiceegmaaDoorRows
import Derived.Test.YtnpiooaiceegmaaDoorShelf
import Derived.Lib.RuneCountTail
import Derived.Lib.OthersKept
import Derived.Handy
import Derived.WalkSpells
import Derived.WalkLawsBesides
import Derived.Laws.OwnMore
import Derived.Laws.MakeOwn
import Derived.Deep.OwnRows
import Derived.OwnWalk
import Derived.Lib.ItoaWalk
import Derived.Lib.RuneBytes
set_option linter.unusedVariables false
set_option linter.unusedSimpArgs false
set_option maxRecDepth 100000
set_option linter.unusedVariables false
set_option linter.unusedSimpArgs false
namespace Go.Proofs.YtnpiooaiceegmaaDoor
open Go.RowKit
/-- A key: kind, value, text, cut. -/
abbrev Ky := Int × Int × ByteArray × Bool
abbrev KRow := Int × Int × List UInt8 × List UInt8
/-- The keys of one name: kind, value, name, bytes. -/
def kTab : List KRow := [
  (4, 13, [82, 69, 84], [13]),
  (4, 10, [76, 70, 68], [10]),
  (5, 0, [69, 83, 67], [27]),
  (6, 0, [68, 69, 76], [127]),
  (7, 0, [85, 80], [27, 91, 65]),
  (8, 0, [68, 79, 87, 78], [27, 91, 66]),
  (9, 0, [82, 73, 71, 72, 84], [27, 91, 67]),
  (10, 0, [76, 69, 70, 84], [27, 91, 68]),
  (11, 0, [72, 79, 77, 69], [27, 91, 72]),
  (12, 0, [69, 78, 68], [27, 91, 70]),
  (13, 0, [68, 69, 76, 69, 84, 69], [27, 91, 51, 126]),
  (14, 0, [80, 71, 85, 80], [27, 91, 53, 126]),
  (14, 1, [80, 71, 68, 78], [27, 91, 54, 126])]
def hx2 (l : List UInt8) : List UInt8 := l.flatMap fun b => hexN (b.toNat : Int) 2
def k0 : Ky := (0, 0, ⟨#[]⟩, false)
theorem hex2 (b : UInt8) : (hexN (b.toNat : Int) 2).length = 2 ∧ uhE (hexN (b.toNat : Int) 2) = 0 ∧ uhR (hexN (b.toNat : Int) 2) = b.toNat ∧ (hexN (b.toNat : Int) 2).getLast? ≠ some 33 := by
  have hb : b.toNat < 256 := b.toNat_lt
  have key : ∀ n : Fin 256, (tell 16 20 n 2).length = 2 ∧ (tell 16 20 n 2).getLast? ≠ some 33 := by decide
  have hx : hexN (b.toNat : Int) 2 = tell 16 20 b.toNat 2 := by
    unfold hexN; rw [show (max (2 : Int) 1).toNat = 2 by omega]; rfl
  have ⟨k1, k2⟩ := key ⟨b.toNat, hb⟩
  have ⟨u1, u2⟩ := uh_hex (b.toNat : Int) 2 (by omega) (by omega) (by rw [hx]; rw [show (tell 16 20 b.toNat 2).length = 2 from k1]; omega)
  exact ⟨by rw [hx]; exact k1, u2, u1, by rw [hx]; exact k2⟩
end Go.Proofs.YtnpiooaiceegmaaDoor
set_option linter.unusedVariables false
set_option linter.unusedSimpArgs false
namespace Go.Proofs.YtnpiooaiceegmaaDoor
open Go.RowKit
/-- The utf8 tables lie in memory. -/
def UT (w : World) : Prop := Lib.Utf8Tabs 4 5 w ∧ 4 < w.heap.size ∧ 5 < w.heap.size
theorem UT.below {w w' : World} (h : UT w) (hb : Below w.heap.size w w') : UT w' :=
  ⟨⟨fun c hc => (hb.cell (p := ⟨4, c, none⟩) h.2.1).trans (h.1.1 c hc), fun i hi =>
    ⟨(hb.cell (p := ⟨5, 2 * i, none⟩) h.2.2).trans (h.1.2 i hi).1,
     (hb.cell (p := ⟨5, 2 * i + 1, none⟩) h.2.2).trans (h.1.2 i hi).2⟩⟩, Nat.lt_of_lt_of_le h.2.1 hb.size, Nat.lt_of_lt_of_le h.2.2 hb.size⟩
/-- The value at a place of a text, and its size. -/
def vAt (s : ByteArray) (i : Nat) : Nat × Nat := if (Utf8.decode s i).1 = 65533 ∧ (Utf8.decode s i).2 < 3 then (1114112 + (s.get! i).toNat, 1) else Utf8.decode s i
theorem vAt_val (s : ByteArray) (i : Nat) : vAt s i = valN (s.size - i) (s.get! i).toNat (s.get! (i + 1)).toNat (s.get! (i + 2)).toNat (s.get! (i + 3)).toNat := by
  unfold vAt valN; rw [Lib.decode_at]
def Fine (x m : Nat) : Prop := (m = 1 ∧ x < 128) ∨ (m = 2 ∧ 128 ≤ x ∧ x < 2048) ∨ (m = 3 ∧ 2048 ≤ x ∧ (x < 55296 ∨ 57344 ≤ x) ∧ x ≤ 65535) ∨ (m = 4 ∧ 65536 ≤ x ∧ x ≤ 1114111)
theorem decN_cases (n b0 b1 b2 b3 : Nat) : Lib.decodeN n b0 b1 b2 b3 = (65533, 1) ∨ Fine (Lib.decodeN n b0 b1 b2 b3).1 (Lib.decodeN n b0 b1 b2 b3).2 := by
  unfold Lib.decodeN
  by_cases c0 : b0 < 128
  · right; rw [if_pos c0]; exact Or.inl ⟨rfl, c0⟩
  · rw [if_neg c0]
    by_cases c1 : b0 / 32 = 6 ∧ (1 < n ∧ b1 / 64 = 2)
    · rw [if_pos c1]
      by_cases c2 : b0 % 32 * 64 + b1 % 64 ≥ 128
      · right; rw [if_pos c2]; exact Or.inr (Or.inl ⟨rfl, c2, by show _ < 2048; omega⟩)
      · left; rw [if_neg c2]
    · rw [if_neg c1]
      by_cases c3 : b0 / 16 = 14 ∧ (1 < n ∧ b1 / 64 = 2) ∧ (2 < n ∧ b2 / 64 = 2)
      · rw [if_pos c3]
        generalize hx : b0 % 16 * 4096 + b1 % 64 * 64 + b2 % 64 = x
        have hlt : x ≤ 65535 := by omega
        by_cases c2 : x ≥ 2048 ∧ (x < 55296 ∨ (57344 ≤ x ∧ x ≤ 1114111))
        · right; rw [if_pos c2]; exact Or.inr (Or.inr (Or.inl ⟨rfl, c2.1, by show x < 55296 ∨ 57344 ≤ x; omega, hlt⟩))
        · left; rw [if_neg c2]
      · rw [if_neg c3]
        by_cases c4 : b0 / 8 = 30 ∧ (1 < n ∧ b1 / 64 = 2) ∧ (2 < n ∧ b2 / 64 = 2) ∧ (3 < n ∧ b3 / 64 = 2)
        · rw [if_pos c4]
          generalize hx : b0 % 8 * 262144 + b1 % 64 * 4096 + b2 % 64 * 64 + b3 % 64 = x
          by_cases c2 : x ≥ 65536 ∧ (x < 55296 ∨ (57344 ≤ x ∧ x ≤ 1114111))
          · right; rw [if_pos c2]; exact Or.inr (Or.inr (Or.inr ⟨rfl, c2.1, by show x ≤ 1114111; omega⟩))
          · left; rw [if_neg c2]
        · left; rw [if_neg c4]
theorem dec_cases (s : ByteArray) (i : Nat) : Utf8.decode s i = (65533, 1) ∨ Fine (Utf8.decode s i).1 (Utf8.decode s i).2 := by
  rw [Lib.decode_at]; exact decN_cases _ _ _ _ _
end Go.Proofs.YtnpiooaiceegmaaDoor
set_option linter.unusedVariables false
set_option linter.unusedSimpArgs false
namespace Go.Proofs.YtnpiooaiceegmaaDoor
open Go.RowKit
theorem blk_set {w : World} {g : Nat} {cs : Array Value} {t : TypeId} {f : Nat × Nat} (h : w.heap[g]? = some (.cells cs t f)) (i : Nat) (u : Value) : (w.setCell ⟨g, i, none⟩ u).heap[g]? = some (.cells (cs.setIfInBounds i u) t f) := by
  simp [World.setCell, Array.getElem?_modify, h]
theorem blk_lt {w : World} {g : Nat} {o : Obj} (h : w.heap[g]? = some o) : g < w.heap.size := by
  rcases Nat.lt_or_ge g w.heap.size with h1 | h1
  · exact h1
  · rw [Array.getElem?_eq_none h1] at h; cases h
theorem blk_below {w w' : World} {g : Nat} {o : Obj} (h : w.heap[g]? = some o) (hb : Below w.heap.size w w') : w'.heap[g]? = some o := (hb.block g (blk_lt h)).trans h
end Go.Proofs.YtnpiooaiceegmaaDoor
namespace Go.Proofs.YtnpiooaiceegmaaDoor
open Go.RowKit
theorem dec_pos (s : ByteArray) (i : Nat) (h : i < s.size) : 1 ≤ (Utf8.decode s i).2 ∧ (Utf8.decode s i).2 ≤ 4 ∧ i + (Utf8.decode s i).2 ≤ s.size := by
  rw [Lib.decode_at]
  unfold Lib.decodeN
  repeat' split
  all_goals (simp only; omega)
theorem vAt_size (s : ByteArray) (i : Nat) (h : i < s.size) : (vAt s i).2 = (Utf8.decode s i).2 := by
  have hp := dec_pos s i h
  unfold vAt
  split
  · rename_i h2
    have := dec_cases s i
    rcases this with h3 | h3
    · rw [h3]
    · rcases h3 with h3 | h3 | h3 | h3 <;> omega
  · rfl
/-- A text's first value. -/
def oneS (s : ByteArray) : Nat × Nat := if s.size = 0 then (0, 0) else vAt s 0
/-- A text's values, from a place on, at most so many. -/
def valsF (s : ByteArray) : Nat → Nat → List Int
  | 0, _ => []
  | f + 1, i => if i < s.size then ((vAt s i).1 : Int) :: valsF s f (i + (Utf8.decode s i).2) else []
def valsS (s : ByteArray) : List Int := valsF s s.size 0
theorem valsF_end (s : ByteArray) (f i : Nat) (h : ¬ i < s.size) : valsF s f i = [] := by
  cases f with
  | zero => rfl
  | succ f => rw [valsF, if_neg h]
theorem valsF_step (s : ByteArray) (f i : Nat) (h : i < s.size) : valsF s (f + 1) i = ((vAt s i).1 : Int) :: valsF s f (i + (Utf8.decode s i).2) := by rw [valsF, if_pos h]
end Go.Proofs.YtnpiooaiceegmaaDoor
set_option linter.unusedVariables false
set_option linter.unusedSimpArgs false
namespace Go.Proofs.YtnpiooaiceegmaaDoor
open Go.RowKit
theorem app_cells {w : World} {h : Nat} {L : List Value} {t : TypeId} (hh : w.heap.size = h) {j : Nat} {x : Value} (hj : L[j]? = some x) : (w.alloc (.cells L.toArray t)).cell? ((⟨h, 0, none⟩ : Addr).add j) = some x := by
  subst hh
  have hadd : (⟨w.heap.size, 0, none⟩ : Addr).add j = ⟨w.heap.size, 0 + j, none⟩ := by unfold Addr.add; split <;> simp_all
  rw [hadd, World.cell?_alloc_new, Nat.zero_add, List.getElem?_toArray]; exact hj
end Go.Proofs.YtnpiooaiceegmaaDoor
namespace Go.Proofs.YtnpiooaiceegmaaDoor
open Go.RowKit
theorem grown_of_below {w w' : World} (h : Below w.heap.size w w') : w.grownBy w' none := ⟨h.os, h.tape, h.output, h.size, fun k hk _ => h.block k hk⟩
theorem own_apart {w : World} {base : Nat} {e : TypeId} {size : Nat} {v : Value} {n : Nat} {xs : List Value} (h : w.ownsRow base e size v n xs) {B : Nat} {s : ByteArray} {i : Nat} (hb : w.heap[B]? = some (.stringIter s i)) : v.ownBlock ≠ some B := by
  rcases h.2 with ⟨rfl, _⟩ | ⟨g, cap, cur, rfl, _, hg, _⟩
  · simp [Value.ownBlock]
  · intro e1
    have : g = B := by simpa [Value.ownBlock] using e1
    subst this
    rw [hg] at hb; cases hb
theorem own_iter {w : World} {base : Nat} {e : TypeId} {size : Nat} {v : Value} {n : Nat} {xs : List Value} (h : w.ownsRow base e size v n xs) {B : Nat} {s : ByteArray} {i : Nat} (hb : w.heap[B]? = some (.stringIter s i)) (j : Nat) :
    (w.iterAt B s j).ownsRow base e size v n xs := by
  have hg : w.grownBy (w.iterAt B s j) (some B) := ⟨rfl, rfl, rfl, by rw [Lib.iterAt_size]; exact Nat.le_refl _, fun k _ hne => Lib.iterAt_other w B k s j (by intro e1; exact hne (by rw [e1]))⟩
  exact h.kept hg (Or.inr (own_apart h hb))
theorem own_below {w w' : World} {base : Nat} {e : TypeId} {size : Nat} {v : Value} {n : Nat} {xs : List Value} (h : w.ownsRow base e size v n xs) (hb : Below w.heap.size w w') : w'.ownsRow base e size v n xs :=
  h.kept (grown_of_below hb) (by cases hv : v.ownBlock <;> simp)
end Go.Proofs.YtnpiooaiceegmaaDoor
namespace Go.Proofs.YtnpiooaiceegmaaDoor
open Go.RowKit
end Go.Proofs.YtnpiooaiceegmaaDoor
set_option linter.unusedVariables false
set_option linter.unusedSimpArgs false
namespace Go.Proofs.YtnpiooaiceegmaaDoor
open Go.RowKit
theorem own_ne_kind {w : World} {B n size b : Nat} {e T : TypeId} {v : Value} {xs : List Value} {cs : Array Value} {fr : Nat × Nat} (h : w.ownsRow B e size v n xs) (hb : w.heap[b]? = some (.cells cs T fr)) (hT : T ≠ e) : v.ownBlock ≠ some b := by
  rcases h.2 with ⟨rfl, _⟩ | ⟨g, cap, cur, rfl, _, hg, _⟩
  · simp [Value.ownBlock]
  · intro e'
    obtain rfl : g = b := by simpa [Value.ownBlock] using e'
    rw [hg] at hb; simp at hb; exact hT hb.2.1.symm
theorem own_ne_own {w : World} {B B' n n' size size' : Nat} {e e' : TypeId} {v v' : Value} {xs xs' : List Value} (h : w.ownsRow B e size v n xs) (h' : w.ownsRow B' e' size' v' n' xs') (hT : e ≠ e') : v.ownBlock = none ∨ v.ownBlock ≠ v'.ownBlock := by
  rcases h.2 with ⟨rfl, _⟩ | ⟨g, cap, cur, rfl, _, hg, _⟩
  · exact .inl rfl
  · exact .inr fun e'' => own_ne_kind h' hg hT e''.symm
theorem own_set {w : World} {B n size : Nat} {e : TypeId} {v : Value} {xs : List Value} (h : w.ownsRow B e size v n xs) {a : Addr} (ha : v.ownBlock ≠ some a.block) (u : Value) : (w.setCell a u).ownsRow B e size v n xs := by
  refine ⟨h.1, ?_⟩
  rcases h.2 with h2 | ⟨g, cap, cur, rfl, hB, hg, r⟩
  · exact .inl h2
  · exact .inr ⟨g, cap, cur, rfl, hB, by rw [Below.heap_setCell _ _ _ _ (fun e => ha (by rw [← e]; rfl))]; exact hg, r⟩
end Go.Proofs.YtnpiooaiceegmaaDoor
namespace Go.Proofs.YtnpiooaiceegmaaDoor
open Go.RowKit
end Go.Proofs.YtnpiooaiceegmaaDoor
namespace Go.Proofs.YtnpiooaiceegmaaDoor
open Go.RowKit
end Go.Proofs.YtnpiooaiceegmaaDoor
set_option linter.unusedVariables false
set_option linter.unusedSimpArgs false
namespace Go.Proofs.YtnpiooaiceegmaaDoor
open Go.RowKit
/-- How many bytes belong to what the first one begins, from m on. -/
def bgF (s : ByteArray) : Nat → Nat → Nat
  | 0, m => m
  | f + 1, m => if m < sizeB (s.get! 0).toNat ∧ m < s.size ∧ mayB (s.get! 0).toNat (s.get! m).toNat m = true then bgF s f (m + 1) else m
def begS (s : ByteArray) : Nat := bgF s 4 1
end Go.Proofs.YtnpiooaiceegmaaDoor
namespace Go.Proofs.YtnpiooaiceegmaaDoor
open Go.RowKit
end Go.Proofs.YtnpiooaiceegmaaDoor
namespace Go.Proofs.YtnpiooaiceegmaaDoor
open Go.RowKit
theorem get0 (s : ByteArray) (i : Nat) : (s.get! i).toNat < 256 := (s.get! i).toNat_lt
end Go.Proofs.YtnpiooaiceegmaaDoor
namespace Go.Proofs.YtnpiooaiceegmaaDoor
open Go.RowKit
end Go.Proofs.YtnpiooaiceegmaaDoor
set_option linter.unusedVariables false
set_option linter.unusedSimpArgs false
namespace Go.Proofs.YtnpiooaiceegmaaDoor
open Go.RowKit
/-- The value at the front is the bytes that it took. -/
theorem val_bytes (n b0 b1 b2 b3 : Nat) (h0 : b0 < 256) (h1 : b1 < 256) (h2 : b2 < 256) (h3 : b3 < 256) :
    oneI ((valN n b0 b1 b2 b3).1 : Int) = ([b0, b1, b2, b3].take (valN n b0 b1 b2 b3).2).map Int.ofNat ∧ (valN n b0 b1 b2 b3).2 ≤ max n 1 := by
  have bad : valN n b0 b1 b2 b3 = (1114112 + b0, 1) → 128 ≤ b0 → oneI ((valN n b0 b1 b2 b3).1 : Int) = ([b0, b1, b2, b3].take (valN n b0 b1 b2 b3).2).map Int.ofNat ∧ (valN n b0 b1 b2 b3).2 ≤ max n 1 := by
    intro h hb; rw [h]
    refine ⟨?_, by simp; omega⟩
    rw [oneI_st ((stB_iff _).2 (by simp; omega))]
    simp; omega
  by_cases c0 : b0 < 128
  · have hv : valN n b0 b1 b2 b3 = (b0, 1) := val_ok (b0, 1) (by unfold Lib.decodeN; rw [if_pos c0]) (Or.inl (by simp; omega))
    rw [hv]
    refine ⟨?_, by simp; omega⟩
    rw [oneI_pt ((ptB_iff _).2 (Or.inl (by simp; omega))), Lib.encodeRuneZ_one (by simp) (by simp; omega)]
    simp
  · by_cases c1 : b0 / 32 = 6 ∧ (1 < n ∧ b1 / 64 = 2)
    · by_cases c2 : b0 % 32 * 64 + b1 % 64 ≥ 128
      · have hv : valN n b0 b1 b2 b3 = (b0 % 32 * 64 + b1 % 64, 2) := val_ok _ (by unfold Lib.decodeN; rw [if_neg c0, if_pos c1, if_pos c2]) (Or.inl (by simp; omega))
        rw [hv]
        refine ⟨?_, by simp; omega⟩
        rw [oneI_pt ((ptB_iff _).2 (Or.inl (by simp; omega))), Lib.encodeRuneZ_two (by simp; omega) (by simp; omega)]
        simp; omega
      · exact bad (val_bad (by unfold Lib.decodeN; rw [if_neg c0, if_pos c1, if_neg c2])) (by omega)
    · by_cases c3 : b0 / 16 = 14 ∧ (1 < n ∧ b1 / 64 = 2) ∧ (2 < n ∧ b2 / 64 = 2)
      · by_cases c2 : b0 % 16 * 4096 + b1 % 64 * 64 + b2 % 64 ≥ 2048 ∧ (b0 % 16 * 4096 + b1 % 64 * 64 + b2 % 64 < 55296 ∨ (57344 ≤ b0 % 16 * 4096 + b1 % 64 * 64 + b2 % 64 ∧ b0 % 16 * 4096 + b1 % 64 * 64 + b2 % 64 ≤ 1114111))
        · have hv : valN n b0 b1 b2 b3 = (b0 % 16 * 4096 + b1 % 64 * 64 + b2 % 64, 3) := val_ok _ (by unfold Lib.decodeN; rw [if_neg c0, if_neg c1, if_pos c3, if_pos c2]) (Or.inr (by simp))
          rw [hv]
          refine ⟨?_, by simp; omega⟩
          rw [oneI_pt ((ptB_iff _).2 (by simp; omega)), Lib.encodeRuneZ_three (by simp; omega)]
          simp; omega
        · exact bad (val_bad (by unfold Lib.decodeN; rw [if_neg c0, if_neg c1, if_pos c3, if_neg c2])) (by omega)
      · by_cases c4 : b0 / 8 = 30 ∧ (1 < n ∧ b1 / 64 = 2) ∧ (2 < n ∧ b2 / 64 = 2) ∧ (3 < n ∧ b3 / 64 = 2)
        · by_cases c2 : b0 % 8 * 262144 + b1 % 64 * 4096 + b2 % 64 * 64 + b3 % 64 ≥ 65536 ∧ (b0 % 8 * 262144 + b1 % 64 * 4096 + b2 % 64 * 64 + b3 % 64 < 55296 ∨ (57344 ≤ b0 % 8 * 262144 + b1 % 64 * 4096 + b2 % 64 * 64 + b3 % 64 ∧ b0 % 8 * 262144 + b1 % 64 * 4096 + b2 % 64 * 64 + b3 % 64 ≤ 1114111))
          · have hv : valN n b0 b1 b2 b3 = (b0 % 8 * 262144 + b1 % 64 * 4096 + b2 % 64 * 64 + b3 % 64, 4) := val_ok _ (by unfold Lib.decodeN; rw [if_neg c0, if_neg c1, if_neg c3, if_pos c4, if_pos c2]) (Or.inr (by simp))
            rw [hv]
            refine ⟨?_, by simp; omega⟩
            rw [oneI_pt ((ptB_iff _).2 (by simp; omega)), Lib.encodeRuneZ_four (by simp; omega) (by simp; omega)]
            simp; omega
          · exact bad (val_bad (by unfold Lib.decodeN; rw [if_neg c0, if_neg c1, if_neg c3, if_pos c4, if_neg c2])) (by omega)
        · exact bad (val_bad (by unfold Lib.decodeN; rw [if_neg c0, if_neg c1, if_neg c3, if_neg c4])) (by omega)
end Go.Proofs.YtnpiooaiceegmaaDoor
