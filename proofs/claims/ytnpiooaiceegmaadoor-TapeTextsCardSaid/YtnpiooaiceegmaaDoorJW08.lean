/-
  Joined: Ky10 Ky11 Ky12 Ky13 Ky14 Ky15 Ky16 Ky17 ArgS ArgU8 Bj0.
-/
import Derived.Test.YtnpiooaiceegmaaDoorJW01
import Derived.Test.YtnpiooaiceegmaaDoorJW02
import Derived.Test.YtnpiooaiceegmaaDoorJW06
import Derived.Test.YtnpiooaiceegmaaDoorJW07
import Derived.Laws.BytesArg
import Derived.Deep.RegionHeld3
import Derived.Deep.SlicePairs
import Derived.ChangeArms
import Derived.Lib.LaidTab
import Derived.Lib.LaidU8
import Derived.Lib.SmallJoins
import Derived.Test.YtnpiooaiceegmaaDoorShelf
import Derived.Shelf.Strings.Builder2
set_option linter.unusedVariables false
set_option linter.unusedSimpArgs false
set_option maxRecDepth 100000
set_option linter.unusedVariables false
set_option linter.unusedSimpArgs false
namespace Go.Proofs.YtnpiooaiceegmaaDoor
open Go.RowKit
theorem u8_wrap {b : Int} (h : 0 ≤ b) : IntKind.u8.wrap b = ((b.toNat.toUInt8).toNat : Int) := by
  rw [show IntKind.u8.wrap b = b % 256 by first | rfl | (simp [IntKind.wrap]; done) | (unfold IntKind.wrap; simp [IntKind.bits, IntKind.signed]; omega)]
  simp
  omega
end Go.Proofs.YtnpiooaiceegmaaDoor
set_option linter.unusedVariables false
set_option linter.unusedSimpArgs false
namespace Go.Proofs.YtnpiooaiceegmaaDoor
open Go.RowKit
end Go.Proofs.YtnpiooaiceegmaaDoor
set_option linter.unusedVariables false
set_option linter.unusedSimpArgs false
namespace Go.Proofs.YtnpiooaiceegmaaDoor
open Go.RowKit
end Go.Proofs.YtnpiooaiceegmaaDoor
set_option linter.unusedVariables false
set_option linter.unusedSimpArgs false
namespace Go.Proofs.YtnpiooaiceegmaaDoor
open Go.RowKit
theorem rhex2 (v : Int) (w : World) (h0 : 0 ≤ v) (h1 : v ≤ 9223372036854775807) : Calls Tryd.prog 110 #[.int .i64 v, .int .i64 2] w fun e w' => e = .returned (.string (mkS (hexN v 2))) ∧ w = w' :=
  hex_ref 16 v 2 w h0 h1 (by omega) (by omega) (by omega) (by omega)
end Go.Proofs.YtnpiooaiceegmaaDoor
set_option linter.unusedVariables false
set_option linter.unusedSimpArgs false
namespace Go.Proofs.YtnpiooaiceegmaaDoor
open Go.RowKit
end Go.Proofs.YtnpiooaiceegmaaDoor
set_option linter.unusedVariables false
set_option linter.unusedSimpArgs false
namespace Go.Proofs.YtnpiooaiceegmaaDoor
open Go.RowKit
end Go.Proofs.YtnpiooaiceegmaaDoor
set_option linter.unusedVariables false
set_option linter.unusedSimpArgs false
namespace Go.Proofs.YtnpiooaiceegmaaDoor
open Go.RowKit
end Go.Proofs.YtnpiooaiceegmaaDoor
set_option linter.unusedVariables false
set_option linter.unusedSimpArgs false
namespace Go.Proofs.YtnpiooaiceegmaaDoor
open Go.RowKit
end Go.Proofs.YtnpiooaiceegmaaDoor
set_option linter.unusedVariables false
set_option linter.unusedSimpArgs false
namespace Go.Proofs.YtnpiooaiceegmaaDoor
open Go.ChangeShapes Go.WideShapes Go.ChangeAt Go.RowKit Go.Deep Go.Joins
section
variable {H : Type} {enc : TypeId × Value → H} {W : World}
end
end Go.Proofs.YtnpiooaiceegmaaDoor
set_option linter.unusedVariables false
set_option linter.unusedSimpArgs false
namespace Go.Proofs.YtnpiooaiceegmaaDoor
open Go.ChangeShapes Go.WideShapes Go.ChangeAt Go.RowKit Go.Deep Go.Joins
/-- Bytes lie in memory. -/
def U8sIn (w : World) (a : Option Addr) (l : List Int) : Prop :=
  ∀ i, i < l.length → ∃ b off, a = some ⟨b, off, none⟩ ∧ b < w.heap.size ∧ w.cell? ⟨b, off + i, none⟩ = some (.int .u8 (l.getD i 0)) ∧ 0 ≤ l.getD i 0 ∧ l.getD i 0 ≤ 255
theorem U8sIn.at {w w' : World} {a : Option Addr} {l : List Int} (h : U8sIn w a l) (hb : Below w.heap.size w w') (i : Nat) (hi : i < l.length) : ∃ b off, a = some ⟨b, off, none⟩ ∧ b < w.heap.size ∧ w'.cell? ⟨b, off + i, none⟩ = some (.int .u8 (l.getD i 0)) ∧ 0 ≤ l.getD i 0 ∧ l.getD i 0 ≤ 255 := by
  obtain ⟨b, off, e, hlt, h1, h2⟩ := h i hi
  exact ⟨b, off, e, hlt, (hb.cell (p := ⟨b, off + i, none⟩) hlt).trans h1, h2⟩
section
variable {H : Type} {enc : TypeId × Value → H} {W : World}
end
end Go.Proofs.YtnpiooaiceegmaaDoor
set_option linter.unusedVariables false
set_option linter.unusedSimpArgs false
namespace Go.Proofs.YtnpiooaiceegmaaDoor
open Go.RowKit
/-- Strings lie in memory. -/
def StI (w : World) (a : Option Addr) (E : List ByteArray) : Prop := ∀ i, i < E.length → ∃ b off, a = some ⟨b, off, none⟩ ∧ b < w.heap.size ∧ w.cell? ⟨b, off + i, none⟩ = some (.string (E.getD i ⟨#[]⟩))
theorem StI.below {w w' : World} {a : Option Addr} {E : List ByteArray} (h : StI w a E) (hb : Below w.heap.size w w') : StI w' a E := fun i hi => by
  obtain ⟨b, off, e, hlt, h1⟩ := h i hi
  exact ⟨b, off, e, Nat.lt_of_lt_of_le hlt hb.size, (hb.cell (p := ⟨b, off + i, none⟩) hlt).trans h1⟩
def bysL (s : ByteArray) : List UInt8 := s.data.toList
theorem bys_len (s : ByteArray) : (bysL s).length = s.size := by unfold bysL; rw [Array.length_toList]; rfl
/-- The first k texts, with sep between. -/
def joK (sep : ByteArray) (E : List ByteArray) : Nat → List UInt8
  | 0 => []
  | 1 => bysL (E.getD 0 ⟨#[]⟩)
  | k + 2 => joK sep E (k + 1) ++ bysL sep ++ bysL (E.getD (k + 1) ⟨#[]⟩)
theorem joK_len (sep : ByteArray) (E : List ByteArray) (M : Nat) (hs : sep.size ≤ M) (hE : ∀ i, (E.getD i ⟨#[]⟩).size ≤ M) : ∀ k, (joK sep E k).length ≤ 2 * k * M
  | 0 => Nat.zero_le _
  | 1 => by
    have := hE 0
    show (bysL _).length ≤ _
    have e : (bysL (E.getD 0 ⟨#[]⟩)).length = (E.getD 0 ⟨#[]⟩).size := bys_len _
    rw [e]; omega
  | k + 2 => by
    have h1 := joK_len sep E M hs hE (k + 1)
    have h2 := hE (k + 1)
    have e1 : (bysL (E.getD (k + 1) ⟨#[]⟩)).length = (E.getD (k + 1) ⟨#[]⟩).size := bys_len _
    have e2 : (bysL sep).length = sep.size := bys_len _
    show (joK sep E (k + 1) ++ bysL sep ++ bysL (E.getD (k + 1) ⟨#[]⟩)).length ≤ _
    rw [List.length_append, List.length_append, e1, e2]
    have : 2 * (k + 2) * M = 2 * (k + 1) * M + M + M := by rw [show 2 * (k + 2) = 2 * (k + 1) + 1 + 1 by omega, Nat.add_mul, Nat.add_mul]; omega
    omega
theorem bgrow_fresh (B b n : Nat) (w : World) (hB : B ≤ b) (hbk : w.heap[b]? = some (.cells #[.pointer none, .slice none 0 0] 103 (0, 0))) (hBw : B ≤ w.heap.size) (h0 : 0 < n) (hn : n ≤ 281474976710656) :
    Calls Tryd.prog 112 #[.pointer (some ⟨b, 0, none⟩), .int .i64 (n : Int)] w fun e w' => e = .returned (.tuple #[]) ∧ BldAt B b (.pointer (some ⟨b, 0, none⟩)) [] w' ∧ Below B w w' := by
  have C := Lib.hid (bcheck_fresh b w (by rw [Lib.cell_of_heap hbk]; rfl) (by simp [World.shape?, hbk]) (Lib.frozen_of_heap hbk 0))
  have hbk1 := blk_set hbk 0 (.pointer (some ⟨b, 0, none⟩))
  have hb1 : Below B w (w.setCell ⟨b, 0, none⟩ (.pointer (some ⟨b, 0, none⟩))) := (Below.refl B w).setCell (p := ⟨b, 0, none⟩) hB _
  obtain ⟨w1, hw1⟩ : ∃ v, w.setCell ⟨b, 0, none⟩ (.pointer (some ⟨b, 0, none⟩)) = v := ⟨_, rfl⟩
  rw [hw1] at C hbk1 hb1
  have c1 : w1.cell? ⟨b, 1, none⟩ = some (.slice none 0 0) := cell_of_row _ _ 1 _ _ _ hbk1
  have hni : (0 : Int) < (n : Int) := by omega
  have HBK := Lib.hid hbk1
  have HB1 := Lib.hid hb1
  have GR := Lib.hid fun (w' : World) (h : w'.heap[b]? = some (.cells #[.pointer (some ⟨b, 0, none⟩), .slice none 0 0] 103 (0, 0))) (hBw : B ≤ w'.heap.size) => Tryd.Builder_grow_fresh B b n w' hB h hBw hn
  clear hbk hbk1 hb1 hw1
  go_enter Tryd.func112, Tryd.ntmps112
  go_wp2_with (go_at_call 107; refine C.out.mono ?_; rintro e w2 ⟨rfl, rfl⟩)
  go_quiet (fail)
  have BD : Below w2.heap.size w2 (w2.drewN nq) := drewN_below (Below.refl w2.heap.size w2) nq
  have BD2 : Below B w2 (w2.drewN nq) := drewN_below (Below.refl B w2) nq
  have GR2 := Lib.hid (GR.out (w2.drewN nq) (blk_below HBK.out BD) (Nat.le_trans (Nat.le_trans hBw HB1.out.size) BD.size))
  have HD := Lib.hid (HB1.out.trans BD2)
  clear BD BD2
  generalize w2.drewN nq = W at *
  go_wp2_with (go_at_call 162; refine GR2.out.mono ?_; rintro e w3 ⟨rfl, hI, hb⟩; have HI := Lib.hid hI; have HB3 := Lib.hid hb; clear hI hb)
  go_end0
  exact ⟨rfl, HI.out, HD.out.trans HB3.out⟩
end Go.Proofs.YtnpiooaiceegmaaDoor
