/-
  Joined: Sp4 Sp5 Es1 Bj1 Ky18 Es2 Es3 Es4 Es5 Es6.
-/
import Derived.Test.YtnpiooaiceegmaaDoorJW03
import Derived.Test.YtnpiooaiceegmaaDoorJW04
import Derived.Test.YtnpiooaiceegmaaDoorJW06
import Derived.Test.YtnpiooaiceegmaaDoorJW07
import Derived.Test.YtnpiooaiceegmaaDoorJW08
import Derived.Test.YtnpiooaiceegmaaDoorShelf
import Derived.Lib.UnsafeStr
import Derived.Lib.QuietBelow
import Derived.BigQuiet
import Derived.Deep.Cut
import Derived.Deep.CutRange
import Derived.Deep.RegionHeld3
import Derived.Deep.Onto
set_option linter.unusedVariables false
set_option linter.unusedSimpArgs false
set_option maxRecDepth 100000
set_option linter.unusedVariables false
set_option linter.unusedSimpArgs false
namespace Go.Proofs.YtnpiooaiceegmaaDoor
open Go.RowKit
/-- The tables that are read. -/
structure SpT (w : World) : Prop where
  c : Tabs w
  u : UT w
theorem SpT.below {w w' : World} (h : SpT w) (hb : Below w.heap.size w w') : SpT w' := ⟨h.c.below hb, h.u.below hb⟩
end Go.Proofs.YtnpiooaiceegmaaDoor
set_option linter.unusedVariables false
set_option linter.unusedSimpArgs false
namespace Go.Proofs.YtnpiooaiceegmaaDoor
open Go.RowKit
end Go.Proofs.YtnpiooaiceegmaaDoor
set_option linter.unusedVariables false
set_option linter.unusedSimpArgs false
namespace Go.Proofs.YtnpiooaiceegmaaDoor
open Go.RowKit
/-- The next value of letters, and of how many bytes it is. -/
def nxF (l : List UInt8) : Int × Nat :=
  if l.take 2 = [92, 92] then (92, 2)
  else if l.take 2 = [92, 117] ∧ 8 ≤ l.length ∧ uhE ((l.drop 2).take 6) = 0 ∧ rightB (uhR ((l.drop 2).take 6)) = true then (uhR ((l.drop 2).take 6), 8)
  else (((l.headD 0).toNat : Int), 1)
/-- The values of letters, at most so many. -/
def unF : Nat → List UInt8 → Nat → List Int
  | 0, _, _ => []
  | f + 1, l, k => if l = [] then [] else match k with
    | 0 => []
    | k + 1 => (nxF l).1 :: unF f (l.drop (nxF l).2) k
end Go.Proofs.YtnpiooaiceegmaaDoor
set_option linter.unusedVariables false
set_option linter.unusedSimpArgs false
namespace Go.Proofs.YtnpiooaiceegmaaDoor
open Go.RowKit
def szK (E : List ByteArray) : Nat → Nat
  | 0 => 0
  | k + 1 => szK E k + (E.getD k ⟨#[]⟩).size
theorem szK_le (E : List ByteArray) (M : Nat) (hE : ∀ i, (E.getD i ⟨#[]⟩).size ≤ M) : ∀ k, szK E k ≤ k * M
  | 0 => Nat.zero_le _
  | k + 1 => by
    have h1 := szK_le E M hE k
    have h2 := hE k
    show szK E k + (E.getD k ⟨#[]⟩).size ≤ _
    rw [Nat.add_mul]; omega
theorem elemST : Tryd.prog.elem 36 = 9 := by kernel_rfl
theorem sizeST (w : World) : (sizeOf 9).run Tryd.prog w = .ok 1 w := by kernel_rfl
theorem run_cutST (w : World) (a : Option Addr) (n c f : Nat) (h : f ≤ n) : (Instr.slice 36 (.slice a n c) (some (.int .i64 (f : Int))) none none).run Tryd.prog w = .ok (.slice (if c = f then a else a.map (·.add (f * 1))) (n - f) (c - f)) w := by
  rw [run_slice_l (P := Tryd.prog) w 36 a n c (by kernel_rfl) .i64 (f : Int) (by omega) (by omega), elemST, sizeST]
  rfl
theorem run_cutST1 (w : World) (b off n c : Nat) (h : 2 ≤ n) (hc : n ≤ c) : (Instr.slice 36 (.slice (some ⟨b, off, none⟩) n c) (some (.int .i64 1)) none none).run Tryd.prog w = .ok (.slice (some ⟨b, off + 1, none⟩) (n - 1) (c - 1)) w := by
  have := run_cutST w (some ⟨b, off, none⟩) n c 1 (by omega)
  rw [if_neg (by omega)] at this
  rw [show (some (Value.int .i64 ((1 : Nat) : Int))) = some (.int .i64 1) from rfl] at this
  rw [this, Option.map_some]
  have hadd : (⟨b, off, none⟩ : Addr).add (1 * 1) = ⟨b, off + 1, none⟩ := by unfold Addr.add; split <;> simp_all
  rw [hadd]
theorem bys_cells (l : List UInt8) (s : ByteArray) : Lib.byteCells (l ++ bysL s) = Lib.byteCells l ++ Lib.strCells s := by rw [Lib.byteCells_append]; rfl
theorem quo_big (k : Nat) (h0 : 0 < k) (h : k ≤ 1000000) : (1000000 : Int) < 9223372036854775807 / (k : Int) := by
  have h1 : (0 : Int) < (k : Int) := by omega
  have h2 : (9223372036854 : Int) ≤ 9223372036854775807 / (k : Int) := by
    apply Int.le_ediv_of_mul_le h1
    have : (9223372036854 : Int) * (k : Int) ≤ 9223372036854 * 1000000 := by omega
    omega
  omega
set_option maxHeartbeats 4000000 in
theorem join_any (sep : ByteArray) (E : List ByteArray) (a : Option Addr) (c : Nat) (w : World) (hs0 : 0 < sep.size) (hs : sep.size ≤ 1000000) (hE : ∀ i, (E.getD i ⟨#[]⟩).size ≤ 1000000) (h2 : 2 ≤ E.length) (hm : E.length ≤ 1000000) (hc : E.length ≤ c) (h : StI w a E) :
    Calls Tryd.prog 63 #[.slice a E.length c, .string sep] w fun e w' => e = .returned (.string ⟨(joK sep E E.length).toArray⟩) ∧ Below w.heap.size w w' := by
  obtain ⟨b, off, rfl, hbl, h0⟩ := h 0 (by omega)
  have hb0 := hbl
  rw [Nat.add_zero] at h0
  have HI := Lib.hid h
  have HE := Lib.hid hE
  have hq := quo_big (E.length - 1) (by omega) (by omega)
  have hqc : ((E.length - 1 : Nat) : Int) = (E.length : Int) - 1 := by omega
  rw [hqc] at hq
  have hq2 : ¬ (9223372036854775807 / ((E.length : Int) - 1) ≤ (sep.size : Int)) := by omega
  have hl1 : ¬ ((E.length : Int) = 0) := by omega
  have hl2 : ¬ ((E.length : Int) = 1) := by omega
  have hl3 : ¬ ((E.length : Int) - 1 = 0) := by omega
  obtain ⟨n0, hn0⟩ : ∃ n0 : Nat, sep.size * (E.length - 1) = n0 := ⟨_, rfl⟩
  have hn1 : (sep.size : Int) * ((E.length : Int) - 1) = (n0 : Int) := by rw [← hqc, ← hn0, Int.natCast_mul]
  have hn2 : n0 ≤ 1000000000000 := by have := Nat.mul_le_mul hs (show E.length - 1 ≤ 1000000 by omega); omega
  have hn3 : 0 < n0 := by have := Nat.mul_pos hs0 (show 0 < E.length - 1 by omega); omega
  clear h hE hn0 hqc
  go_enter Tryd.func63, Tryd.ntmps63
  go_wp2
  go_loopw [5, 41] (fun sv iv wr => ∃ k : Nat, k ≤ E.length ∧ sv = .int .i64 ((n0 : Int) + (szK E k : Int)) ∧ iv = .int .i64 (k : Int) ∧ w = wr) (fun _ iv _ => E.length - (intOf iv).toNat)
  case atStart => exact ⟨0, Nat.zero_le _, by simp [szK], rfl, rfl⟩
  case round =>
    obtain ⟨k, hk, rfl, rfl, rfl⟩ := hrel
    have hsz := szK_le E 1000000 HE.out k
    have hz2 : szK E k ≤ 1000000000000 := by omega
    by_cases hlt : k < E.length
    · obtain ⟨b', off', e', hbl', hck⟩ := HI.out k hlt
      obtain ⟨rfl, rfl⟩ : b = b' ∧ off = off' := by simpa using e'
      have hk1 : (k : Int) < E.length := by omega
      have hk0 : (0 : Int) ≤ k := by omega
      have hek := HE.out k
      have hsk : szK E (k + 1) = szK E k + (E.getD k ⟨#[]⟩).size := rfl
      have HSK := Lib.hid hsk
      clear hsk e'
      generalize E.getD k ⟨#[]⟩ = u at *
      generalize szK E k = z at *
      go_wp2
      go_roundw
      case rel => exact ⟨k + 1, by omega, by rw [HSK.out]; go_num, by go_num, trivial⟩
      case measure => (simp [intOf]; try omega)
    · obtain rfl : k = E.length := by omega
      have hN0 : 0 < n0 + szK E E.length := by omega
      have hN1 : n0 + szK E E.length ≤ 281474976710656 := by omega
      have hNc : (n0 : Int) + (szK E E.length : Int) = ((n0 + szK E E.length : Nat) : Int) := by omega
      rw [hNc]
      generalize n0 + szK E E.length = N at *
      have B0 := below_alloc w (.cells #[.pointer none, .slice none 0 0] 103)
      have G0 := Lib.hid (bgrow_fresh w.heap.size w.heap.size N (w.alloc (.cells #[.pointer none, .slice none 0 0] 103)) (Nat.le_refl _) (heap_alloc_new w _) B0.size hN0 hN1)
      have HB0 := Lib.hid B0
      have HI0 := Lib.hid (HI.out.below B0)
      have hcut : ∀ w : World, (Instr.slice 36 (.slice (some ⟨b, off, none⟩) E.length c) (some (.int .i64 1)) none none).run Tryd.prog w = .ok (.slice (some ⟨b, off + 1, none⟩) (E.length - 1) (c - 1)) w := fun w => run_cutST1 w b off _ _ h2 hc
      clear hn1 hn2 hn3 hq hq2 hz2 hsz hNc hN0 hN1 B0
      have WR := Lib.hid (fun (bs : List Value) (s : ByteArray) (w' : World) h hl hB => bwrite_any w.heap.size w.heap.size bs s w' h hl hB)
      have hz0 : (E.getD 0 ⟨#[]⟩).size ≤ 1000000 := HE.out 0
      have jl0 : Hid (Lib.byteCells (joK sep E 1) = [] ++ Lib.strCells (E.getD 0 ⟨#[]⟩)) := Lib.hid rfl
      obtain ⟨u0, hu0⟩ : ∃ u0, E.getD 0 ⟨#[]⟩ = u0 := ⟨_, rfl⟩
      rw [hu0] at hz0 jl0 h0
      clear hu0
      have HZ0 := Lib.hid (show ([] : List Value).length + u0.size ≤ 140737488355328 by rw [List.length_nil]; omega)
      clear hz0
      go_wp2_with (first
        | (go_at_call 112; refine G0.out.mono ?_; rintro e w2 ⟨rfl, hI2, hb2⟩; have I2 := Lib.hid (Or.inr hI2 : IsBld w.heap.size w.heap.size [] w2); have N2 := Lib.hid (HB0.out.trans hb2); have c2 : w2.cell? ⟨b, off, none⟩ = some (.string u0) := (N2.out.cell (p := ⟨b, off, none⟩) hb0).trans h0)
        | (go_at_call 48; refine (WR.out _ _ _ I2.out HZ0.out N2.out.size).mono ?_; rintro e w3 ⟨rfl, hI3, hb3⟩; have I3 := Lib.hid hI3; have N3 := Lib.hid (N2.out.trans hb3)))
      have HS := Lib.hid hs
      have H0 := Lib.hid h0
      clear hs h0 hcut
      go_loopw [65] (fun iv wr => ∃ k : Nat, k + 1 ≤ E.length ∧ iv = .int .i64 (k : Int) ∧ Hid (IsBld w.heap.size w.heap.size (Lib.byteCells (joK sep E (k + 1))) wr) ∧ Below w.heap.size w wr) (fun iv _ => E.length - (intOf iv).toNat)
      case atStart => exact ⟨0, by omega, rfl, Lib.hid (Or.inr (by rw [jl0.out]; exact I3.out)), N3.out⟩
      case round =>
        obtain ⟨k, hk, rfl, hI, hb⟩ := hrel
        by_cases hlt : k + 1 < E.length
        · obtain ⟨b', off', e', hbl', hck⟩ := HI.out (k + 1) hlt
          obtain ⟨rfl, rfl⟩ : b = b' ∧ off = off' := by simpa using e'
          have ck : wr.cell? ⟨b, off + 1 + k, none⟩ = some (.string (E.getD (k + 1) ⟨#[]⟩)) := by
            rw [show off + 1 + k = off + (k + 1) by omega]; exact (hb.cell (p := ⟨b, off + (k + 1), none⟩) hbl').trans hck
          have hk1 : (k : Int) < ((E.length - 1 : Nat) : Int) := by omega
          have hk0 : (0 : Int) ≤ k := by omega
          have hek := HE.out (k + 1)
          have hjl := joK_len sep E 1000000 HS.out HE.out (k + 1)
          have hnx : Hid (Lib.byteCells (joK sep E (k + 1 + 1)) = (Lib.byteCells (joK sep E (k + 1)) ++ Lib.strCells sep) ++ Lib.strCells (E.getD (k + 1) ⟨#[]⟩)) := Lib.hid (by
            show Lib.byteCells (joK sep E (k + 1) ++ bysL sep ++ bysL (E.getD (k + 1) ⟨#[]⟩)) = _
            rw [bys_cells, bys_cells])
          have hcl : Hid ((Lib.byteCells (joK sep E (k + 1))).length ≤ 2 * (k + 1) * 1000000) := Lib.hid (by rw [Lib.byteCells_length]; exact hjl)
          clear e' hck hjl
          have HEK := Lib.hid hek
          generalize E.getD (k + 1) ⟨#[]⟩ = u at *
          generalize Lib.byteCells (joK sep E (k + 1)) = bs at *
          have hl1 : bs.length + sep.size ≤ 140737488355328 := by have := hcl.out; have := HS.out; omega
          have hl2 : (bs ++ Lib.strCells sep).length + u.size ≤ 140737488355328 := by rw [List.length_append, Lib.strCells_length]; have := hcl.out; have := HS.out; have := HEK.out; omega
          have HL1 := Lib.hid hl1
          have HL2 := Lib.hid hl2
          have HB := Lib.hid hb
          clear hl1 hl2 hek
          go_wp2_with (first
            | (go_at_call 48; refine (WR.out _ sep _ hI.out HL1.out HB.out.size).mono ?_; rintro e w4 ⟨rfl, hI4, hb4⟩; have I4 := Lib.hid (Or.inr hI4 : IsBld w.heap.size w.heap.size _ w4); have N4 := Lib.hid (HB.out.trans hb4); clear HL1 hI4 hb4)
            | (go_at_call 48; refine (WR.out _ u _ I4.out HL2.out N4.out.size).mono ?_; rintro e w5 ⟨rfl, hI5, hb5⟩; have I5 := Lib.hid hI5; have N5 := Lib.hid (N4.out.trans hb5); clear hI5 hb5))
          go_roundw
          case rel => exact ⟨k + 1, by omega, by go_num, Lib.hid (Or.inr (by rw [hnx.out]; exact I5.out)), N5.out⟩
          case measure => (simp [intOf]; try omega)
        · have hkE : k + 1 = E.length := by omega
          have hk1 : ¬ ((k : Int) < ((E.length - 1 : Nat) : Int)) := by omega
          rw [hkE] at hI
          have ST2 := Lib.hid (Tryd.Builder_String_any w.heap.size w.heap.size (joK sep E E.length) wr hI.out hb.size)
          have HB := Lib.hid hb
          go_wp2_with (go_at_call 51; refine ST2.out.mono ?_; rintro e w6 ⟨rfl, hb6⟩; have N6 := Lib.hid (HB.out.trans hb6); clear hb6)
          go_ret
          exact ⟨rfl, N6.out⟩
end Go.Proofs.YtnpiooaiceegmaaDoor
set_option linter.unusedVariables false
set_option linter.unusedSimpArgs false
namespace Go.Proofs.YtnpiooaiceegmaaDoor
open Go.RowKit Go.Sort
end Go.Proofs.YtnpiooaiceegmaaDoor
set_option linter.unusedVariables false
set_option linter.unusedSimpArgs false
namespace Go.Proofs.YtnpiooaiceegmaaDoor
open Go.RowKit
end Go.Proofs.YtnpiooaiceegmaaDoor
set_option linter.unusedVariables false
set_option linter.unusedSimpArgs false
namespace Go.Proofs.YtnpiooaiceegmaaDoor
open Go.RowKit
theorem mkL_ext (l : List UInt8) (a b : Nat) : (mkL l).extract a b = mkL ((l.drop a).take (b - a)) := by
  apply ByteArray.ext
  rw [ByteArray.data_extract]
  apply Array.ext'
  simp [mkL, List.extract_eq_take_drop]
theorem mkL_size (l : List UInt8) : (mkL l).size = l.length := size_list l
end Go.Proofs.YtnpiooaiceegmaaDoor
set_option linter.unusedVariables false
set_option linter.unusedSimpArgs false
namespace Go.Proofs.YtnpiooaiceegmaaDoor
open Go.RowKit
/-- All blocks below B stay, but p. -/
structure KeepB (B p : Nat) (w w' : World) : Prop where
  os : w'.os = w.os
  tape : w'.tape = w.tape
  output : w'.output = w.output
  size : w.heap.size ≤ w'.heap.size
  block : ∀ k, k < B → k ≠ p → w'.heap[k]? = w.heap[k]?
theorem KeepB.refl (B p : Nat) (w : World) : KeepB B p w w := ⟨rfl, rfl, rfl, Nat.le_refl _, fun _ _ _ => rfl⟩
theorem KeepB.trans {B p : Nat} {w w' w'' : World} (h : KeepB B p w w') (h2 : KeepB B p w' w'') : KeepB B p w w'' :=
  ⟨h2.os.trans h.os, h2.tape.trans h.tape, h2.output.trans h.output, Nat.le_trans h.size h2.size, fun k hk hp => (h2.block k hk hp).trans (h.block k hk hp)⟩
theorem KeepB.below {B p : Nat} {w w' : World} (h : Below w.heap.size w w') (hB : B ≤ w.heap.size) : KeepB B p w w' := ⟨h.os, h.tape, h.output, h.size, fun k hk _ => h.block k (by omega)⟩
/-- The line's variable at p, the function's own two at q and r. -/
structure LnSt (p q r : Nat) (long : Int) (l : List (Int × Int)) (B : Nat) (w : World) : Prop where
  v : ∃ v, w.heap[p]? = some (.cells #[v] 46 (0, 0)) ∧ OwS w B v l
  c0 : w.cell? ⟨q, 0, none⟩ = some (.pointer (some ⟨p, 0, none⟩))
  c1 : w.cell? ⟨r, 0, none⟩ = some (.int .i64 long)
  lt : p < B ∧ q < B ∧ r < B ∧ q ≠ p ∧ r ≠ p
  le : B ≤ w.heap.size
theorem cell_blk {w w' : World} {b : Nat} (h : w'.heap[b]? = w.heap[b]?) (i : Nat) : w'.cell? ⟨b, i, none⟩ = w.cell? ⟨b, i, none⟩ := by
  unfold World.cell?; rw [h]
theorem ows_below {w w' : World} {B : Nat} {v : Value} {l : List (Int × Int)} (h : OwS w B v l) (hb : Below w.heap.size w w') : OwS w' B v l := own_below h hb
theorem LnSt.below {p q r : Nat} {long : Int} {l : List (Int × Int)} {B : Nat} {w w' : World} (h : LnSt p q r long l B w) (hb : Below w.heap.size w w') : LnSt p q r long l B w' := by
  obtain ⟨v, h1, h2⟩ := h.v
  have hl := h.lt; have hle := h.le
  exact ⟨⟨v, blk_below h1 hb, ows_below h2 hb⟩, (hb.cell (p := ⟨q, 0, none⟩) (by show q < _; omega)).trans h.c0, (hb.cell (p := ⟨r, 0, none⟩) (by show r < _; omega)).trans h.c1, hl, Nat.le_trans hle hb.size⟩
end Go.Proofs.YtnpiooaiceegmaaDoor
set_option linter.unusedVariables false
set_option linter.unusedSimpArgs false
namespace Go.Proofs.YtnpiooaiceegmaaDoor
open Go.RowKit
/-- The values of a line, at most so many. -/
def unS (l : List UInt8) (k : Nat) : List Int := unF l.length l k
/-- Signs of a history. -/
def hsL (l : List Int) : List (Int × Int) := l.map fun v => (v, 3)
structure UlInv (l : List UInt8) (k p q r R : Nat) (w : World) (i rd : Nat) (acc : List Int) (wr : World) : Prop where
  it : wr.heap[R]? = some (.stringIter (mkL l) i)
  st : LnSt p q r (k : Int) (hsL acc) (R + 1) wr
  bel : Below w.heap.size w wr
  ac : acc ++ unS (l.drop rd) (k - acc.length) = unS l k
  le : i ≤ rd
  rl : rd ≤ l.length
  al : acc.length ≤ k
theorem LnSt.cell {p q r : Nat} {long : Int} {l : List (Int × Int)} {B : Nat} {w : World} (h : LnSt p q r long l B w) : ∃ v, w.cell? ⟨p, 0, none⟩ = some v ∧ OwS w B v l := by
  obtain ⟨v, h1, h2⟩ := h.v
  exact ⟨v, by rw [cell_of_row _ _ _ _ _ _ h1]; rfl, h2⟩
theorem lnst_iter {p q r : Nat} {long : Int} {l : List (Int × Int)} {B R : Nat} {w : World} {s : ByteArray} {i : Nat} (h : LnSt p q r long l B w) (hR : w.heap[R]? = some (.stringIter s i)) (j : Nat) : LnSt p q r long l B (w.iterAt R s j) := by
  have hs : (w.iterAt R s j).heap.size = w.heap.size := Lib.iterAt_size _ _ _ _
  obtain ⟨v, h1, h2⟩ := h.v
  have ho := fun k (hk : k ≠ R) => Lib.iterAt_other w R k s j hk
  have hne : ∀ (k : Nat) (c : Array Value) (t : TypeId) (f : Nat × Nat), w.heap[k]? = some (.cells c t f) → k ≠ R := fun k c t f hk e => by rw [e, hR] at hk; cases hk
  have hcl : ∀ (k : Nat) (v : Value), w.cell? ⟨k, 0, none⟩ = some v → k ≠ R := fun k v hk e => by
    rw [e] at hk; simp [World.cell?, hR] at hk
  refine ⟨⟨v, (ho p (hne _ _ _ _ h1)).trans h1, own_iter h2 hR j⟩, ?_, ?_, h.lt, by rw [hs]; exact h.le⟩
  · exact (cell_blk (ho q (hcl _ _ h.c0)) 0).trans h.c0
  · exact (cell_blk (ho r (hcl _ _ h.c1)) 0).trans h.c1
theorem UlInv.next {l : List UInt8} {k p q r R : Nat} {w : World} {i rd : Nat} {acc : List Int} {wr : World} (h : UlInv l k p q r R w i rd acc wr) (hlt : i < l.length) (hR : w.heap.size ≤ R) :
    (wr.iterAt R (mkL l) (i + 1)).heap[R]? = some (.stringIter (mkL l) (i + 1)) ∧ LnSt p q r (k : Int) (hsL acc) (R + 1) (wr.iterAt R (mkL l) (i + 1)) ∧ Below w.heap.size w (wr.iterAt R (mkL l) (i + 1)) :=
  ⟨Lib.iterAt_heap _ _ _ _ _ h.it, lnst_iter h.st h.it _, Lib.below_iterAt h.bel hR _ _⟩
end Go.Proofs.YtnpiooaiceegmaaDoor
set_option linter.unusedVariables false
set_option linter.unusedSimpArgs false
namespace Go.Proofs.YtnpiooaiceegmaaDoor
open Go.RowKit
/-- Lists of signs lie in memory. -/
def SgsIn (w : World) (a : Option Addr) (h : List (List (Int × Int))) : Prop :=
  ∀ i, i < h.length → ∃ b off ai ci, a = some ⟨b, off, none⟩ ∧ b < w.heap.size ∧ w.cell? ⟨b, off + i, none⟩ = some (.slice ai (h.getD i []).length ci) ∧ Signs w ai (h.getD i [])
theorem SgsIn.below {w w' : World} {a : Option Addr} {h : List (List (Int × Int))} (s : SgsIn w a h) (hb : Below w.heap.size w w') : SgsIn w' a h := fun i hi => by
  obtain ⟨b, off, ai, ci, e, hlt, h1, h2⟩ := s i hi
  exact ⟨b, off, ai, ci, e, Nat.lt_of_lt_of_le hlt hb.size, (hb.cell (p := ⟨b, off + i, none⟩) hlt).trans h1, h2.below hb⟩
end Go.Proofs.YtnpiooaiceegmaaDoor
