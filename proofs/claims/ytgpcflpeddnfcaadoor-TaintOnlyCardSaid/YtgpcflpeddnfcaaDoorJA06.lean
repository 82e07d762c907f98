/-
  Joined: Bj1 St4 Ta3 Ta4 Ta5 Ta6 Ta7 Ta8.
-/
import Derived.Test.YtgpcflpeddnfcaaDoorJA02
import Derived.Test.YtgpcflpeddnfcaaDoorJA03
import Derived.Test.YtgpcflpeddnfcaaDoorJA04
import Derived.Test.YtgpcflpeddnfcaaDoorJA05
import Derived.Deep.QuietTactic
import Derived.Deep.AppendLies
import Derived.Deep.RegionLaw
set_option linter.unusedVariables false
set_option linter.unusedSimpArgs false
set_option maxRecDepth 100000
set_option linter.unusedVariables false
set_option linter.unusedSimpArgs false
namespace Go.Proofs.YtgpcflpeddnfcaaDoor
open Go.RowKit
theorem jbld_below {B b : Nat} {bs : List Value} {w w' : World} (h : IsBld B b bs w) (hb : Below w.heap.size w w') : IsBld B b bs w' := by
  rcases h with ⟨hB, v, h1, h2, h3⟩ | ⟨hB, v, h1, h2, h3⟩
  · exact Or.inl ⟨hB, v, blk_below h1 hb, own_below h2 hb, h3⟩
  · exact Or.inr ⟨hB, v, blk_below h1 hb, own_below h2 hb, h3⟩
def szK (E : List ByteArray) : Nat → Nat
  | 0 => 0
  | k + 1 => szK E k + (E.getD k ⟨#[]⟩).size
theorem szK_le (E : List ByteArray) (M : Nat) (hE : ∀ i, (E.getD i ⟨#[]⟩).size ≤ M) : ∀ k, szK E k ≤ k * M
  | 0 => Nat.zero_le _
  | k + 1 => by
    have h1 := szK_le E M hE k
    have h2 := hE k
    show szK E k + (E.getD k ⟨#[]⟩).size ≤ _
    rw [Nat.add_mul]; omega
theorem elemST : Tryd.prog.elem 135 = 9 := by kernel_rfl
theorem sizeST (w : World) : (sizeOf 9).run Tryd.prog w = .ok 1 w := by kernel_rfl
theorem run_cutST (w : World) (a : Option Addr) (n c f : Nat) (h : f ≤ n) : (Instr.slice 135 (.slice a n c) (some (.int .i64 (f : Int))) none none).run Tryd.prog w = .ok (.slice (if c = f then a else a.map (·.add (f * 1))) (n - f) (c - f)) w := by
  rw [run_slice_l (P := Tryd.prog) w 135 a n c (by kernel_rfl) .i64 (f : Int) (by omega) (by omega), elemST, sizeST]
  rfl
theorem run_cutST1 (w : World) (b off n c : Nat) (h : 2 ≤ n) (hc : n ≤ c) : (Instr.slice 135 (.slice (some ⟨b, off, none⟩) n c) (some (.int .i64 1)) none none).run Tryd.prog w = .ok (.slice (some ⟨b, off + 1, none⟩) (n - 1) (c - 1)) w := by
  have := run_cutST w (some ⟨b, off, none⟩) n c 1 (by omega)
  rw [if_neg (by omega)] at this
  rw [show (some (Value.int .i64 ((1 : Nat) : Int))) = some (.int .i64 1) from rfl] at this
  rw [this, Option.map_some]
  have hadd : (⟨b, off, none⟩ : Addr).add (1 * 1) = ⟨b, off + 1, none⟩ := by unfold Addr.add; split <;> simp_all
  rw [hadd]
theorem bys_cells (l : List UInt8) (s : ByteArray) : Lib.byteCells (l ++ bysL s) = Lib.byteCells l ++ Lib.strCells s := by rw [Lib.byteCells_append]; rfl
theorem quo_big (k : Nat) (h0 : 0 < k) (h : k ≤ 1000000) : (1000000 : Int) < 9223372036854775807 / (k : Int) := by
  have h1 : (0 : Int) < (k : Int) := by omega
  have h2 : (9223372036854 : Int) ≤ 9223372036854775807 / (k : Int) := by
    apply Int.le_ediv_of_mul_le h1
    have : (9223372036854 : Int) * (k : Int) ≤ 9223372036854 * 1000000 := by omega
    omega
  omega
set_option maxHeartbeats 4000000 in
theorem join_any (sep : ByteArray) (E : List ByteArray) (a : Option Addr) (c : Nat) (w : World) (hs0 : 0 < sep.size) (hs : sep.size ≤ 1000000) (hE : ∀ i, (E.getD i ⟨#[]⟩).size ≤ 1000000) (h2 : 2 ≤ E.length) (hm : E.length ≤ 1000000) (hc : E.length ≤ c) (h : StI w a E) :
    Calls Tryd.prog 98 #[.slice a E.length c, .string sep] w fun e w' => e = .returned (.string ⟨(joK sep E E.length).toArray⟩) ∧ Below w.heap.size w w' := by
  obtain ⟨b, off, rfl, hbl, h0⟩ := h 0 (by omega)
  have hb0 := hbl
  rw [Nat.add_zero] at h0
  have HI := Lib.hid h
  have HE := Lib.hid hE
  have hq := quo_big (E.length - 1) (by omega) (by omega)
  have hqc : ((E.length - 1 : Nat) : Int) = (E.length : Int) - 1 := by omega
  rw [hqc] at hq
  have hq2 : ¬ (9223372036854775807 / ((E.length : Int) - 1) ≤ (sep.size : Int)) := by omega
  have hl1 : ¬ ((E.length : Int) = 0) := by omega
  have hl2 : ¬ ((E.length : Int) = 1) := by omega
  have hl3 : ¬ ((E.length : Int) - 1 = 0) := by omega
  obtain ⟨n0, hn0⟩ : ∃ n0 : Nat, sep.size * (E.length - 1) = n0 := ⟨_, rfl⟩
  have hn1 : (sep.size : Int) * ((E.length : Int) - 1) = (n0 : Int) := by rw [← hqc, ← hn0, Int.natCast_mul]
  have hn2 : n0 ≤ 1000000000000 := by have := Nat.mul_le_mul hs (show E.length - 1 ≤ 1000000 by omega); omega
  have hn3 : 0 < n0 := by have := Nat.mul_pos hs0 (show 0 < E.length - 1 by omega); omega
  clear h hE hn0 hqc
  go_enter Tryd.func98, Tryd.ntmps98
  go_wp2
  go_loopw [5, 41] (fun sv iv wr => ∃ k : Nat, k ≤ E.length ∧ sv = .int .i64 ((n0 : Int) + (szK E k : Int)) ∧ iv = .int .i64 (k : Int) ∧ w = wr) (fun _ iv _ => E.length - (intOf iv).toNat)
  case atStart => exact ⟨0, Nat.zero_le _, by simp [szK], rfl, rfl⟩
  case round =>
    obtain ⟨k, hk, rfl, rfl, rfl⟩ := hrel
    have hsz := szK_le E 1000000 HE.out k
    have hz2 : szK E k ≤ 1000000000000 := by omega
    by_cases hlt : k < E.length
    · obtain ⟨b', off', e', hbl', hck⟩ := HI.out k hlt
      obtain ⟨rfl, rfl⟩ : b = b' ∧ off = off' := by simpa using e'
      have hk1 : (k : Int) < E.length := by omega
      have hk0 : (0 : Int) ≤ k := by omega
      have hek := HE.out k
      have hsk : szK E (k + 1) = szK E k + (E.getD k ⟨#[]⟩).size := rfl
      have HSK := Lib.hid hsk
      clear hsk e'
      generalize E.getD k ⟨#[]⟩ = u at *
      generalize szK E k = z at *
      go_wp2
      go_roundw
      case rel => exact ⟨k + 1, by omega, by rw [HSK.out]; go_num, by go_num, trivial⟩
      case measure => (simp [intOf]; try omega)
    · obtain rfl : k = E.length := by omega
      have hN0 : 0 < n0 + szK E E.length := by omega
      have hN1 : n0 + szK E E.length ≤ 281474976710656 := by omega
      have hNc : (n0 : Int) + (szK E E.length : Int) = ((n0 + szK E E.length : Nat) : Int) := by omega
      rw [hNc]
      generalize n0 + szK E E.length = N at *
      have B0 := below_alloc w (.cells #[.pointer none, .slice none 0 0] 181)
      have G0 := Lib.hid (bgrow_fresh w.heap.size w.heap.size N (w.alloc (.cells #[.pointer none, .slice none 0 0] 181)) (Nat.le_refl _) (heap_alloc_new w _) B0.size hN0 hN1)
      have HB0 := Lib.hid B0
      have HI0 := Lib.hid (HI.out.below B0)
      have hcut : ∀ w : World, (Instr.slice 135 (.slice (some ⟨b, off, none⟩) E.length c) (some (.int .i64 1)) none none).run Tryd.prog w = .ok (.slice (some ⟨b, off + 1, none⟩) (E.length - 1) (c - 1)) w := fun w => run_cutST1 w b off _ _ h2 hc
      clear hn1 hn2 hn3 hq hq2 hz2 hsz hNc hN0 hN1 B0
      have WR := Lib.hid (fun (bs : List Value) (s : ByteArray) (w' : World) h hl hB => bwrite_any w.heap.size w.heap.size bs s w' h hl hB)
      have hz0 : (E.getD 0 ⟨#[]⟩).size ≤ 1000000 := HE.out 0
      have jl0 : Hid (Lib.byteCells (joK sep E 1) = [] ++ Lib.strCells (E.getD 0 ⟨#[]⟩)) := Lib.hid rfl
      obtain ⟨u0, hu0⟩ : ∃ u0, E.getD 0 ⟨#[]⟩ = u0 := ⟨_, rfl⟩
      rw [hu0] at hz0 jl0 h0
      clear hu0
      have HZ0 := Lib.hid (show ([] : List Value).length + u0.size ≤ 140737488355328 by rw [List.length_nil]; omega)
      clear hz0
      go_wp2_with (first
        | (go_at_call 142; refine G0.out.mono ?_; rintro e w2 ⟨rfl, hI2, hb2⟩; have I2 := Lib.hid (Or.inr hI2 : IsBld w.heap.size w.heap.size [] w2); have N2 := Lib.hid (HB0.out.trans hb2); have c2 : w2.cell? ⟨b, off, none⟩ = some (.string u0) := (N2.out.cell (p := ⟨b, off, none⟩) hb0).trans h0)
        | (go_at_call 136; refine (WR.out _ _ _ I2.out HZ0.out N2.out.size).mono ?_; rintro e w3 ⟨rfl, hI3, hb3⟩; have I3 := Lib.hid hI3; have N3 := Lib.hid (N2.out.trans hb3)))
      have HS := Lib.hid hs
      have H0 := Lib.hid h0
      clear hs h0 hcut
      go_loopw [65] (fun iv wr => ∃ k : Nat, k + 1 ≤ E.length ∧ iv = .int .i64 (k : Int) ∧ Hid (IsBld w.heap.size w.heap.size (Lib.byteCells (joK sep E (k + 1))) wr) ∧ Below w.heap.size w wr) (fun iv _ => E.length - (intOf iv).toNat)
      case atStart => exact ⟨0, by omega, rfl, Lib.hid (Or.inr (by rw [jl0.out]; exact I3.out)), N3.out⟩
      case round =>
        obtain ⟨k, hk, rfl, hI, hb⟩ := hrel
        by_cases hlt : k + 1 < E.length
        · obtain ⟨b', off', e', hbl', hck⟩ := HI.out (k + 1) hlt
          obtain ⟨rfl, rfl⟩ : b = b' ∧ off = off' := by simpa using e'
          have ck : wr.cell? ⟨b, off + 1 + k, none⟩ = some (.string (E.getD (k + 1) ⟨#[]⟩)) := by
            rw [show off + 1 + k = off + (k + 1) by omega]; exact (hb.cell (p := ⟨b, off + (k + 1), none⟩) hbl').trans hck
          have hk1 : (k : Int) < ((E.length - 1 : Nat) : Int) := by omega
          have hk0 : (0 : Int) ≤ k := by omega
          have hek := HE.out (k + 1)
          have hjl := joK_len sep E 1000000 HS.out HE.out (k + 1)
          have hnx : Hid (Lib.byteCells (joK sep E (k + 1 + 1)) = (Lib.byteCells (joK sep E (k + 1)) ++ Lib.strCells sep) ++ Lib.strCells (E.getD (k + 1) ⟨#[]⟩)) := Lib.hid (by
            show Lib.byteCells (joK sep E (k + 1) ++ bysL sep ++ bysL (E.getD (k + 1) ⟨#[]⟩)) = _
            rw [bys_cells, bys_cells])
          have hcl : Hid ((Lib.byteCells (joK sep E (k + 1))).length ≤ 2 * (k + 1) * 1000000) := Lib.hid (by rw [Lib.byteCells_length]; exact hjl)
          clear e' hck hjl
          have HEK := Lib.hid hek
          generalize E.getD (k + 1) ⟨#[]⟩ = u at *
          generalize Lib.byteCells (joK sep E (k + 1)) = bs at *
          have hl1 : bs.length + sep.size ≤ 140737488355328 := by have := hcl.out; have := HS.out; omega
          have hl2 : (bs ++ Lib.strCells sep).length + u.size ≤ 140737488355328 := by rw [List.length_append, Lib.strCells_length]; have := hcl.out; have := HS.out; have := HEK.out; omega
          have HL1 := Lib.hid hl1
          have HL2 := Lib.hid hl2
          have HB := Lib.hid hb
          clear hl1 hl2 hek
          go_wp2_with (first
            | (go_at_call 136; refine (WR.out _ sep _ hI.out HL1.out HB.out.size).mono ?_; rintro e w4 ⟨rfl, hI4, hb4⟩; have I4 := Lib.hid (Or.inr hI4 : IsBld w.heap.size w.heap.size _ w4); have N4 := Lib.hid (HB.out.trans hb4); clear HL1 hI4 hb4)
            | (go_at_call 136; refine (WR.out _ u _ I4.out HL2.out N4.out.size).mono ?_; rintro e w5 ⟨rfl, hI5, hb5⟩; have I5 := Lib.hid hI5; have N5 := Lib.hid (N4.out.trans hb5); clear hI5 hb5))
          go_roundw
          case rel => exact ⟨k + 1, by omega, by go_num, Lib.hid (Or.inr (by rw [hnx.out]; exact I5.out)), N5.out⟩
          case measure => (simp [intOf]; try omega)
        · have hkE : k + 1 = E.length := by omega
          have hk1 : ¬ ((k : Int) < ((E.length - 1 : Nat) : Int)) := by omega
          rw [hkE] at hI
          have ST2 := Lib.hid (Tryd.Builder_String_any w.heap.size w.heap.size (joK sep E E.length) wr hI.out hb.size)
          have HB := Lib.hid hb
          go_wp2_with (go_at_call 137; refine ST2.out.mono ?_; rintro e w6 ⟨rfl, hb6⟩; have N6 := Lib.hid (HB.out.trans hb6); clear hb6)
          go_ret
          exact ⟨rfl, N6.out⟩
end Go.Proofs.YtgpcflpeddnfcaaDoor
set_option linter.unusedVariables false
set_option linter.unusedSimpArgs false
namespace Go.Proofs.YtgpcflpeddnfcaaDoor
open Go.RowKit
theorem lsyS {P : Program} {f : FuncId} {args : Array Value} {w : World} {a n : Nat} {v : Value}
    (h : Calls P f args (w.drewN (a + n)) fun e w' => e = .returned v ∧ w.drewN (a + n) = w') :
    Calls P f args (w.drewN (a + n)) fun e w'' => e = .returned v ∧ ∃ m, w'' = w.drewN (a + m) :=
  h.mono fun _ _ h => ⟨h.1, n, h.2.symm⟩
theorem lsyS0 {P : Program} {f : FuncId} {args : Array Value} {w : World} {n : Nat} {v : Value}
    (h : Calls P f args (w.drewN n) fun e w' => e = .returned v ∧ w.drewN n = w') :
    Calls P f args (w.drewN n) fun e w'' => e = .returned v ∧ ∃ m, w'' = w.drewN m :=
  h.mono fun _ _ h => ⟨h.1, n, h.2.symm⟩
theorem esi_keep {w w' : World} {B : Nat} {v : Value} {L : List Int} (h : esI w B v L) (hb : Below w.heap.size w w') : esI w' B v L := by
  refine World.ownsRow.kept h (row := none) ⟨hb.os, hb.tape, hb.output, hb.size, fun k hk _ => hb.block k hk⟩ ?_
  cases v.ownBlock <;> simp
theorem esI.mono {w : World} {B B' : Nat} {v : Value} {L : List Int} (h : esI w B v L) (hB : B' ≤ B) : esI w B' v L := World.ownsRow.mono h hB
theorem esI.row {w : World} {B n : Nat} {v : Value} {L : List Int} (h : esI w B v L) (hn : L.length = n) : ∃ a c, v = .slice a n c ∧ Row w a L := by
  subst hn; exact row_ofI h
/-- Lists under way: a row of slices, each of the call's own. -/
structure RdI (B : Nat) (v : Value) (E : List (List Int)) (w : World) : Prop where
  ex : ∃ vs : List Value, w.ownsRow B 53 1 v E.length vs ∧ ∀ i, i < E.length → ∃ x, vs[i]? = some x ∧ esI w B x (E.getD i [])
  le : B ≤ w.heap.size
theorem RdI.below {B : Nat} {v : Value} {E : List (List Int)} {w w' : World} (h : RdI B v E w) (hb : Below w.heap.size w w') : RdI B v E w' := by
  obtain ⟨vs, h1, h2⟩ := h.ex
  refine ⟨⟨vs, World.ownsRow.kept h1 (row := none) ⟨hb.os, hb.tape, hb.output, hb.size, fun k hk _ => hb.block k hk⟩ (by cases v.ownBlock <;> simp), fun i hi => by obtain ⟨x, e, hx⟩ := h2 i hi; exact ⟨x, e, esi_keep hx hb⟩⟩, Nat.le_trans h.le hb.size⟩
theorem infoIl : (Tryd.prog.info? 53).map (fun i => (i.zero, i.size, i.bytes)) = some (some (.slice none 0 0), 1, 24) := by kernel_rfl
theorem RdI.form {B : Nat} {v : Value} {E : List (List Int)} {w : World} (h : RdI B v E w) : ∃ a c, v = .slice a E.length c := by
  obtain ⟨vs, h1, _⟩ := h.ex
  rcases h1.2 with ⟨rfl, h0⟩ | ⟨g, cap, cur, rfl, _⟩
  · exact ⟨none, 0, by rw [h0]⟩
  · exact ⟨_, cap, rfl⟩
theorem RdI.next {B : Nat} {v x : Value} {E : List (List Int)} {L : List Int} {w w1 : World} {v' : Value} {vs : List Value} (h2 : ∀ i, i < E.length → ∃ x, vs[i]? = some x ∧ esI w B x (E.getD i [])) (hvl : vs.length = E.length) (hw : w.ownsRow B 53 1 v E.length vs) (hx : esI w B x L)
    (ho : w1.ownsRow B 53 1 v' (E.length + 1) (vs ++ [x])) (hg : w.grownBy w1 v.ownBlock) (hle : B ≤ w.heap.size) : RdI B v' (E ++ [L]) w1 := by
  have hk : ∀ y M, esI w B y M → esI w1 B y M := fun y M hy => World.ownsRow.kept hy hg (own_ne_own hy hw (by decide))
  refine ⟨⟨vs ++ [x], by rw [List.length_append]; exact ho, fun i hi => ?_⟩, Nat.le_trans hle hg.size⟩
  rw [List.length_append, List.length_singleton] at hi
  by_cases hlt : i < E.length
  · obtain ⟨y, e, hy⟩ := h2 i hlt
    refine ⟨y, by rw [List.getElem?_append_left (by omega)]; exact e, ?_⟩
    rw [show (E ++ [L]).getD i [] = E.getD i [] by rw [List.getD, List.getElem?_append_left hlt, List.getD]]
    exact hk _ _ hy
  · obtain rfl : i = E.length := by omega
    refine ⟨x, by rw [List.getElem?_append_right (by omega), hvl, Nat.sub_self]; rfl, ?_⟩
    rw [show (E ++ [L]).getD E.length [] = L by rw [List.getD, List.getElem?_append_right (Nat.le_refl _), Nat.sub_self]; rfl]
    exact hk _ _ hx
end Go.Proofs.YtgpcflpeddnfcaaDoor
set_option linter.unusedVariables false
set_option linter.unusedSimpArgs false
namespace Go.Proofs.YtgpcflpeddnfcaaDoor
open Go.RowKit
def isE (s : Int × Int) : Prop := s.2 = 2 ∧ (s.1 = 10 ∨ s.1 = 13)
instance (s : Int × Int) : Decidable (isE s) := by unfold isE; infer_instance
def enK (l : List (Int × Int)) (k : Nat) : List Int := ((List.range k).filter fun i => decide (isE (l.getD i (0, 0)))).map fun (i : Nat) => (i : Int)
theorem enK_next (l : List (Int × Int)) (k : Nat) : enK l (k + 1) = enK l k ++ (if isE (l.getD k (0, 0)) then [(k : Int)] else []) := by
  unfold enK
  rw [List.range_succ, List.filter_append, List.map_append]
  congr 1
  by_cases h : isE (l.getD k (0, 0))
  · simp only [List.filter_cons, List.filter_nil, decide_eq_true_eq, if_pos h]; rfl
  · simp only [List.filter_cons, List.filter_nil, decide_eq_true_eq, if_neg h]; rfl
theorem enK_len (l : List (Int × Int)) (k : Nat) : (enK l k).length ≤ k := by
  unfold enK
  rw [List.length_map]
  exact Nat.le_trans (List.length_filter_le _ _) (by rw [List.length_range]; exact Nat.le_refl _)
set_option maxHeartbeats 4000000 in
theorem ends_any (l : List (Int × Int)) (a : Option Addr) (n c : Nat) (w : World) (hn : l.length = n) (hl : n ≤ 100000) (hs : Signs w a l) :
    Calls Tryd.prog 58 #[.slice a n c] w fun e w' => ∃ x, e = .returned x ∧ esI w' w.heap.size x (enK l n) ∧ Below w.heap.size w w' := by
  obtain ⟨i0, hi, hz0, hz1, hz2⟩ := info_parts infoIntS
  have HS := Lib.hid hs
  have HN := Lib.hid hn
  clear hs hn
  go_enter Tryd.func58, Tryd.ntmps58
  go_wp2_with fail
  go_loopw [3, 8] (fun ov iv wr => ∃ (k : Nat), k ≤ n ∧ iv = .int .i64 (k : Int) ∧ Hid (esI wr w.heap.size ov (enK l k)) ∧ Hid (Below w.heap.size w wr)) (fun _ iv _ => n - (intOf iv).toNat)
  case atStart => exact ⟨0, Nat.zero_le _, rfl, Lib.hid (World.ownsRow_nil _ _ _ _), Lib.hid (Below.refl _ _)⟩
  case round =>
    obtain ⟨k, hk, rfl, HO, HB⟩ := hrel
    by_cases hlt : k < n
    · have hk1 : (k : Int) < n := by omega
      have hk0 : (0 : Int) ≤ k := by omega
      obtain ⟨bb, off, rfl, hblk, c1, c2⟩ := (HS.out.below HB.out) k (by rw [HN.out]; exact hlt)
      have hnext := enK_next l k
      have hlen := enK_len l k
      obtain ⟨y, hy⟩ : ∃ y, (enK l k).length = y := ⟨_, rfl⟩
      obtain ⟨Y, hY⟩ : ∃ Y, enK l k = Y := ⟨_, rfl⟩
      rw [hY] at hnext HO hlen hy
      obtain ⟨⟨v, u⟩, hvu⟩ : ∃ q, l.getD k (0, 0) = q := ⟨_, rfl⟩
      rw [hvu] at hnext c1 c2
      dsimp only at hnext c1 c2
      have hyk : y ≤ k := by omega
      have BA := below_alloc wr (.cells #[.int .i64 v, .int .i64 u] 70)
      have O8 := Lib.hid (esi_keep HO.out BA)
      have N8 := Lib.hid (seqB HB.out BA)
      have XB := Lib.hid (heap_alloc_new wr (.cells #[.int .i64 v, .int .i64 u] 70))
      have HL := Lib.hid hy
      have HX := Lib.hid hnext
      clear hy hY hvu hnext HO HB BA hlen
      go_upto_region 5 with fail
      obtain ⟨W8, hW8⟩ : ∃ W, wr.alloc (.cells #[.int .i64 v, .int .i64 u] 70) = W := ⟨_, rfl⟩
      rw [hW8] at O8 N8 XB ⊢
      obtain ⟨X, hX⟩ : ∃ X, wr.heap.size = X := ⟨_, rfl⟩
      rw [hX] at XB ⊢
      clear hW8 hX c1 c2
      have z0 := cell_of_row _ _ 0 _ _ _ XB.out
      have z1 := cell_of_row _ _ 1 _ _ _ XB.out
      dsimp at z0 z1
      by_cases hu : u = 2
      · subst hu
        by_cases hv : v = 10
        · subst hv
          rw [if_pos (show isE (10, 2) from ⟨rfl, Or.inl rfl⟩)] at HX
          go_wp2_with (at_builtin; refine wpList_append_own _ rfl _ _ 53 rfl w.heap.size 3 i0 (.int .i64 0) 1 8 Tryd.underlying53 hi hz0 hz1 hz2 rfl (by decide) _ _ _ rfl (O8.out.alloc _) ⟨W8.heap.size, 0, none⟩ 1 1 [.int .i64 (k : Int)] rfl rfl ?g1 ?g2 ?g3 ?g4 ?g5 ?_)
          case g1 => intro j x hj; exact app_cells rfl hj
          case g2 => simp [Value.oneCell']
          case g3 => rw [HL.out]; unfold maxLen; omega
          case g4 => rw [HL.out]; omega
          case g5 => have := N8.out.size; simp; omega
          intro v' w5 hown5 hgrow5 _
          have N5 := Lib.hid ((seqB N8.out (below_alloc W8 (.cells #[.int .i64 (k : Int)] 3))).grown hgrow5 (by have := N8.out.size; simp; omega) (fun j hj => (O8.out.lt j hj).1))
          have HO : Hid (esI w5 w.heap.size v' (Y ++ [(k : Int)])) := Lib.hid (by unfold esI; rw [List.length_append, List.map_append]; exact hown5)
          clear hown5 hgrow5
          go_wp2
          go_roundw
          case rel => exact ⟨k + 1, by omega, by go_num, Lib.hid (by rw [HX.out]; exact HO.out), N5⟩
          case measure => (simp [intOf]; try omega)
        by_cases hv2 : v = 13
        · subst hv2
          rw [if_pos (show isE (13, 2) from ⟨rfl, Or.inr rfl⟩)] at HX
          go_wp2_with (at_builtin; refine wpList_append_own _ rfl _ _ 53 rfl w.heap.size 3 i0 (.int .i64 0) 1 8 Tryd.underlying53 hi hz0 hz1 hz2 rfl (by decide) _ _ _ rfl (O8.out.alloc _) ⟨W8.heap.size, 0, none⟩ 1 1 [.int .i64 (k : Int)] rfl rfl ?g1 ?g2 ?g3 ?g4 ?g5 ?_)
          case g1 => intro j x hj; exact app_cells rfl hj
          case g2 => simp [Value.oneCell']
          case g3 => rw [HL.out]; unfold maxLen; omega
          case g4 => rw [HL.out]; omega
          case g5 => have := N8.out.size; simp; omega
          intro v' w5 hown5 hgrow5 _
          have N5 := Lib.hid ((seqB N8.out (below_alloc W8 (.cells #[.int .i64 (k : Int)] 3))).grown hgrow5 (by have := N8.out.size; simp; omega) (fun j hj => (O8.out.lt j hj).1))
          have HO : Hid (esI w5 w.heap.size v' (Y ++ [(k : Int)])) := Lib.hid (by unfold esI; rw [List.length_append, List.map_append]; exact hown5)
          clear hown5 hgrow5
          go_wp2
          go_roundw
          case rel => exact ⟨k + 1, by omega, by go_num, Lib.hid (by rw [HX.out]; exact HO.out), N5⟩
          case measure => (simp [intOf]; try omega)
        have hvb : (v == 10) = false := beq_eq_false_iff_ne.2 hv
        have hvb2 : (v == 13) = false := beq_eq_false_iff_ne.2 hv2
        have HNE : Hid (¬ isE (v, 2)) := Lib.hid (fun h => h.2.elim hv hv2)
        rw [if_neg HNE.out, List.append_nil] at HX
        go_wp2_with fail
        go_roundw
        case rel => exact ⟨k + 1, by omega, by go_num, Lib.hid (by rw [HX.out]; exact O8.out), N8⟩
        case measure => (simp [intOf]; try omega)
      · have hub : (u == 2) = false := beq_eq_false_iff_ne.2 hu
        have HNE : Hid (¬ isE (v, u)) := Lib.hid (fun h => hu h.1)
        rw [if_neg HNE.out, List.append_nil] at HX
        go_wp2_with fail
        go_roundw
        case rel => exact ⟨k + 1, by omega, by go_num, Lib.hid (by rw [HX.out]; exact O8.out), N8⟩
        case measure => (simp [intOf]; try omega)
    · obtain rfl : k = n := by omega
      have hkl : ¬ (k : Int) < (k : Int) := by omega
      go_wp2_with fail
      go_ret
      exact ⟨_, rfl, HO.out, HB.out⟩
end Go.Proofs.YtgpcflpeddnfcaaDoor
set_option linter.unusedVariables false
set_option linter.unusedSimpArgs false
namespace Go.Proofs.YtgpcflpeddnfcaaDoor
open Go.RowKit
def wdB (s : Int × Int) : Bool := dng s.1 && decide (2 ≤ s.2)
def anyW (l : List (Int × Int)) : Bool := l.any wdB
theorem wild_any (v u : Int) (w : World) (hT : Tabs w) :
    Calls Tryd.prog 150 #[.agg #[.int .i64 v, .int .i64 u]] w fun e w' => e = .returned (.bool (wdB (v, u))) ∧ Below w.heap.size w w' := by
  have B0 := below_alloc w (.cells #[.int .i64 v, .int .i64 u] 70)
  have X0 := heap_alloc_new w (.cells #[.int .i64 v, .int .i64 u] 70)
  have DG := Lib.hid (danger_any v (w.alloc (.cells #[.int .i64 v, .int .i64 u] 70)) (hT.below B0))
  have ST := Lib.hid fun w => strange_any v u w
  have N0 := Lib.hid B0
  have XB := Lib.hid X0
  have hr : wdB (v, u) = (dng v && decide (2 ≤ u)) := rfl
  have HR := Lib.hid hr
  clear hT B0 X0 hr
  generalize dng v = q at *
  generalize wdB (v, u) = r at *
  cases q
  · go_enter Tryd.func150, Tryd.ntmps150
    go_wp2_with (go_at_call 149; refine DG.out.mono ?_; rintro e w1 ⟨rfl, hb⟩; have N1 := Lib.hid (seqB N0.out hb); clear hb)
    go_ret
    exact ⟨ret_boolU (by rw [HR.out]; rfl), N1.out⟩
  · go_enter Tryd.func150, Tryd.ntmps150
    go_wp2_with (first
      | (go_at_call 149; refine DG.out.mono ?_; rintro e w1 ⟨rfl, hb⟩; have N1 := Lib.hid (seqB N0.out hb); have X1 := blk_below XB.out hb; have z0 := cell_of_row _ _ 0 _ _ _ X1; have z1 := cell_of_row _ _ 1 _ _ _ X1; dsimp at z0 z1; clear hb X1)
      | (go_at_call 151; refine (ST.out _).mono ?_; rintro e w2 ⟨rfl, hb⟩; have N2 := Lib.hid (seqB N1.out hb); clear hb))
    go_ret
    exact ⟨ret_boolU (by rw [HR.out]; rfl), N2.out⟩
theorem idxw_any (l : List (Int × Int)) (a : Option Addr) (n c : Nat) (w : World) (hT : Tabs w) (hn : l.length = n) (hl : n ≤ 100000) (hs : Signs w a l) :
    Calls Tryd.prog 195 #[.slice a n c, .func (.func 150) #[] #[]] w fun e w' => ∃ r : Int, e = .returned (.int .i64 r) ∧ ((0 ≤ r) ↔ anyW l = true) ∧ Below w.heap.size w w' := by
  have HS := Lib.hid hs
  have HN := Lib.hid hn
  have WD := Lib.hid fun (v u : Int) (w' : World) (hb : Below w.heap.size w w') => wild_any v u w' (hT.below hb)
  clear hs hn hT
  go_enter Tryd.func195, Tryd.ntmps195
  go_wp2_with fail
  go_loopw [8] (fun iv wr => ∃ k : Nat, k ≤ n ∧ iv = .int .i64 (k : Int) ∧ Hid (Below w.heap.size w wr) ∧ Hid (∀ j, j < k → wdB (l.getD j (0, 0)) = false)) (fun iv _ => n - (intOf iv).toNat)
  case atStart => exact ⟨0, Nat.zero_le _, rfl, Lib.hid (Below.refl _ _), Lib.hid (fun j hj => absurd hj (Nat.not_lt_zero j))⟩
  case round =>
    obtain ⟨k, hk, rfl, HB, HK⟩ := hrel
    by_cases hlt : k < n
    · have hk1 : (k : Int) < n := by omega
      have hk0 : (0 : Int) ≤ k := by omega
      obtain ⟨bb, off, rfl, hblk, c1, c2⟩ := (HS.out.below HB.out) k (by rw [HN.out]; exact hlt)
      obtain ⟨⟨v, u⟩, hvu⟩ : ∃ q, l.getD k (0, 0) = q := ⟨_, rfl⟩
      rw [hvu] at c1 c2
      dsimp only at c1 c2
      have WK := WD.out v u wr HB.out
      obtain ⟨q, hq⟩ : ∃ q, wdB (v, u) = q := ⟨_, rfl⟩
      rw [hq] at WK
      have HV := Lib.hid hvu
      have HQ := Lib.hid hq
      have HW := Lib.hid WK
      clear hvu hq WK
      cases q
      · go_wp2_with (go_at_call 150; refine HW.out.mono ?_; rintro e w2 ⟨rfl, hb⟩; have N2 := Lib.hid (seqB HB.out hb); clear hb)
        go_roundw
        case rel =>
          refine ⟨k + 1, by omega, by go_num, N2, Lib.hid (fun j hj => ?_)⟩
          by_cases e : j = k
          · rw [e, HV.out]; exact HQ.out
          · exact HK.out j (by omega)
        case measure => (simp [intOf]; try omega)
      · go_wp2_with (go_at_call 150; refine HW.out.mono ?_; rintro e w2 ⟨rfl, hb⟩; have N2 := Lib.hid (seqB HB.out hb); clear hb)
        go_ret
        refine ⟨_, rfl, ⟨fun _ => ?_, fun _ => hk0⟩, N2.out⟩
        unfold anyW
        rw [List.any_eq_true]
        refine ⟨(v, u), ?_, HQ.out⟩
        rw [← HV.out, List.getD, List.getElem?_eq_getElem (by rw [HN.out]; exact hlt)]
        exact List.getElem_mem _
    · obtain rfl : k = n := by omega
      have hk1 : ¬ (k : Int) < k := by omega
      go_wp2_with fail
      go_ret
      refine ⟨-1, rfl, ⟨fun h => absurd h (by decide), fun h => ?_⟩, HB.out⟩
      exfalso
      unfold anyW at h
      obtain ⟨s, hs, hw⟩ := List.any_eq_true.1 h
      obtain ⟨j, hj, e⟩ := List.getElem_of_mem hs
      have := HK.out j (by rw [← HN.out]; exact hj)
      rw [List.getD, List.getElem?_eq_getElem hj] at this
      rw [← e] at hw
      rw [show wdB l[j] = false from this] at hw
      cases hw
theorem safe_any (l : List (Int × Int)) (a : Option Addr) (n c : Nat) (w : World) (hT : Tabs w) (hn : l.length = n) (hl : n ≤ 100000) (hs : Signs w a l) :
    Calls Tryd.prog 111 #[.slice a n c] w fun e w' => e = .returned (.bool (!anyW l)) ∧ Below w.heap.size w w' := by
  have IX := Lib.hid (idxw_any l a n c w hT hn hl hs)
  have CF : Hid (Calls Tryd.prog 153 #[.slice a n c, .func (.func 150) #[] #[]] w fun e w' => e = .returned (.bool (anyW l)) ∧ Below w.heap.size w w') := Lib.hid (by
    generalize anyW l = q at *
    clear hs hT hn
    go_enter Tryd.func153, Tryd.ntmps153
    go_wp2_with (go_at_call 195; refine IX.out.mono ?_; rintro e w1 ⟨r, rfl, hr, hb⟩; have HR := Lib.hid hr; have N1 := Lib.hid hb; clear hr hb)
    all_goals
      go_ret
      refine ⟨ret_boolU ?_, N1.out⟩
      have h := HR.out
      cases q <;> simp_all)
  clear hs hT hn IX
  generalize anyW l = q at *
  go_enter Tryd.func111, Tryd.ntmps111
  go_wp2_with (go_at_call 153; refine CF.out.mono ?_; rintro e w1 ⟨rfl, hb⟩; have N1 := Lib.hid hb; clear hb)
  go_ret
  exact ⟨rfl, N1.out⟩
end Go.Proofs.YtgpcflpeddnfcaaDoor
set_option linter.unusedVariables false
set_option linter.unusedSimpArgs false
namespace Go.Proofs.YtgpcflpeddnfcaaDoor
open Go.RowKit
def taS : List (Int × Int) := [(97, 0), (27, 2)]
def taR (w : World) (X : Nat) (a b c d f : Int) : Prop := w.heap[X]? = some (.cells #[.int .i64 2, .int .i64 a, .int .i64 0, .int .i64 b, .int .i64 0, .int .i64 0, .int .i64 0, .int .i64 c, .int .i64 0, .int .i64 d, .int .i64 f] 149 (0, 0))
def taZ (w : World) (X : Nat) : Prop := w.heap[X]? = some (.cells #[.int .i64 0, .int .i64 0, .int .i64 0, .int .i64 0, .int .i64 0, .int .i64 0, .int .i64 0, .int .i64 0, .int .i64 0, .int .i64 0, .int .i64 0] 149 (0, 0))
theorem ta_facts : dng 97 = false ∧ dng 27 = true ∧ cls 97 = 1 ∧ cls 27 = 4 ∧ wdB (97, 0) = false ∧ wdB (27, 2) = true := by decide +kernel
/-- A report under way: the result's box, the report's, the sign's. -/
structure TaSt (w wr : World) (X S : Nat) (v u a b c d f : Int) : Prop where
  bw : Below w.heap.size w wr
  zw : taZ wr w.heap.size
  rw : taR wr X a b c d f
  sw : wr.heap[S]? = some (.cells #[.int .i64 v, .int .i64 u] 70 (0, 0))
  hX : w.heap.size < X
  hS : X < S
theorem TaSt.below {w wr w' : World} {X S : Nat} {v u a b c d f : Int} (h : TaSt w wr X S v u a b c d f) (hb : Below wr.heap.size wr w') : TaSt w w' X S v u a b c d f :=
  ⟨seqB h.bw hb, blk_below h.zw hb, blk_below h.rw hb, blk_below h.sw hb, h.hX, h.hS⟩
theorem TaSt.put {w wr : World} {X S : Nat} {v u a b c d f : Int} (h : TaSt w wr X S v u a b c d f) (k : Nat) (x a2 b2 c2 d2 f2 : Int) (hr : (#[.int .i64 2, .int .i64 a, .int .i64 0, .int .i64 b, .int .i64 0, .int .i64 0, .int .i64 0, .int .i64 c, .int .i64 0, .int .i64 d, .int .i64 f] : Array Value).setIfInBounds k (.int .i64 x) = #[.int .i64 2, .int .i64 a2, .int .i64 0, .int .i64 b2, .int .i64 0, .int .i64 0, .int .i64 0, .int .i64 c2, .int .i64 0, .int .i64 d2, .int .i64 f2]) :
    TaSt w (wr.setCell ⟨X, k, none⟩ (.int .i64 x)) X S v u a2 b2 c2 d2 f2 := by
  have h1 := h.hX; have h2 := h.hS
  refine ⟨h.bw.setCell (p := ⟨X, k, none⟩) (Nat.le_of_lt h.hX) _, ?_, ?_, ?_, h.hX, h.hS⟩
  · unfold taZ; rw [Below.heap_setCell _ _ _ _ (by show w.heap.size ≠ X; omega)]; exact h.zw
  · unfold taR; rw [← hr]; exact blk_set h.rw k _
  · rw [Below.heap_setCell _ _ _ _ (by show S ≠ X; omega)]; exact h.sw
theorem TaSt.c {w wr : World} {X S : Nat} {v u a b c d f : Int} (h : TaSt w wr X S v u a b c d f) : wr.cell? ⟨S, 0, none⟩ = some (.int .i64 v) ∧ wr.cell? ⟨S, 1, none⟩ = some (.int .i64 u) ∧ wr.cell? ⟨X, 10, none⟩ = some (.int .i64 f) ∧ wr.cell? ⟨X, 7, none⟩ = some (.int .i64 c) ∧ wr.cell? ⟨X, 9, none⟩ = some (.int .i64 d) ∧ (∀ i, wr.frozen? ⟨X, i, none⟩ = false) :=
  ⟨cell_of_row _ _ 0 _ _ _ h.sw, cell_of_row _ _ 1 _ _ _ h.sw, cell_of_row _ _ 10 _ _ _ h.rw, cell_of_row _ _ 7 _ _ _ h.rw, cell_of_row _ _ 9 _ _ _ h.rw, fun i => frozen_of_row _ X i _ _ h.rw⟩
set_option maxHeartbeats 8000000 in
theorem taof_aw (a : Option Addr) (c : Nat) (w : World) (hT : Tabs w) (hs : Signs w a taS) : Calls Tryd.prog 109 #[.slice a 2 c] w fun e w' => e = .returned (.agg #[.int .i64 2, .int .i64 1, .int .i64 0, .int .i64 1, .int .i64 0, .int .i64 0, .int .i64 0, .int .i64 1, .int .i64 0, .int .i64 1, .int .i64 1]) ∧ Below w.heap.size w w' := by
  have HS := Lib.hid hs
  have DA := Lib.hid fun (w' : World) (hb : Below w.heap.size w w') => (by have h := danger_any 97 w' (hT.below hb); rw [ta_facts.1] at h; exact h : Calls Tryd.prog 149 #[.int .i64 97] w' fun e w'' => e = .returned (.bool false) ∧ Below w'.heap.size w' w'')
  have DB := Lib.hid fun (w' : World) (hb : Below w.heap.size w w') => (by have h := danger_any 27 w' (hT.below hb); rw [ta_facts.2.1] at h; exact h : Calls Tryd.prog 149 #[.int .i64 27] w' fun e w'' => e = .returned (.bool true) ∧ Below w'.heap.size w' w'')
  have OA := Lib.hid fun (w' : World) (hb : Below w.heap.size w w') => (by have h := of_any 97 w' (hT.below hb); rw [ta_facts.2.2.1] at h; exact h : Calls Tryd.prog 127 #[.int .i64 97] w' fun e w'' => e = .returned (.int .i64 1) ∧ Below w'.heap.size w' w'')
  have OB := Lib.hid fun (w' : World) (hb : Below w.heap.size w w') => (by have h := of_any 27 w' (hT.below hb); rw [ta_facts.2.2.2.1] at h; exact h : Calls Tryd.prog 127 #[.int .i64 27] w' fun e w'' => e = .returned (.int .i64 4) ∧ Below w'.heap.size w' w'')
  have WA := Lib.hid fun (w' : World) (hb : Below w.heap.size w w') => (by have h := wild_any 97 0 w' (hT.below hb); rw [ta_facts.2.2.2.2.1] at h; exact h : Calls Tryd.prog 150 #[.agg #[.int .i64 97, .int .i64 0]] w' fun e w'' => e = .returned (.bool false) ∧ Below w'.heap.size w' w'')
  have WB := Lib.hid fun (w' : World) (hb : Below w.heap.size w w') => (by have h := wild_any 27 2 w' (hT.below hb); rw [ta_facts.2.2.2.2.2] at h; exact h : Calls Tryd.prog 150 #[.agg #[.int .i64 27, .int .i64 2]] w' fun e w'' => e = .returned (.bool true) ∧ Below w'.heap.size w' w'')
  have SA := Lib.hid fun (w' : World) => (strange_any 97 0 w' : Calls Tryd.prog 151 #[.agg #[.int .i64 97, .int .i64 0]] w' fun e w'' => e = .returned (.bool false) ∧ Below w'.heap.size w' w'')
  have SB := Lib.hid fun (w' : World) => (strange_any 27 2 w' : Calls Tryd.prog 151 #[.agg #[.int .i64 27, .int .i64 2]] w' fun e w'' => e = .returned (.bool true) ∧ Below w'.heap.size w' w'')
  clear hs hT
  have B1 := below_alloc w (.cells #[.int .i64 0, .int .i64 0, .int .i64 0, .int .i64 0, .int .i64 0, .int .i64 0, .int .i64 0, .int .i64 0, .int .i64 0, .int .i64 0, .int .i64 0] 149)
  have Z1 := heap_alloc_new w (.cells #[.int .i64 0, .int .i64 0, .int .i64 0, .int .i64 0, .int .i64 0, .int .i64 0, .int .i64 0, .int .i64 0, .int .i64 0, .int .i64 0, .int .i64 0] 149)
  go_enter Tryd.func109, Tryd.ntmps109
  go_upto_region 3 with fail
  obtain ⟨w1, hw1⟩ : ∃ W, w.alloc (.cells #[.int .i64 0, .int .i64 0, .int .i64 0, .int .i64 0, .int .i64 0, .int .i64 0, .int .i64 0, .int .i64 0, .int .i64 0, .int .i64 0, .int .i64 0] 149) = W := ⟨_, rfl⟩
  have hs1 : w1.heap.size = w.heap.size + 1 := by rw [← hw1]; simp
  rw [hw1] at B1 Z1 ⊢
  have B2 := below_alloc w1 (.cells #[.int .i64 2, .int .i64 0, .int .i64 0, .int .i64 0, .int .i64 0, .int .i64 0, .int .i64 0, .int .i64 0, .int .i64 0, .int .i64 0, .int .i64 (-1)] 149)
  have R2 := heap_alloc_new w1 (.cells #[.int .i64 2, .int .i64 0, .int .i64 0, .int .i64 0, .int .i64 0, .int .i64 0, .int .i64 0, .int .i64 0, .int .i64 0, .int .i64 0, .int .i64 (-1)] 149)
  rw [hs1] at R2
  obtain ⟨w2, hw2⟩ : ∃ W, w1.alloc (.cells #[.int .i64 2, .int .i64 0, .int .i64 0, .int .i64 0, .int .i64 0, .int .i64 0, .int .i64 0, .int .i64 0, .int .i64 0, .int .i64 0, .int .i64 (-1)] 149) = W := ⟨_, rfl⟩
  rw [hw2] at B2 R2 ⊢
  obtain ⟨X, hX⟩ : ∃ X, w.heap.size + 1 = X := ⟨_, rfl⟩
  rw [hX] at R2 ⊢
  have HX : Hid (w.heap.size < X) := Lib.hid (by omega)
  have Q0 : Hid (Below w.heap.size w w2) := Lib.hid (seqB B1 B2)
  have Q1 : Hid (taZ w2 w.heap.size) := Lib.hid (blk_below Z1 B2)
  have Q2 : Hid (taR w2 X 0 0 0 0 (-1)) := Lib.hid R2
  clear hX hw2 hw1 hs1 B1 B2 Z1 R2
  go_wp2_with fail
  go_loopw [11] (fun iv wr => Hid (Below w.heap.size w wr) ∧ Hid (taZ wr w.heap.size) ∧ ((iv = .int .i64 0 ∧ Hid (taR wr X 0 0 0 0 (-1))) ∨ (iv = .int .i64 1 ∧ Hid (taR wr X 1 0 0 0 (-1))) ∨ (iv = .int .i64 2 ∧ Hid (taR wr X 1 1 1 1 1)))) (fun iv _ => 2 - (intOf iv).toNat)
  case atStart => exact ⟨Q0, Q1, Or.inl ⟨rfl, Q2⟩⟩
  case round =>
    clear Q0 Q1 Q2
    obtain ⟨HB, HZ, ⟨rfl, HH⟩ | ⟨rfl, HH⟩ | ⟨rfl, HH⟩⟩ := hrel
    · obtain ⟨b, off, rfl, hb, c1, c2⟩ := (HS.out.below HB.out) 0 (by decide)
      have c1' : wr.cell? ⟨b, off + 0 * 2, none⟩ = some (.int .i64 97) := c1
      have c2' : wr.cell? ⟨b, off + 0 * 2 + 1, none⟩ = some (.int .i64 0) := c2
      simp only [Nat.zero_mul, Nat.add_zero, Nat.reduceMul] at c1' c2'
      have BA := below_alloc wr (.cells #[.int .i64 97, .int .i64 0] 70)
      have K0 := Lib.hid (TaSt.mk (seqB HB.out BA) (blk_below HZ.out BA) (blk_below HH.out BA) (heap_alloc_new wr (.cells #[.int .i64 97, .int .i64 0] 70)) HX.out (blk_lt HH.out))
      have y1 := cell_of_row _ _ 1 _ _ _ K0.out.rw
      dsimp at y1
      have yf := fun i => frozen_of_row _ X i _ _ K0.out.rw
      have K1 := Lib.hid (K0.out.put 1 1 1 0 0 0 (-1) rfl)
      clear c1 c2 BA K0 HB HZ HH
      go_upto_region 7 with fail
      generalize hw7 : World.setCell _ _ _ = w7
      rw [hw7] at K1
      generalize wr.heap.size = S at *
      clear hw7 y1 yf c1' c2'
      have z0 := K1.out.c.1; have z1 := K1.out.c.2.1
      go_wp2_with (first
        | (go_at_call 149; (with_reducible refine (DA.out _ K1.out.bw).mono ?_); rintro e w8 ⟨rfl, hb⟩; have K2 := Lib.hid (K1.out.below hb); have z0 := K2.out.c.1; have z1 := K2.out.c.2.1; clear hb K1)
        | (go_at_call 127; (with_reducible refine (OA.out _ K2.out.bw).mono ?_); rintro e w9 ⟨rfl, hb⟩; have K3 := Lib.hid (K2.out.below hb); have z0 := K3.out.c.1; have z1 := K3.out.c.2.1; clear hb K2)
        | (go_at_call 150; (with_reducible refine (WA.out _ K3.out.bw).mono ?_); rintro e wa ⟨rfl, hb⟩; have K4 := Lib.hid (K3.out.below hb); have z0 := K4.out.c.1; have z1 := K4.out.c.2.1; have z10 := K4.out.c.2.2.1; clear hb K3)
        | (go_at_call 151; (with_reducible refine (SA.out _).mono ?_); rintro e wb ⟨rfl, hb⟩; have K5 := Lib.hid (K4.out.below hb); clear hb K4))
      go_roundw
      case rel => exact ⟨Lib.hid K5.out.bw, Lib.hid K5.out.zw, Or.inr (Or.inl ⟨by first | rfl | simp, Lib.hid K5.out.rw⟩)⟩
      case measure => simp [intOf]
    · obtain ⟨b, off, rfl, hb, c1, c2⟩ := (HS.out.below HB.out) 1 (by decide)
      have c1' : wr.cell? ⟨b, off + 1 * 2, none⟩ = some (.int .i64 27) := c1
      have c2' : wr.cell? ⟨b, off + 1 * 2 + 1, none⟩ = some (.int .i64 2) := c2
      simp only [Nat.zero_mul, Nat.add_zero, Nat.reduceMul] at c1' c2'
      have BA := below_alloc wr (.cells #[.int .i64 27, .int .i64 2] 70)
      have K0 := Lib.hid (TaSt.mk (seqB HB.out BA) (blk_below HZ.out BA) (blk_below HH.out BA) (heap_alloc_new wr (.cells #[.int .i64 27, .int .i64 2] 70)) HX.out (blk_lt HH.out))
      have y1 := cell_of_row _ _ 3 _ _ _ K0.out.rw
      dsimp at y1
      have yf := fun i => frozen_of_row _ X i _ _ K0.out.rw
      have K1 := Lib.hid (K0.out.put 3 1 1 1 0 0 (-1) rfl)
      clear c1 c2 BA K0 HB HZ HH
      go_upto_region 7 with fail
      generalize hw7 : World.setCell _ _ _ = w7
      rw [hw7] at K1
      generalize wr.heap.size = S at *
      clear hw7 y1 yf c1' c2'
      have z0 := K1.out.c.1; have z1 := K1.out.c.2.1
      go_upto_region 9 with (go_at_call 149; (with_reducible refine (DB.out _ K1.out.bw).mono ?_); rintro e w8 ⟨rfl, hb⟩; have K2 := Lib.hid (K1.out.below hb); have z7 := K2.out.c.2.2.2.1; have yf := K2.out.c.2.2.2.2.2; have K3 := Lib.hid (K2.out.put 7 1 1 1 1 0 (-1) rfl); clear hb K1 K2)
      generalize hw9 : World.setCell _ _ _ = w9
      rw [hw9] at K3
      clear hw9 z7 yf z0 z1
      have z0 := K3.out.c.1; have z1 := K3.out.c.2.1
      go_upto_region 13 with (first
        | (go_at_call 127; (with_reducible refine (OB.out _ K3.out.bw).mono ?_); rintro e wa ⟨rfl, hb⟩; have K4 := Lib.hid (K3.out.below hb); have z0 := K4.out.c.1; have z1 := K4.out.c.2.1; clear hb K3)
        | (go_at_call 150; (with_reducible refine (WB.out _ K4.out.bw).mono ?_); rintro e wb ⟨rfl, hb⟩; have K5 := Lib.hid (K4.out.below hb); have z9 := K5.out.c.2.2.2.2.1; have yf := K5.out.c.2.2.2.2.2; have K6 := Lib.hid (K5.out.put 9 1 1 1 1 1 (-1) rfl); clear hb K4 K5))
      generalize hwc : World.setCell _ _ _ = wc
      rw [hwc] at K6
      clear hwc z9 yf z0 z1
      have z0 := K6.out.c.1; have z1 := K6.out.c.2.1; have z10 := K6.out.c.2.2.1
      go_wp2_with (go_at_call 151; (with_reducible refine (SB.out _).mono ?_); rintro e wd ⟨rfl, hb⟩; have K7 := Lib.hid (K6.out.below hb); have z10b := K7.out.c.2.2.1; have yf := K7.out.c.2.2.2.2.2; have K8 := Lib.hid (K7.out.put 10 1 1 1 1 1 1 rfl); clear hb K6 K7)
      go_roundw
      case rel => exact ⟨Lib.hid K8.out.bw, Lib.hid K8.out.zw, Or.inr (Or.inr ⟨by first | rfl | simp, Lib.hid K8.out.rw⟩)⟩
      case measure => simp [intOf]
    · have yy := fun i => cell_of_row _ _ i _ _ _ HH.out
      have k0 := yy 0
      have k1 := yy 1
      have k2 := yy 2
      have k3 := yy 3
      have k4 := yy 4
      have k5 := yy 5
      have k6 := yy 6
      have k7 := yy 7
      have k8 := yy 8
      have k9 := yy 9
      have k10 := yy 10
      dsimp at k0 k1 k2 k3 k4 k5 k6 k7 k8 k9 k10
      have ER := Lib.hid HZ.out
      have rr := fun i => cell_of_row _ _ i _ _ _ HZ.out
      have r0 := rr 0
      have r1 := rr 1
      have r2 := rr 2
      have r3 := rr 3
      have r4 := rr 4
      have r5 := rr 5
      have r6 := rr 6
      have r7 := rr 7
      have r8 := rr 8
      have r9 := rr 9
      have r10 := rr 10
      dsimp at r0 r1 r2 r3 r4 r5 r6 r7 r8 r9 r10
      have yf := fun i => frozen_of_row _ w.heap.size i _ _ HZ.out
      clear yy rr HH HZ
      go_wp2_with fail
      clear k0 k1 k2 k3 k4 k5 k6 k7 k8 k9 k10 r0 r1 r2 r3 r4 r5 r6 r7 r8 r9 r10 yf
      generalize hWF : World.setCell _ _ _ = WF
      have hq : WF.heap[w.heap.size]? = some (.cells #[.int .i64 2, .int .i64 1, .int .i64 0, .int .i64 1, .int .i64 0, .int .i64 0, .int .i64 0, .int .i64 1, .int .i64 0, .int .i64 1, .int .i64 1] 149 (0, 0)) := by
        rw [← hWF]; exact blk_set (blk_set (blk_set (blk_set (blk_set (blk_set (blk_set (blk_set (blk_set (blk_set (blk_set ER.out 0 _) 1 _) 2 _) 3 _) 4 _) 5 _) 6 _) 7 _) 8 _) 9 _) 10 _
      have hB : Below w.heap.size w WF := by
        rw [← hWF]
        exact (((((((((((HB.out.setCell (p := ⟨w.heap.size, 0, none⟩) (Nat.le_refl _) _).setCell (p := ⟨w.heap.size, 1, none⟩) (Nat.le_refl _) _).setCell (p := ⟨w.heap.size, 2, none⟩) (Nat.le_refl _) _).setCell (p := ⟨w.heap.size, 3, none⟩) (Nat.le_refl _) _).setCell (p := ⟨w.heap.size, 4, none⟩) (Nat.le_refl _) _).setCell (p := ⟨w.heap.size, 5, none⟩) (Nat.le_refl _) _).setCell (p := ⟨w.heap.size, 6, none⟩) (Nat.le_refl _) _).setCell (p := ⟨w.heap.size, 7, none⟩) (Nat.le_refl _) _).setCell (p := ⟨w.heap.size, 8, none⟩) (Nat.le_refl _) _).setCell (p := ⟨w.heap.size, 9, none⟩) (Nat.le_refl _) _).setCell (p := ⟨w.heap.size, 10, none⟩) (Nat.le_refl _) _)
      have gg := fun i => cell_of_row _ _ i _ _ _ hq
      have g0 := gg 0
      have g1 := gg 1
      have g2 := gg 2
      have g3 := gg 3
      have g4 := gg 4
      have g5 := gg 5
      have g6 := gg 6
      have g7 := gg 7
      have g8 := gg 8
      have g9 := gg 9
      have g10 := gg 10
      dsimp at g0 g1 g2 g3 g4 g5 g6 g7 g8 g9 g10
      refine bodyPost_ret (v := .agg #[.int .i64 2, .int .i64 1, .int .i64 0, .int .i64 1, .int .i64 0, .int .i64 0, .int .i64 0, .int .i64 1, .int .i64 0, .int .i64 1, .int .i64 1]) (by simp [results, Tryd.results109, go_sem, g0, g1, g2, g3, g4, g5, g6, g7, g8, g9, g10]) rfl ?_
      exact ⟨rfl, hB⟩
end Go.Proofs.YtgpcflpeddnfcaaDoor
set_option linter.unusedVariables false
set_option linter.unusedSimpArgs false
namespace Go.Proofs.YtgpcflpeddnfcaaDoor
open Go.RowKit
theorem ows_sln {w : World} {B : Nat} {v : Value} {L : List (Int × Int)} {n : Nat} (h : OwS w B v L) (hn : L.length = n) : ∃ a c, v = .slice a n c ∧ Signs w a L := by
  subst hn
  obtain ⟨a, c, e, s⟩ := h.sl
  exact ⟨a, c, e, s.s⟩
theorem onL_at (Q : List Int) (l : List (Int × Int)) (i : Nat) (hi : i < l.length) (h : (l.getD i (0, 0)).2 ∈ Q) : (onL Q (l.take i)).length < (onL Q l).length ∧ (onL Q l).getD (onL Q (l.take i)).length (0, 0) = l.getD i (0, 0) := by
  have h1 := onL_next Q l i hi
  rw [if_pos h] at h1
  have h2 : onL Q l = onL Q (l.take (i + 1)) ++ onL Q (l.drop (i + 1)) := by
    unfold onL
    rw [← List.filter_append, List.take_append_drop]
  rw [h2, h1, List.append_assoc]
  refine ⟨by rw [List.length_append]; simp, ?_⟩
  rw [List.getD, List.getElem?_append_right (Nat.le_refl _), Nat.sub_self]
  rfl
theorem enK_pre (l : List (Int × Int)) (i : Nat) : ∀ k, ∃ r, enK l (i + k) = enK l i ++ r
  | 0 => ⟨[], by rw [Nat.add_zero, List.append_nil]⟩
  | k + 1 => by
    obtain ⟨r, hr⟩ := enK_pre l i k
    exact ⟨r ++ (if isE (l.getD (i + k) (0, 0)) then [((i + k : Nat) : Int)] else []), by rw [← Nat.add_assoc, enK_next, hr, List.append_assoc]⟩
theorem enK_at (l : List (Int × Int)) (n i : Nat) (hi : i < n) (h : isE (l.getD i (0, 0))) : (enK l i).length < (enK l n).length ∧ (enK l n).getD (enK l i).length 0 = (i : Int) := by
  have h1 := enK_next l i
  rw [if_pos h] at h1
  obtain ⟨k, rfl⟩ : ∃ k, n = i + 1 + k := ⟨n - (i + 1), by omega⟩
  obtain ⟨r, hr⟩ := enK_pre l (i + 1) k
  rw [hr, h1, List.append_assoc]
  refine ⟨by rw [List.length_append]; simp, ?_⟩
  rw [List.getD, List.getElem?_append_right (Nat.le_refl _), Nat.sub_self]
  rfl
end Go.Proofs.YtgpcflpeddnfcaaDoor
set_option linter.unusedVariables false
set_option linter.unusedSimpArgs false
namespace Go.Proofs.YtgpcflpeddnfcaaDoor
open Go.RowKit
theorem neqSgS (v u : Int) (w : World) : (binOp .neq 70 (.agg #[.int .i64 v, .int .i64 u]) (.agg #[.int .i64 v, .int .i64 u])).run Tryd.prog w = .ok (.bool false) w := by simp [go_sem]
set_option maxHeartbeats 8000000 in
theorem taintonly_main (l : List (Int × Int)) (Q : List Int) (a b : Option Addr) (n c m d : Nat) (w : World) (hn : l.length = n) (hm : Q.length = m) (hl : n ≤ 100) (hl2 : m ≤ 20) (hs : Signs w a l) (hQ : Row w b Q)
    (AW : Hid (∀ w', Below w.heap.size w w' → Calls Tryd.prog 56 #[] w' fun e w'' => e = .returned (.bool true) ∧ Below w'.heap.size w' w'')) :
    Calls Tryd.prog 11 #[.slice a n c, .slice b m d] w fun e w' => e = .returned (.bool true) ∧ Below w.heap.size w w' := by
  obtain ⟨no, hno⟩ : ∃ no, (onL Q l).length = no := ⟨_, rfl⟩
  obtain ⟨ne, hne⟩ : ∃ ne, (enK l n).length = ne := ⟨_, rfl⟩
  have ON := Lib.hid (only_any l Q a b n c m d w hn hm (by omega) (by omega) hs hQ)
  have EN := Lib.hid fun (w' : World) (hb : Below w.heap.size w w') => ends_any l a n c w' hn (by omega) (hs.below hb)
  have HS := Lib.hid hs
  have HQ := Lib.hid hQ
  have HN := Lib.hid hn
  have HM := Lib.hid hm
  have HNO := Lib.hid hno
  have HNE := Lib.hid hne
  have hl1 : ¬ (100 : Int) < n := by omega
  have hl3 : ¬ (20 : Int) < m := by omega
  clear hs hQ hn hm hno hne
  go_enter Tryd.func11, Tryd.ntmps11
  go_upto_region 4 with (first
    | (go_at_call 57; refine ON.out.mono ?_; rintro e w1 ⟨x, rfl, ho, hb⟩; obtain ⟨ao, co, rfl, so⟩ := ows_sln ho HNO.out; have S1 := Lib.hid so; have N1 := Lib.hid hb; clear so ho hb ON)
    | (go_at_call 58; refine (EN.out _ N1.out).mono ?_; rintro e w2 ⟨y, rfl, he, hb⟩; obtain ⟨ae, ce, rfl, re⟩ := esI.row he HNE.out; have R2 := Lib.hid re; have S2 := Lib.hid (S1.out.below hb); have N2 := Lib.hid (seqB N1.out hb); clear re he hb EN S1 N1))
  go_wp2_with fail
  go_loopw [7, 8, 9] (fun kv nv iv wr => ∃ i : Nat, i ≤ n ∧ iv = .int .i64 (i : Int) ∧ kv = .int .i64 ((onL Q (l.take i)).length : Int) ∧ nv = .int .i64 ((enK l i).length : Int) ∧ Hid (Below w2.heap.size w2 wr)) (fun _ _ iv _ => n - (intOf iv).toNat)
  case atStart => exact ⟨0, Nat.zero_le _, rfl, rfl, rfl, Lib.hid (Below.refl _ _)⟩
  case round =>
    obtain ⟨i, hi, rfl, rfl, rfl, HB⟩ := hrel
    by_cases hlt : i < n
    · have hi1 : (i : Int) < n := by omega
      have hi0 : (0 : Int) ≤ i := by omega
      obtain ⟨bb, off, rfl, hblk, c1, c2⟩ := (HS.out.below (seqB N2.out HB.out)) i (by rw [HN.out]; exact hlt)
      have hna := onL_next Q l i (by rw [HN.out]; exact hlt)
      have hne := enK_next l i
      have hoa := onL_at Q l i (by rw [HN.out]; exact hlt)
      have hea := enK_at l n i hlt
      have hlo := onL_len Q l i
      have hle := enK_len l i
      rw [HNO.out] at hoa
      rw [HNE.out] at hea
      have hna2 := congrArg List.length hna
      have hne2 := congrArg List.length hne
      rw [List.length_append] at hna2 hne2
      obtain ⟨K, hK⟩ : ∃ K, (onL Q (l.take i)).length = K := ⟨_, rfl⟩
      obtain ⟨E, hE⟩ : ∃ E, (enK l i).length = E := ⟨_, rfl⟩
      obtain ⟨⟨v, u⟩, hvu⟩ : ∃ q, l.getD i (0, 0) = q := ⟨_, rfl⟩
      rw [hvu] at hna2 hne2 c1 c2 hoa hea
      rw [hK] at hna2 hoa hlo ⊢
      rw [hE] at hne2 hea hle ⊢
      dsimp only at hna2 hne2 c1 c2 hoa hea
      have HO := Lib.hid hoa
      have HE := Lib.hid hea
      have HK2 := Lib.hid hna2
      have HE2 := Lib.hid hne2
      have C1 := Lib.hid c1
      have C2 := Lib.hid c2
      clear hna hne hoa hea hna2 hne2 hK hE hvu c1 c2
      have hKb : (0 : Int) ≤ K := by omega
      have hEb : (0 : Int) ≤ E := by omega
      have hKc : (K : Int) ≤ 100 := by omega
      have hEc : (E : Int) ≤ 100 := by omega
      go_wp2_with fail
      go_loopw [10, 11] (fun hv jv ws => ∃ j : Nat, j ≤ m ∧ jv = .int .i64 (j : Int) ∧ (∃ q : Bool, hv = .bool q ∧ Hid (q = decide (u ∈ Q.take j))) ∧ Hid (Below wr.heap.size wr ws)) (fun _ jv _ => m - (intOf jv).toNat)
      case atStart => exact ⟨0, Nat.zero_le _, rfl, ⟨false, rfl, Lib.hid (by simp)⟩, Lib.hid (Below.refl _ _)⟩
      case round =>
        obtain ⟨j, hj, rfl, ⟨q, rfl, HD⟩, HW⟩ := hrel
        by_cases hlt2 : j < m
        · have hj1 : (j : Int) < m := by omega
          have hj0 : (0 : Int) ≤ j := by omega
          obtain ⟨bq, oq, rfl, hc, _⟩ := (HQ.out.below (seqB N2.out (seqB HB.out HW.out))) j (by rw [HM.out]; exact hlt2)
          have d2 := (HW.out.cell (p := ⟨bb, off + i * 2 + 1, none⟩) hblk).trans C2.out
          have hx : Q.take (j + 1) = Q.take j ++ [Q.getD j 0] := by
            rw [List.take_add_one, List.getElem?_eq_getElem (by rw [HM.out]; exact hlt2), List.getD, List.getElem?_eq_getElem (by rw [HM.out]; exact hlt2)]; rfl
          obtain ⟨x, hxx⟩ : ∃ x, Q.getD j 0 = x := ⟨_, rfl⟩
          rw [hxx] at hc hx
          have HXT := Lib.hid hx
          clear hx hxx
          have HY : ∀ q2 : Bool, (q2 = true ↔ u ∈ Q.take j ∨ u = x) → Hid (q2 = decide (u ∈ Q.take (j + 1))) := fun q2 h => Lib.hid (by
            rw [HXT.out]
            have e : (u ∈ Q.take j ++ [x]) ↔ q2 = true := by rw [List.mem_append, List.mem_singleton]; exact h.symm
            cases q2
            · exact (decide_eq_false (fun h2 => by have := e.1 h2; cases this)).symm
            · exact (decide_eq_true (e.2 rfl)).symm)
          replace HY := Lib.hid HY
          cases q
          · have hni : ¬ u ∈ Q.take j := fun h => by have := HD.out; rw [decide_eq_true h] at this; cases this
            have HNI := Lib.hid hni
            clear hni HD
            by_cases hxu : x = u
            · subst hxu
              go_wp2_with fail
              go_quiet (fail)
              go_wp2_with fail
              go_roundw
              case rel => exact ⟨j + 1, by omega, by go_num, ⟨true, by first | rfl | simp, HY.out true ⟨fun _ => Or.inr (by first | rfl | trivial), fun _ => rfl⟩⟩, Lib.hid (drewN_below HW.out _)⟩
              case measure => (simp [intOf]; try omega)
            · have hxb : (x == u) = false := beq_eq_false_iff_ne.2 hxu
              go_wp2_with fail
              go_quiet (fail)
              go_wp2_with fail
              go_roundw
              case rel => exact ⟨j + 1, by omega, by go_num, ⟨false, by first | rfl | simp, HY.out false ⟨(fun h => by cases h), (fun h => absurd h (fun h => Or.elim h HNI.out (fun h => hxu h.symm)))⟩⟩, Lib.hid (drewN_below HW.out _)⟩
              case measure => (simp [intOf]; try omega)
          · have hin : u ∈ Q.take j := of_decide_eq_true HD.out.symm
            have HNI := Lib.hid hin
            clear hin HD
            go_wp2_with fail
            go_quiet (fail)
            go_wp2_with fail
            go_roundw
            case rel => exact ⟨j + 1, by omega, by go_num, ⟨true, by first | rfl | simp, HY.out true ⟨fun _ => Or.inl HNI.out, fun _ => rfl⟩⟩, Lib.hid (drewN_below HW.out _)⟩
            case measure => (simp [intOf]; try omega)
        · obtain rfl : j = m := by omega
          have hj1 : ¬ (j : Int) < j := by omega
          rw [← HM.out, List.take_length] at HD
          have d1 := (HW.out.cell (p := ⟨bb, off + i * 2, none⟩) hblk).trans C1.out
          have d2 := (HW.out.cell (p := ⟨bb, off + i * 2 + 1, none⟩) hblk).trans C2.out
          have HV := Lib.hid (seqB HB.out HW.out)
          have hcd : 0 ≤ 0 := Nat.le_refl 0
          cases q
          · have hnq : ¬ u ∈ Q := fun h => by have := HD.out; rw [decide_eq_true h] at this; cases this
            have HKN : Hid ((onL Q (l.take (i + 1))).length = K) := Lib.hid (by have := HK2.out; rw [if_neg hnq] at this; exact this)
            clear hnq HD
            by_cases hu : u = 2
            · subst hu
              by_cases hv : v = 10
              · subst hv
                have HEN : Hid ((enK l (i + 1)).length = E + 1) := Lib.hid (by have := HE2.out; rw [if_pos (show isE (10, 2) from ⟨rfl, Or.inl rfl⟩)] at this; exact this)
                have heq := HE.out (show isE (10, 2) from ⟨rfl, Or.inl rfl⟩)
                obtain ⟨be, oe, rfl, f1, _⟩ := (R2.out.below HV.out) E (by rw [HNE.out]; exact heq.1)
                rw [heq.2] at f1
                have hE1 : (E : Int) < ne := by have := heq.1; omega
                clear heq
                go_wp2_with fail
                go_roundw
                case rel => exact ⟨i + 1, by omega, by go_num, by rw [HKN.out] <;> go_num, by rw [HEN.out] <;> go_num, Lib.hid HV.out⟩
                case measure => (simp [intOf]; try omega)
              have hvb : (v == 10) = false := beq_eq_false_iff_ne.2 hv
              by_cases hv2 : v = 13
              · subst hv2
                have HEN : Hid ((enK l (i + 1)).length = E + 1) := Lib.hid (by have := HE2.out; rw [if_pos (show isE (13, 2) from ⟨rfl, Or.inr rfl⟩)] at this; exact this)
                have heq := HE.out (show isE (13, 2) from ⟨rfl, Or.inr rfl⟩)
                obtain ⟨be, oe, rfl, f1, _⟩ := (R2.out.below HV.out) E (by rw [HNE.out]; exact heq.1)
                rw [heq.2] at f1
                have hE1 : (E : Int) < ne := by have := heq.1; omega
                clear heq
                go_wp2_with fail
                go_roundw
                case rel => exact ⟨i + 1, by omega, by go_num, by rw [HKN.out] <;> go_num, by rw [HEN.out] <;> go_num, Lib.hid HV.out⟩
                case measure => (simp [intOf]; try omega)
              have hvb2 : (v == 13) = false := beq_eq_false_iff_ne.2 hv2
              have HEN : Hid ((enK l (i + 1)).length = E) := Lib.hid (by have := HE2.out; rw [if_neg (show ¬ isE (v, 2) from fun h => h.2.elim hv hv2)] at this; exact this)
              go_wp2_with fail
              go_roundw
              case rel => exact ⟨i + 1, by omega, by go_num, by rw [HKN.out] <;> go_num, by rw [HEN.out] <;> go_num, Lib.hid HV.out⟩
              case measure => (simp [intOf]; try omega)
            have hub : (u == 2) = false := beq_eq_false_iff_ne.2 hu
            have HEN : Hid ((enK l (i + 1)).length = E) := Lib.hid (by have := HE2.out; rw [if_neg (show ¬ isE (v, u) from fun h => hu h.1)] at this; exact this)
            go_wp2_with fail
            go_roundw
            case rel => exact ⟨i + 1, by omega, by go_num, by rw [HKN.out] <;> go_num, by rw [HEN.out] <;> go_num, Lib.hid HV.out⟩
            case measure => (simp [intOf]; try omega)
          · have hiq : u ∈ Q := of_decide_eq_true HD.out.symm
            have HKN : Hid ((onL Q (l.take (i + 1))).length = K + 1) := Lib.hid (by have := HK2.out; rw [if_pos hiq] at this; exact this)
            have hoq := HO.out hiq
            obtain ⟨bo, oo, rfl, _, g1, g2⟩ := (S2.out.below HV.out) K (by rw [HNO.out]; exact hoq.1)
            rw [hoq.2] at g1 g2
            dsimp only at g1 g2
            have hK1 : (K : Int) < no := by have := hoq.1; omega
            have hK1n : K < no := hoq.1
            clear hoq hiq HD
            by_cases hu : u = 2
            · subst hu
              by_cases hv : v = 10
              · subst hv
                have HEN : Hid ((enK l (i + 1)).length = E + 1) := Lib.hid (by have := HE2.out; rw [if_pos (show isE (10, 2) from ⟨rfl, Or.inl rfl⟩)] at this; exact this)
                have heq := HE.out (show isE (10, 2) from ⟨rfl, Or.inl rfl⟩)
                obtain ⟨be, oe, rfl, f1, _⟩ := (R2.out.below HV.out) E (by rw [HNE.out]; exact heq.1)
                rw [heq.2] at f1
                have hE1 : (E : Int) < ne := by have := heq.1; omega
                clear heq
                go_wp2_with fail
                go_quiet (fail)
                go_wp2_with fail
                go_roundw
                case rel => exact ⟨i + 1, by omega, by go_num, by rw [HKN.out] <;> go_num, by rw [HEN.out] <;> go_num, Lib.hid (drewN_below HV.out _)⟩
                case measure => (simp [intOf]; try omega)
              have hvb : (v == 10) = false := beq_eq_false_iff_ne.2 hv
              by_cases hv2 : v = 13
              · subst hv2
                have HEN : Hid ((enK l (i + 1)).length = E + 1) := Lib.hid (by have := HE2.out; rw [if_pos (show isE (13, 2) from ⟨rfl, Or.inr rfl⟩)] at this; exact this)
                have heq := HE.out (show isE (13, 2) from ⟨rfl, Or.inr rfl⟩)
                obtain ⟨be, oe, rfl, f1, _⟩ := (R2.out.below HV.out) E (by rw [HNE.out]; exact heq.1)
                rw [heq.2] at f1
                have hE1 : (E : Int) < ne := by have := heq.1; omega
                clear heq
                go_wp2_with fail
                go_quiet (fail)
                go_wp2_with fail
                go_roundw
                case rel => exact ⟨i + 1, by omega, by go_num, by rw [HKN.out] <;> go_num, by rw [HEN.out] <;> go_num, Lib.hid (drewN_below HV.out _)⟩
                case measure => (simp [intOf]; try omega)
              have hvb2 : (v == 13) = false := beq_eq_false_iff_ne.2 hv2
              have HEN : Hid ((enK l (i + 1)).length = E) := Lib.hid (by have := HE2.out; rw [if_neg (show ¬ isE (v, 2) from fun h => h.2.elim hv hv2)] at this; exact this)
              go_wp2_with fail
              go_quiet (fail)
              go_wp2_with fail
              go_roundw
              case rel => exact ⟨i + 1, by omega, by go_num, by rw [HKN.out] <;> go_num, by rw [HEN.out] <;> go_num, Lib.hid (drewN_below HV.out _)⟩
              case measure => (simp [intOf]; try omega)
            have hub : (u == 2) = false := beq_eq_false_iff_ne.2 hu
            have HEN : Hid ((enK l (i + 1)).length = E) := Lib.hid (by have := HE2.out; rw [if_neg (show ¬ isE (v, u) from fun h => hu h.1)] at this; exact this)
            go_wp2_with fail
            go_quiet (fail)
            go_wp2_with fail
            go_roundw
            case rel => exact ⟨i + 1, by omega, by go_num, by rw [HKN.out] <;> go_num, by rw [HEN.out] <;> go_num, Lib.hid (drewN_below HV.out _)⟩
            case measure => (simp [intOf]; try omega)
    · obtain rfl : i = n := by omega
      have hi1 : ¬ (i : Int) < i := by omega
      have e1 : (onL Q (l.take i)).length = no := by rw [← HN.out, List.take_length]; exact HNO.out
      have e2 : (enK l i).length = ne := HNE.out
      rw [e1, e2]
      clear e1 e2
      have AK := Lib.hid (AW.out _ (seqB N2.out HB.out))
      go_wp2_with (go_at_call 56; refine AK.out.mono ?_; rintro x w4 ⟨rfl, hb⟩; have N4 := Lib.hid (seqB (seqB N2.out HB.out) hb); clear hb)
      go_ret
      exact ⟨rfl, N4.out⟩
end Go.Proofs.YtgpcflpeddnfcaaDoor
set_option linter.unusedVariables false
set_option linter.unusedSimpArgs false
namespace Go.Proofs.YtgpcflpeddnfcaaDoor
open Go.RowKit
theorem infoStr : (Tryd.prog.info? 9).map (fun i => (i.zero, i.size, i.bytes)) = some (some (.string ⟨#[]⟩), 1, 16) := by kernel_rfl
/-- The words, behind a variable in block P. -/
structure WdS (B P : Nat) (E : List ByteArray) (w : World) : Prop where
  ex : ∃ v, w.heap[P]? = some (.cells #[v] 135 (0, 0)) ∧ w.ownsRow B 9 1 v E.length (E.map Value.string)
  le : B ≤ w.heap.size
theorem WdS.below {B P : Nat} {E : List ByteArray} {w w' : World} (h : WdS B P E w) (hb : Below w.heap.size w w') : WdS B P E w' := by
  obtain ⟨v, h1, h2⟩ := h.ex
  exact ⟨⟨v, blk_below h1 hb, World.ownsRow.kept h2 (row := none) ⟨hb.os, hb.tape, hb.output, hb.size, fun k hk _ => hb.block k hk⟩ (by cases v.ownBlock <;> simp)⟩, Nat.le_trans h.le hb.size⟩
/-- All blocks below B stay, but P. -/
structure KeW (B P : Nat) (w w' : World) : Prop where
  os : w'.os = w.os
  tape : w'.tape = w.tape
  output : w'.output = w.output
  size : w.heap.size ≤ w'.heap.size
  block : ∀ k, k < B → k ≠ P → w'.heap[k]? = w.heap[k]?
theorem KeW.refl (B P : Nat) (w : World) : KeW B P w w := ⟨rfl, rfl, rfl, Nat.le_refl _, fun _ _ _ => rfl⟩
theorem KeW.trans {B P : Nat} {w w' w'' : World} (h : KeW B P w w') (h2 : KeW B P w' w'') : KeW B P w w'' :=
  ⟨h2.os.trans h.os, h2.tape.trans h.tape, h2.output.trans h.output, Nat.le_trans h.size h2.size, fun k hk hp => (h2.block k hk hp).trans (h.block k hk hp)⟩
theorem KeW.of {B P : Nat} {w w' : World} (h : Below w.heap.size w w') (hB : B ≤ w.heap.size) : KeW B P w w' := ⟨h.os, h.tape, h.output, h.size, fun k hk _ => h.block k (by omega)⟩
theorem KeW.below {B P : Nat} {w w' : World} (h : KeW B P w w') {D : Nat} (h1 : D ≤ P) (h2 : D ≤ B) : Below D w w' := ⟨h.os, h.tape, h.output, h.size, fun k hk => h.block k (by omega) (by omega)⟩
theorem row_ge {w : World} {B : Nat} {v : Value} {n size : Nat} {e : TypeId} {xs : List Value} (h : w.ownsRow B e size v n xs) {k : Nat} (hk : k < B) : some k ≠ v.ownBlock := fun e => by
  have := (h.lt k e.symm).1; omega
theorem wds_next {B P : Nat} {E F : List ByteArray} {w w1 : World} {v u : Value} (h : WdS B P E w) (hv : w.ownsRow B 9 1 v E.length (E.map Value.string)) (ho : w1.ownsRow B 9 1 u F.length (F.map Value.string)) (hg : w.grownBy w1 v.ownBlock) :
    WdS B P F (w1.setCell ⟨P, 0, none⟩ u) ∧ KeW B P w (w1.setCell ⟨P, 0, none⟩ u) := by
  have hle := h.le
  have hb := fun k (hk : k < B) => hg.block k (by omega) (row_ge hv hk)
  obtain ⟨x, hx, _⟩ := h.ex
  have hp1 : w1.heap[P]? = some (.cells #[x] 135 (0, 0)) := (hg.block P (blk_lt hx) (fun e => own_ne_kind hv hx (by decide) e.symm)).trans hx
  have hz : (w1.setCell ⟨P, 0, none⟩ u).heap.size = w1.heap.size := by simp [World.setCell]
  refine ⟨⟨⟨u, blk_set hp1 0 u, ?_⟩, by rw [hz]; exact Nat.le_trans hle hg.size⟩, ⟨hg.os, hg.tape, hg.output, by rw [hz]; exact hg.size, fun k hk hkp => (Below.heap_setCell w1 ⟨P, 0, none⟩ u k hkp).trans (hb k hk)⟩⟩
  exact own_set ho (own_ne_kind ho hp1 (by decide)) u
def decB (n : Int) : ByteArray := ⟨(decS n).toArray⟩
theorem txt1_no (s : ByteArray) (Q : Nat) (w : World) : Calls Tryd.prog 152 #[.string s, .int .i64 0, .pointer (some ⟨Q, 0, none⟩)] w fun e w' => e = .returned (.tuple #[]) ∧ w = w' := by
  go_enter Tryd.func152, Tryd.ntmps152
  go_wp2
  go_end0
  exact ⟨rfl, rfl⟩
set_option maxHeartbeats 8000000 in
theorem txt1_yes (s : ByteArray) (n : Int) (B P : Nat) (E : List ByteArray) (w : World) (h : WdS B P E w) (hn0 : n ≠ 0) (h0 : -9223372036854775808 ≤ n) (h1 : n ≤ 9223372036854775807) (hE : E.length ≤ 1000) :
    Calls Tryd.prog 152 #[.string s, .int .i64 n, .pointer (some ⟨P, 0, none⟩)] w fun e w' => e = .returned (.tuple #[]) ∧ WdS B P (E ++ [s, decB n]) w' ∧ KeW B P w w' := by
  obtain ⟨i1, hj, hy0, hy1, hy2⟩ := info_parts infoStr
  obtain ⟨v, hx, ho⟩ := h.ex
  obtain ⟨t, ht⟩ : ∃ t, E.length = t := ⟨_, rfl⟩
  have hf : ∃ a c, v = .slice a t c := by
    rw [ht] at ho
    rcases ho.2 with ⟨rfl, h0⟩ | ⟨g, cap, cur, rfl, _⟩
    · exact ⟨none, 0, by rw [h0]⟩
    · exact ⟨_, cap, rfl⟩
  obtain ⟨ta, tc, rfl⟩ := hf
  have DC := Lib.hid (dec_any n w.drew h0 h1)
  have H := Lib.hid h
  have HT := Lib.hid ht
  have X := Lib.hid hx
  have O := Lib.hid ho
  have y0 := cell_of_row _ _ 0 _ _ _ hx
  have yf := frozen_of_row _ P 0 _ _ hx
  dsimp at y0
  have hnb : (n == 0) = false := beq_eq_false_iff_ne.2 hn0
  have htl : t ≤ 1000 := by omega
  clear h hx ho ht h0 h1 hE
  go_enter Tryd.func152, Tryd.ntmps152
  go_upto_region 1 with fail
  go_region_law (first
    | (go_simp; go_at_call 95; refine DC.out.mono ?_; rintro e wa ⟨rfl, hb⟩; have D1 : Below w.heap.size w wa := (Below.refl _ w).drew.trans hb; have D2 := below_alloc wa (.cells #[.string s, .string ⟨(decS n).toArray⟩] 9); have D3 := Lib.hid (seqB D1 D2); have H3 := Lib.hid (H.out.below D3.out); have y0a := cell_of_row _ _ 0 _ _ _ (blk_below X.out D1); have y0c := cell_of_row _ _ 0 _ _ _ (blk_below X.out D3.out); dsimp at y0a y0c; have O3 := Lib.hid (World.ownsRow.kept O.out (row := none) ⟨D3.out.os, D3.out.tape, D3.out.output, D3.out.size, fun k hk _ => D3.out.block k hk⟩ (by cases (Value.slice ta t tc).ownBlock <;> simp)); clear hb D1 D2)
    | (refine step_append_lies _ (by rfl) _ _ _ (by rfl) B 9 i1 _ 1 16 Tryd.underlying135 hj hy0 hy1 hy2 rfl (by decide) _ t (E.map Value.string) (by rfl) (by have := O3.out; rw [HT.out] at this; exact this) ⟨wa.heap.size, 0, none⟩ 2 2 [.string s, .string ⟨(decS n).toArray⟩] (by rfl) (by rfl) (fun j x hj => app_cells rfl hj) (by simp [Value.oneCell']) (by omega) (by unfold maxLen; omega) (by omega) H3.out.le (wa.heap.size + 1) (by simp) ?_; intro gg cap w5 hown hgrow hat hlt5; have FF := wds_next (F := E ++ [s, decB n]) H3.out O3.out (by rw [List.length_append, HT.out, List.map_append]; exact hown) hgrow; have hb5 := (hgrow.block P (blk_lt (blk_below X.out D3.out)) (fun e => own_ne_kind O3.out (blk_below X.out D3.out) (by decide) e.symm)).trans (blk_below X.out D3.out); have y5 := cell_of_row _ _ 0 _ _ _ hb5; have yf5 := frozen_of_row _ P 0 _ _ hb5; dsimp at y5; have HFF := Lib.hid FF; clear FF hown hgrow hat hlt5 hb5))
  all_goals go_wp2
  all_goals go_end0
  all_goals exact ⟨rfl, HFF.out.1, (KeW.of D3.out H.out.le).trans HFF.out.2⟩
end Go.Proofs.YtgpcflpeddnfcaaDoor
