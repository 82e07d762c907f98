/-
  Joined: Sp4 Sp5 Es1 Bj1 Ky18 Es2 Es3 Es4 Es5 Es6.
-/
import Derived.Test.YtangpdaoacjinaaDoorJW03
import Derived.Test.YtangpdaoacjinaaDoorJW04
import Derived.Test.YtangpdaoacjinaaDoorJW06
import Derived.Test.YtangpdaoacjinaaDoorJW07
import Derived.Test.YtangpdaoacjinaaDoorJW08
import Derived.Test.YtangpdaoacjinaaDoorShelf
import Derived.Lib.UnsafeStr
import Derived.Lib.QuietBelow
import Derived.BigQuiet
import Derived.Deep.Cut
import Derived.Deep.CutRange
import Derived.Deep.RegionHeld3
import Derived.Deep.Onto
set_option linter.unusedVariables false
set_option linter.unusedSimpArgs false
set_option maxRecDepth 100000
set_option linter.unusedVariables false
set_option linter.unusedSimpArgs false
namespace Go.Proofs.YtangpdaoacjinaaDoor
open Go.RowKit
/-- The tables that are read. -/
structure SpT (w : World) : Prop where
  c : Tabs w
  u : UT w
theorem SpT.below {w w' : World} (h : SpT w) (hb : Below w.heap.size w w') : SpT w' := ⟨h.c.below hb, h.u.below hb⟩
theorem blS_below {B b : Nat} {bs : List Value} {w w' : World} (h : IsBld B b bs w) (hb : Below w.heap.size w w') : IsBld B b bs w' := by
  rcases h with ⟨hB, v, h1, h2, h3⟩ | ⟨hB, v, h1, h2, h3⟩
  · exact Or.inl ⟨hB, v, blk_below h1 hb, own_below h2 hb, h3⟩
  · exact Or.inr ⟨hB, v, blk_below h1 hb, own_below h2 hb, h3⟩
theorem blS_new (w : World) : IsBld w.heap.size w.heap.size [] (w.alloc (.cells #[.pointer none, .slice none 0 0] 99)) :=
  Or.inl ⟨Nat.le_refl _, _, heap_alloc_new w _, World.ownsRow_nil _ _ _ _, by simp [Value.ownBlock]⟩
/-- A builder whose row's block is not another one. -/
theorem blS_iter {B b : Nat} {bs : List Value} {w : World} {R : Nat} {s : ByteArray} {i : Nat} (h : IsBld B b bs w) (hb : w.heap[R]? = some (.stringIter s i)) (j : Nat) : IsBld B b bs (w.iterAt R s j) := by
  have hne : ∀ v p, w.heap[b]? = some (.cells #[p, v] 99 (0, 0)) → b ≠ R := fun v p h1 e => by rw [e, hb] at h1; cases h1
  rcases h with ⟨hB, v, h1, h2, h3⟩ | ⟨hB, v, h1, h2, h3⟩
  · exact Or.inl ⟨hB, v, (Lib.iterAt_other w R b s j (hne _ _ h1)).trans h1, own_iter h2 hb j, h3⟩
  · exact Or.inr ⟨hB, v, (Lib.iterAt_other w R b s j (hne _ _ h1)).trans h1, own_iter h2 hb j, h3⟩
theorem bldAt_apart {B b : Nat} {p : Value} {bs : List Value} {w : World} {R : Nat} {s : ByteArray} {i : Nat} (h : BldAt B b p bs w) (hb : w.heap[R]? = some (.stringIter s i)) : b ≠ R := by
  obtain ⟨hB, v, h1, h2, h3⟩ := h
  intro e; rw [e, hb] at h1; cases h1
/-- What a function tells of a value. -/
structure Tells (f : Int → List UInt8) (F : FuncId) : Prop where
  cf : ∀ (x : Int) (w : World), (callFunc F #[.int .i64 x]).run Tryd.prog w = .ok (.enter F #[.int .i64 x]) w
  run : ∀ v w, Tabs w → Calls Tryd.prog F #[.int .i64 v] w fun e w' => e = .returned (.string (mkL (f v))) ∧ Below w.heap.size w w'
theorem tells_sh : Tells shF 267 := ⟨fun _ _ => by kernel_rfl, fun v w h => by
  have := shtext_any v w h
  rw [show shT v = mkL (shF v) from rfl] at this
  exact this⟩
theorem bcheck_iter (B b : Nat) (bs : List Value) (w : World) (h : IsBld B b bs w) :
    Calls Tryd.prog 110 #[.pointer (some ⟨b, 0, none⟩)] w fun e w' => e = .returned (.tuple #[]) ∧ BldAt B b (.pointer (some ⟨b, 0, none⟩)) bs w' ∧ Below B w w' ∧ ∀ R, R ≠ b → w'.heap[R]? = w.heap[R]? := by
  rcases h with h | h
  · refine (bcheck_fresh b w h.cell0 h.shape h.frozen0).mono ?_
    rintro e w' ⟨rfl, rfl⟩
    exact ⟨rfl, h.used _, (Below.refl B w).setCell (p := ⟨b, 0, none⟩) h.1 _, fun R hR => Below.heap_setCell _ _ _ _ hR⟩
  · refine (bcheck_used b w h.cell0).mono ?_
    rintro e w' ⟨rfl, rfl⟩
    exact ⟨rfl, h, Below.refl B _, fun _ _ => rfl⟩
set_option maxHeartbeats 2000000 in
set_option maxRecDepth 100000 in
/-- A text comes behind what a builder has; an iterator stays. -/
theorem bwrite_iter (B b : Nat) (bs : List Value) (s : ByteArray) (w : World) (h : IsBld B b bs w) (R : Nat) (t : ByteArray) (i : Nat) (hR : w.heap[R]? = some (.stringIter t i)) (hlen : bs.length + s.size ≤ 140737488355328) (hBw : B ≤ w.heap.size) :
    Calls Tryd.prog 52 #[.pointer (some ⟨b, 0, none⟩), .string s] w fun e w' => e = .returned (.tuple #[.int .i64 s.size, .nilIface]) ∧ IsBld B b (bs ++ Lib.strCells s) w' ∧ Below B w w' ∧ w'.heap[R]? = some (.stringIter t i) := by
  obtain ⟨i0, hi, hz0, hz1, hz2⟩ := info_parts infoU8
  have C := Lib.hid (bcheck_iter B b bs w h)
  have hRb : R ≠ b := fun e => by
    rcases h with ⟨_, v, h1, _⟩ | ⟨_, v, h1, _⟩
    · rw [← e, hR] at h1; cases h1
    · rw [← e, hR] at h1; cases h1
  have HR := Lib.hid hR
  have hRl := blk_lt hR
  clear h hR
  go_enter Tryd.func52, Tryd.ntmps52
  go_wp2_with (go_at_call 110; refine C.out.mono ?_)
  rintro e w1 ⟨rfl, hB1, hb1, hk1⟩
  obtain ⟨hB, v, hbk, hown, hne⟩ := hB1
  have hR1 := (hk1 R hRb).trans HR.out
  have c0 := Lib.cell_of_heap hbk 0; have c1 := Lib.cell_of_heap hbk 1
  dsimp at c0 c1
  have HR1 := Lib.hid hR1
  have hap := Lib.hid (own_apart hown hR1)
  clear hR1 hk1
  go_wp2_with (at_builtin; refine Lib.wpList_append_own_string _ rfl _ _ 97 9 rfl B 5 i0 Tryd.underlying97 Tryd.underlying9 hi hz0 hz1 hz2 _ _ _ rfl hown s rfl ?g3 ?g4 ?g5 ?_)
  case g3 => unfold maxLen; omega
  case g4 => omega
  case g5 => have := hb1.size; omega
  intro v' w2 hown' hgrow _
  have hlt := blk_lt hbk
  have hb2 : w2.heap[b]? = some (.cells #[.pointer (some ⟨b, 0, none⟩), v] 99 (0, 0)) := (hgrow.block b hlt (fun e => hne e.symm)).trans hbk
  have hR2 : Hid (w2.heap[R]? = some (.stringIter t i)) := Lib.hid ((hgrow.block R (blk_lt HR1.out) (fun e => hap.out e.symm)).trans HR1.out)
  have d0 := Lib.cell_of_heap hb2 0
  have d1 := Lib.cell_of_heap hb2 1
  have f1 : w2.frozen? ⟨b, 1, none⟩ = false := Lib.frozen_of_heap hb2 1
  dsimp at d0 d1
  obtain ⟨ao, n', cap, rfl⟩ : ∃ ao n' cap, v' = .slice ao n' cap := by
    rcases hown'.2 with ⟨hv, _⟩ | ⟨g, cap, cur, hv, _⟩
    · exact ⟨_, _, _, hv⟩
    · exact ⟨_, _, _, hv⟩
  go_wp2
  go_ret2
  refine ⟨rfl, Or.inr ?_, ?_, (Below.heap_setCell _ _ _ _ hRb).trans hR2.out⟩
  · exact Lib.BuilderAt.put (T := 99) (e := 5) hB hb2 (bs' := bs ++ Lib.strCells s) (by simpa [Lib.strCells_length] using hown') (by decide)
  · exact (hb1.grown hgrow (by have := hb1.size; omega) (fun k hk => (hown.lt k hk).1)).setCell (p := ⟨b, 1, none⟩) hB _
end Go.Proofs.YtangpdaoacjinaaDoor
set_option linter.unusedVariables false
set_option linter.unusedSimpArgs false
namespace Go.Proofs.YtangpdaoacjinaaDoor
open Go.RowKit
structure SpInv (f : Int → List UInt8) (s : ByteArray) (w : World) (R : Nat) (i n : Nat) (acc : List Int) (wr : World) : Prop where
  b : IsBld w.heap.size w.heap.size (Lib.byteCells (tellL f acc)) wr
  it : wr.heap[R]? = some (.stringIter s i)
  bel : Below w.heap.size w wr
  ac : acc ++ valsF s n i = valsS s
  le : i ≤ s.size
  fu : s.size ≤ i + n
  al : acc.length ≤ i
theorem one_at (s : ByteArray) (i : Nat) (w : World) (hT : UT w) (hs : s.size ≤ 100000) (hi : i < s.size) : Calls Tryd.prog 208 #[.string (s.extract i s.size)] w fun e w' => e = .returned (.tuple #[.int .i64 ((vAt s i).1 : Int), .int .i64 ((vAt s i).2 : Int)]) ∧ Below w.heap.size w w' := by
  have h := one_any (s.extract i s.size) w hT (by rw [ext_size]; omega)
  have e : oneS (s.extract i s.size) = vAt s i := by
    unfold oneS; rw [if_neg (by rw [ext_size]; omega), vAt_tail s i 0 (by omega)]; rfl
  rw [e] at h
  exact h
end Go.Proofs.YtangpdaoacjinaaDoor
set_option linter.unusedVariables false
set_option linter.unusedSimpArgs false
namespace Go.Proofs.YtangpdaoacjinaaDoor
open Go.RowKit
/-- A value's letters. -/
def leF (v : Int) : List UInt8 := if v = 92 then [92, 92] else if 32 ≤ v ∧ v ≤ 126 then [v.toNat.toUInt8] else 92 :: 117 :: hexS v 6
def lnL (l : List (Int × Int)) : List UInt8 := l.flatMap fun p => leF p.1
theorem right_rng {v : Int} (h : rightB v = true) : 0 ≤ v ∧ v ≤ 1114367 := by
  unfold rightB at h
  rw [Bool.or_eq_true, ptB_iff, stB_iff] at h
  omega
theorem hex6 {v : Int} (h : rightB v = true) : hexS v 6 = hexL v 6 ∧ (hexL v 6).length = 6 ∧ uhR (hexL v 6) = v ∧ uhE (hexL v 6) = 0 ∧ ∀ c ∈ hexL v 6, 48 ≤ c.toNat ∧ c.toNat ≤ 70 := by
  have hr := right_rng h
  have hl := hexL_len v 6 6 (Nat.lt_of_le_of_lt (show v.toNat ≤ 1114367 by omega) (by decide)) (by decide) (by decide)
  have hn : (hexL v 6).length = 6 := by
    have : (6 : Int).toNat = 6 := rfl
    omega
  have hu := uh_hex v 6 hr.1 (by omega) (by rw [hexN_L v 6 (by omega)]; omega)
  rw [hexN_L v 6 (by omega)] at hu
  exact ⟨hexS_L v 6 hr.1 (by omega) (by omega), hn, hu.1, hu.2, hexL_ascii v 6⟩
theorem leF_ascii {v : Int} (h : rightB v = true) : ∀ c ∈ leF v, 32 ≤ c.toNat ∧ c.toNat ≤ 126 := by
  intro c hc
  unfold leF at hc
  split at hc
  · simp at hc; subst hc; decide
  · split at hc
    · rename_i h1 h2
      rw [List.mem_singleton] at hc
      subst hc
      have := u8_nat (x := v) (by omega) (by omega)
      omega
    · rw [(hex6 h).1] at hc
      simp only [List.mem_cons] at hc
      rcases hc with rfl | rfl | hc
      · decide
      · decide
      · have := (hex6 h).2.2.2.2 c hc; omega
theorem leF_len {v : Int} (h : rightB v = true) : 1 ≤ (leF v).length ∧ (leF v).length ≤ 8 := by
  unfold leF
  split
  · simp
  · split
    · simp
    · rw [(hex6 h).1]; simp [(hex6 h).2.1]
theorem sg_right {l : List (Int × Int)} (h : sgC l = true) : ∀ p ∈ l, rightB p.1 = true := by
  intro p hp
  unfold sgC at h
  rw [List.all_eq_true] at h
  have := h p hp
  unfold sgR at this
  rw [Bool.and_eq_true, Bool.and_eq_true] at this
  exact this.2.2
theorem lnL_ascii {l : List (Int × Int)} (h : sgC l = true) : ∀ c ∈ lnL l, 32 ≤ c.toNat ∧ c.toNat ≤ 126 := by
  intro c hc
  unfold lnL at hc
  rw [List.mem_flatMap] at hc
  obtain ⟨p, hp, hc⟩ := hc
  exact leF_ascii (sg_right h p hp) c hc
theorem lnL_cons (p : Int × Int) (l : List (Int × Int)) : lnL (p :: l) = leF p.1 ++ lnL l := rfl
theorem lnL_app (a b : List (Int × Int)) : lnL (a ++ b) = lnL a ++ lnL b := by unfold lnL; rw [List.flatMap_append]
theorem lnL_len {l : List (Int × Int)} (h : ∀ p ∈ l, rightB p.1 = true) : (lnL l).length ≤ 8 * l.length := by
  induction l with
  | nil => exact Nat.zero_le _
  | cons p l ih =>
    rw [lnL_cons, List.length_append, List.length_cons]
    have := (leF_len (h p (List.mem_cons_self ..))).2
    have := ih (fun q hq => h q (List.mem_cons_of_mem _ hq))
    omega
/-- The next value of letters, and of how many bytes it is. -/
def nxF (l : List UInt8) : Int × Nat :=
  if l.take 2 = [92, 92] then (92, 2)
  else if l.take 2 = [92, 117] ∧ 8 ≤ l.length ∧ uhE ((l.drop 2).take 6) = 0 ∧ rightB (uhR ((l.drop 2).take 6)) = true then (uhR ((l.drop 2).take 6), 8)
  else (((l.headD 0).toNat : Int), 1)
theorem nx_le {v : Int} (h : rightB v = true) (r : List UInt8) : nxF (leF v ++ r) = (v, (leF v).length) := by
  unfold nxF leF
  by_cases h1 : v = 92
  · subst h1; rw [if_pos rfl]; rfl
  · rw [if_neg h1]
    by_cases h2 : 32 ≤ v ∧ v ≤ 126
    · rw [if_pos h2]
      have hne : v.toNat.toUInt8 ≠ 92 := fun e => by
        have := u8_nat (x := v) (by omega) (by omega)
        rw [e] at this
        have : (92 : UInt8).toNat = 92 := rfl
        omega
      have ht : ∀ x, ([v.toNat.toUInt8] ++ r).take 2 ≠ [92, x] := fun x e => by
        cases r with
        | nil => simp at e
        | cons y r => simp at e; exact hne e.1
      rw [if_neg (ht 92), if_neg (fun e => ht 117 e.1)]
      have := u8_nat (x := v) (by omega) (by omega)
      show (((v.toNat.toUInt8).toNat : Int), 1) = _
      rw [this]
      refine Prod.ext ?_ rfl
      show ((v.toNat : Nat) : Int) = v
      omega
    · rw [if_neg h2]
      obtain ⟨e1, e2, e3, e4, _⟩ := hex6 h
      rw [e1]
      have ht : (92 :: 117 :: hexL v 6 ++ r).take 2 = [92, 117] := rfl
      have hd : ((92 :: 117 :: hexL v 6 ++ r).drop 2).take 6 = hexL v 6 := by
        show (hexL v 6 ++ r).take 6 = hexL v 6
        rw [List.take_append_of_le_length (by omega), List.take_of_length_le (by omega)]
      rw [ht, hd, if_neg (by decide), if_pos ⟨rfl, by simp [e2], e4, by rw [e3]; exact h⟩, e3]
      refine Prod.ext rfl ?_
      simp [e2]
/-- The values of letters, at most so many. -/
def unF : Nat → List UInt8 → Nat → List Int
  | 0, _, _ => []
  | f + 1, l, k => if l = [] then [] else match k with
    | 0 => []
    | k + 1 => (nxF l).1 :: unF f (l.drop (nxF l).2) k
theorem nx_pos (l : List UInt8) : 1 ≤ (nxF l).2 := by
  unfold nxF; split
  · show 1 ≤ 2; omega
  · split
    · show 1 ≤ 8; omega
    · show 1 ≤ 1; omega
theorem un_ln {l : List (Int × Int)} (h : ∀ p ∈ l, rightB p.1 = true) : ∀ f k, (lnL l).length ≤ f → l.length ≤ k → unF f (lnL l) k = l.map (·.1) := by
  induction l with
  | nil =>
    intro f k hf hk
    cases f with
    | zero => rfl
    | succ f => unfold unF; rw [if_pos (show lnL [] = [] from rfl)]; rfl
  | cons p l ih =>
    intro f k hf hk
    have hp := h p (List.mem_cons_self ..)
    have hl := leF_len hp
    rw [lnL_cons, List.length_append] at hf
    obtain ⟨g, rfl⟩ : ∃ g, f = g + 1 := ⟨f - 1, by omega⟩
    obtain ⟨m, rfl⟩ : ∃ m, k = m + 1 := ⟨k - 1, by simp at hk; omega⟩
    rw [lnL_cons]
    unfold unF
    rw [if_neg (fun e => by have := congrArg List.length e; rw [List.length_append] at this; simp at this; have := this.1; rw [this] at hl; simp at hl)]
    show (nxF _).1 :: unF g _ m = _
    rw [nx_le hp, List.drop_append_of_le_length (Nat.le_refl _), List.drop_of_length_le (Nat.le_refl _), List.nil_append, ih (fun q hq => h q (List.mem_cons_of_mem _ hq)) g m (by omega) (by simp at hk; omega)]
    rfl
/-- Unlike entries have unlike lines. -/
theorem ln_inj {a b : List (Int × Int)} (ha : ∀ p ∈ a, rightB p.1 = true) (hb : ∀ p ∈ b, rightB p.1 = true) (h : lnL a = lnL b) : a.map (·.1) = b.map (·.1) := by
  rw [← un_ln ha ((lnL a).length + (lnL b).length) (a.length + b.length) (by omega) (by omega), ← un_ln hb ((lnL a).length + (lnL b).length) (a.length + b.length) (by omega) (by omega), h]
theorem ln_vals {a b : List (Int × Int)} (h : a.map (·.1) = b.map (·.1)) : lnL a = lnL b := by
  have key : ∀ l : List (Int × Int), lnL l = (l.map (·.1)).flatMap leF := fun l => by
    unfold lnL; rw [List.flatMap_map]
  rw [key, key, h]
end Go.Proofs.YtangpdaoacjinaaDoor
set_option linter.unusedVariables false
set_option linter.unusedSimpArgs false
namespace Go.Proofs.YtangpdaoacjinaaDoor
open Go.RowKit
theorem jbld_below {B b : Nat} {bs : List Value} {w w' : World} (h : IsBld B b bs w) (hb : Below w.heap.size w w') : IsBld B b bs w' := by
  rcases h with ⟨hB, v, h1, h2, h3⟩ | ⟨hB, v, h1, h2, h3⟩
  · exact Or.inl ⟨hB, v, blk_below h1 hb, own_below h2 hb, h3⟩
  · exact Or.inr ⟨hB, v, blk_below h1 hb, own_below h2 hb, h3⟩
def szK (E : List ByteArray) : Nat → Nat
  | 0 => 0
  | k + 1 => szK E k + (E.getD k ⟨#[]⟩).size
theorem szK_le (E : List ByteArray) (M : Nat) (hE : ∀ i, (E.getD i ⟨#[]⟩).size ≤ M) : ∀ k, szK E k ≤ k * M
  | 0 => Nat.zero_le _
  | k + 1 => by
    have h1 := szK_le E M hE k
    have h2 := hE k
    show szK E k + (E.getD k ⟨#[]⟩).size ≤ _
    rw [Nat.add_mul]; omega
theorem elemST : Tryd.prog.elem 39 = 9 := by kernel_rfl
theorem sizeST (w : World) : (sizeOf 9).run Tryd.prog w = .ok 1 w := by kernel_rfl
theorem run_cutST (w : World) (a : Option Addr) (n c f : Nat) (h : f ≤ n) : (Instr.slice 39 (.slice a n c) (some (.int .i64 (f : Int))) none none).run Tryd.prog w = .ok (.slice (if c = f then a else a.map (·.add (f * 1))) (n - f) (c - f)) w := by
  rw [run_slice_l (P := Tryd.prog) w 39 a n c (by kernel_rfl) .i64 (f : Int) (by omega) (by omega), elemST, sizeST]
  rfl
theorem run_cutST1 (w : World) (b off n c : Nat) (h : 2 ≤ n) (hc : n ≤ c) : (Instr.slice 39 (.slice (some ⟨b, off, none⟩) n c) (some (.int .i64 1)) none none).run Tryd.prog w = .ok (.slice (some ⟨b, off + 1, none⟩) (n - 1) (c - 1)) w := by
  have := run_cutST w (some ⟨b, off, none⟩) n c 1 (by omega)
  rw [if_neg (by omega)] at this
  rw [show (some (Value.int .i64 ((1 : Nat) : Int))) = some (.int .i64 1) from rfl] at this
  rw [this, Option.map_some]
  have hadd : (⟨b, off, none⟩ : Addr).add (1 * 1) = ⟨b, off + 1, none⟩ := by unfold Addr.add; split <;> simp_all
  rw [hadd]
theorem bys_cells (l : List UInt8) (s : ByteArray) : Lib.byteCells (l ++ bysL s) = Lib.byteCells l ++ Lib.strCells s := by rw [Lib.byteCells_append]; rfl
theorem quo_big (k : Nat) (h0 : 0 < k) (h : k ≤ 1000000) : (1000000 : Int) < 9223372036854775807 / (k : Int) := by
  have h1 : (0 : Int) < (k : Int) := by omega
  have h2 : (9223372036854 : Int) ≤ 9223372036854775807 / (k : Int) := by
    apply Int.le_ediv_of_mul_le h1
    have : (9223372036854 : Int) * (k : Int) ≤ 9223372036854 * 1000000 := by omega
    omega
  omega
set_option maxHeartbeats 4000000 in
theorem join_any (sep : ByteArray) (E : List ByteArray) (a : Option Addr) (c : Nat) (w : World) (hs0 : 0 < sep.size) (hs : sep.size ≤ 1000000) (hE : ∀ i, (E.getD i ⟨#[]⟩).size ≤ 1000000) (h2 : 2 ≤ E.length) (hm : E.length ≤ 1000000) (hc : E.length ≤ c) (h : StI w a E) :
    Calls Tryd.prog 73 #[.slice a E.length c, .string sep] w fun e w' => e = .returned (.string ⟨(joK sep E E.length).toArray⟩) ∧ Below w.heap.size w w' := by
  obtain ⟨b, off, rfl, hbl, h0⟩ := h 0 (by omega)
  have hb0 := hbl
  rw [Nat.add_zero] at h0
  have HI := Lib.hid h
  have HE := Lib.hid hE
  have hq := quo_big (E.length - 1) (by omega) (by omega)
  have hqc : ((E.length - 1 : Nat) : Int) = (E.length : Int) - 1 := by omega
  rw [hqc] at hq
  have hq2 : ¬ (9223372036854775807 / ((E.length : Int) - 1) ≤ (sep.size : Int)) := by omega
  have hl1 : ¬ ((E.length : Int) = 0) := by omega
  have hl2 : ¬ ((E.length : Int) = 1) := by omega
  have hl3 : ¬ ((E.length : Int) - 1 = 0) := by omega
  obtain ⟨n0, hn0⟩ : ∃ n0 : Nat, sep.size * (E.length - 1) = n0 := ⟨_, rfl⟩
  have hn1 : (sep.size : Int) * ((E.length : Int) - 1) = (n0 : Int) := by rw [← hqc, ← hn0, Int.natCast_mul]
  have hn2 : n0 ≤ 1000000000000 := by have := Nat.mul_le_mul hs (show E.length - 1 ≤ 1000000 by omega); omega
  have hn3 : 0 < n0 := by have := Nat.mul_pos hs0 (show 0 < E.length - 1 by omega); omega
  clear h hE hn0 hqc
  go_enter Tryd.func73, Tryd.ntmps73
  go_wp2
  go_loopw [5, 41] (fun sv iv wr => ∃ k : Nat, k ≤ E.length ∧ sv = .int .i64 ((n0 : Int) + (szK E k : Int)) ∧ iv = .int .i64 (k : Int) ∧ w = wr) (fun _ iv _ => E.length - (intOf iv).toNat)
  case atStart => exact ⟨0, Nat.zero_le _, by simp [szK], rfl, rfl⟩
  case round =>
    obtain ⟨k, hk, rfl, rfl, rfl⟩ := hrel
    have hsz := szK_le E 1000000 HE.out k
    have hz2 : szK E k ≤ 1000000000000 := by omega
    by_cases hlt : k < E.length
    · obtain ⟨b', off', e', hbl', hck⟩ := HI.out k hlt
      obtain ⟨rfl, rfl⟩ : b = b' ∧ off = off' := by simpa using e'
      have hk1 : (k : Int) < E.length := by omega
      have hk0 : (0 : Int) ≤ k := by omega
      have hek := HE.out k
      have hsk : szK E (k + 1) = szK E k + (E.getD k ⟨#[]⟩).size := rfl
      have HSK := Lib.hid hsk
      clear hsk e'
      generalize E.getD k ⟨#[]⟩ = u at *
      generalize szK E k = z at *
      go_wp2
      go_roundw
      case rel => exact ⟨k + 1, by omega, by rw [HSK.out]; go_num, by go_num, trivial⟩
      case measure => (simp [intOf]; try omega)
    · obtain rfl : k = E.length := by omega
      have hN0 : 0 < n0 + szK E E.length := by omega
      have hN1 : n0 + szK E E.length ≤ 281474976710656 := by omega
      have hNc : (n0 : Int) + (szK E E.length : Int) = ((n0 + szK E E.length : Nat) : Int) := by omega
      rw [hNc]
      generalize n0 + szK E E.length = N at *
      have B0 := below_alloc w (.cells #[.pointer none, .slice none 0 0] 99)
      have G0 := Lib.hid (bgrow_fresh w.heap.size w.heap.size N (w.alloc (.cells #[.pointer none, .slice none 0 0] 99)) (Nat.le_refl _) (heap_alloc_new w _) B0.size hN0 hN1)
      have HB0 := Lib.hid B0
      have HI0 := Lib.hid (HI.out.below B0)
      have hcut : ∀ w : World, (Instr.slice 39 (.slice (some ⟨b, off, none⟩) E.length c) (some (.int .i64 1)) none none).run Tryd.prog w = .ok (.slice (some ⟨b, off + 1, none⟩) (E.length - 1) (c - 1)) w := fun w => run_cutST1 w b off _ _ h2 hc
      clear hn1 hn2 hn3 hq hq2 hz2 hsz hNc hN0 hN1 B0
      have WR := Lib.hid (fun (bs : List Value) (s : ByteArray) (w' : World) h hl hB => bwrite_any w.heap.size w.heap.size bs s w' h hl hB)
      have hz0 : (E.getD 0 ⟨#[]⟩).size ≤ 1000000 := HE.out 0
      have jl0 : Hid (Lib.byteCells (joK sep E 1) = [] ++ Lib.strCells (E.getD 0 ⟨#[]⟩)) := Lib.hid rfl
      obtain ⟨u0, hu0⟩ : ∃ u0, E.getD 0 ⟨#[]⟩ = u0 := ⟨_, rfl⟩
      rw [hu0] at hz0 jl0 h0
      clear hu0
      have HZ0 := Lib.hid (show ([] : List Value).length + u0.size ≤ 140737488355328 by rw [List.length_nil]; omega)
      clear hz0
      go_wp2_with (first
        | (go_at_call 117; refine G0.out.mono ?_; rintro e w2 ⟨rfl, hI2, hb2⟩; have I2 := Lib.hid (Or.inr hI2 : IsBld w.heap.size w.heap.size [] w2); have N2 := Lib.hid (HB0.out.trans hb2); have c2 : w2.cell? ⟨b, off, none⟩ = some (.string u0) := (N2.out.cell (p := ⟨b, off, none⟩) hb0).trans h0)
        | (go_at_call 52; refine (WR.out _ _ _ I2.out HZ0.out N2.out.size).mono ?_; rintro e w3 ⟨rfl, hI3, hb3⟩; have I3 := Lib.hid hI3; have N3 := Lib.hid (N2.out.trans hb3)))
      have HS := Lib.hid hs
      have H0 := Lib.hid h0
      clear hs h0 hcut
      go_loopw [65] (fun iv wr => ∃ k : Nat, k + 1 ≤ E.length ∧ iv = .int .i64 (k : Int) ∧ Hid (IsBld w.heap.size w.heap.size (Lib.byteCells (joK sep E (k + 1))) wr) ∧ Below w.heap.size w wr) (fun iv _ => E.length - (intOf iv).toNat)
      case atStart => exact ⟨0, by omega, rfl, Lib.hid (Or.inr (by rw [jl0.out]; exact I3.out)), N3.out⟩
      case round =>
        obtain ⟨k, hk, rfl, hI, hb⟩ := hrel
        by_cases hlt : k + 1 < E.length
        · obtain ⟨b', off', e', hbl', hck⟩ := HI.out (k + 1) hlt
          obtain ⟨rfl, rfl⟩ : b = b' ∧ off = off' := by simpa using e'
          have ck : wr.cell? ⟨b, off + 1 + k, none⟩ = some (.string (E.getD (k + 1) ⟨#[]⟩)) := by
            rw [show off + 1 + k = off + (k + 1) by omega]; exact (hb.cell (p := ⟨b, off + (k + 1), none⟩) hbl').trans hck
          have hk1 : (k : Int) < ((E.length - 1 : Nat) : Int) := by omega
          have hk0 : (0 : Int) ≤ k := by omega
          have hek := HE.out (k + 1)
          have hjl := joK_len sep E 1000000 HS.out HE.out (k + 1)
          have hnx : Hid (Lib.byteCells (joK sep E (k + 1 + 1)) = (Lib.byteCells (joK sep E (k + 1)) ++ Lib.strCells sep) ++ Lib.strCells (E.getD (k + 1) ⟨#[]⟩)) := Lib.hid (by
            show Lib.byteCells (joK sep E (k + 1) ++ bysL sep ++ bysL (E.getD (k + 1) ⟨#[]⟩)) = _
            rw [bys_cells, bys_cells])
          have hcl : Hid ((Lib.byteCells (joK sep E (k + 1))).length ≤ 2 * (k + 1) * 1000000) := Lib.hid (by rw [Lib.byteCells_length]; exact hjl)
          clear e' hck hjl
          have HEK := Lib.hid hek
          generalize E.getD (k + 1) ⟨#[]⟩ = u at *
          generalize Lib.byteCells (joK sep E (k + 1)) = bs at *
          have hl1 : bs.length + sep.size ≤ 140737488355328 := by have := hcl.out; have := HS.out; omega
          have hl2 : (bs ++ Lib.strCells sep).length + u.size ≤ 140737488355328 := by rw [List.length_append, Lib.strCells_length]; have := hcl.out; have := HS.out; have := HEK.out; omega
          have HL1 := Lib.hid hl1
          have HL2 := Lib.hid hl2
          have HB := Lib.hid hb
          clear hl1 hl2 hek
          go_wp2_with (first
            | (go_at_call 52; refine (WR.out _ sep _ hI.out HL1.out HB.out.size).mono ?_; rintro e w4 ⟨rfl, hI4, hb4⟩; have I4 := Lib.hid (Or.inr hI4 : IsBld w.heap.size w.heap.size _ w4); have N4 := Lib.hid (HB.out.trans hb4); clear HL1 hI4 hb4)
            | (go_at_call 52; refine (WR.out _ u _ I4.out HL2.out N4.out.size).mono ?_; rintro e w5 ⟨rfl, hI5, hb5⟩; have I5 := Lib.hid hI5; have N5 := Lib.hid (N4.out.trans hb5); clear hI5 hb5))
          go_roundw
          case rel => exact ⟨k + 1, by omega, by go_num, Lib.hid (Or.inr (by rw [hnx.out]; exact I5.out)), N5.out⟩
          case measure => (simp [intOf]; try omega)
        · have hkE : k + 1 = E.length := by omega
          have hk1 : ¬ ((k : Int) < ((E.length - 1 : Nat) : Int)) := by omega
          rw [hkE] at hI
          have ST2 := Lib.hid (Tryd.Builder_String_any w.heap.size w.heap.size (joK sep E E.length) wr hI.out hb.size)
          have HB := Lib.hid hb
          go_wp2_with (go_at_call 55; refine ST2.out.mono ?_; rintro e w6 ⟨rfl, hb6⟩; have N6 := Lib.hid (HB.out.trans hb6); clear hb6)
          go_ret
          exact ⟨rfl, N6.out⟩
end Go.Proofs.YtangpdaoacjinaaDoor
set_option linter.unusedVariables false
set_option linter.unusedSimpArgs false
namespace Go.Proofs.YtangpdaoacjinaaDoor
open Go.RowKit Go.Sort
theorem kvalue_t (k : Ky) (w : World) (hK : KT w) (v : Int) (b : Bool) (h1 : vlI k = v) (h2 : vlB k = b) : Calls Tryd.prog 193 #[.agg #[.int .i64 k.1, .int .i64 k.2.1, .string k.2.2.1, .bool k.2.2.2]] w fun e w' => e = .returned (.tuple #[.int .i64 v, .bool b]) ∧ Below w.heap.size w w' := by
  subst h1; subst h2; exact kvalue_any k w hK
theorem kcheck_t (k : Ky) (w : World) (hK : KT w) (er : Int) (h : ckE k = er) : Calls Tryd.prog 238 #[.agg #[.int .i64 k.1, .int .i64 k.2.1, .string k.2.2.1, .bool k.2.2.2]] w fun e w' => e = .returned (.int .i64 er) ∧ Below w.heap.size w w' := by
  subst h; exact kcheck_any k w hK
theorem nm_short (k : Ky) (h : keyB k = true) (ht : k.2.2.1.size ≤ 300) : (mkS (nmN k)).size ≤ 900000 := by
  rw [mkS_size]
  have hf := kyF_of h
  clear h
  cases hf with
  | sign v h0 h1 h => show (sgN v).length ≤ _; have := sgN_len v; omega
  | ctrl v h0 h1 => show (ctN v).length ≤ _; rw [ctN_len]; omega
  | meta1 v h0 h1 => rw [nm_meta1 v h0]; have := sgN_len v; simp; omega
  | meta0 v h0 h1 => rw [nm_meta0 v (by omega)]; have := ctN_len v; simp; omega
  | paste t c h =>
    show (psN t.data.toList c).length ≤ _
    unfold psN
    have : t.data.toList.length ≤ 300 := by rw [list_size]; exact ht
    simp only [List.length_cons, List.length_append, hx2_len]
    cases c <;> simp <;> omega
  | named kind v h1 h2 h3 h15 h =>
    rw [nm_named kind v _ _ h1 h2 h3 h15]
    have : ∀ r ∈ kTab, r.2.2.1.length ≤ 10 := by decide
    obtain ⟨r, hr⟩ := Option.isSome_iff_exists.1 h
    have ⟨hm, e1, e2⟩ := find_ok hr
    have e3 : kRowOf kind v = r := by unfold kRowOf; rw [hr]; rfl
    rw [e3]; have := this r hm; omega
end Go.Proofs.YtangpdaoacjinaaDoor
set_option linter.unusedVariables false
set_option linter.unusedSimpArgs false
namespace Go.Proofs.YtangpdaoacjinaaDoor
open Go.RowKit
theorem ln_take (l : List (Int × Int)) (k : Nat) (h : k < l.length) : lnL (l.take (k + 1)) = lnL (l.take k) ++ leF (l.getD k (0, 0)).1 := by
  rw [List.take_succ_eq_append_getElem h, lnL_app, List.getD, List.getElem?_eq_getElem h]
  unfold lnL
  rw [List.flatMap_cons, List.flatMap_nil, List.append_nil]; rfl
end Go.Proofs.YtangpdaoacjinaaDoor
set_option linter.unusedVariables false
set_option linter.unusedSimpArgs false
namespace Go.Proofs.YtangpdaoacjinaaDoor
open Go.RowKit
/-- Bytes below 128. -/
def Asc (l : List UInt8) : Prop := ∀ c ∈ l, c.toNat < 128
theorem mkL_ext (l : List UInt8) (a b : Nat) : (mkL l).extract a b = mkL ((l.drop a).take (b - a)) := by
  apply ByteArray.ext
  rw [ByteArray.data_extract]
  apply Array.ext'
  simp [mkL, List.extract_eq_take_drop]
theorem mkL_size (l : List UInt8) : (mkL l).size = l.length := size_list l
theorem mkL_txt (l : List UInt8) : mkL l = txt (l.map fun c => (c.toNat : Int)) := by
  unfold mkL txt
  congr 2
  rw [List.map_map]
  conv => lhs; rw [← List.map_id l]
  exact List.map_congr_left fun c _ => (u8_back c).symm
/-- Among such bytes each stands for itself. -/
theorem asc_at {l : List UInt8} (h : Asc l) {i : Nat} (hi : i < l.length) : vAt (mkL l) i = ((l.getD i 0).toNat, 1) := by
  have hs : i < (mkL l).size := by rw [mkL_size]; exact hi
  have hc := h (l.getD i 0) (by rw [List.getD, List.getElem?_eq_getElem hi]; exact List.getElem_mem hi)
  have e1 : vAt (mkL l) i = vAt ((mkL l).extract i (mkL l).size) 0 := by rw [vAt_tail _ i 0 (by omega)]; rfl
  have e2 : (mkL l).extract i (mkL l).size = txt (oneI ((l.getD i 0).toNat : Int) ++ ((l.drop (i + 1)).map fun c => (c.toNat : Int))) := by
    rw [mkL_ext, mkL_size, mkL_txt, List.take_of_length_le (by rw [List.length_drop]; exact Nat.le_refl _), ascii_one (by omega) (by omega), List.drop_eq_getElem_cons hi, List.map_cons, List.getD, List.getElem?_eq_getElem hi]; rfl
  rw [e1, e2, vAt_enc _ _ ((ptB_iff _).2 (by omega)), ascii_one (by omega) (by omega)]
  rfl
theorem asc_drop {l : List UInt8} (h : Asc l) (n : Nat) : Asc (l.drop n) := fun c hc => h c (List.mem_of_mem_drop hc)
theorem asc_one {l : List UInt8} (h : Asc l) (hl : l ≠ []) : oneS (mkL l) = ((l.headD 0).toNat, 1) := by
  have hp := List.length_pos_iff.2 hl
  unfold oneS
  rw [if_neg (by rw [mkL_size]; omega), asc_at h hp]
  cases l with
  | nil => exact absurd rfl hl
  | cons c l => rfl
theorem pre2 (x y : UInt8) (l : List UInt8) : Lib.hasPrefix l [x, y] = decide (l.take 2 = [x, y]) := by
  unfold Lib.hasPrefix
  rw [Bool.eq_iff_iff, decide_eq_true_eq]
  match l with
  | [] => simp
  | [a] => simp [List.isPrefixOf]
  | a :: b :: r => simp [List.isPrefixOf]; constructor <;> (rintro ⟨h1, h2⟩; exact ⟨h1.symm, h2.symm⟩)
theorem pre_any (l : List UInt8) (x y : UInt8) (w : World) : Calls Tryd.prog 56 #[.string (mkL l), .string ⟨#[x, y]⟩] w fun e w' => e = .returned (.bool (decide (l.take 2 = [x, y]))) ∧ w = w' := by
  refine (Tryd.strings_HasPrefix (mkL l) ⟨#[x, y]⟩ w).mono ?_
  rintro e w' ⟨rfl, rfl⟩
  exact ⟨by rw [show (mkL l).data.toList = l from rfl, show (⟨#[x, y]⟩ : ByteArray).data.toList = [x, y] from rfl, pre2], rfl⟩
end Go.Proofs.YtangpdaoacjinaaDoor
set_option linter.unusedVariables false
set_option linter.unusedSimpArgs false
namespace Go.Proofs.YtangpdaoacjinaaDoor
open Go.RowKit
/-- All blocks below B stay, but p. -/
structure KeepB (B p : Nat) (w w' : World) : Prop where
  os : w'.os = w.os
  tape : w'.tape = w.tape
  output : w'.output = w.output
  size : w.heap.size ≤ w'.heap.size
  block : ∀ k, k < B → k ≠ p → w'.heap[k]? = w.heap[k]?
theorem KeepB.refl (B p : Nat) (w : World) : KeepB B p w w := ⟨rfl, rfl, rfl, Nat.le_refl _, fun _ _ _ => rfl⟩
theorem KeepB.trans {B p : Nat} {w w' w'' : World} (h : KeepB B p w w') (h2 : KeepB B p w' w'') : KeepB B p w w'' :=
  ⟨h2.os.trans h.os, h2.tape.trans h.tape, h2.output.trans h.output, Nat.le_trans h.size h2.size, fun k hk hp => (h2.block k hk hp).trans (h.block k hk hp)⟩
theorem KeepB.below {B p : Nat} {w w' : World} (h : Below w.heap.size w w') (hB : B ≤ w.heap.size) : KeepB B p w w' := ⟨h.os, h.tape, h.output, h.size, fun k hk _ => h.block k (by omega)⟩
/-- The line's variable at p, the function's own two at q and r. -/
structure LnSt (p q r : Nat) (long : Int) (l : List (Int × Int)) (B : Nat) (w : World) : Prop where
  v : ∃ v, w.heap[p]? = some (.cells #[v] 50 (0, 0)) ∧ OwS w B v l
  c0 : w.cell? ⟨q, 0, none⟩ = some (.pointer (some ⟨p, 0, none⟩))
  c1 : w.cell? ⟨r, 0, none⟩ = some (.int .i64 long)
  lt : p < B ∧ q < B ∧ r < B ∧ q ≠ p ∧ r ≠ p
  le : B ≤ w.heap.size
theorem cell_blk {w w' : World} {b : Nat} (h : w'.heap[b]? = w.heap[b]?) (i : Nat) : w'.cell? ⟨b, i, none⟩ = w.cell? ⟨b, i, none⟩ := by
  unfold World.cell?; rw [h]
theorem ows_below {w w' : World} {B : Nat} {v : Value} {l : List (Int × Int)} (h : OwS w B v l) (hb : Below w.heap.size w w') : OwS w' B v l := own_below h hb
theorem LnSt.below {p q r : Nat} {long : Int} {l : List (Int × Int)} {B : Nat} {w w' : World} (h : LnSt p q r long l B w) (hb : Below w.heap.size w w') : LnSt p q r long l B w' := by
  obtain ⟨v, h1, h2⟩ := h.v
  have hl := h.lt; have hle := h.le
  exact ⟨⟨v, blk_below h1 hb, ows_below h2 hb⟩, (hb.cell (p := ⟨q, 0, none⟩) (by show q < _; omega)).trans h.c0, (hb.cell (p := ⟨r, 0, none⟩) (by show r < _; omega)).trans h.c1, hl, Nat.le_trans hle hb.size⟩
theorem ows_ge {w : World} {B : Nat} {v : Value} {l : List (Int × Int)} (h : OwS w B v l) {k : Nat} (hk : k < B) : some k ≠ v.ownBlock := fun e => by
  have := (h.lt k e.symm).1; omega
/-- What the append and the store leave. -/
theorem lnst_next {p q r : Nat} {long : Int} {l m : List (Int × Int)} {B : Nat} {w w1 : World} {v u : Value} (h : LnSt p q r long l B w) (hv : OwS w B v l) (ho : OwS w1 B u m) (hg : w.grownBy w1 v.ownBlock) :
    LnSt p q r long m B (w1.setCell ⟨p, 0, none⟩ u) ∧ KeepB B p w (w1.setCell ⟨p, 0, none⟩ u) := by
  have hl := h.lt; have hle := h.le
  have hb := fun k (hk : k < B) => hg.block k (by omega) (ows_ge hv hk)
  obtain ⟨x, hx, _⟩ := h.v
  have hp1 : w1.heap[p]? = some (.cells #[x] 50 (0, 0)) := (hb p hl.1).trans hx
  have hs : ∀ k, k ≠ p → (w1.setCell ⟨p, 0, none⟩ u).heap[k]? = w1.heap[k]? := fun k hk => Below.heap_setCell w1 ⟨p, 0, none⟩ u k hk
  have hz : (w1.setCell ⟨p, 0, none⟩ u).heap.size = w1.heap.size := by simp [World.setCell]
  refine ⟨⟨⟨u, blk_set hp1 0 u, ?_⟩, ?_, ?_, hl, ?_⟩, ⟨hg.os, hg.tape, hg.output, by rw [hz]; exact hg.size, fun k hk hkp => (hs k hkp).trans (hb k hk)⟩⟩
  · refine ⟨ho.1, ?_⟩
    rcases ho.2 with h0 | ⟨g, cap, cur, h0, hB, hgg, h3⟩
    · exact .inl h0
    · exact .inr ⟨g, cap, cur, h0, hB, (hs g (by omega)).trans hgg, h3⟩
  · exact (cell_blk ((hs q hl.2.2.2.1).trans (hb q hl.2.1)) 0).trans h.c0
  · exact (cell_blk ((hs r hl.2.2.2.2).trans (hb r hl.2.2.1)) 0).trans h.c1
  · rw [hz]; exact Nat.le_trans hle hg.size
theorem sg_new1 (w : World) (v u : Int) (w' : World) (hb : Below (w.alloc (.cells #[.int .i64 v, .int .i64 u] 68)).heap.size (w.alloc (.cells #[.int .i64 v, .int .i64 u] 68)) w') : Signs w' (some ⟨w.heap.size, 0, none⟩) [(v, u)] := by
  have h := blk_below (heap_alloc_new w (.cells #[.int .i64 v, .int .i64 u] 68)) hb
  intro i hi
  obtain rfl : i = 0 := by simpa using hi
  refine ⟨_, _, rfl, blk_lt h, ?_, ?_⟩ <;> (rw [cell_of_row _ _ _ _ _ _ h]; rfl)
end Go.Proofs.YtangpdaoacjinaaDoor
set_option linter.unusedVariables false
set_option linter.unusedSimpArgs false
namespace Go.Proofs.YtangpdaoacjinaaDoor
open Go.RowKit
theorem nx_size {l : List UInt8} (h : l ≠ []) : (nxF l).2 ≤ l.length := by
  have hp := List.length_pos_iff.2 h
  unfold nxF; split
  · rename_i h1
    have := congrArg List.length h1
    rw [List.length_take] at this
    simp at this
    show 2 ≤ _; omega
  · split
    · rename_i h2; exact h2.2.1
    · exact hp
theorem un_fuel : ∀ (f g : Nat) (l : List UInt8) (k : Nat), l.length ≤ f → l.length ≤ g → unF f l k = unF g l k := by
  intro f
  induction f with
  | zero =>
    intro g l k hf hg
    obtain rfl := List.length_eq_zero_iff.1 (Nat.le_zero.1 hf)
    cases g with
    | zero => rfl
    | succ g => unfold unF; rfl
  | succ f ih =>
    intro g l k hf hg
    cases g with
    | zero =>
      obtain rfl := List.length_eq_zero_iff.1 (Nat.le_zero.1 hg)
      unfold unF; rfl
    | succ g =>
      unfold unF
      by_cases hl : l = []
      · rw [if_pos hl, if_pos hl]
      · rw [if_neg hl, if_neg hl]
        cases k with
        | zero => rfl
        | succ k =>
          have := nx_pos l
          show _ :: unF f _ k = _ :: unF g _ k
          rw [ih g _ k (by rw [List.length_drop]; omega) (by rw [List.length_drop]; omega)]
/-- The values of a line, at most so many. -/
def unS (l : List UInt8) (k : Nat) : List Int := unF l.length l k
theorem unS_nil (k : Nat) : unS [] k = [] := rfl
theorem unS_zero (l : List UInt8) : unS l 0 = [] := by
  unfold unS
  cases h : l.length with
  | zero => rfl
  | succ n => unfold unF; split <;> rfl
theorem unS_step {l : List UInt8} (h : l ≠ []) (k : Nat) : unS l (k + 1) = (nxF l).1 :: unS (l.drop (nxF l).2) k := by
  unfold unS
  have hp := List.length_pos_iff.2 h
  obtain ⟨n, hn⟩ : ∃ n, l.length = n + 1 := ⟨l.length - 1, by omega⟩
  rw [hn]
  conv => lhs; unfold unF
  rw [if_neg h]
  show _ :: unF n _ k = _
  have := nx_pos l
  rw [un_fuel n _ _ k (by rw [List.length_drop]; omega) (Nat.le_refl _)]
theorem unS_len (l : List UInt8) (k : Nat) : (unS l k).length ≤ k := by
  have key : ∀ f l k, (unF f l k).length ≤ k := by
    intro f
    induction f with
    | zero => intro l k; exact Nat.zero_le _
    | succ f ih =>
      intro l k
      unfold unF
      split
      · exact Nat.zero_le _
      · cases k with
        | zero => exact Nat.le_refl _
        | succ k => exact Nat.succ_le_succ (ih _ k)
  exact key _ l k
theorem unS_ln {l : List (Int × Int)} (h : ∀ p ∈ l, rightB p.1 = true) (k : Nat) (hk : l.length ≤ k) : unS (lnL l) k = l.map (·.1) := un_ln h _ k (Nat.le_refl _) hk
/-- Signs of a history. -/
def hsL (l : List Int) : List (Int × Int) := l.map fun v => (v, 3)
theorem hsL_len (l : List Int) : (hsL l).length = l.length := by simp [hsL]
theorem hsL_app (l : List Int) (v : Int) : hsL (l ++ [v]) = hsL l ++ [(v, 3)] := by simp [hsL]
theorem asc_dec {l : List UInt8} (h : Asc l) {i : Nat} (hi : i < l.length) : (Utf8.decode (mkL l) i).2 = 1 := by
  rw [← vAt_size _ _ (by rw [mkL_size]; exact hi), asc_at h hi]
theorem below_keepB {n B p : Nat} {w w1 w2 : World} (h : Below n w w1) (k : KeepB B p w1 w2) (hB : n ≤ B) (hp : n ≤ p) : Below n w w2 :=
  ⟨k.os.trans h.os, k.tape.trans h.tape, k.output.trans h.output, Nat.le_trans h.size k.size, fun j hj => (k.block j (by omega) (by omega)).trans (h.block j hj)⟩
structure UlInv (l : List UInt8) (k p q r R : Nat) (w : World) (i rd : Nat) (acc : List Int) (wr : World) : Prop where
  it : wr.heap[R]? = some (.stringIter (mkL l) i)
  st : LnSt p q r (k : Int) (hsL acc) (R + 1) wr
  bel : Below w.heap.size w wr
  ac : acc ++ unS (l.drop rd) (k - acc.length) = unS l k
  le : i ≤ rd
  rl : rd ≤ l.length
  al : acc.length ≤ k
theorem LnSt.cell {p q r : Nat} {long : Int} {l : List (Int × Int)} {B : Nat} {w : World} (h : LnSt p q r long l B w) : ∃ v, w.cell? ⟨p, 0, none⟩ = some v ∧ OwS w B v l := by
  obtain ⟨v, h1, h2⟩ := h.v
  exact ⟨v, by rw [cell_of_row _ _ _ _ _ _ h1]; rfl, h2⟩
theorem ul_start {l : List UInt8} {k p q r : Nat} {w w1 : World} (hp : w.heap.size ≤ p) (hst : ∀ B, w1.heap.size ≤ B → ∀ w2, Below w1.heap.size w1 w2 → B ≤ w2.heap.size → LnSt p q r (k : Int) [] B w2) (hb : Below w.heap.size w w1) : UlInv l k p q r w1.heap.size w 0 0 [] (w1.iter (mkL l) 0) := by
  have B1 : Below w1.heap.size w1 (w1.iter (mkL l) 0) := below_alloc _ _
  have hs : (w1.iter (mkL l) 0).heap.size = w1.heap.size + 1 := by simp [World.iter]
  exact ⟨World.iter_heap _ _ _, hst _ (Nat.le_succ _) _ B1 (Nat.le_of_eq hs.symm), seqB hb B1, by simp, Nat.le_refl _, Nat.zero_le _, Nat.zero_le _⟩
theorem lnst_iter {p q r : Nat} {long : Int} {l : List (Int × Int)} {B R : Nat} {w : World} {s : ByteArray} {i : Nat} (h : LnSt p q r long l B w) (hR : w.heap[R]? = some (.stringIter s i)) (j : Nat) : LnSt p q r long l B (w.iterAt R s j) := by
  have hs : (w.iterAt R s j).heap.size = w.heap.size := Lib.iterAt_size _ _ _ _
  obtain ⟨v, h1, h2⟩ := h.v
  have ho := fun k (hk : k ≠ R) => Lib.iterAt_other w R k s j hk
  have hne : ∀ (k : Nat) (c : Array Value) (t : TypeId) (f : Nat × Nat), w.heap[k]? = some (.cells c t f) → k ≠ R := fun k c t f hk e => by rw [e, hR] at hk; cases hk
  have hcl : ∀ (k : Nat) (v : Value), w.cell? ⟨k, 0, none⟩ = some v → k ≠ R := fun k v hk e => by
    rw [e] at hk; simp [World.cell?, hR] at hk
  refine ⟨⟨v, (ho p (hne _ _ _ _ h1)).trans h1, own_iter h2 hR j⟩, ?_, ?_, h.lt, by rw [hs]; exact h.le⟩
  · exact (cell_blk (ho q (hcl _ _ h.c0)) 0).trans h.c0
  · exact (cell_blk (ho r (hcl _ _ h.c1)) 0).trans h.c1
theorem UlInv.next {l : List UInt8} {k p q r R : Nat} {w : World} {i rd : Nat} {acc : List Int} {wr : World} (h : UlInv l k p q r R w i rd acc wr) (hlt : i < l.length) (hR : w.heap.size ≤ R) :
    (wr.iterAt R (mkL l) (i + 1)).heap[R]? = some (.stringIter (mkL l) (i + 1)) ∧ LnSt p q r (k : Int) (hsL acc) (R + 1) (wr.iterAt R (mkL l) (i + 1)) ∧ Below w.heap.size w (wr.iterAt R (mkL l) (i + 1)) :=
  ⟨Lib.iterAt_heap _ _ _ _ _ h.it, lnst_iter h.st h.it _, Lib.below_iterAt h.bel hR _ _⟩
end Go.Proofs.YtangpdaoacjinaaDoor
set_option linter.unusedVariables false
set_option linter.unusedSimpArgs false
namespace Go.Proofs.YtangpdaoacjinaaDoor
open Go.RowKit
set_option maxHeartbeats 2000000 in
set_option maxRecDepth 100000 in
theorem bbyte_any (B b : Nat) (bs : List Value) (c : Int) (w : World) (h : IsBld B b bs w) (hlen : bs.length + 1 ≤ 140737488355328) (hBw : B ≤ w.heap.size) :
    Calls Tryd.prog 53 #[.pointer (some ⟨b, 0, none⟩), .int .u8 c] w fun e w' => e = .returned .nilIface ∧ BldAt B b (.pointer (some ⟨b, 0, none⟩)) (bs ++ [.int .u8 c]) w' ∧ Below B w w' := by
  obtain ⟨i0, hi, hz0, hz1, hz2⟩ := info_parts infoU8
  have C := Lib.hid (bcheck_any B b bs w h)
  clear h
  go_enter Tryd.func53, Tryd.ntmps53
  go_wp2_with (go_at_call 110; refine C.out.mono ?_)
  rintro e w1 ⟨rfl, ⟨hB, v, hbk0, hown0, hne⟩, hb0⟩
  have BA := below_alloc w1 (.cells #[.int .u8 c] 5)
  have hbk := blk_below hbk0 BA
  have hb1 := hb0.trans (BA.mono (show B ≤ w1.heap.size by have := hb0.size; omega))
  have hown := hown0.alloc (.cells #[.int .u8 c] 5)
  have hnew : ∀ j x, ([Value.int .u8 c] : List Value)[j]? = some x → (w1.alloc (.cells #[.int .u8 c] 5)).cell? ((⟨w1.heap.size, 0, none⟩ : Addr).add j) = some x := fun j x hj => app_cells rfl hj
  have hsz1 : B ≤ (w1.alloc (.cells #[.int .u8 c] 5)).heap.size := by have := hb1.size; omega
  have e1 := Lib.cell_of_heap hbk0 1
  dsimp at e1
  clear hbk0 hown0 hb0 BA
  obtain ⟨g, hg⟩ : ∃ g, w1.heap.size = g := ⟨_, rfl⟩
  obtain ⟨W, hW⟩ : ∃ W, w1.alloc (.cells #[.int .u8 c] 5) = W := ⟨_, rfl⟩
  rw [hW, hg] at hnew
  rw [hW] at hbk hb1 hown hsz1
  have c0 := Lib.cell_of_heap hbk 0; have c1 := Lib.cell_of_heap hbk 1
  dsimp at c0 c1
  go_wp2_with (at_builtin; refine wpList_append_own _ rfl _ _ 97 rfl B 5 i0 (.int .u8 0) 1 1 Tryd.underlying97 hi hz0 hz1 hz2 rfl (by decide) _ _ _ rfl hown ⟨g, 0, none⟩ 1 1 [.int .u8 c] rfl rfl hnew (by simp [Value.oneCell']) ?g3 ?g4 ?g5 ?_)
  case g3 => unfold maxLen; omega
  case g4 => omega
  case g5 => exact hsz1
  intro v' w2 hown' hgrow _
  have hlt := blk_lt hbk
  have hb2 : w2.heap[b]? = some (.cells #[.pointer (some ⟨b, 0, none⟩), v] 99 (0, 0)) := (hgrow.block b hlt (fun e => hne e.symm)).trans hbk
  have d0 := Lib.cell_of_heap hb2 0
  have d1 := Lib.cell_of_heap hb2 1
  have f1 : w2.frozen? ⟨b, 1, none⟩ = false := Lib.frozen_of_heap hb2 1
  dsimp at d0 d1
  obtain ⟨ao, n', cap, rfl⟩ : ∃ ao n' cap, v' = .slice ao n' cap := by
    rcases hown'.2 with ⟨hv, _⟩ | ⟨g, cap, cur, hv, _⟩
    · exact ⟨_, _, _, hv⟩
    · exact ⟨_, _, _, hv⟩
  go_wp2
  go_ret
  refine ⟨rfl, ?_, ?_⟩
  · exact Lib.BuilderAt.put (T := 99) (e := 5) hB hb2 (bs' := bs ++ [.int .u8 c]) (by simpa using hown') (by decide)
  · exact (hb1.grown hgrow hsz1 (fun k hk => (hown.lt k hk).1)).setCell (p := ⟨b, 1, none⟩) hB _
/-- Lists of signs lie in memory. -/
def SgsIn (w : World) (a : Option Addr) (h : List (List (Int × Int))) : Prop :=
  ∀ i, i < h.length → ∃ b off ai ci, a = some ⟨b, off, none⟩ ∧ b < w.heap.size ∧ w.cell? ⟨b, off + i, none⟩ = some (.slice ai (h.getD i []).length ci) ∧ Signs w ai (h.getD i [])
theorem SgsIn.below {w w' : World} {a : Option Addr} {h : List (List (Int × Int))} (s : SgsIn w a h) (hb : Below w.heap.size w w') : SgsIn w' a h := fun i hi => by
  obtain ⟨b, off, ai, ci, e, hlt, h1, h2⟩ := s i hi
  exact ⟨b, off, ai, ci, e, Nat.lt_of_lt_of_le hlt hb.size, (hb.cell (p := ⟨b, off + i, none⟩) hlt).trans h1, h2.below hb⟩
/-- A history's text. -/
def txL (h : List (List (Int × Int))) : List UInt8 := h.flatMap fun l => lnL l ++ [10]
theorem tx_take (h : List (List (Int × Int))) (k : Nat) (hk : k < h.length) : txL (h.take (k + 1)) = txL (h.take k) ++ lnL (h.getD k []) ++ [10] := by
  unfold txL
  rw [List.take_succ_eq_append_getElem hk, List.flatMap_append, List.getD, List.getElem?_eq_getElem hk, List.flatMap_cons, List.flatMap_nil, List.append_nil, List.append_assoc]; rfl
theorem tx_len {h : List (List (Int × Int))} (hs : ∀ l ∈ h, l.length ≤ 100 ∧ sgC l = true) : (txL h).length ≤ 801 * h.length := by
  induction h with
  | nil => exact Nat.zero_le _
  | cons l h ih =>
    have h1 := hs l (List.mem_cons_self ..)
    have h2 := lnL_len (sg_right h1.2)
    have h3 := ih (fun m hm => hs m (List.mem_cons_of_mem _ hm))
    unfold txL at h3 ⊢
    rw [List.flatMap_cons, List.length_append, List.length_append, List.length_singleton, List.length_cons]
    omega
theorem getD_memL {h : List (List (Int × Int))} {k : Nat} (hk : k < h.length) : h.getD k [] ∈ h := by
  rw [List.getD, List.getElem?_eq_getElem hk]; exact List.getElem_mem hk
end Go.Proofs.YtangpdaoacjinaaDoor
