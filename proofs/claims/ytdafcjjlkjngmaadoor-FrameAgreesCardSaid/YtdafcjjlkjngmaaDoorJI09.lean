/-
  Joined: Sp4 Sp5 Es1 Ky18 Es2 Es3.
-/
import Derived.Test.YtdafcjjlkjngmaaDoorJI03
import Derived.Test.YtdafcjjlkjngmaaDoorJI04
import Derived.Test.YtdafcjjlkjngmaaDoorJI06
import Derived.Test.YtdafcjjlkjngmaaDoorJI07
import Derived.Test.YtdafcjjlkjngmaaDoorJI08
import Derived.Test.YtdafcjjlkjngmaaDoorShelf
import Derived.Lib.UnsafeStr
import Derived.Lib.QuietBelow
import Derived.BigQuiet
import Derived.Deep.Cut
import Derived.Deep.CutRange
set_option linter.unusedVariables false
set_option linter.unusedSimpArgs false
set_option maxRecDepth 100000
set_option linter.unusedVariables false
set_option linter.unusedSimpArgs false
namespace Go.Proofs.YtdafcjjlkjngmaaDoor
open Go.RowKit
/-- The tables that are read. -/
structure SpT (w : World) : Prop where
  c : Tabs w
  u : UT w
theorem SpT.below {w w' : World} (h : SpT w) (hb : Below w.heap.size w w') : SpT w' := ⟨h.c.below hb, h.u.below hb⟩
theorem blS_below {B b : Nat} {bs : List Value} {w w' : World} (h : IsBld B b bs w) (hb : Below w.heap.size w w') : IsBld B b bs w' := by
  rcases h with ⟨hB, v, h1, h2, h3⟩ | ⟨hB, v, h1, h2, h3⟩
  · exact Or.inl ⟨hB, v, blk_below h1 hb, own_below h2 hb, h3⟩
  · exact Or.inr ⟨hB, v, blk_below h1 hb, own_below h2 hb, h3⟩
theorem blS_new (w : World) : IsBld w.heap.size w.heap.size [] (w.alloc (.cells #[.pointer none, .slice none 0 0] 105)) :=
  Or.inl ⟨Nat.le_refl _, _, heap_alloc_new w _, World.ownsRow_nil _ _ _ _, by simp [Value.ownBlock]⟩
/-- A builder whose row's block is not another one. -/
theorem blS_iter {B b : Nat} {bs : List Value} {w : World} {R : Nat} {s : ByteArray} {i : Nat} (h : IsBld B b bs w) (hb : w.heap[R]? = some (.stringIter s i)) (j : Nat) : IsBld B b bs (w.iterAt R s j) := by
  have hne : ∀ v p, w.heap[b]? = some (.cells #[p, v] 105 (0, 0)) → b ≠ R := fun v p h1 e => by rw [e, hb] at h1; cases h1
  rcases h with ⟨hB, v, h1, h2, h3⟩ | ⟨hB, v, h1, h2, h3⟩
  · exact Or.inl ⟨hB, v, (Lib.iterAt_other w R b s j (hne _ _ h1)).trans h1, own_iter h2 hb j, h3⟩
  · exact Or.inr ⟨hB, v, (Lib.iterAt_other w R b s j (hne _ _ h1)).trans h1, own_iter h2 hb j, h3⟩
theorem bldAt_apart {B b : Nat} {p : Value} {bs : List Value} {w : World} {R : Nat} {s : ByteArray} {i : Nat} (h : BldAt B b p bs w) (hb : w.heap[R]? = some (.stringIter s i)) : b ≠ R := by
  obtain ⟨hB, v, h1, h2, h3⟩ := h
  intro e; rw [e, hb] at h1; cases h1
/-- What a function tells of a value. -/
structure Tells (f : Int → List UInt8) (F : FuncId) : Prop where
  cf : ∀ (x : Int) (w : World), (callFunc F #[.int .i64 x]).run Tryd.prog w = .ok (.enter F #[.int .i64 x]) w
  run : ∀ v w, Tabs w → Calls Tryd.prog F #[.int .i64 v] w fun e w' => e = .returned (.string (mkL (f v))) ∧ Below w.heap.size w w'
theorem bcheck_iter (B b : Nat) (bs : List Value) (w : World) (h : IsBld B b bs w) :
    Calls Tryd.prog 100 #[.pointer (some ⟨b, 0, none⟩)] w fun e w' => e = .returned (.tuple #[]) ∧ BldAt B b (.pointer (some ⟨b, 0, none⟩)) bs w' ∧ Below B w w' ∧ ∀ R, R ≠ b → w'.heap[R]? = w.heap[R]? := by
  rcases h with h | h
  · refine (bcheck_fresh b w h.cell0 h.shape h.frozen0).mono ?_
    rintro e w' ⟨rfl, rfl⟩
    exact ⟨rfl, h.used _, (Below.refl B w).setCell (p := ⟨b, 0, none⟩) h.1 _, fun R hR => Below.heap_setCell _ _ _ _ hR⟩
  · refine (bcheck_used b w h.cell0).mono ?_
    rintro e w' ⟨rfl, rfl⟩
    exact ⟨rfl, h, Below.refl B _, fun _ _ => rfl⟩
set_option maxHeartbeats 2000000 in
set_option maxRecDepth 100000 in
/-- A text comes behind what a builder has; an iterator stays. -/
theorem bwrite_iter (B b : Nat) (bs : List Value) (s : ByteArray) (w : World) (h : IsBld B b bs w) (R : Nat) (t : ByteArray) (i : Nat) (hR : w.heap[R]? = some (.stringIter t i)) (hlen : bs.length + s.size ≤ 140737488355328) (hBw : B ≤ w.heap.size) :
    Calls Tryd.prog 53 #[.pointer (some ⟨b, 0, none⟩), .string s] w fun e w' => e = .returned (.tuple #[.int .i64 s.size, .nilIface]) ∧ IsBld B b (bs ++ Lib.strCells s) w' ∧ Below B w w' ∧ w'.heap[R]? = some (.stringIter t i) := by
  obtain ⟨i0, hi, hz0, hz1, hz2⟩ := info_parts infoU8
  have C := Lib.hid (bcheck_iter B b bs w h)
  have hRb : R ≠ b := fun e => by
    rcases h with ⟨_, v, h1, _⟩ | ⟨_, v, h1, _⟩
    · rw [← e, hR] at h1; cases h1
    · rw [← e, hR] at h1; cases h1
  have HR := Lib.hid hR
  have hRl := blk_lt hR
  clear h hR
  go_enter Tryd.func53, Tryd.ntmps53
  go_wp2_with (go_at_call 100; refine C.out.mono ?_)
  rintro e w1 ⟨rfl, hB1, hb1, hk1⟩
  obtain ⟨hB, v, hbk, hown, hne⟩ := hB1
  have hR1 := (hk1 R hRb).trans HR.out
  have c0 := Lib.cell_of_heap hbk 0; have c1 := Lib.cell_of_heap hbk 1
  dsimp at c0 c1
  have HR1 := Lib.hid hR1
  have hap := Lib.hid (own_apart hown hR1)
  clear hR1 hk1
  go_wp2_with (at_builtin; refine Lib.wpList_append_own_string _ rfl _ _ 39 9 rfl B 5 i0 Tryd.underlying39 Tryd.underlying9 hi hz0 hz1 hz2 _ _ _ rfl hown s rfl ?g3 ?g4 ?g5 ?_)
  case g3 => unfold maxLen; omega
  case g4 => omega
  case g5 => have := hb1.size; omega
  intro v' w2 hown' hgrow _
  have hlt := blk_lt hbk
  have hb2 : w2.heap[b]? = some (.cells #[.pointer (some ⟨b, 0, none⟩), v] 105 (0, 0)) := (hgrow.block b hlt (fun e => hne e.symm)).trans hbk
  have hR2 : Hid (w2.heap[R]? = some (.stringIter t i)) := Lib.hid ((hgrow.block R (blk_lt HR1.out) (fun e => hap.out e.symm)).trans HR1.out)
  have d0 := Lib.cell_of_heap hb2 0
  have d1 := Lib.cell_of_heap hb2 1
  have f1 : w2.frozen? ⟨b, 1, none⟩ = false := Lib.frozen_of_heap hb2 1
  dsimp at d0 d1
  obtain ⟨ao, n', cap, rfl⟩ : ∃ ao n' cap, v' = .slice ao n' cap := by
    rcases hown'.2 with ⟨hv, _⟩ | ⟨g, cap, cur, hv, _⟩
    · exact ⟨_, _, _, hv⟩
    · exact ⟨_, _, _, hv⟩
  go_wp2
  go_ret2
  refine ⟨rfl, Or.inr ?_, ?_, (Below.heap_setCell _ _ _ _ hRb).trans hR2.out⟩
  · exact Lib.BuilderAt.put (T := 105) (e := 5) hB hb2 (bs' := bs ++ Lib.strCells s) (by simpa [Lib.strCells_length] using hown') (by decide)
  · exact (hb1.grown hgrow (by have := hb1.size; omega) (fun k hk => (hown.lt k hk).1)).setCell (p := ⟨b, 1, none⟩) hB _
end Go.Proofs.YtdafcjjlkjngmaaDoor
set_option linter.unusedVariables false
set_option linter.unusedSimpArgs false
namespace Go.Proofs.YtdafcjjlkjngmaaDoor
open Go.RowKit
structure SpInv (f : Int → List UInt8) (s : ByteArray) (w : World) (R : Nat) (i n : Nat) (acc : List Int) (wr : World) : Prop where
  b : IsBld w.heap.size w.heap.size (Lib.byteCells (tellL f acc)) wr
  it : wr.heap[R]? = some (.stringIter s i)
  bel : Below w.heap.size w wr
  ac : acc ++ valsF s n i = valsS s
  le : i ≤ s.size
  fu : s.size ≤ i + n
  al : acc.length ≤ i
theorem one_at (s : ByteArray) (i : Nat) (w : World) (hT : UT w) (hs : s.size ≤ 100000) (hi : i < s.size) : Calls Tryd.prog 122 #[.string (s.extract i s.size)] w fun e w' => e = .returned (.tuple #[.int .i64 ((vAt s i).1 : Int), .int .i64 ((vAt s i).2 : Int)]) ∧ Below w.heap.size w w' := by
  have h := one_any (s.extract i s.size) w hT (by rw [ext_size]; omega)
  have e : oneS (s.extract i s.size) = vAt s i := by
    unfold oneS; rw [if_neg (by rw [ext_size]; omega), vAt_tail s i 0 (by omega)]; rfl
  rw [e] at h
  exact h
end Go.Proofs.YtdafcjjlkjngmaaDoor
set_option linter.unusedVariables false
set_option linter.unusedSimpArgs false
namespace Go.Proofs.YtdafcjjlkjngmaaDoor
open Go.RowKit
/-- A value's letters. -/
def leF (v : Int) : List UInt8 := if v = 92 then [92, 92] else if 32 ≤ v ∧ v ≤ 126 then [v.toNat.toUInt8] else 92 :: 117 :: hexS v 6
def lnL (l : List (Int × Int)) : List UInt8 := l.flatMap fun p => leF p.1
theorem right_rng {v : Int} (h : rightB v = true) : 0 ≤ v ∧ v ≤ 1114367 := by
  unfold rightB at h
  rw [Bool.or_eq_true, ptB_iff, stB_iff] at h
  omega
theorem hex6 {v : Int} (h : rightB v = true) : hexS v 6 = hexL v 6 ∧ (hexL v 6).length = 6 ∧ uhR (hexL v 6) = v ∧ uhE (hexL v 6) = 0 ∧ ∀ c ∈ hexL v 6, 48 ≤ c.toNat ∧ c.toNat ≤ 70 := by
  have hr := right_rng h
  have hl := hexL_len v 6 6 (Nat.lt_of_le_of_lt (show v.toNat ≤ 1114367 by omega) (by decide)) (by decide) (by decide)
  have hn : (hexL v 6).length = 6 := by
    have : (6 : Int).toNat = 6 := rfl
    omega
  have hu := uh_hex v 6 hr.1 (by omega) (by rw [hexN_L v 6 (by omega)]; omega)
  rw [hexN_L v 6 (by omega)] at hu
  exact ⟨hexS_L v 6 hr.1 (by omega) (by omega), hn, hu.1, hu.2, hexL_ascii v 6⟩
theorem leF_ascii {v : Int} (h : rightB v = true) : ∀ c ∈ leF v, 32 ≤ c.toNat ∧ c.toNat ≤ 126 := by
  intro c hc
  unfold leF at hc
  split at hc
  · simp at hc; subst hc; decide
  · split at hc
    · rename_i h1 h2
      rw [List.mem_singleton] at hc
      subst hc
      have := u8_nat (x := v) (by omega) (by omega)
      omega
    · rw [(hex6 h).1] at hc
      simp only [List.mem_cons] at hc
      rcases hc with rfl | rfl | hc
      · decide
      · decide
      · have := (hex6 h).2.2.2.2 c hc; omega
theorem leF_len {v : Int} (h : rightB v = true) : 1 ≤ (leF v).length ∧ (leF v).length ≤ 8 := by
  unfold leF
  split
  · simp
  · split
    · simp
    · rw [(hex6 h).1]; simp [(hex6 h).2.1]
theorem sg_right {l : List (Int × Int)} (h : sgC l = true) : ∀ p ∈ l, rightB p.1 = true := by
  intro p hp
  unfold sgC at h
  rw [List.all_eq_true] at h
  have := h p hp
  unfold sgR at this
  rw [Bool.and_eq_true, Bool.and_eq_true] at this
  exact this.2.2
theorem lnL_ascii {l : List (Int × Int)} (h : sgC l = true) : ∀ c ∈ lnL l, 32 ≤ c.toNat ∧ c.toNat ≤ 126 := by
  intro c hc
  unfold lnL at hc
  rw [List.mem_flatMap] at hc
  obtain ⟨p, hp, hc⟩ := hc
  exact leF_ascii (sg_right h p hp) c hc
theorem lnL_cons (p : Int × Int) (l : List (Int × Int)) : lnL (p :: l) = leF p.1 ++ lnL l := rfl
theorem lnL_app (a b : List (Int × Int)) : lnL (a ++ b) = lnL a ++ lnL b := by unfold lnL; rw [List.flatMap_append]
theorem lnL_len {l : List (Int × Int)} (h : ∀ p ∈ l, rightB p.1 = true) : (lnL l).length ≤ 8 * l.length := by
  induction l with
  | nil => exact Nat.zero_le _
  | cons p l ih =>
    rw [lnL_cons, List.length_append, List.length_cons]
    have := (leF_len (h p (List.mem_cons_self ..))).2
    have := ih (fun q hq => h q (List.mem_cons_of_mem _ hq))
    omega
/-- The next value of letters, and of how many bytes it is. -/
def nxF (l : List UInt8) : Int × Nat :=
  if l.take 2 = [92, 92] then (92, 2)
  else if l.take 2 = [92, 117] ∧ 8 ≤ l.length ∧ uhE ((l.drop 2).take 6) = 0 ∧ rightB (uhR ((l.drop 2).take 6)) = true then (uhR ((l.drop 2).take 6), 8)
  else (((l.headD 0).toNat : Int), 1)
theorem nx_le {v : Int} (h : rightB v = true) (r : List UInt8) : nxF (leF v ++ r) = (v, (leF v).length) := by
  unfold nxF leF
  by_cases h1 : v = 92
  · subst h1; rw [if_pos rfl]; rfl
  · rw [if_neg h1]
    by_cases h2 : 32 ≤ v ∧ v ≤ 126
    · rw [if_pos h2]
      have hne : v.toNat.toUInt8 ≠ 92 := fun e => by
        have := u8_nat (x := v) (by omega) (by omega)
        rw [e] at this
        have : (92 : UInt8).toNat = 92 := rfl
        omega
      have ht : ∀ x, ([v.toNat.toUInt8] ++ r).take 2 ≠ [92, x] := fun x e => by
        cases r with
        | nil => simp at e
        | cons y r => simp at e; exact hne e.1
      rw [if_neg (ht 92), if_neg (fun e => ht 117 e.1)]
      have := u8_nat (x := v) (by omega) (by omega)
      show (((v.toNat.toUInt8).toNat : Int), 1) = _
      rw [this]
      refine Prod.ext ?_ rfl
      show ((v.toNat : Nat) : Int) = v
      omega
    · rw [if_neg h2]
      obtain ⟨e1, e2, e3, e4, _⟩ := hex6 h
      rw [e1]
      have ht : (92 :: 117 :: hexL v 6 ++ r).take 2 = [92, 117] := rfl
      have hd : ((92 :: 117 :: hexL v 6 ++ r).drop 2).take 6 = hexL v 6 := by
        show (hexL v 6 ++ r).take 6 = hexL v 6
        rw [List.take_append_of_le_length (by omega), List.take_of_length_le (by omega)]
      rw [ht, hd, if_neg (by decide), if_pos ⟨rfl, by simp [e2], e4, by rw [e3]; exact h⟩, e3]
      refine Prod.ext rfl ?_
      simp [e2]
/-- The values of letters, at most so many. -/
def unF : Nat → List UInt8 → Nat → List Int
  | 0, _, _ => []
  | f + 1, l, k => if l = [] then [] else match k with
    | 0 => []
    | k + 1 => (nxF l).1 :: unF f (l.drop (nxF l).2) k
theorem nx_pos (l : List UInt8) : 1 ≤ (nxF l).2 := by
  unfold nxF; split
  · show 1 ≤ 2; omega
  · split
    · show 1 ≤ 8; omega
    · show 1 ≤ 1; omega
theorem un_ln {l : List (Int × Int)} (h : ∀ p ∈ l, rightB p.1 = true) : ∀ f k, (lnL l).length ≤ f → l.length ≤ k → unF f (lnL l) k = l.map (·.1) := by
  induction l with
  | nil =>
    intro f k hf hk
    cases f with
    | zero => rfl
    | succ f => unfold unF; rw [if_pos (show lnL [] = [] from rfl)]; rfl
  | cons p l ih =>
    intro f k hf hk
    have hp := h p (List.mem_cons_self ..)
    have hl := leF_len hp
    rw [lnL_cons, List.length_append] at hf
    obtain ⟨g, rfl⟩ : ∃ g, f = g + 1 := ⟨f - 1, by omega⟩
    obtain ⟨m, rfl⟩ : ∃ m, k = m + 1 := ⟨k - 1, by simp at hk; omega⟩
    rw [lnL_cons]
    unfold unF
    rw [if_neg (fun e => by have := congrArg List.length e; rw [List.length_append] at this; simp at this; have := this.1; rw [this] at hl; simp at hl)]
    show (nxF _).1 :: unF g _ m = _
    rw [nx_le hp, List.drop_append_of_le_length (Nat.le_refl _), List.drop_of_length_le (Nat.le_refl _), List.nil_append, ih (fun q hq => h q (List.mem_cons_of_mem _ hq)) g m (by omega) (by simp at hk; omega)]
    rfl
/-- Unlike entries have unlike lines. -/
theorem ln_inj {a b : List (Int × Int)} (ha : ∀ p ∈ a, rightB p.1 = true) (hb : ∀ p ∈ b, rightB p.1 = true) (h : lnL a = lnL b) : a.map (·.1) = b.map (·.1) := by
  rw [← un_ln ha ((lnL a).length + (lnL b).length) (a.length + b.length) (by omega) (by omega), ← un_ln hb ((lnL a).length + (lnL b).length) (a.length + b.length) (by omega) (by omega), h]
theorem ln_vals {a b : List (Int × Int)} (h : a.map (·.1) = b.map (·.1)) : lnL a = lnL b := by
  have key : ∀ l : List (Int × Int), lnL l = (l.map (·.1)).flatMap leF := fun l => by
    unfold lnL; rw [List.flatMap_map]
  rw [key, key, h]
end Go.Proofs.YtdafcjjlkjngmaaDoor
set_option linter.unusedVariables false
set_option linter.unusedSimpArgs false
namespace Go.Proofs.YtdafcjjlkjngmaaDoor
open Go.RowKit Go.Sort
theorem kcheck_t (k : Ky) (w : World) (hK : KT w) (er : Int) (h : ckE k = er) : Calls Tryd.prog 42 #[.agg #[.int .i64 k.1, .int .i64 k.2.1, .string k.2.2.1, .bool k.2.2.2]] w fun e w' => e = .returned (.int .i64 er) ∧ Below w.heap.size w w' := by
  subst h; exact kcheck_any k w hK
theorem kbytes_t (k : Ky) (w : World) (hK : KT w) (s : ByteArray) (h : mkS (byR k) = s) : Calls Tryd.prog 43 #[.agg #[.int .i64 k.1, .int .i64 k.2.1, .string k.2.2.1, .bool k.2.2.2]] w fun e w' => e = .returned (.string s) ∧ Below w.heap.size w w' := by
  subst h; exact kbytes_any k w hK
theorem khigh (v : Int) (w : World) (r : Int) (h : highI v 0 = r) : Calls Tryd.prog 48 #[.int .i64 v, .int .i64 0] w fun e w' => e = .returned (.int .i64 r) ∧ Below w.heap.size w w' :=
  (high_any v 0 w).mono fun e w' hh => ⟨by rw [hh.1, h], by rw [← hh.2]; exact Below.refl _ _⟩
theorem nm_short (k : Ky) (h : keyB k = true) (ht : k.2.2.1.size ≤ 300) : (mkS (nmN k)).size ≤ 900000 := by
  rw [mkS_size]
  have hf := kyF_of h
  clear h
  cases hf with
  | sign v h0 h1 h => show (sgN v).length ≤ _; have := sgN_len v; omega
  | ctrl v h0 h1 => show (ctN v).length ≤ _; rw [ctN_len]; omega
  | meta1 v h0 h1 => rw [nm_meta1 v h0]; have := sgN_len v; simp; omega
  | meta0 v h0 h1 => rw [nm_meta0 v (by omega)]; have := ctN_len v; simp; omega
  | paste t c h =>
    show (psN t.data.toList c).length ≤ _
    unfold psN
    have : t.data.toList.length ≤ 300 := by rw [list_size]; exact ht
    simp only [List.length_cons, List.length_append, hx2_len]
    cases c <;> simp <;> omega
  | named kind v h1 h2 h3 h15 h =>
    rw [nm_named kind v _ _ h1 h2 h3 h15]
    have : ∀ r ∈ kTab, r.2.2.1.length ≤ 10 := by decide
    obtain ⟨r, hr⟩ := Option.isSome_iff_exists.1 h
    have ⟨hm, e1, e2⟩ := find_ok hr
    have e3 : kRowOf kind v = r := by unfold kRowOf; rw [hr]; rfl
    rw [e3]; have := this r hm; omega
end Go.Proofs.YtdafcjjlkjngmaaDoor
set_option linter.unusedVariables false
set_option linter.unusedSimpArgs false
namespace Go.Proofs.YtdafcjjlkjngmaaDoor
open Go.RowKit
theorem ln_take (l : List (Int × Int)) (k : Nat) (h : k < l.length) : lnL (l.take (k + 1)) = lnL (l.take k) ++ leF (l.getD k (0, 0)).1 := by
  rw [List.take_succ_eq_append_getElem h, lnL_app, List.getD, List.getElem?_eq_getElem h]
  unfold lnL
  rw [List.flatMap_cons, List.flatMap_nil, List.append_nil]; rfl
end Go.Proofs.YtdafcjjlkjngmaaDoor
set_option linter.unusedVariables false
set_option linter.unusedSimpArgs false
namespace Go.Proofs.YtdafcjjlkjngmaaDoor
open Go.RowKit
/-- Bytes below 128. -/
def Asc (l : List UInt8) : Prop := ∀ c ∈ l, c.toNat < 128
theorem mkL_ext (l : List UInt8) (a b : Nat) : (mkL l).extract a b = mkL ((l.drop a).take (b - a)) := by
  apply ByteArray.ext
  rw [ByteArray.data_extract]
  apply Array.ext'
  simp [mkL, List.extract_eq_take_drop]
theorem mkL_size (l : List UInt8) : (mkL l).size = l.length := size_list l
theorem mkL_txt (l : List UInt8) : mkL l = txt (l.map fun c => (c.toNat : Int)) := by
  unfold mkL txt
  congr 2
  rw [List.map_map]
  conv => lhs; rw [← List.map_id l]
  exact List.map_congr_left fun c _ => (u8_back c).symm
/-- Among such bytes each stands for itself. -/
theorem asc_at {l : List UInt8} (h : Asc l) {i : Nat} (hi : i < l.length) : vAt (mkL l) i = ((l.getD i 0).toNat, 1) := by
  have hs : i < (mkL l).size := by rw [mkL_size]; exact hi
  have hc := h (l.getD i 0) (by rw [List.getD, List.getElem?_eq_getElem hi]; exact List.getElem_mem hi)
  have e1 : vAt (mkL l) i = vAt ((mkL l).extract i (mkL l).size) 0 := by rw [vAt_tail _ i 0 (by omega)]; rfl
  have e2 : (mkL l).extract i (mkL l).size = txt (oneI ((l.getD i 0).toNat : Int) ++ ((l.drop (i + 1)).map fun c => (c.toNat : Int))) := by
    rw [mkL_ext, mkL_size, mkL_txt, List.take_of_length_le (by rw [List.length_drop]; exact Nat.le_refl _), ascii_one (by omega) (by omega), List.drop_eq_getElem_cons hi, List.map_cons, List.getD, List.getElem?_eq_getElem hi]; rfl
  rw [e1, e2, vAt_enc _ _ ((ptB_iff _).2 (by omega)), ascii_one (by omega) (by omega)]
  rfl
theorem asc_drop {l : List UInt8} (h : Asc l) (n : Nat) : Asc (l.drop n) := fun c hc => h c (List.mem_of_mem_drop hc)
theorem asc_one {l : List UInt8} (h : Asc l) (hl : l ≠ []) : oneS (mkL l) = ((l.headD 0).toNat, 1) := by
  have hp := List.length_pos_iff.2 hl
  unfold oneS
  rw [if_neg (by rw [mkL_size]; omega), asc_at h hp]
  cases l with
  | nil => exact absurd rfl hl
  | cons c l => rfl
theorem pre2 (x y : UInt8) (l : List UInt8) : Lib.hasPrefix l [x, y] = decide (l.take 2 = [x, y]) := by
  unfold Lib.hasPrefix
  rw [Bool.eq_iff_iff, decide_eq_true_eq]
  match l with
  | [] => simp
  | [a] => simp [List.isPrefixOf]
  | a :: b :: r => simp [List.isPrefixOf]; constructor <;> (rintro ⟨h1, h2⟩; exact ⟨h1.symm, h2.symm⟩)
theorem pre_any (l : List UInt8) (x y : UInt8) (w : World) : Calls Tryd.prog 57 #[.string (mkL l), .string ⟨#[x, y]⟩] w fun e w' => e = .returned (.bool (decide (l.take 2 = [x, y]))) ∧ w = w' := by
  refine (Tryd.strings_HasPrefix (mkL l) ⟨#[x, y]⟩ w).mono ?_
  rintro e w' ⟨rfl, rfl⟩
  exact ⟨by rw [show (mkL l).data.toList = l from rfl, show (⟨#[x, y]⟩ : ByteArray).data.toList = [x, y] from rfl, pre2], rfl⟩
end Go.Proofs.YtdafcjjlkjngmaaDoor
