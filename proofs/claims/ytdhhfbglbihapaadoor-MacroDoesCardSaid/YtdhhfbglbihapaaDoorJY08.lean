/-
  Joined: Ma8 Ma9 ArgM Ma11 Ma12.
-/
import Derived.Test.YtdhhfbglbihapaaDoorJY06
import Derived.Test.YtdhhfbglbihapaaDoorJY07
import Derived.Deep.RegionHeld3
import Derived.Deep.CutRange
import Derived.Deep.CutBlock
set_option linter.unusedVariables false
set_option linter.unusedSimpArgs false
set_option maxRecDepth 100000
set_option linter.unusedVariables false
set_option linter.unusedSimpArgs false
namespace Go.Proofs.YtdhhfbglbihapaaDoor
open Go.RowKit
/-- Keys that come round, so many. -/
def cyK (K : List Ky) (i : Nat) : List Ky := (List.range i).map fun j => K.getD (j % K.length) k0
theorem cyK_succ (K : List Ky) (i : Nat) : cyK K (i + 1) = cyK K i ++ [K.getD (i % K.length) k0] := by
  unfold cyK; rw [List.range_succ, List.map_append]; rfl
theorem cyK_len (K : List Ky) (i : Nat) : (cyK K i).length = i := by simp [cyK]
theorem cyK_rp (K : List Ky) (hK : K ≠ []) (n : Nat) : cyK K (n * K.length) = rpK K n := by
  have hp := List.length_pos_iff.2 hK
  induction n with
  | zero => rw [Nat.zero_mul]; rfl
  | succ n ih =>
    rw [rpK_succ, ← ih, Nat.succ_mul]
    unfold cyK
    rw [List.range_add, List.map_append, List.map_map]
    congr 1
    apply List.ext_getElem
    · simp
    · intro i h1 h2
      simp only [List.getElem_map, List.getElem_range, Function.comp]
      rw [Nat.add_comm, Nat.add_mul_mod_self_right, Nat.mod_eq_of_lt h2, List.getD, List.getElem?_eq_getElem h2]; rfl
theorem rplay_err (er : Int) (n : Int) (kp : Bool) (la na : Option Addr) (ln lc nn nc : Nat) (w : World) (hl : ln ≤ 9999) (he : (kp = true ∧ er = 12) ∨ (kp = false ∧ ln = 0 ∧ er = 7) ∨ (kp = false ∧ 0 < ln ∧ n < 1 ∧ er = 3) ∨ (kp = false ∧ 0 < ln ∧ 1 ≤ n ∧ n ≤ 9223372036854775807 ∧ (9999 < n ∨ 9999 < n * (ln : Int)) ∧ er = 4)) :
    Calls Tryd.prog 50 #[mV la ln lc na nn nc kp, .int .i64 n] w fun e w' => e = .returned (.tuple #[.slice none 0 0, .int .i64 er]) ∧ Below w.heap.size w w' := by
  have HB := Lib.hid fun c t => below_alloc w (.cells c t)
  rcases he with ⟨rfl, rfl⟩ | ⟨rfl, rfl, rfl⟩ | ⟨rfl, hK, hn, rfl⟩ | ⟨rfl, hK, hn, hnm, hb, rfl⟩
  · go_enter Tryd.func50, Tryd.ntmps50
    go_wp2
    refine bodyPost_ret (v := .tuple #[.slice none 0 0, .int .i64 12]) (by simp [results, Tryd.results50, go_sem]) rfl ?_
    exact ⟨rfl, HB.out _ _⟩
  · go_enter Tryd.func50, Tryd.ntmps50
    go_wp2
    refine bodyPost_ret (v := .tuple #[.slice none 0 0, .int .i64 7]) (by simp [results, Tryd.results50, go_sem]) rfl ?_
    exact ⟨rfl, HB.out _ _⟩
  · have hm1 : ¬ (ln : Int) = 0 := by omega
    go_enter Tryd.func50, Tryd.ntmps50
    go_wp2
    refine bodyPost_ret (v := .tuple #[.slice none 0 0, .int .i64 3]) (by simp [results, Tryd.results50, go_sem]) rfl ?_
    exact ⟨rfl, HB.out _ _⟩
  · have hm1 : ¬ (ln : Int) = 0 := by omega
    have hn1 : ¬ n < 1 := by omega
    by_cases hbig : (9999 : Int) < n
    · clear hb
      go_enter Tryd.func50, Tryd.ntmps50
      go_wp2
      refine bodyPost_ret (v := .tuple #[.slice none 0 0, .int .i64 4]) (by simp [results, Tryd.results50, go_sem]) rfl ?_
      exact ⟨rfl, HB.out _ _⟩
    · have hb2 : (9999 : Int) < n * (ln : Int) := by omega
      obtain ⟨m, hm⟩ : ∃ m, n * (ln : Int) = m := ⟨_, rfl⟩
      have hm2 : m ≤ 99980001 := by
        rw [← hm]
        have h1 : n ≤ 9999 := by omega
        have h2 : (ln : Int) ≤ 9999 := by omega
        calc n * (ln : Int) ≤ 9999 * (ln : Int) := Int.mul_le_mul_of_nonneg_right h1 (by omega)
          _ ≤ 9999 * 9999 := Int.mul_le_mul_of_nonneg_left h2 (by omega)
          _ = 99980001 := by decide
      rw [hm] at hb2
      clear hb
      go_enter Tryd.func50, Tryd.ntmps50
      go_wp2
      refine bodyPost_ret (v := .tuple #[.slice none 0 0, .int .i64 4]) (by simp [results, Tryd.results50, go_sem]) rfl ?_
      exact ⟨rfl, HB.out _ _⟩
end Go.Proofs.YtdhhfbglbihapaaDoor
set_option linter.unusedVariables false
set_option linter.unusedSimpArgs false
namespace Go.Proofs.YtdhhfbglbihapaaDoor
open Go.RowKit
set_option maxHeartbeats 4000000 in
theorem rplay_yes (S : Nat → Prop) (K : List Ky) (n : Nat) (la na : Option Addr) (ln lc nn nc : Nat) (w : World) (hK : K.length = ln) (h0 : 0 < ln) (hl : ln ≤ 9999) (hn : 1 ≤ n) (hnm : n * ln ≤ 9999) (hs : SlK S w la K lc) :
    Calls Tryd.prog 50 #[mV la ln lc na nn nc false, .int .i64 (n : Int)] w fun e w' => ∃ b d, e = .returned (.tuple #[.slice b (n * ln) d, .int .i64 0]) ∧ KeysIn w' b (rpK K n) ∧ Below w.heap.size w w' := by
  have B0 := below_alloc w (.cells #[.slice la ln lc, .slice na nn nc, .bool false] 73)
  have q0 := heap_alloc_new w (.cells #[.slice la ln lc, .slice na nn nc, .bool false] 73)
  have HS := Lib.hid (hs.below B0)
  have HKl := Lib.hid hK
  have hKne : K ≠ [] := fun e => by rw [e] at hK; simp at hK; omega
  have hm1 : ¬ (ln : Int) = 0 := by omega
  have hn1 : ¬ (n : Int) < 1 := by omega
  have hn9 : n ≤ 9999 := Nat.le_trans (Nat.le_mul_of_pos_right n h0) hnm
  have hn2 : ¬ (9999 : Int) < (n : Int) := by omega
  obtain ⟨m, hm⟩ : ∃ m, n * ln = m := ⟨_, rfl⟩
  have hmi : (n : Int) * (ln : Int) = (m : Int) := by rw [← hm]; simp
  rw [hm] at hnm ⊢
  have hm2 : ¬ (9999 : Int) < (m : Int) := by omega
  have HR : Hid (cyK K m = rpK K n) := Lib.hid (by rw [← hm, ← hK]; exact cyK_rp K hKne n)
  obtain ⟨X, hX⟩ : ∃ X, w.heap.size = X := ⟨_, rfl⟩
  have HX := Lib.hid hX
  obtain ⟨W, hW⟩ : ∃ W, w.alloc (.cells #[.slice la ln lc, .slice na nn nc, .bool false] 73) = W := ⟨_, rfl⟩
  rw [hW, hX] at q0
  rw [hW] at B0 HS
  obtain ⟨B, hB⟩ : ∃ B, W.heap.size = B := ⟨_, rfl⟩
  have HXB : Hid (X < B ∧ w.heap.size ≤ B) := Lib.hid ⟨by rw [← hB]; exact blk_lt q0, by rw [← hB]; exact B0.size⟩
  have HB0 := Lib.hid B0
  have yy := fun i => cell_of_row _ _ i _ _ _ q0
  have c0 := yy 0; have c2 := yy 2
  dsimp at c0 c2
  have O1 : Hid (OwK W B (.slice none 0 0) (cyK K 0)) := Lib.hid (owk_nil _ _)
  have N1 : Hid (Below B W W) := Lib.hid (Below.refl _ _)
  have HBq := Lib.hid hB
  clear hs hK B0 q0 yy hKne hm hB
  go_enter Tryd.func50, Tryd.ntmps50
  go_upto_region 11 with fail
  clear hW hX
  go_loopw [6, 7] (fun lv iv wr => ∃ (i : Nat) (a : Option Addr) (c : Nat), i ≤ m ∧ lv = .slice a i c ∧ iv = .int .i64 (i : Int) ∧ Hid (OwK wr B (.slice a i c) (cyK K i)) ∧ Hid (Below B W wr)) (fun _ iv _ => m - (intOf iv).toNat)
  case atStart => exact ⟨0, none, 0, Nat.zero_le _, rfl, rfl, O1, N1⟩
  case round =>
    obtain ⟨i, a, c, hi, rfl, rfl, HO, HB⟩ := hrel
    have NB := Lib.hid (HB0.out.trans (HB.out.mono HXB.out.2))
    clear O1 N1
    have d0 : wr.cell? ⟨X, 0, none⟩ = some (.slice la ln lc) := (HB.out.cell (p := ⟨X, 0, none⟩) HXB.out.1).trans c0
    by_cases hlt : i < m
    · have hi1 : (i : Int) < (m : Int) := by omega
      have hi0 : (0 : Int) ≤ i := by omega
      have hjl : i % ln < ln := Nat.mod_lt _ h0
      obtain ⟨bb, off, e, hbl, k1, k2, k3, k4⟩ := (HS.out.s.below (by have := HB.out; rw [← HBq.out] at this; exact this)) (i % ln) (by rw [HKl.out]; exact hjl)
      subst e
      have hcy := cyK_succ K i
      rw [HKl.out] at hcy
      have hcl := cyK_len K i
      generalize K.getD (i % ln) k0 = k at *
      have hrem : ((i : Int)).tmod (ln : Int) = ((i % ln : Nat) : Int) := by first | rfl | exact (Int.ofNat_tmod i ln).symm | exact Int.ofNat_tmod i ln
      have hln0 : ¬ ln = 0 := by omega
      obtain ⟨j, hj⟩ : ∃ j, i % ln = j := ⟨_, rfl⟩
      rw [hj] at hrem hjl k1 k2 k3 k4
      have hji : (j : Int) < (ln : Int) := by omega
      have hj0 : (0 : Int) ≤ (j : Int) := by omega
      clear hj
      have B7 := (Below.refl wr.heap.size wr).drew.trans (below_alloc wr.drew (.cells #[.int .i64 k.1, .int .i64 k.2.1, .string k.2.2.1, .bool k.2.2.2] 75))
      have HBs : Hid (B ≤ wr.heap.size) := Lib.hid (Nat.le_trans (Nat.le_of_eq HBq.out.symm) HB.out.size)
      have O7 := Lib.hid (HO.out.below B7)
      have S7 := Lib.hid (key_new1 wr.drew k)
      have N7 := Lib.hid (HB.out.trans (B7.mono HBs.out))
      have HCL := Lib.hid hcl; have HCY := Lib.hid hcy
      clear B7 hcl hcy HO
      go_upto_region 13 with fail
      go_region_law
        (first
          | (refine step_app_keys (by rfl) _ _ (by rfl) B (.slice a i c) i (cyK K i) (by rfl) HCL.out O7.out (some ⟨wr.heap.size, 0, none⟩) 1 1 [k] (by rfl) rfl S7.out (fun e => (by cases e)) ?c3 ?c4 ?_
             case c3 => omega
             case c4 => exact Nat.le_trans (Nat.le_of_eq HBq.out.symm) N7.out.size
             intro ad5 c5 w5 o5 g5 p5
             have O8 := Lib.hid o5
             have N8 := Lib.hid (N7.out.grown g5 (Nat.le_trans (Nat.le_of_eq HBq.out.symm) N7.out.size) (fun j hj => (O7.out.lt j hj).1))
             clear o5 g5 p5))
      all_goals go_wp2
      all_goals go_roundw
      all_goals first
        | exact ⟨i + 1, _, _, by omega, rfl, by go_num, Lib.hid (by rw [HCY.out]; exact O8.out), N8⟩
        | (simp [intOf]; try omega)
    · obtain rfl : i = m := by omega
      have hkl : ¬ (i : Int) < (i : Int) := by omega
      obtain ⟨a', c', e, hs⟩ := HO.out.sl
      have HS2 := Lib.hid hs.s
      obtain rfl : a = a' := by injection e
      clear hs e HO
      go_wp2
      refine bodyPost_ret (v := .tuple #[.slice a i c, .int .i64 0]) (by simp [results, Tryd.results50, go_sem]) rfl ?_
      have hf := HS2.out
      rw [HR.out] at hf
      first | exact ⟨a, ⟨c, rfl⟩, hf, NB.out⟩ | exact ⟨a, c, rfl, hf, NB.out⟩
end Go.Proofs.YtdhhfbglbihapaaDoor
set_option linter.unusedVariables false
set_option linter.unusedSimpArgs false
namespace Go.Proofs.YtdhhfbglbihapaaDoor
open Go.ChangeShapes Go.WideShapes Go.ChangeAt Go.RowKit Go.Deep Go.Joins
abbrev MCall := Int × Int × Ky
def mc0 : MCall := (0, 0, k0)
/-- Calls of a macro lie in memory. -/
def MCallsIn (w : World) (B : Nat) (a : Option Addr) (l : List MCall) : Prop :=
  ∀ i, i < l.length → ∃ b off, a = some ⟨b, off, none⟩ ∧ b < B ∧ w.cell? ⟨b, off + i * 6, none⟩ = some (.int .i64 (l.getD i mc0).1) ∧ w.cell? ⟨b, off + i * 6 + 1, none⟩ = some (.int .i64 (l.getD i mc0).2.1) ∧
    w.cell? ⟨b, off + i * 6 + 2, none⟩ = some (.int .i64 (l.getD i mc0).2.2.1) ∧ w.cell? ⟨b, off + i * 6 + 3, none⟩ = some (.int .i64 (l.getD i mc0).2.2.2.1) ∧ w.cell? ⟨b, off + i * 6 + 4, none⟩ = some (.string (l.getD i mc0).2.2.2.2.1) ∧ w.cell? ⟨b, off + i * 6 + 5, none⟩ = some (.bool (l.getD i mc0).2.2.2.2.2) ∧
    (-9223372036854775808 ≤ (l.getD i mc0).2.1 ∧ (l.getD i mc0).2.1 ≤ 9223372036854775807)
theorem MCallsIn.below {w0 w' : World} {a : Option Addr} {l : List MCall} (h : MCallsIn w0 w0.heap.size a l) (hb : Below w0.heap.size w0 w') : MCallsIn w' w0.heap.size a l := fun i hi => by
  obtain ⟨b, off, e, hlt, h1, h2, h3, h4, h5, h6, h7⟩ := h i hi
  exact ⟨b, off, e, hlt, (hb.cell (p := ⟨b, off + i * 6, none⟩) hlt).trans h1, (hb.cell (p := ⟨b, off + i * 6 + 1, none⟩) hlt).trans h2, (hb.cell (p := ⟨b, off + i * 6 + 2, none⟩) hlt).trans h3, (hb.cell (p := ⟨b, off + i * 6 + 3, none⟩) hlt).trans h4,
    (hb.cell (p := ⟨b, off + i * 6 + 4, none⟩) hlt).trans h5, (hb.cell (p := ⟨b, off + i * 6 + 5, none⟩) hlt).trans h6, h7⟩
section
variable {H : Type} {enc : TypeId × Value → H} {W : World}
set_option maxRecDepth 100000 in
theorem cellsMCall : Tryd.prog.cellsOf 77 = 6 := by kernel_rfl
set_option maxRecDepth 100000 in
theorem arg_mcalls {base : Nat} {v0 : Value} {d0 : DataW H} {p : List MemPlace} (hv : Value.okWide Tryd.prog W .any base 67 v0) (h : DataW.Trod enc Tryd.prog W 0 (fun _ => true) true 67 v0 d0 p) :
    ∃ (l : List MCall) (a : Option Addr) (c : Nat), v0 = .slice a l.length c ∧ MCallsIn W W.heap.size a l ∧ l.length ≤ 9223372036854775807 := by
  obtain ⟨a0, len, cap, rfl⟩ := okWide_slice Tryd.underlying67 hv
  obtain ⟨fuel, hf⟩ := h
  rcases open_slice Tryd.underlying67 hf with ⟨hcs, _⟩ | ⟨a, len', cap', m, n, D, Pl, hcs, _, hl, hm, hmm, _, hx⟩
  · simp [Value.cells] at hcs
    obtain ⟨rfl, rfl, rfl⟩ := hcs
    exact ⟨[], none, 0, rfl, fun j hj => absurd hj (Nat.not_lt_zero j), by simp⟩
  · simp [Value.cells] at hcs
    obtain ⟨rfl, rfl, rfl⟩ := hcs
    have hlm : len ≤ m := by rw [hmm]; split <;> omega
    have key : ∀ i, i < len → ∃ q : MCall, W.cell? (a.add (i * 6)) = some (.int .i64 q.1) ∧ W.cell? (a.add (i * 6 + 1)) = some (.int .i64 q.2.1) ∧ W.cell? (a.add (i * 6 + 2)) = some (.int .i64 q.2.2.1) ∧ W.cell? (a.add (i * 6 + 3)) = some (.int .i64 q.2.2.2.1) ∧ W.cell? (a.add (i * 6 + 4)) = some (.string q.2.2.2.2.1) ∧ W.cell? (a.add (i * 6 + 5)) = some (.bool q.2.2.2.2.2) ∧ (-9223372036854775808 ≤ q.2.1 ∧ q.2.1 ≤ 9223372036854775807) := by
      intro i hi
      obtain ⟨cs', h1, h2⟩ := hx i (by omega)
      rw [cellsMCall] at h1
      obtain ⟨_, hlen, hcell⟩ := World.cells?_some h1
      obtain ⟨xs, k, hk, hxy, _, hxl, hf⟩ := DataW.trod_struct Tryd.underlying77 h2
      match xs, hxl, cs', hlen with
      | [y0, y1, y2], _, [u0, u1, u2, u3, u4, u5], _ =>
        have g0 := hf 0 _ rfl
        have g1 := hf 1 _ rfl
        have g2 := hf 2 _ rfl
        simp [cellsIntQ, cellsKeyQ] at g0 g1 g2
        obtain ⟨ys, k', hk', hxy', _, hxl', hf'⟩ := DataW.trod_struct Tryd.underlying75 g2
        match ys, hxl' with
        | [z0, z1, z2, z3], _ =>
          have p0 := hf' 0 _ rfl
          have p1 := hf' 1 _ rfl
          have p2 := hf' 2 _ rfl
          have p3 := hf' 3 _ rfl
          simp [cellsIntQ, cellsStrQ, cellsBoolQ] at p0 p1 p2 p3
          have e0 := hcell 0 (by omega)
          have e1 := hcell 1 (by omega)
          have e2 := hcell 2 (by omega)
          have e3 := hcell 3 (by omega)
          have e4 := hcell 4 (by omega)
          have e5 := hcell 5 (by omega)
          rw [add_add] at e0 e1 e2 e3 e4 e5
          obtain ⟨x0, hx0, _, _⟩ := DataW.trod_int Tryd.underlying3 g0
          obtain ⟨x1, hx1, _, wn⟩ := DataW.trod_int Tryd.underlying3 g1
          obtain ⟨x2, hx2, _, _⟩ := DataW.trod_int Tryd.underlying3 p0
          obtain ⟨x3, hx3, _, _⟩ := DataW.trod_int Tryd.underlying3 p1
          obtain ⟨x4, hx4, _, _⟩ := DataW.trod_string Tryd.underlying9 p2
          obtain ⟨x5, hx5, _⟩ := DataW.trod_bool Tryd.underlying4 p3
          obtain rfl : u0 = .int .i64 x0 := by simpa using hx0
          obtain rfl : u1 = .int .i64 x1 := by simpa using hx1
          obtain rfl : u2 = .int .i64 x2 := by simpa using hx2
          obtain rfl : u3 = .int .i64 x3 := by simpa using hx3
          obtain rfl : u4 = .string x4 := by simpa using hx4
          obtain rfl : u5 = .bool x5 := by simpa using hx5
          exact ⟨(x0, x1, x2, x3, x4, x5), by simpa using e0, by simpa using e1, by simpa using e2, by simpa using e3, by simpa using e4, by simpa using e5, by simpa [Lit.wf, IntKind.min, IntKind.max, IntKind.signed, IntKind.bits] using wn⟩
    obtain ⟨F, hF⟩ : ∃ F : Nat → MCall, ∀ i, i < len → W.cell? (a.add (i * 6)) = some (.int .i64 (F i).1) ∧ W.cell? (a.add (i * 6 + 1)) = some (.int .i64 (F i).2.1) ∧ W.cell? (a.add (i * 6 + 2)) = some (.int .i64 (F i).2.2.1) ∧ W.cell? (a.add (i * 6 + 3)) = some (.int .i64 (F i).2.2.2.1) ∧ W.cell? (a.add (i * 6 + 4)) = some (.string (F i).2.2.2.2.1) ∧ W.cell? (a.add (i * 6 + 5)) = some (.bool (F i).2.2.2.2.2) ∧ (-9223372036854775808 ≤ (F i).2.1 ∧ (F i).2.1 ≤ 9223372036854775807) :=
      ⟨fun i => if h : i < len then (key i h).choose else mc0, fun i hi => by simp only [dif_pos hi]; exact (key i hi).choose_spec⟩
    clear key
    refine ⟨(List.range len).map F, some a, cap, by simp, ?_, by simp; unfold maxLen at hm; omega⟩
    intro j hj
    have hj2 : j < len := by simpa using hj
    obtain ⟨c0, c1, c2, c3, c4, c5, c6⟩ := hF j hj2
    obtain ⟨b, off, sp⟩ := a
    have hsp : sp = none := by
      obtain ⟨c00, _⟩ := hF 0 (by omega)
      have h1 : W.cell? ⟨b, off, sp⟩ = some (.int .i64 (F 0).1) := by simpa [Addr.add] using c00
      exact cell_spot h1
    subst hsp
    rw [addQ_none] at c0 c1 c2 c3 c4 c5
    have hg : ((List.range len).map F).getD j mc0 = F j := by
      rw [List.getD, List.getElem?_map, List.getElem?_range hj2]; rfl
    rw [hg]
    exact ⟨b, off, rfl, block_lt_of_cell c0, c0, c1, c2, c3, c4, c5, c6⟩
end
end Go.Proofs.YtdhhfbglbihapaaDoor
set_option linter.unusedVariables false
set_option linter.unusedSimpArgs false
namespace Go.Proofs.YtdhhfbglbihapaaDoor
open Go.RowKit
theorem slk_ne {T : Nat → Prop} {w : World} {a : Option Addr} {L : List Ky} {c X : Nat} (h : SlK T w a L c) (hX : ∀ b off, a = some ⟨b, off, none⟩ → L ≠ [] → b ≠ X) : SlK (fun k => T k ∧ k ≠ X) w a L c :=
  ⟨h.s, h.le, h.nl, fun ad e hn => ⟨h.st ad e hn, by
    obtain ⟨b, off, e2, _⟩ := h.s 0 (List.length_pos_iff.2 hn)
    rw [e] at e2; cases e2
    exact hX _ _ e hn⟩⟩
/-- Keys don't lie in the document's macro. -/
theorem keys_far {w : World} {a : Option Addr} {L : List Ky} {X : Nat} {a0 a1 : Option Addr} {n0 n1 c0 c1 : Nat} {b : Bool} {t : TypeId} {f : Nat × Nat} (h : KeysIn w a L) (hx : w.heap[X]? = some (.cells #[.slice a0 n0 c0, .slice a1 n1 c1, .bool b] t f)) : ∀ bb off, a = some ⟨bb, off, none⟩ → L ≠ [] → bb ≠ X := fun bb off e hn e2 => by
  obtain ⟨b', off', e', _, c, _⟩ := h 0 (List.length_pos_iff.2 hn)
  rw [e] at e'; cases e'
  subst e2
  rw [cell_of_row _ _ _ _ _ _ hx] at c
  match off, c with
  | 0, c => simp at c
  | 1, c => simp at c
  | 2, c => simp at c
  | n + 3, c => simp at c
theorem MaS.setX {S : Nat → Prop} {P : Nat} {M : Int} {K Nw : List Ky} {kp : Bool} {w : World} (h : MaS S P M K Nw kp w) {X : Nat} (hS : S X) {a0 a1 : Option Addr} {n0 n1 c0 c1 : Nat} {b : Bool} {t : TypeId} {f : Nat × Nat} (hx : w.heap[X]? = some (.cells #[.slice a0 n0 c0, .slice a1 n1 c1, .bool b] t f)) (i : Nat) (u : Value) :
    MaS S P M K Nw kp (w.setCell ⟨X, i, none⟩ u) := by
  obtain ⟨ka, kc, bv, h1, h2, h3, h4, h5⟩ := h.ex
  have hX := h5 X hS
  have hz : (w.setCell ⟨X, i, none⟩ u).heap.size = w.heap.size := by simp [World.setCell]
  refine ⟨⟨ka, kc, bv, (Below.heap_setCell _ _ _ _ (Ne.symm hX.2.1)).trans h1, ?_, own_set h3 hX.2.2 _, h4, fun k hk => by rw [hz]; exact h5 k hk⟩, h.ln⟩
  exact ((slk_ne h2 (keys_far h2.s hx)).keep (Nat.le_of_eq hz.symm) (fun k hk => Below.heap_setCell _ _ _ _ hk.2)).mono (fun k hk => by rw [hz]; exact hk.1)
/-- A macro keeps K1, N1; the document's lies at X and says K, N. -/
structure Md (w : World) (S : Nat → Prop) (P X : Nat) (M : Int) (K1 N1 : List Ky) (k1 : Bool) (K N : List Ky) (kp : Bool) (la : Option Addr) (ln lc : Nat) (na : Option Addr) (nn nc : Nat) (wr : World) : Prop where
  m : MaS S P M K1 N1 k1 wr
  hl : K.length = ln
  hn : N.length = nn
  x : wr.heap[X]? = some (.cells #[.slice la ln lc, .slice na nn nc, .bool kp] 73 (0, 0))
  l : SlK (fun k => S k ∧ k ≠ X) wr la K lc
  n : SlK (fun k => S k ∧ k ≠ X) wr na N nc
  sX : S X
  sw : ∀ k, k < w.heap.size → S k
  xw : w.heap.size ≤ X
  b : Below w.heap.size w wr
/-- A box that stays. -/
structure BxM (S : Nat → Prop) (X C : Nat) (cc : Array Value) (t : TypeId) (wr : World) : Prop where
  c : wr.heap[C]? = some (.cells cc t (0, 0))
  s : S C
  ne : C ≠ X
def newM (S : Nat → Prop) (wr w' : World) : Nat → Prop := fun k => S k ∨ (wr.heap.size ≤ k ∧ k < w'.heap.size)
section
variable {w : World} {S : Nat → Prop} {P X : Nat} {M : Int} {K1 N1 K N : List Ky} {k1 kp : Bool} {la na : Option Addr} {ln lc nn nc : Nat} {wr : World}
theorem Md.below (h : Md w S P X M K1 N1 k1 K N kp la ln lc na nn nc wr) {w' : World} (hb : Below wr.heap.size wr w') : Md w S P X M K1 N1 k1 K N kp la ln lc na nn nc w' :=
  ⟨h.m.below hb, h.hl, h.hn, blk_below h.x hb, h.l.below hb, h.n.below hb, h.sX, h.sw, h.xw, seqB h.b hb⟩
theorem Md.grow (h : Md w S P X M K1 N1 k1 K N kp la ln lc na nn nc wr) {w' : World} (hb : Below wr.heap.size wr w') : Md w (newM S wr w') P X M K1 N1 k1 K N kp la ln lc na nn nc w' :=
  ⟨h.m.grow hb (fun k hk => hk), h.hl, h.hn, blk_below h.x hb, (h.l.below hb).mono (fun k hk => ⟨Or.inl hk.1, hk.2⟩), (h.n.below hb).mono (fun k hk => ⟨Or.inl hk.1, hk.2⟩), Or.inl h.sX, fun k hk => Or.inl (h.sw k hk), h.xw, seqB h.b hb⟩
theorem Md.kept (h : Md w S P X M K1 N1 k1 K N kp la ln lc na nn nc wr) {w' : World} {K2 N2 : List Ky} {k2 : Bool} (g : MaS S P M K2 N2 k2 w') (k : KeptM S wr w') : Md w S P X M K2 N2 k2 K N kp la ln lc na nn nc w' :=
  ⟨g, h.hl, h.hn, (k.block X h.sX).trans h.x, h.l.keep k.size (fun j hj => k.block j hj.1), h.n.keep k.size (fun j hj => k.block j hj.1), h.sX, h.sw, h.xw, h.b.trans (k.below w.heap.size h.sw)⟩
theorem Md.lt (h : Md w S P X M K1 N1 k1 K N kp la ln lc na nn nc wr) : ∀ k, S k → k < wr.heap.size := h.m.lt
theorem Md.cells (h : Md w S P X M K1 N1 k1 K N kp la ln lc na nn nc wr) : wr.cell? ⟨X, 0, none⟩ = some (.slice la ln lc) ∧ wr.cell? ⟨X, 1, none⟩ = some (.slice na nn nc) ∧ wr.cell? ⟨X, 2, none⟩ = some (.bool kp) ∧ ∀ i, wr.frozen? ⟨X, i, none⟩ = false := by
  have y := fun i => cell_of_row _ _ i _ _ _ h.x
  exact ⟨y 0, y 1, y 2, fun i => frozen_of_row _ X i _ _ h.x⟩
/-- Another macro comes into the document's box. -/
theorem Md.store (h : Md w S P X M K1 N1 k1 K N kp la ln lc na nn nc wr) {K' N' : List Ky} {k' : Bool} {la' na' : Option Addr} {ln' lc' nn' nc' : Nat} (hl : K'.length = ln') (hn : N'.length = nn') (sl : SlK (fun k => S k ∧ k ≠ X) wr la' K' lc') (sn : SlK (fun k => S k ∧ k ≠ X) wr na' N' nc') :
    Md w S P X M K1 N1 k1 K' N' k' la' ln' lc' na' nn' nc' (((wr.setCell ⟨X, 0, none⟩ (.slice la' ln' lc')).setCell ⟨X, 1, none⟩ (.slice na' nn' nc')).setCell ⟨X, 2, none⟩ (.bool k')) := by
  have b0 := blk_set h.x 0 (.slice la' ln' lc')
  have b1 := blk_set b0 1 (.slice na' nn' nc')
  have b2 := blk_set b1 2 (.bool k')
  have hz : (((wr.setCell ⟨X, 0, none⟩ (.slice la' ln' lc')).setCell ⟨X, 1, none⟩ (.slice na' nn' nc')).setCell ⟨X, 2, none⟩ (.bool k')).heap.size = wr.heap.size := by simp [World.setCell]
  have hk : ∀ k, k ≠ X → (((wr.setCell ⟨X, 0, none⟩ (.slice la' ln' lc')).setCell ⟨X, 1, none⟩ (.slice na' nn' nc')).setCell ⟨X, 2, none⟩ (.bool k')).heap[k]? = wr.heap[k]? := fun k hk => (Below.heap_setCell _ _ _ _ hk).trans ((Below.heap_setCell _ _ _ _ hk).trans (Below.heap_setCell _ _ _ _ hk))
  exact ⟨((h.m.setX h.sX h.x 0 _).setX h.sX b0 1 _).setX h.sX b1 2 _, hl, hn, b2, sl.keep (Nat.le_of_eq hz.symm) (fun k hk' => hk k hk'.2), sn.keep (Nat.le_of_eq hz.symm) (fun k hk' => hk k hk'.2), h.sX, h.sw, h.xw,
    ((h.b.setCell (p := ⟨X, 0, none⟩) h.xw _).setCell (p := ⟨X, 1, none⟩) h.xw _).setCell (p := ⟨X, 2, none⟩) h.xw _⟩
theorem BxM.below {C : Nat} {cc : Array Value} {t : TypeId} (h : BxM S X C cc t wr) {w' : World} (hb : Below wr.heap.size wr w') : BxM S X C cc t w' := ⟨blk_below h.c hb, h.s, h.ne⟩
theorem BxM.grow {C : Nat} {cc : Array Value} {t : TypeId} (h : BxM S X C cc t wr) {w' : World} (hb : Below wr.heap.size wr w') : BxM (newM S wr w') X C cc t w' := ⟨blk_below h.c hb, Or.inl h.s, h.ne⟩
theorem BxM.kept {C : Nat} {cc : Array Value} {t : TypeId} (h : BxM S X C cc t wr) {w' : World} (k : KeptM S wr w') : BxM S X C cc t w' := ⟨(k.block C h.s).trans h.c, h.s, h.ne⟩
theorem BxM.new (h : Md w S P X M K1 N1 k1 K N kp la ln lc na nn nc wr) (cc : Array Value) (t : TypeId) {w' : World} (hw : wr.alloc (.cells cc t) = w') : BxM (newM S wr w') X wr.heap.size cc t w' ∧ Below wr.heap.size wr w' := by
  subst hw
  refine ⟨⟨heap_alloc_new _ _, Or.inr ⟨Nat.le_refl _, by simp⟩, ?_⟩, below_alloc _ _⟩
  have := blk_lt h.x; omega
theorem md_keeps (h : Md w S P X M K1 N1 k1 K N kp la ln lc na nn nc wr) : Calls Tryd.prog 53 #[.pointer (some ⟨P, 0, none⟩)] wr fun e w' => e = .returned (.bool k1) ∧ wr = w' := ma_keeps h.m
theorem md_keys (h : Md w S P X M K N k1 K N kp la ln lc na nn nc wr) : Calls Tryd.prog 54 #[.pointer (some ⟨P, 0, none⟩)] wr fun e w' => ∃ b d, e = .returned (.slice b ln d) ∧ KeysIn w' b K ∧ Below wr.heap.size wr w' := by
  have := ma_keys h.m
  rw [h.hl] at this
  exact this
theorem md_same (h : Md w S P X M K1 N1 k1 K N kp la ln lc na nn nc wr) (b : Option Addr) (d : Nat) (hs : KeysIn wr b K) (hl : ln ≤ 1000000) : Calls Tryd.prog 52 #[.slice b ln d, .slice la ln lc] wr fun e w' => e = .returned (.bool true) ∧ Below wr.heap.size wr w' := ksame_ref K b la ln d lc wr h.hl hl hs h.l.s
theorem md_begin (h : Md w S P X M K1 N1 false K N kp la ln lc na nn nc wr) : Calls Tryd.prog 45 #[.pointer (some ⟨P, 0, none⟩)] wr fun e w' => e = .returned (.bool true) ∧ Md w S P X M K1 [] true K N kp la ln lc na nn nc w' ∧ KeptM S wr w' := by
  refine (ma_begin h.m).mono ?_
  rintro e w' ⟨rfl, g, k⟩
  exact ⟨rfl, h.kept g k, k⟩
theorem md_end_none (h : Md w S P X M K1 [] true K N kp la ln lc na nn nc wr) : Calls Tryd.prog 49 #[.pointer (some ⟨P, 0, none⟩)] wr fun e w' => e = .returned (.bool true) ∧ Md w S P X M K1 [] false K N kp la ln lc na nn nc w' ∧ KeptM S wr w' := by
  refine (ma_end_none h.m).mono ?_
  rintro e w' ⟨rfl, g, k⟩
  exact ⟨rfl, h.kept g k, k⟩
theorem md_end_some (h : Md w S P X M K1 N1 true K N kp la ln lc na nn nc wr) (hne : N1 ≠ []) : Calls Tryd.prog 49 #[.pointer (some ⟨P, 0, none⟩)] wr fun e w' => e = .returned (.bool true) ∧ Md w S P X M N1 [] false K N kp la ln lc na nn nc w' ∧ KeptM S wr w' := by
  refine (ma_end_some h.m hne).mono ?_
  rintro e w' ⟨rfl, g, k⟩
  exact ⟨rfl, h.kept g k, k⟩
theorem md_do (q : Ky) (h : Md w S P X M K1 N1 true K N kp la ln lc na nn nc wr) (hK : KT wr) (hb : keyB q = true) (hM : (N1.length : Int) < M) : Calls Tryd.prog 48 #[.pointer (some ⟨P, 0, none⟩), .agg #[.int .i64 q.1, .int .i64 q.2.1, .string q.2.2.1, .bool q.2.2.2]] wr fun e w' => e = .returned (.bool true) ∧ Md w S P X M K1 (N1 ++ [q]) true K N kp la ln lc na nn nc w' ∧ KeptM S wr w' := by
  refine (ma_do q h.m hK hb hM).mono ?_
  rintro e w' ⟨rfl, g, k⟩
  exact ⟨rfl, h.kept g k, k⟩
theorem Md.start {w w1 w2 w3 : World} {M : Int} (b1 : Below w.heap.size w w1) (hm : ∀ S : Nat → Prop, (∀ k, S k → k < w1.heap.size) → MaS S w1.heap.size M [] [] false w2) (b2 : Below w1.heap.size w1 w2) (h3 : w2.alloc (.cells #[.slice none 0 0, .slice none 0 0, .bool false] 73) = w3) :
    ∃ S, Md w S w1.heap.size w2.heap.size M [] [] false [] [] false none 0 0 none 0 0 w3 := by
  subst h3
  have b3 := below_alloc w2 (.cells #[.slice none 0 0, .slice none 0 0, .bool false] 73)
  have g := (hm (fun k => k < w1.heap.size) (fun _ h => h)).grow b3 (T := newM (fun k => k < w1.heap.size) w2 (w2.alloc (.cells #[.slice none 0 0, .slice none 0 0, .bool false] 73))) (fun k hk => hk)
  refine ⟨_, g, rfl, rfl, heap_alloc_new _ _, SlK.none _ _, SlK.none _ _, Or.inr ⟨Nat.le_refl _, by simp⟩, fun k hk => Or.inl (Nat.lt_of_lt_of_le hk b1.size), Nat.le_trans b1.size b2.size, seqB (seqB b1 b2) b3⟩
/-- The call that comes. -/
theorem mc_at {w : World} {a : Option Addr} {l : List MCall} (h : MCallsIn w w.heap.size a l) {wr : World} (hb : Below w.heap.size w wr) (j : Nat) (hj : j < l.length) : ∃ (b off : Nat) (k i : Int) (q : Ky), a = some ⟨b, off, none⟩ ∧ wr.cell? ⟨b, off + j * 6, none⟩ = some (.int .i64 k) ∧ wr.cell? ⟨b, off + j * 6 + 1, none⟩ = some (.int .i64 i) ∧ wr.cell? ⟨b, off + j * 6 + 2, none⟩ = some (.int .i64 q.1) ∧
    wr.cell? ⟨b, off + j * 6 + 3, none⟩ = some (.int .i64 q.2.1) ∧ wr.cell? ⟨b, off + j * 6 + 4, none⟩ = some (.string q.2.2.1) ∧ wr.cell? ⟨b, off + j * 6 + 5, none⟩ = some (.bool q.2.2.2) ∧ (-9223372036854775808 ≤ i ∧ i ≤ 9223372036854775807) := by
  obtain ⟨b, off, e, _, h1, h2, h3, h4, h5, h6, h7⟩ := (h.below hb) j hj
  exact ⟨b, off, _, _, _, e, h1, h2, h3, h4, h5, h6, h7⟩
theorem rdo_no (q : Ky) (M : Int) (la na : Option Addr) (ln lc nn nc : Nat) (kp : Bool) (w : World) (h : ¬ (kp = true ∧ keyB q = true ∧ (nn : Int) < M)) : Calls Tryd.prog 47 #[mV la ln lc na nn nc kp, .agg #[.int .i64 q.1, .int .i64 q.2.1, .string q.2.2.1, .bool q.2.2.2], .int .i64 M] w fun e w' => e = .returned (.tuple #[mV la ln lc na nn nc kp, .bool false]) ∧ Below w.heap.size w w' := by
  cases kp with
  | false => exact rdo_off q M la na ln lc nn nc w
  | true =>
    cases hb : keyB q with
    | false => exact rdo_bad q M la na ln lc nn nc w hb
    | true => exact rdo_full q M la na ln lc nn nc w hb (by have h2 : ¬ (nn : Int) < M := fun h2 => h ⟨rfl, hb, h2⟩; omega)
theorem md_do_no (q : Ky) (h : Md w S P X M K1 N1 k1 K N kp la ln lc na nn nc wr) (hK : KT wr) (hno : ¬ (k1 = true ∧ keyB q = true ∧ (N1.length : Int) < M)) : Calls Tryd.prog 48 #[.pointer (some ⟨P, 0, none⟩), .agg #[.int .i64 q.1, .int .i64 q.2.1, .string q.2.2.1, .bool q.2.2.2]] wr fun e w' => e = .returned (.bool false) ∧ Below wr.heap.size wr w' := by
  have hm := h.m
  cases k1 with
  | false => exact ma_do_off q hm hK
  | true =>
    cases hb : keyB q with
    | false => exact ma_do_bad q hm hK hb
    | true => exact ma_do_full q hm hK hb (by have h2 : ¬ (N1.length : Int) < M := fun h2 => hno ⟨rfl, hb, h2⟩; omega)
theorem nil_same (w : World) : Calls Tryd.prog 52 #[.slice none 0 0, .slice none 0 0] w fun e w' => e = .returned (.bool true) ∧ Below w.heap.size w w' := ksame_ref [] none none 0 0 0 w rfl (by omega) (fun j hj => absurd hj (Nat.not_lt_zero j)) (fun j hj => absurd hj (Nat.not_lt_zero j))
theorem big_iff (i : Int) (ln : Nat) (h0 : 0 < ln) : (9999 < i ∨ 9999 < i * (ln : Int)) ↔ 9999 / (ln : Int) < i := by
  have hl : (0 : Int) < (ln : Int) := by omega
  constructor
  · rintro (h | h)
    · have : 9999 / (ln : Int) ≤ 9999 := Int.ediv_le_self _ (by omega)
      omega
    · exact (Int.ediv_lt_iff_lt_mul hl).2 h
  · intro h
    exact Or.inr ((Int.ediv_lt_iff_lt_mul hl).1 h)
end
end Go.Proofs.YtdhhfbglbihapaaDoor
set_option linter.unusedVariables false
set_option linter.unusedSimpArgs false
namespace Go.Proofs.YtdhhfbglbihapaaDoor
open Go.RowKit
theorem macrodoes_no (M : Int) (v : Value) (w : World) (hK : KT w) (hM : ¬ (1 ≤ M ∧ M ≤ 9999)) : Calls Tryd.prog 9 #[.int .i64 M, v] w fun x w' => x = .returned (.bool true) ∧ Below w.heap.size w w' := by
  have AW := Lib.hid (mawake_any w hK)
  have NW := Lib.hid fun w => ma_new_no M w (by omega)
  clear hK
  by_cases h1 : M < 1
  · go_enter Tryd.func9, Tryd.ntmps9
    go_wp2_with (first
      | (go_at_call 43; refine AW.out.mono ?_; rintro x w1 ⟨rfl, b1⟩)
      | (go_at_call 44; refine (NW.out _).mono ?_; rintro x w2 ⟨rfl, hw⟩; subst hw))
    go_ret
    exact ⟨rfl, b1⟩
  · have h2 : (9999 : Int) < M := by omega
    go_enter Tryd.func9, Tryd.ntmps9
    go_wp2_with (first
      | (go_at_call 43; refine AW.out.mono ?_; rintro x w1 ⟨rfl, b1⟩)
      | (go_at_call 44; refine (NW.out _).mono ?_; rintro x w2 ⟨rfl, hw⟩; subst hw))
    go_ret
    exact ⟨rfl, b1⟩
set_option maxHeartbeats 32000000 in
theorem macrodoes_yes (M : Int) (l : List MCall) (aL : Option Addr) (cL : Nat) (w : World) (hK : KT w) (hl : l.length ≤ 9223372036854775807) (hL : MCallsIn w w.heap.size aL l) (hM : 1 ≤ M ∧ M ≤ 9999) : Calls Tryd.prog 9 #[.int .i64 M, .slice aL l.length cL] w fun x w' => x = .returned (.bool true) ∧ Below w.heap.size w w' := by
  have AW := Lib.hid (mawake_any w hK)
  have HL := Lib.hid hL
  have HK := Lib.hid hK
  clear hL hK
  have NW := Lib.hid fun w => ma_new M w hM.1 hM.2
  have h1 : decide (M < 1) = false := decide_eq_false (by omega)
  have h2 : decide (9999 < M) = false := decide_eq_false (by omega)
  have HM := Lib.hid hM
  clear hM
  go_enter Tryd.func9, Tryd.ntmps9
  go_upto_region 9 with (first
    | (go_at_call 43; refine AW.out.mono ?_; rintro x w1 ⟨rfl, b1⟩)
    | (go_at_call 44; refine (NW.out _).mono ?_; rintro x w2 ⟨rfl, hm2, b2⟩))
  obtain ⟨w3, hw3⟩ : ∃ w3, w2.alloc (.cells #[.slice none 0 0, .slice none 0 0, .bool false] 73) = w3 := ⟨_, rfl⟩
  obtain ⟨S0, i0⟩ := Md.start b1 hm2 b2 hw3
  have I0 := Lib.hid i0
  rw [hw3]
  generalize w1.heap.size = P at I0 ⊢
  generalize w2.heap.size = X at I0 ⊢
  clear hm2 hw3 b1 b2 h1 h2 i0
  go_upto_region 10 with fail
  go_loopw [8] (fun iv wr => ∃ (j : Nat) (S : Nat → Prop) (K N : List Ky) (kp : Bool) (la : Option Addr) (ln lc : Nat) (na : Option Addr) (nn nc : Nat), j ≤ l.length ∧ j ≤ 60 ∧ iv = .int .i64 (j : Int) ∧ Hid (Md w S P X M K N kp K N kp la ln lc na nn nc wr)) (fun iv _ => l.length - (intOf iv).toNat)
  case atStart => exact ⟨0, S0, [], [], false, none, 0, 0, none, 0, 0, Nat.zero_le _, Nat.zero_le _, rfl, I0⟩
  case round =>
    obtain ⟨j, S, K, N, kp, la, ln, lc, na, nn, nc, hj, hj40, rfl, HI⟩ := hrel
    clear I0
    by_cases hlt : j < l.length
    rotate_left
    · have hj1 : ¬ (j : Int) < l.length := by omega
      have hb := Lib.hid HI.out.b
      go_wp2_with fail
      go_ret
      exact ⟨rfl, hb.out⟩
    by_cases h40 : j < 60
    rotate_left
    · have hj1 : (j : Int) < l.length := by omega
      have hj2 : ¬ (j : Int) < 60 := by omega
      have hb := Lib.hid HI.out.b
      go_wp2_with fail
      go_ret
      exact ⟨rfl, hb.out⟩
    have hj1 : (j : Int) < l.length := by omega
    have hj2 : (j : Int) < 60 := by omega
    have hj0 : (0 : Int) ≤ j := by omega
    obtain ⟨kb, off, k, i, q, rfl, c0, c1, c2, c3, c4, c5, hi⟩ := mc_at HL.out HI.out.b j hlt
    obtain ⟨W, hW⟩ : ∃ W, wr.alloc (.cells #[.int .i64 k, .int .i64 i, .int .i64 q.1, .int .i64 q.2.1, .string q.2.2.1, .bool q.2.2.2] 77) = W := ⟨_, rfl⟩
    obtain ⟨x0, bW⟩ := BxM.new HI.out #[.int .i64 k, .int .i64 i, .int .i64 q.1, .int .i64 q.2.1, .string q.2.2.1, .bool q.2.2.2] 77 hW
    have D0 := Lib.hid (HI.out.grow bW)
    have X0 := Lib.hid x0
    have HKW := Lib.hid (HK.out.below D0.out.b)
    have Hi := Lib.hid hi
    go_upto_region 13 with fail
    obtain ⟨C, hC⟩ : ∃ C, wr.heap.size = C := ⟨_, rfl⟩
    rw [hC] at X0 ⊢
    obtain ⟨e0, e1, e2, zf⟩ := D0.out.cells
    have yy := fun i => cell_of_row _ _ i _ _ _ X0.out.c
    have f0 := yy 0; have f1 := yy 1; have f2 := yy 2; have f3 := yy 3; have f4 := yy 4; have f5 := yy 5
    dsimp at f0 f1 f2 f3 f4 f5
    clear x0 bW HI hW c0 c1 c2 c3 c4 c5 hC hi yy
    by_cases h100 : (100 : Int) < q.2.2.1.size
    · go_wp2_with fail
      go_ret
      exact ⟨rfl, D0.out.b⟩
    go_upto_region 15 with fail
    generalize newM S wr W = T at D0 X0
    clear e0 e1 e2 zf f0 f1 f2 f3 f4 f5
    obtain ⟨e0, e1, e2, zf⟩ := D0.out.cells
    have yy := fun i => cell_of_row _ _ i _ _ _ X0.out.c
    have f0 := yy 0; have f1 := yy 1; have f2 := yy 2; have f3 := yy 3; have f4 := yy 4; have f5 := yy 5
    dsimp at f0 f1 f2 f3 f4 f5
    clear yy
    go_upto_block 2 with fail
    go_cut [10, 11, 12, 13, 14, 15] from 41 to 138 (fun s10 s11 s12 s13 s14 s15 wx => ∃ (T : Nat → Prop) (K N : List Ky) (kp : Bool) (la : Option Addr) (ln lc : Nat) (na : Option Addr) (nn nc : Nat), Hid (Md w T P X M K N kp K N kp la ln lc na nn nc wx))
    case first =>
      by_cases hk0 : k = 0
      · as_aux_lemma =>
          subst hk0
          cases kp with
          | false =>
            have Dd := Lib.hid (D0.out.below (Below.refl _ _).drew)
            have y2 := Dd.out.cells.2.2.1
            go_upto_region 21 with fail
            go_region_held3 (fun w' => w'.cell? ⟨X, 2, none⟩ = some (.bool false)) (first | exact y2 | exact y26 | go_keep)
              (first | (go_at_call 45; (with_reducible refine (md_begin Dd.out).mono ?_); rintro x w6 ⟨rfl, d6, k6⟩; have D6 := Lib.hid d6; have y26 := D6.out.cells.2.2.1; clear d6 k6))
            clear e0 e1 e2 zf Dd
            obtain ⟨g0, g1, g2, gf⟩ := D6.out.cells
            go_wp2_with (go_at_call 46; refine (rturn_on la na ln lc nn nc _).mono ?_; rintro x w7 ⟨rfl, b7⟩; have D7 := Lib.hid (D6.out.below b7); obtain ⟨p0, p1, p2, pf⟩ := D7.out.cells; have D8 := Lib.hid (D7.out.store (K' := K) (N' := []) (k' := true) D7.out.hl rfl D7.out.l (SlK.none _ _)); clear b7)
            go_meet
            exact ⟨_, _, _, _, _, _, _, _, _, _, D8⟩
          | true =>
            have Dd := Lib.hid (D0.out.below (Below.refl _ _).drew)
            have y2 := Dd.out.cells.2.2.1
            go_upto_region 21 with fail
            go_region_held3 (fun w' => w'.cell? ⟨X, 2, none⟩ = some (.bool true)) (first | exact y2 | exact y26 | go_keep)
              (first | (go_at_call 45; (with_reducible refine (ma_begin_no Dd.out.m).mono ?_); rintro x w6 ⟨rfl, h6⟩; subst h6; have D6 := Dd; have y26 := y2))
            clear e0 e1 e2 zf
            obtain ⟨g0, g1, g2, gf⟩ := D6.out.cells
            go_wp2_with fail
            go_meet
            exact ⟨_, _, _, _, _, _, _, _, _, _, D6⟩
      have hb0 : (k == 0) = false := beq_eq_false_iff_ne.2 hk0
      by_cases hk1 : k = 1
      · as_aux_lemma =>
          subst hk1
          by_cases hyes : kp = true ∧ keyB q = true ∧ (nn : Int) < M
          · skip
            obtain ⟨rfl, hb, hM2⟩ := hyes
            have hnn : nn ≤ 9999 := by have := D0.out.m.ln.2.1; rw [D0.out.hn] at this; exact this
            have hM3 : (N.length : Int) < M := by rw [D0.out.hn]; exact hM2
            have RD := Lib.hid (rdo_yes _ q M N la na ln lc nn nc W hb hM2 D0.out.hn hnn D0.out.n)
            go_upto_region 27 with (go_at_call 47; refine RD.out.mono ?_; rintro x w6 ⟨nb, nd, rfl, l6, b6⟩; have D6 := Lib.hid (D0.out.grow b6); have X6 := Lib.hid (X0.out.grow b6); have L6 := Lib.hid (l6.mono (T := fun k => newM T W w6 k ∧ k ≠ X) (fun k hk => ⟨Or.inr hk, by have := D0.out.lt X D0.out.sX; have := hk.1; omega⟩)); clear b6 l6)
            clear e0 e1 e2 zf f0 f1 f2 f3 f4 f5 RD D0 X0
            obtain ⟨W7, hW7⟩ : ∃ W7, w6.alloc (.cells #[.slice la ln lc, .slice nb (nn + 1) nd, .bool true] 73) = W7 := ⟨_, rfl⟩
            rw [hW7]
            obtain ⟨y7, b7⟩ := BxM.new D6.out #[.slice la ln lc, .slice nb (nn + 1) nd, .bool true] 73 hW7
            have D7 := Lib.hid (D6.out.grow b7)
            have X7 := Lib.hid (X6.out.grow b7)
            have L7 := Lib.hid ((L6.out.below b7).mono (T := fun k => newM (newM T W w6) w6 W7 k ∧ k ≠ X) (fun k hk => ⟨Or.inl hk.1, hk.2⟩))
            have Y7 := Lib.hid y7
            have K7 := Lib.hid (HK.out.below D7.out.b)
            obtain ⟨Y, hY⟩ : ∃ Y, w6.heap.size = Y := ⟨_, rfl⟩
            rw [hY] at Y7 ⊢
            clear y7 b7 hW7 hY D6 X6 L6
            have yy := fun i => cell_of_row _ _ i _ _ _ X7.out.c
            have f2 := yy 2; have f3 := yy 3; have f4 := yy 4; have f5 := yy 5
            dsimp at f2 f3 f4 f5
            clear yy
            go_wp2_with (go_at_call 48; refine (md_do q D7.out K7.out hb hM3).mono ?_; rintro x w8 ⟨rfl, d8, k8⟩; have D8 := Lib.hid d8; have Y8 := Lib.hid (Y7.out.kept k8); have L8 := Lib.hid (L7.out.keep k8.size (fun k hk => k8.block k hk.1)); obtain ⟨p0, p1, p2, pf⟩ := D8.out.cells; have yy := fun i => cell_of_row _ _ i _ _ _ Y8.out.c; have v0 := yy 0; have v1 := yy 1; have v2 := yy 2; dsimp at v0 v1 v2; have D9 := Lib.hid (D8.out.store (K' := K) (N' := N ++ [q]) (k' := true) D8.out.hl (nn' := nn + 1) (by rw [List.length_append, D8.out.hn]; rfl) D8.out.l L8.out); clear d8 k8 yy)
            go_meet
            exact ⟨_, _, _, _, _, _, _, _, _, _, D9⟩
          · skip
            have hno2 : ¬ (kp = true ∧ keyB q = true ∧ (N.length : Int) < M) := by rw [D0.out.hn]; exact hyes
            have RD := Lib.hid fun w => rdo_no q M la na ln lc nn nc kp w hyes
            clear hyes
            go_upto_region 27 with (go_at_call 47; refine (RD.out _).mono ?_; rintro x w6 ⟨rfl, b6⟩; have D6 := Lib.hid (D0.out.below b6); have X6 := Lib.hid (X0.out.below b6); clear b6)
            clear e0 e1 e2 zf f0 f1 f2 f3 f4 f5 RD D0 X0
            obtain ⟨W7, hW7⟩ : ∃ W7, w6.alloc (.cells #[.slice la ln lc, .slice na nn nc, .bool kp] 73) = W7 := ⟨_, rfl⟩
            rw [hW7]
            obtain ⟨y7, b7⟩ := BxM.new D6.out #[.slice la ln lc, .slice na nn nc, .bool kp] 73 hW7
            have D7 := Lib.hid (D6.out.grow b7)
            have X7 := Lib.hid (X6.out.grow b7)
            have Y7 := Lib.hid y7
            have K7 := Lib.hid (HK.out.below D7.out.b)
            obtain ⟨Y, hY⟩ : ∃ Y, w6.heap.size = Y := ⟨_, rfl⟩
            rw [hY] at Y7 ⊢
            clear y7 b7 hW7 hY D6 X6
            have yy := fun i => cell_of_row _ _ i _ _ _ X7.out.c
            have f2 := yy 2; have f3 := yy 3; have f4 := yy 4; have f5 := yy 5
            dsimp at f2 f3 f4 f5
            clear yy
            go_wp2_with (go_at_call 48; refine (md_do_no q D7.out K7.out hno2).mono ?_; rintro x w8 ⟨rfl, b8⟩; have D8 := Lib.hid (D7.out.below b8); have Y8 := Lib.hid (Y7.out.below b8); obtain ⟨p0, p1, p2, pf⟩ := D8.out.cells; have yy := fun i => cell_of_row _ _ i _ _ _ Y8.out.c; have v0 := yy 0; have v1 := yy 1; have v2 := yy 2; dsimp at v0 v1 v2; have D9 := Lib.hid (D8.out.store (K' := K) (N' := N) (k' := kp) D8.out.hl D8.out.hn D8.out.l D8.out.n); clear b8 yy)
            go_meet
            exact ⟨_, _, _, _, _, _, _, _, _, _, D9⟩
      have hb1 : (k == 1) = false := beq_eq_false_iff_ne.2 hk1
      by_cases hk2 : k = 2
      · as_aux_lemma =>
          subst hk2
          cases kp with
          | false =>
            have Dd := Lib.hid (D0.out.below (Below.refl _ _).drew)
            have y2 := Dd.out.cells.2.2.1
            go_upto_region 31 with fail
            go_region_held3 (fun w' => w'.cell? ⟨X, 2, none⟩ = some (.bool false)) (first | exact y2 | exact y26 | go_keep)
              (first | (go_at_call 49; (with_reducible refine (ma_end_no Dd.out.m).mono ?_); rintro x w6 ⟨rfl, h6⟩; subst h6; have D6 := Dd; have y26 := y2))
            clear e0 e1 e2 zf
            obtain ⟨g0, g1, g2, gf⟩ := D6.out.cells
            go_wp2_with fail
            go_meet
            exact ⟨_, _, _, _, _, _, _, _, _, _, D6⟩
          | true =>
            by_cases hN : N = []
            · subst hN
              obtain rfl : 0 = nn := D0.out.hn
              have Dd := Lib.hid (D0.out.below (Below.refl _ _).drew)
              have y2 := Dd.out.cells.2.2.1
              go_upto_region 31 with fail
              go_region_held3 (fun w' => w'.cell? ⟨X, 2, none⟩ = some (.bool true)) (first | exact y2 | exact y26 | go_keep)
                (first | (go_at_call 49; (with_reducible refine (md_end_none Dd.out).mono ?_); rintro x w6 ⟨rfl, d6, k6⟩; have D6 := Lib.hid d6; have y26 := D6.out.cells.2.2.1; clear d6 k6))
              clear e0 e1 e2 zf Dd
              obtain ⟨g0, g1, g2, gf⟩ := D6.out.cells
              go_wp2_with (go_at_call 46; refine (rturn_none la na ln lc nc _).mono ?_; rintro x w7 ⟨rfl, b7⟩; have D7 := Lib.hid (D6.out.below b7); obtain ⟨p0, p1, p2, pf⟩ := D7.out.cells; have D8 := Lib.hid (D7.out.store (K' := K) (N' := []) (k' := false) D7.out.hl rfl D7.out.l (SlK.none _ _)); clear b7)
              go_meet
              exact ⟨_, _, _, _, _, _, _, _, _, _, D8⟩
            · have hn0 : 0 < nn := by rw [← D0.out.hn]; exact List.length_pos_iff.2 hN
              have Dd := Lib.hid (D0.out.below (Below.refl _ _).drew)
              have y2 := Dd.out.cells.2.2.1
              go_upto_region 31 with fail
              go_region_held3 (fun w' => w'.cell? ⟨X, 2, none⟩ = some (.bool true)) (first | exact y2 | exact y26 | go_keep)
                (first | (go_at_call 49; (with_reducible refine (md_end_some Dd.out hN).mono ?_); rintro x w6 ⟨rfl, d6, k6⟩; have D6 := Lib.hid d6; have y26 := D6.out.cells.2.2.1; clear d6 k6))
              clear e0 e1 e2 zf Dd
              obtain ⟨g0, g1, g2, gf⟩ := D6.out.cells
              go_wp2_with (go_at_call 46; refine (rturn_off la na ln lc nn nc _ hn0).mono ?_; rintro x w7 ⟨rfl, b7⟩; have D7 := Lib.hid (D6.out.below b7); obtain ⟨p0, p1, p2, pf⟩ := D7.out.cells; have D8 := Lib.hid (D7.out.store (K' := N) (N' := []) (k' := false) D7.out.hn rfl D7.out.n (SlK.none _ _)); clear b7)
              go_meet
              exact ⟨_, _, _, _, _, _, _, _, _, _, D8⟩
      have hb2 : (k == 2) = false := beq_eq_false_iff_ne.2 hk2
      as_aux_lemma =>
        have hl9 : ln ≤ 9999 := by have := D0.out.m.ln.1; rw [D0.out.hl] at this; exact this
        cases kp with
        | true =>
          have RP := Lib.hid (rplay_err 12 i true la na ln lc nn nc W hl9 (Or.inl ⟨rfl, rfl⟩))
          have MP := Lib.hid fun (w' : World) (h : MaS T P M K N true w') => ma_play_err 12 i h (Or.inl ⟨rfl, rfl⟩)
          go_wp2_with (first
            | (go_at_call 50; refine RP.out.mono ?_; rintro x w6 ⟨rfl, b6⟩; have D6 := Lib.hid (D0.out.below b6); have X6 := Lib.hid (X0.out.below b6); have yy := fun i => cell_of_row _ _ i _ _ _ X6.out.c; have g1 := yy 1; dsimp at g1; clear b6 yy)
            | (go_at_call 51; refine (MP.out _ D6.out.m).mono ?_; rintro x w7 ⟨rfl, h7⟩; subst h7)
            | (go_at_call 52; refine (nil_same _).mono ?_; rintro x w8 ⟨rfl, b8⟩; have D8 := Lib.hid (D6.out.below b8); clear b8))
          go_meet
          exact ⟨_, _, _, _, _, _, _, _, _, _, D8⟩
        | false =>
          by_cases hl0 : 0 < ln
          · have hKne : K ≠ [] := fun e => by have := D0.out.hl; rw [e] at this; simp at this; omega
            by_cases hi1 : i < 1
            · skip
              have RP := Lib.hid (rplay_err 3 i false la na ln lc nn nc W hl9 (Or.inr (Or.inr (Or.inl ⟨rfl, hl0, hi1, rfl⟩))))
              have MP := Lib.hid fun (w' : World) (h : MaS T P M K N false w') => ma_play_err 3 i h (Or.inr (Or.inr (Or.inl ⟨rfl, hKne, hi1, rfl⟩)))
              go_wp2_with (first
                | (go_at_call 50; refine RP.out.mono ?_; rintro x w6 ⟨rfl, b6⟩; have D6 := Lib.hid (D0.out.below b6); have X6 := Lib.hid (X0.out.below b6); have yy := fun i => cell_of_row _ _ i _ _ _ X6.out.c; have g1 := yy 1; dsimp at g1; clear b6 yy)
                | (go_at_call 51; refine (MP.out _ D6.out.m).mono ?_; rintro x w7 ⟨rfl, h7⟩; subst h7)
                | (go_at_call 52; refine (nil_same _).mono ?_; rintro x w8 ⟨rfl, b8⟩; have D8 := Lib.hid (D6.out.below b8); clear b8))
              go_meet
              exact ⟨_, _, _, _, _, _, _, _, _, _, D8⟩
            · by_cases hbig : 9999 < i ∨ 9999 < i * (ln : Int)
              · have hq : 9999 / (K.length : Int) < i := by rw [D0.out.hl]; exact (big_iff i ln hl0).1 hbig
                have hi2 := Hi.out.2
                have RP := Lib.hid (rplay_err 4 i false la na ln lc nn nc W hl9 (Or.inr (Or.inr (Or.inr ⟨rfl, hl0, by omega, hi2, hbig, rfl⟩))))
                have MP := Lib.hid fun (w' : World) (h : MaS T P M K N false w') => ma_play_err 4 i h (Or.inr (Or.inr (Or.inr ⟨rfl, hKne, by omega, hq, rfl⟩)))
                go_wp2_with (first
                  | (go_at_call 50; refine RP.out.mono ?_; rintro x w6 ⟨rfl, b6⟩; have D6 := Lib.hid (D0.out.below b6); have X6 := Lib.hid (X0.out.below b6); have yy := fun i => cell_of_row _ _ i _ _ _ X6.out.c; have g1 := yy 1; dsimp at g1; clear b6 yy)
                  | (go_at_call 51; refine (MP.out _ D6.out.m).mono ?_; rintro x w7 ⟨rfl, h7⟩; subst h7)
                  | (go_at_call 52; refine (nil_same _).mono ?_; rintro x w8 ⟨rfl, b8⟩; have D8 := Lib.hid (D6.out.below b8); clear b8))
                go_meet
                exact ⟨_, _, _, _, _, _, _, _, _, _, D8⟩
              · skip
                obtain ⟨n, rfl⟩ : ∃ n : Nat, i = (n : Int) := ⟨i.toNat, by omega⟩
                have hn1 : 1 ≤ n := by omega
                have hnm : n * ln ≤ 9999 := by
                  have h1 : ¬ (9999 : Int) < (n : Int) * (ln : Int) := fun h => hbig (Or.inr h)
                  have h2 : ((n * ln : Nat) : Int) = (n : Int) * (ln : Int) := by simp
                  omega
                have RP := Lib.hid (rplay_yes _ K n la na ln lc nn nc W D0.out.hl hl0 hl9 hn1 hnm D0.out.l)
                have hKne : K ≠ [] := fun e => by have := D0.out.hl; rw [e] at this; simp at this; omega
                have MP : Hid (∀ (w' : World), MaS T P M K N false w' → Calls Tryd.prog 51 #[.pointer (some ⟨P, 0, none⟩), .int .i64 (n : Int)] w' fun e w'' => ∃ b d, e = .returned (.tuple #[.slice b (n * ln) d, .int .i64 0]) ∧ KeysIn w'' b (rpK K n) ∧ Below w'.heap.size w' w'') := Lib.hid fun w' h => by
                  have := ma_play n h hKne hn1 (by rw [D0.out.hl]; exact hnm)
                  rw [D0.out.hl] at this
                  exact this
                have SM := Lib.hid fun a b c d w h1 h2 => ksame_ref (rpK K n) a b (n * ln) c d w (by rw [rpK_len, D0.out.hl]) (by omega) h1 h2
                clear hbig hKne
                generalize n * ln = nl at *
                go_wp2_with (first
                  | (go_at_call 50; refine RP.out.mono ?_; rintro x w6 ⟨ab, ad, rfl, s6, b6⟩; have D6 := Lib.hid (D0.out.below b6); have X6 := Lib.hid (X0.out.below b6); have S6 := Lib.hid s6; have yy := fun i => cell_of_row _ _ i _ _ _ X6.out.c; have g1 := yy 1; dsimp at g1; clear b6 yy s6)
                  | (go_at_call 51; refine (MP.out _ D6.out.m).mono ?_; rintro x w7 ⟨bb, bd, rfl, s7, b7⟩; have D7 := Lib.hid (D6.out.below b7); have S7 := Lib.hid s7; have Q7 := Lib.hid (S6.out.below b7); clear b7 s7)
                  | (go_at_call 52; refine (SM.out _ _ _ _ _ S7.out Q7.out).mono ?_; rintro x w8 ⟨rfl, b8⟩; have D8 := Lib.hid (D7.out.below b8); clear b8))
                go_meet
                exact ⟨_, _, _, _, _, _, _, _, _, _, D8⟩
          · obtain rfl : ln = 0 := by omega
            have hK0 : K = [] := List.length_eq_zero_iff.1 D0.out.hl
            have RP := Lib.hid (rplay_err 7 i false la na 0 lc nn nc W hl9 (Or.inr (Or.inl ⟨rfl, rfl, rfl⟩)))
            have MP := Lib.hid fun (w' : World) (h : MaS T P M K N false w') => ma_play_err 7 i h (Or.inr (Or.inl ⟨rfl, hK0, rfl⟩))
            go_wp2_with (first
              | (go_at_call 50; refine RP.out.mono ?_; rintro x w6 ⟨rfl, b6⟩; have D6 := Lib.hid (D0.out.below b6); have X6 := Lib.hid (X0.out.below b6); have yy := fun i => cell_of_row _ _ i _ _ _ X6.out.c; have g1 := yy 1; dsimp at g1; clear b6 yy)
              | (go_at_call 51; refine (MP.out _ D6.out.m).mono ?_; rintro x w7 ⟨rfl, h7⟩; subst h7)
              | (go_at_call 52; refine (nil_same _).mono ?_; rintro x w8 ⟨rfl, b8⟩; have D8 := Lib.hid (D6.out.below b8); clear b8))
            go_meet
            exact ⟨_, _, _, _, _, _, _, _, _, _, D8⟩
    case rest =>
      as_aux_lemma =>
        obtain ⟨T5, K5, N5, kp5, la5, ln5, lc5, na5, nn5, nc5, D5⟩ := hcut
        clear e0 e1 e2 zf f0 f1 f2 f3 f4 f5 D0 X0
        have hbig : Hid (ln5 ≤ 1000000) := Lib.hid (by have := D5.out.m.ln.1; rw [D5.out.hl] at this; omega)
        have Dd := Lib.hid (D5.out.below (Below.refl _ _).drew)
        have y0 := Dd.out.cells.1
        have y2 := Dd.out.cells.2.2.1
        go_upto_region 35 with fail
        go_region_held3 (fun w' => w'.cell? ⟨X, 0, none⟩ = some (.slice la5 ln5 lc5) ∧ w'.cell? ⟨X, 2, none⟩ = some (.bool kp5)) (first | exact ⟨y0, y2⟩ | exact ⟨y07, y27⟩ | exact ⟨y08, y28⟩ | go_keep)
          (first
            | (go_at_call 53; (with_reducible refine (md_keeps Dd.out).mono ?_); rintro x w6 ⟨rfl, h6⟩; subst h6)
            | (go_at_call 54; (with_reducible refine (md_keys Dd.out).mono ?_); rintro x w7 ⟨b7, d7, rfl, s7, c7⟩; have D7 := Lib.hid (Dd.out.below c7); have S7 := Lib.hid s7; have y07 := D7.out.cells.1; have y27 := D7.out.cells.2.2.1; clear c7 s7)
            | (go_at_call 52; (with_reducible refine (md_same D7.out b7 d7 S7.out hbig.out).mono ?_); rintro x w8 ⟨rfl, c8⟩; have D8 := Lib.hid (D7.out.below c8); have y08 := D8.out.cells.1; have y28 := D8.out.cells.2.2.1; clear c8))
        clear y0 y2 y07 y27 y08 y28
        go_wp2
        go_roundw
        case rel => exact ⟨j + 1, T5, K5, N5, kp5, la5, ln5, lc5, na5, nn5, nc5, by omega, by omega, by go_num, D8⟩
        case measure => (simp [intOf]; try omega)
theorem macrodoes_any (M : Int) (l : List MCall) (aL : Option Addr) (cL : Nat) (w : World) (hK : KT w) (hl : l.length ≤ 9223372036854775807) (hL : MCallsIn w w.heap.size aL l) : Calls Tryd.prog 9 #[.int .i64 M, .slice aL l.length cL] w fun x w' => x = .returned (.bool true) ∧ Below w.heap.size w w' := by
  by_cases hM : 1 ≤ M ∧ M ≤ 9999
  · exact macrodoes_yes M l aL cL w hK hl hL hM
  · exact macrodoes_no M _ w hK hM
end Go.Proofs.YtdhhfbglbihapaaDoor
