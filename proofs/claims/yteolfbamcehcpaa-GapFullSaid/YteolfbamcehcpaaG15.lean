/-
  Gap buffers: one that is full.
-/
import Derived.Test.YteolfbamcehcpaaG13
import Derived.Test.YteolfbamcehcpaaG14
set_option linter.unusedVariables false
set_option linter.unusedSimpArgs false
namespace Go.Proofs.Yteolfbamcehcpaa
set_option maxRecDepth 100000
open Go.RowKit
def Zs (k : Nat) : List Sn := List.replicate k (0, 0)
theorem zs_len (k : Nat) : (Zs k).length = k := List.length_replicate
theorem zs_ok (k : Nat) : sgC (Zs k) = true := by
  unfold sgC Zs
  rw [List.all_eq_true]
  intro x hx
  rw [List.eq_of_mem_replicate hx]
  decide +kernel
theorem full_made (k : Nat) (h : k ≤ 100000) : ∀ w : World, (Instr.makeSlice 28 (.int .i64 (k : Int)) (.int .i64 (k : Int))).run Try.prog w = Result.ok (Value.slice (some ⟨w.heap.size, 0, none⟩) k k) (w.alloc (.cells (sRow (Zs k)) 43)) := by
  obtain ⟨i0, hi0, hz0, hz1, hz2⟩ := info_parts infoSign
  have hmk := make_rowN (P := Try.prog) 28 43 i0 _ Try.underlying28 hi0 hz0 k (by rw [hz2]; omega) (by omega)
  rw [hz1] at hmk
  have hmade : madeCells (Value.agg #[.int .i64 0, .int .i64 0]).cells (k * 2) = sRow (List.replicate k (0, 0)) := by rw [show (Value.agg #[.int .i64 0, .int .i64 0]).cells = #[.int .i64 0, .int .i64 0] from rfl, made_signs]
  rw [hmade] at hmk
  exact hmk
section
variable (w : World) (N p : Nat) (w1 : World)
theorem fu1 (k a : Nat) (L : List Sn) (h : GapIs w N p 65536 L a w1) (hN : N ≤ w1.heap.size) (hk : k + L.length ≤ 65536) : Calls Try.prog 9 #[.pointer (some ⟨p, 0, none⟩), .slice (some ⟨w1.heap.size, 0, none⟩) k k] (w1.alloc (.cells (sRow (Zs k)) 43)) fun x w2 => x = .returned (.int .i64 0) ∧ GapIs w w2.heap.size p 65536 (L.take a ++ Zs k ++ L.drop a) (a + k) w2 := by
  have := is_insert_lit (Zs k) k h hN (zs_ok k) (by rw [zs_len]; omega) _ _ rfl rfl
  rw [zs_len] at this
  exact this
theorem fu2 (v u : Int) (a : Nat) (L : List Sn) (h : GapIs w N p 65536 L a w1) (hok : sgR v u = true) (hk : L.length = 65536) : Calls Try.prog 9 #[.pointer (some ⟨p, 0, none⟩), .slice (some ⟨w1.heap.size, 0, none⟩) 1 1] (w1.alloc (.cells #[.int .i64 v, .int .i64 u] 43)) fun x w2 => x = .returned (.int .i64 8) ∧ Below w1.heap.size w1 w2 :=
  is_insert_lit_err [(v, u)] 1 8 h (by show 1 ≤ 9223372036854775807; omega) (by unfold gmE; rw [if_pos (by unfold sgC; rw [List.all_cons, List.all_nil, hok]; rfl), hk, if_pos (by show (65536 : Int) - ((65536 : Nat) : Int) < ((1 : Nat) : Int); omega)]) (by omega)
theorem fu3 (v u : Int) (a : Nat) (L : List Sn) (h : GapIs w N p 65536 L a w1) (hN : N ≤ w1.heap.size) (hok : sgR v u = true) (hk : L.length = 65535) : Calls Try.prog 9 #[.pointer (some ⟨p, 0, none⟩), .slice (some ⟨w1.heap.size, 0, none⟩) 1 1] (w1.alloc (.cells #[.int .i64 v, .int .i64 u] 43)) fun x w2 => x = .returned (.int .i64 0) ∧ GapIs w w2.heap.size p 65536 (L.take a ++ [(v, u)] ++ L.drop a) (a + 1) w2 :=
  is_insert_lit [(v, u)] 1 h hN (by unfold sgC; rw [List.all_cons, List.all_nil, hok]; rfl) (by show ((1 : Nat) : Int) + (L.length : Int) ≤ 65536; omega) _ _ rfl rfl
theorem fu4 (i : Int) (a : Nat) (L : List Sn) (h : GapIs w N p 65536 L a w1) : Calls Try.prog 18 #[.pointer (some ⟨p, 0, none⟩), .slice (some ⟨w1.heap.size, 0, none⟩) 65537 65537, .int .i64 i] (w1.alloc (.cells (sRow (Zs 65537)) 43)) fun x w2 => x = .returned (.int .i64 8) ∧ Below w1.heap.size w1 w2 := by
  have := is_set_err (l := Zs 65537) 65537 i 8 (h.below (below_alloc w1 (.cells (sRow (Zs 65537)) 43))) (signs_of_blk (heap_alloc_new _ _)) (by rw [zs_len]; omega) (by unfold gmE; rw [if_pos (zs_ok _), zs_len, if_pos (by omega)]) (by omega)
  rw [zs_len] at this
  refine this.mono ?_
  rintro x w2 ⟨rfl, hb⟩
  exact ⟨rfl, seqB (below_alloc _ _) hb⟩
theorem fu5 (a : Nat) (L : List Sn) (h : GapIs w N p 65536 L a w1) (ha : 0 < a) : Calls Try.prog 15 #[.pointer (some ⟨p, 0, none⟩), .int .i64 (-1)] w1 fun x w2 => ∃ ad, x = .returned (.slice ad 1 1) ∧ GapIs w w2.heap.size p 65536 (L.take (a - 1) ++ L.drop a) (a - 1) w2 := by
  have := is_cut (-1) h (by omega) (by omega) (a - 1) a (by unfold cutF; rw [if_pos (by omega)]; omega) (by unfold cutT; rw [if_pos (by omega)])
  rw [show a - (a - 1) = 1 by omega] at this
  refine this.mono ?_
  rintro x w2 ⟨ad, rfl, _, _, hg⟩
  exact ⟨ad, rfl, hg⟩
theorem fu6 (L : List Sn) (h : GapIs w N p 65536 L 0 w1) : Calls Try.prog 15 #[.pointer (some ⟨p, 0, none⟩), .int .i64 (-1)] w1 fun x w2 => ∃ ad, x = .returned (.slice ad 0 0) ∧ GapIs w w2.heap.size p 65536 L 0 w2 := by
  have := is_cut (-1) h (by omega) (by omega) 0 0 (by decide) (by unfold cutT; rw [if_pos (by omega)])
  refine this.mono ?_
  rintro x w2 ⟨ad, rfl, _, _, hg⟩
  exact ⟨ad, rfl, hg⟩
theorem fu7 (L : List Sn) (h : GapIs w N p 65536 L 0 w1) (hL : L.length = 65536) : Calls Try.prog 15 #[.pointer (some ⟨p, 0, none⟩), .int .i64 1] w1 fun x w2 => ∃ ad, x = .returned (.slice ad 1 1) ∧ GapIs w w2.heap.size p 65536 (L.drop 1) 0 w2 := by
  have := is_cut 1 h (by omega) (by omega) 0 1 (by decide) (by unfold cutT; rw [if_neg (by omega), hL]; decide)
  refine this.mono ?_
  rintro x w2 ⟨ad, rfl, _, _, hg⟩
  exact ⟨ad, rfl, hg⟩
theorem fu8 (m n : Nat) (hn : n < 65536) (h : GapIs w N p 65536 (List.take 0 [] ++ Zs m ++ List.drop 0 []) (0 + m) w1) : Calls Try.prog 17 #[.pointer (some ⟨p, 0, none⟩), .int .i64 ((n : Int) / 2)] w1 fun x w2 => x = .returned (.tuple #[]) ∧ ∃ t, t ≤ m ∧ (n = 0 → t = 0) ∧ GapIs w w2.heap.size p 65536 (Zs m) t w2 := by
  rw [show List.take 0 [] ++ Zs m ++ List.drop 0 [] = Zs m by simp] at h
  refine (is_move ((n : Int) / 2) h (by omega)).mono ?_
  rintro x w2 ⟨rfl, hg⟩
  rw [zs_len] at hg
  exact ⟨rfl, _, Nat.min_le_right _ _, fun h0 => by subst h0; show min ((0 : Int) / 2).toNat m = 0; simp, hg⟩
theorem fu9 (m n t : Nat) (ht : t ≤ m) (hm : 65536 - n = m) (hn : n < 65536) (h : GapIs w N p 65536 (Zs m) t w1) (hN : N ≤ w1.heap.size) : Calls Try.prog 9 #[.pointer (some ⟨p, 0, none⟩), .slice (some ⟨w1.heap.size, 0, none⟩) n n] (w1.alloc (.cells (sRow (Zs n)) 43)) fun x w2 => x = .returned (.int .i64 0) ∧ ∃ L : List Sn, L.length = 65536 ∧ GapIs w w2.heap.size p 65536 L (t + n) w2 := by
  refine (fu1 w N p w1 n t (Zs m) h hN (by rw [zs_len]; omega)).mono ?_
  rintro x w2 ⟨rfl, hg⟩
  exact ⟨rfl, _, by rw [List.length_append, List.length_append, List.length_take, List.length_drop, zs_len, zs_len]; omega, hg⟩
theorem fu10 (a : Nat) (L : List Sn) (h : GapIs w N p 65536 L a w1) (hL : L.length = 65536) : Calls Try.prog 20 #[.pointer (some ⟨p, 0, none⟩)] w1 fun x w2 => x = .returned (.int .i64 65536) ∧ Below w1.heap.size w1 w2 := by
  have := is_len h
  rw [hL] at this
  exact this
theorem fu11 (v u : Int) (a : Nat) (L : List Sn) (h : GapIs w N p 65536 L a w1) (hN : N ≤ w1.heap.size) (hok : sgR v u = true) (hk : L.length = 65535) : Calls Try.prog 9 #[.pointer (some ⟨p, 0, none⟩), .slice (some ⟨w1.heap.size, 0, none⟩) 1 1] (w1.alloc (.cells #[.int .i64 v, .int .i64 u] 43)) fun x w2 => x = .returned (.int .i64 0) ∧ ∃ (L5 : List Sn) (b : Nat), L5.length = 65536 ∧ GapIs w w2.heap.size p 65536 L5 b w2 ∧ (∀ i : Int, i = (b : Int) - 1 → gtV L5 i = (v, u) ∧ gtB L5 i = true) := by
  have ha := h.nums.1
  refine (fu3 w N p w1 v u a L h hN hok hk).mono ?_
  rintro x w2 ⟨rfl, hg⟩
  have hla : (L.take a).length = a := by rw [List.length_take]; omega
  have hlen : (L.take a ++ [(v, u)] ++ L.drop a).length = 65536 := by rw [List.length_append, List.length_append, hla, List.length_drop, hk, List.length_singleton]; omega
  refine ⟨rfl, _, _, hlen, hg, fun i hi => ?_⟩
  have hi2 : i = (a : Int) := by rw [hi]; omega
  subst hi2
  constructor
  · unfold gtV
    rw [if_pos (by omega), Int.toNat_natCast, List.getD, List.append_assoc, List.getElem?_append_right (by omega), hla, Nat.sub_self]
    rfl
  · exact decide_eq_true ⟨by omega, by rw [hlen]; omega⟩
theorem fu12 (v u : Int) (b : Nat) (L : List Sn) (h : GapIs w N p 65536 L b w1) (hv : ∀ i : Int, i = (b : Int) - 1 → gtV L i = (v, u) ∧ gtB L i = true) (i : Int) (hi : i = (b : Int) - 1) : Calls Try.prog 19 #[.pointer (some ⟨p, 0, none⟩), .int .i64 i] w1 fun x w2 => x = .returned (.tuple #[.agg #[.int .i64 v, .int .i64 u], .bool true]) ∧ Below w1.heap.size w1 w2 := by
  have := is_get i h
  rw [(hv i hi).1, (hv i hi).2] at this
  exact this
theorem fu13 (a : Nat) (L : List Sn) (h : GapIs w N p 65536 L a w1) (ha : 0 < a) (hL : L.length = 65536) : Calls Try.prog 15 #[.pointer (some ⟨p, 0, none⟩), .int .i64 (-1)] w1 fun x w2 => ∃ ad, x = .returned (.slice ad 1 1) ∧ ∃ (L4 : List Sn) (a4 : Nat), L4.length = 65535 ∧ GapIs w w2.heap.size p 65536 L4 a4 w2 := by
  have hn := h.nums.1
  refine (fu5 w N p w1 a L h ha).mono ?_
  rintro x w2 ⟨ad, rfl, hg⟩
  exact ⟨ad, rfl, _, _, by rw [List.length_append, List.length_take, List.length_drop]; omega, hg⟩
theorem fu14 (L : List Sn) (h : GapIs w N p 65536 L 0 w1) (hL : L.length = 65536) : Calls Try.prog 15 #[.pointer (some ⟨p, 0, none⟩), .int .i64 1] w1 fun x w2 => ∃ ad, x = .returned (.slice ad 1 1) ∧ ∃ (L4 : List Sn) (a4 : Nat), L4.length = 65535 ∧ GapIs w w2.heap.size p 65536 L4 a4 w2 := by
  refine (fu7 w N p w1 L h hL).mono ?_
  rintro x w2 ⟨ad, rfl, hg⟩
  exact ⟨ad, rfl, _, _, by rw [List.length_drop]; omega, hg⟩
end
set_option maxHeartbeats 8000000 in
theorem full_any (n : Nat) (hn : n < 65536) (v u : Int) (w : World) : Calls Try.prog 5 #[.int .u16 (n : Int), .agg #[.int .i64 v, .int .i64 u]] w fun x w' => x = .returned (.bool true) ∧ Below w.heap.size w w' := by
  have R := Lib.hid fun w => sgright_ref v u w
  have AW := Lib.hid awake_any
  cases hok : sgR v u
  · rw [hok] at R
    clear hok
    go_enter Try.func5, Try.ntmps5
    go_wp2_with (first
      | (go_at_call 25; refine (R.out _).mono ?_; rintro x w1 ⟨rfl, b1⟩)
      | (go_at_call 6; refine (AW.out _).mono ?_; rintro x w2 ⟨rfl, b2⟩))
    go_ret
    exact ⟨rfl, seqB (below_alloc _ _) (seqB b1 b2)⟩
  · rw [hok] at R
    have HOK := Lib.hid hok
    clear hok
    obtain ⟨m, hm⟩ : ∃ m : Nat, 65536 - n = m := ⟨_, rfl⟩
    have hmi : (65536 : Int) - (n : Int) = (m : Int) := by omega
    have hm1 : m ≤ 65536 := by omega
    have hmk := full_made m (by omega)
    have hmk2 := full_made n (by omega)
    have hmk3 : ∀ w : World, (Instr.makeSlice 28 (.int .i64 65537) (.int .i64 65537)).run Try.prog w = Result.ok (Value.slice (some ⟨w.heap.size, 0, none⟩) 65537 65537) (w.alloc (.cells (sRow (Zs 65537)) 43)) := full_made 65537 (by omega)
    have NW := Lib.hid fun w => gnew_any 65536 w (by omega) (by omega)
    have HM := Lib.hid hm
    clear hm
    obtain ⟨W0, hW0⟩ : ∃ W0, w.alloc (.cells #[.int .i64 v, .int .i64 u] 43) = W0 := ⟨_, rfl⟩
    have q0 := heap_alloc_new w (.cells #[.int .i64 v, .int .i64 u] 43)
    have B0 := below_alloc w (.cells #[.int .i64 v, .int .i64 u] 43)
    rw [hW0] at q0 B0
    have XB : Hid (∀ w', Below W0.heap.size W0 w' → w'.cell? ⟨w.heap.size, 0, none⟩ = some (.int .i64 v) ∧ w'.cell? ⟨w.heap.size, 1, none⟩ = some (.int .i64 u)) := Lib.hid fun w' hb => by
      have zz := fun i => cell_of_row _ _ i _ _ _ (blk_below q0 hb)
      exact ⟨zz 0, zz 1⟩
    replace B0 := Lib.hid B0
    clear q0
    have z0 := XB.out W0 (Below.refl _ _)
    obtain ⟨z0, z1⟩ := z0
    rcases Nat.eq_zero_or_pos n with h0 | h0
    all_goals
      replace h0 := Lib.hid h0
      have H0 := h0
      clear h0
      go_enter Try.func5, Try.ntmps5
      go_upto_region 1 with fail
      clear hW0
      go_wp2_with (first
        | (go_at_call 25; refine (R.out _).mono ?_; rintro x w1 ⟨rfl, b1⟩; have J1 := Lib.hid b1; clear b1 z0 z1)
        | (go_at_call 6; refine (AW.out _).mono ?_; rintro x w2 ⟨rfl, b2⟩; have J2 := Lib.hid (seqB J1.out b2); clear b2)
        | (go_at_call 7; refine (NW.out _).mono ?_; rintro x w3 ⟨rfl, hw3⟩; have I3 := Lib.hid (GapIs.new J2.out (by omega) (by omega) hw3); clear hw3 NW)
        | (go_at_call 9; refine (fu1 W0 _ _ _ m 0 [] I3.out (Nat.le_refl _) (by show m + 0 ≤ 65536; omega)).mono ?_; rintro x w4 ⟨rfl, i4⟩; have I4 := Lib.hid i4; clear i4 I3)
        | (go_at_call 17; refine (fu8 W0 _ _ _ m n hn I4.out).mono ?_; rintro x w5 ⟨rfl, t, ht, ht0, i5⟩; have I5 := Lib.hid i5; have HT := Lib.hid ht; have HT0 := Lib.hid ht0; clear i5 I4 ht ht0)
        | (go_at_call 9; refine (fu9 W0 _ _ _ m n t HT.out HM.out hn I5.out (Nat.le_refl _)).mono ?_; rintro x w6 ⟨rfl, L, hL, i6⟩; have I6 := Lib.hid i6; have HL := Lib.hid hL; clear i6 I5 hL)
        | (go_at_call 21; refine (is_at I6.out).mono ?_; rintro x w7 ⟨rfl, hw7⟩; subst hw7; have I7 := I6; obtain ⟨z0, z1⟩ := XB.out _ I7.out.bel; clear I6)
        | (go_at_call 9; refine (fu2 W0 _ _ _ v u _ L I7.out HOK.out HL.out).mono ?_; rintro x w8 ⟨rfl, b8⟩; have I8 := Lib.hid (I7.out.below b8); clear b8 I7 z0 z1)
        | (go_at_call 18; refine (fu4 W0 _ _ _ _ _ L I8.out).mono ?_; rintro x w9 ⟨rfl, b9⟩; have I9 := Lib.hid (I8.out.below b9); clear b9 I8)
        | (go_at_call 20; refine (fu10 W0 _ _ _ _ L I9.out HL.out).mono ?_; rintro x wA ⟨rfl, bA⟩; have IA := Lib.hid (I9.out.below bA); clear bA I9)
        | (go_at_call 21; refine (is_at IA.out).mono ?_; rintro x wB ⟨rfl, hwB⟩; subst hwB; have IB := IA; clear IA)
        | (go_at_call 15; refine (fu13 W0 _ _ _ _ L IB.out (by have := H0.out; omega) HL.out).mono ?_; rintro x wC ⟨ad, rfl, L4, a4, hL4, iC⟩; have IC := Lib.hid iC; have HL4 := Lib.hid hL4; obtain ⟨z0, z1⟩ := XB.out _ IC.out.bel; clear iC hL4 IB)
        | (go_at_call 15; have hz : t + n = 0 := (by have h1 := H0.out; have h2 := HT0.out h1; omega); have IX := IB.out; rw [hz] at IX; refine (fu6 W0 _ _ _ L IX).mono ?_; rintro x wX ⟨ad, rfl, iY⟩; have IY := Lib.hid iY; clear iY IX IB hz)
        | (go_at_call 15; refine (fu14 W0 _ _ _ L IY.out HL.out).mono ?_; rintro x wC ⟨ad, rfl, L4, a4, hL4, iC⟩; have IC := Lib.hid iC; have HL4 := Lib.hid hL4; obtain ⟨z0, z1⟩ := XB.out _ IC.out.bel; clear iC hL4 IY)
        | (go_at_call 9; refine (fu11 W0 _ _ _ v u _ L4 IC.out (Nat.le_refl _) HOK.out HL4.out).mono ?_; rintro x wD ⟨rfl, L5, b, hL5, iD, hg⟩; have hb1 : (b : Int) ≤ 65536 := (by have := iD.nums.1; omega); have ID := Lib.hid iD; have HL5 := Lib.hid hL5; have HG := Lib.hid hg; clear iD hL5 hg IC z0 z1)
        | (go_at_call 21; refine (is_at ID.out).mono ?_; rintro x wE ⟨rfl, hwE⟩; subst hwE; have IE := ID; clear ID)
        | (go_at_call 19; refine (fu12 W0 _ _ _ v u b L5 IE.out HG.out _ (by omega)).mono ?_; rintro x wF ⟨rfl, bF⟩; have IF := Lib.hid (IE.out.below bF); clear bF IE)
        | (go_at_call 20
           have q6 := heap_alloc_new wF (.cells #[.int .i64 v, .int .i64 u] 43)
           have J6 := Lib.hid (IF.out.below (below_alloc wF (.cells #[.int .i64 v, .int .i64 u] 43)))
           generalize hW6 : wF.alloc (.cells #[.int .i64 v, .int .i64 u] 43) = W6
           rw [hW6] at q6 J6
           clear hW6
           refine (fu10 W0 _ _ _ _ L5 J6.out HL5.out).mono ?_
           rintro x wG ⟨rfl, bG⟩
           have IG := Lib.hid (J6.out.below bG)
           have q7 := blk_below q6 bG
           have zz := fun i => cell_of_row _ _ i _ _ _ q7
           have y0 := zz 0; have y1 := zz 1
           dsimp at y0 y1
           obtain ⟨z0, z1⟩ := XB.out _ IG.out.bel
           clear bG q6 zz q7))
      go_ret
      exact ⟨rfl, seqB B0.out IG.out.bel⟩
end Go.Proofs.Yteolfbamcehcpaa
