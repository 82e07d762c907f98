/-
  Joined: Au7 Au8 Au9 Au10 Au11.
-/
import Derived.Test.YtmnjafceenckpaaDoorJQ13
import Derived.Test.YtmnjafceenckpaaDoorJQ17
set_option linter.unusedVariables false
set_option linter.unusedSimpArgs false
set_option maxRecDepth 100000
set_option linter.unusedVariables false
set_option linter.unusedSimpArgs false
namespace Go.Proofs.YtmnjafceenckpaaDoor
open Go.RowKit
def litV : Array Value := #[.string ⟨#[50, 74]⟩, .string ⟨#[75]⟩, .string ⟨#[48, 109]⟩, .string ⟨#[48, 59, 55, 109]⟩, .string ⟨#[48, 59, 52, 109]⟩, .string ⟨#[48, 59, 55, 59, 52, 109]⟩, .string ⟨#[48, 59, 49, 109]⟩, .string ⟨#[48, 59, 55, 59, 49, 109]⟩, .string ⟨#[48, 59, 52, 59, 49, 109]⟩, .string ⟨#[48, 59, 55, 59, 52, 59, 49, 109]⟩, .string ⟨#[63, 50, 48, 48, 52, 104]⟩, .string ⟨#[63, 50, 48, 48, 52, 108]⟩]
theorem litV_at (j : Nat) (h : j < 12) : litV[j]? = some (.string (mkB (litsA.getD j []))) := by
  match j, h with
  | 0, _ => rfl
  | 1, _ => rfl
  | 2, _ => rfl
  | 3, _ => rfl
  | 4, _ => rfl
  | 5, _ => rfl
  | 6, _ => rfl
  | 7, _ => rfl
  | 8, _ => rfl
  | 9, _ => rfl
  | 10, _ => rfl
  | 11, _ => rfl
theorem lits_ascN (i : Nat) (h : i < 12) : (∀ c ∈ litsA.getD i [], c.toNat < 128) ∧ valsS (mkB (litsA.getD i [])) = (litsA.getD i []).map (fun c => (c.toNat : Int)) ∧ (litsA.getD i []).length ≤ 12 := lits_asc ⟨i, h⟩
/-- What is told of a text by its class. -/
structure PcF (s : ByteArray) (c0 : Nat) (v : Int) (n : Nat) (c : Int) (r : Nat) : Prop where
  sz : 0 < s.size ∧ s.size ≤ 1000
  low : c0 = 7 ∨ c0 = 10 ∨ c0 = 13 → r = 1
  shw : ¬ (c0 = 7 ∨ c0 = 10 ∨ c0 = 13) → 1 ≤ c → c ≤ 3 → r = n
  no : ¬ (c0 = 7 ∨ c0 = 10 ∨ c0 = 13) → ¬ (1 ≤ c ∧ c ≤ 3) → (s.size < 3 ∨ c0 ≠ 27 ∨ (s.get! 1).toNat ≠ 91) → r = 0
  yes : ¬ (c0 = 7 ∨ c0 = 10 ∨ c0 = 13) → ¬ (1 ≤ c ∧ c ≤ 3) → 3 ≤ s.size → c0 = 27 → (s.get! 1).toNat = 91 → r = pcC (bL (s.extract 2 s.size))
theorem pcf_of {s : ByteArray} (h0 : 0 < s.size) (hs : s.size ≤ 1000) : PcF s (s.get! 0).toNat (vAt s 0).1 (vAt s 0).2 (clsR (vAt s 0).1) (pcR s) := by
  obtain ⟨w1, w2⟩ := pcR_ways s
  have hsh : shwB (vAt s 0).1 = true ↔ 1 ≤ clsR (vAt s 0).1 ∧ clsR (vAt s 0).1 ≤ 3 := by unfold shwB; rw [cls_eq]; simp
  have he : bL (s.extract 2 s.size) = (bL s).drop 2 := by rw [bL_ext, List.take_of_length_le (by rw [bL_len]; exact Nat.le_refl _)]
  refine ⟨⟨h0, hs⟩, w1, fun h a b => (w2 h).1 (hsh.2 ⟨a, b⟩), fun h a b => ?_, fun h a b c d => ?_⟩
  · obtain ⟨x, y⟩ := (w2 h).2 (fun e => a (hsh.1 e))
    by_cases hsz : s.size < 3
    · cases hp : Lib.hasPrefix (bL s) [27, 91] with
      | false => exact x hp
      | true => rw [y hp]; exact pre_short hsz hp
    · refine x ?_
      rw [pre2A (by omega)]
      rcases b with b | b | b
      · exact absurd b hsz
      · rw [decide_eq_false b]; rfl
      · rw [decide_eq_false b, Bool.and_false]
  · obtain ⟨x, y⟩ := (w2 h).2 (fun e => a (hsh.1 e))
    rw [he]
    exact y (by rw [pre2A (by omega), decide_eq_true c, decide_eq_true d]; rfl)
/-- What mvR is, way by way. -/
theorem mv_ways (T : List UInt8) : ((dgR T).2 = 0 ∨ T[(dgR T).2]? ≠ some 59 → mvR T = 0) ∧ (¬ ((dgR T).2 = 0 ∨ T[(dgR T).2]? ≠ some 59) → ((dgR (T.drop ((dgR T).2 + 1))).2 = 0 ∨ T[(dgR T).2 + 1 + (dgR (T.drop ((dgR T).2 + 1))).2]? ≠ some 72 → mvR T = 0) ∧ (¬ ((dgR (T.drop ((dgR T).2 + 1))).2 = 0 ∨ T[(dgR T).2 + 1 + (dgR (T.drop ((dgR T).2 + 1))).2]? ≠ some 72) → mvR T = 4 + (dgR T).2 + (dgR (T.drop ((dgR T).2 + 1))).2)) := by
  unfold mvR
  exact ⟨fun h => by rw [if_pos h], fun h => ⟨fun h2 => by rw [if_neg h, if_pos h2], fun h2 => by rw [if_neg h, if_neg h2]⟩⟩
theorem ext_at (s : ByteArray) (k : Nat) (c : UInt8) : (bL (s.extract 2 s.size))[k]? = some c ↔ (2 + k < s.size ∧ s.get! (2 + k) = c) := by
  rw [bL_ext, List.take_of_length_le (by rw [bL_len]; exact Nat.le_refl _), List.getElem?_drop]
  constructor
  · intro h
    have hk : 2 + k < s.size := by
      have := (List.getElem?_eq_some_iff.1 h).1
      rwa [bL_len] at this
    refine ⟨hk, ?_⟩
    rw [get_bL s _ hk, List.getD, h]; rfl
  · rintro ⟨hk, e⟩
    rw [List.getElem?_eq_getElem (by rw [bL_len]; exact hk)]
    rw [get_bL s _ hk, List.getD, List.getElem?_eq_getElem (by rw [bL_len]; exact hk)] at e
    rw [← e]; rfl
theorem ext_drop (s : ByteArray) (k : Nat) : (bL (s.extract 2 s.size)).drop (k + 1) = bL (s.extract (3 + k) s.size) := by
  rw [bL_ext, bL_ext, List.take_of_length_le (by rw [bL_len]; exact Nat.le_refl _), List.drop_drop, show 2 + (k + 1) = 3 + k by omega]
theorem dgR_le (T : List UInt8) : (dgR T).2 ≤ 5 := by
  unfold dgR
  split
  · show (dgA T).length ≤ 5
    unfold dgA
    exact Nat.le_trans (List.takeWhile_prefix _).length_le (by rw [List.length_take]; omega)
  · exact Nat.zero_le _
/-- What follows the literals, way by way. -/
theorem mv_ext (s : ByteArray) (a b : Nat) (ha : (dgR (bL (s.extract 2 s.size))).2 = a) (hb : (dgR (bL (s.extract (3 + a) s.size))).2 = b) :
    (a = 0 ∨ s.size ≤ 2 + a ∨ (2 + a < s.size ∧ (s.get! (2 + a)).toNat ≠ 59) → mvR (bL (s.extract 2 s.size)) = 0) ∧
    (a ≠ 0 → 2 + a < s.size → (s.get! (2 + a)).toNat = 59 → (b = 0 ∨ s.size ≤ 3 + a + b ∨ (3 + a + b < s.size ∧ (s.get! (3 + a + b)).toNat ≠ 72) → mvR (bL (s.extract 2 s.size)) = 0) ∧
      (b ≠ 0 → 3 + a + b < s.size → (s.get! (3 + a + b)).toNat = 72 → mvR (bL (s.extract 2 s.size)) = 4 + a + b)) := by
  obtain ⟨w1, w2⟩ := mv_ways (bL (s.extract 2 s.size))
  rw [ha] at w1 w2
  rw [ext_drop, hb] at w2
  have hat := ext_at s
  have u8 : ∀ (x : UInt8) (n : UInt8), x.toNat = n.toNat → x = n := fun x n h => UInt8.toNat_inj.1 h
  refine ⟨fun h => w1 ?_, fun h1 h2 h3 => ?_⟩
  · rcases h with h | h | ⟨h, h'⟩
    · exact .inl h
    · right; intro e; have := (hat a 59).1 e; omega
    · right; intro e; have := (hat a 59).1 e; exact h' (by rw [this.2]; rfl)
  · have hn : ¬ (a = 0 ∨ (bL (s.extract 2 s.size))[a]? ≠ some 59) := by
      rintro (h | h)
      · exact h1 h
      · exact h ((hat a 59).2 ⟨h2, u8 _ 59 h3⟩)
    obtain ⟨v1, v2⟩ := w2 hn
    have e2 : 2 + (a + 1 + b) = 3 + a + b := by omega
    refine ⟨fun h => v1 ?_, fun g1 g2 g3 => v2 ?_⟩
    · rcases h with h | h | ⟨h, h'⟩
      · exact .inl h
      · right; intro e; have := (hat (a + 1 + b) 72).1 e; omega
      · right; intro e; have := (hat (a + 1 + b) 72).1 e; rw [e2] at this; exact h' (by rw [this.2]; rfl)
    · rintro (h | h)
      · exact g1 h
      · exact h ((hat (a + 1 + b) 72).2 ⟨by omega, by rw [e2]; exact u8 _ 72 g3⟩)
set_option maxRecDepth 100000 in
set_option maxHeartbeats 8000000 in
theorem apc_low (s : ByteArray) (w : World) (c0 : Nat) (v : Int) (n : Nat) (c : Int) (r : Nat) (hF : PcF s c0 v n c r) (hc0 : (s.get! 0).toNat = c0) (h : c0 = 7 ∨ c0 = 10 ∨ c0 = 13) : Calls Tryd.prog 25 #[.string s] w fun e w' => e = .returned (.int .i64 (r : Int)) ∧ Below w.heap.size w w' := by
  obtain rfl : r = 1 := hF.low h
  have ix : ∀ wx, (Instr.index 9 (.string s) (.int .i64 0)).run Tryd.prog wx = .ok (.int .u8 (c0 : Int)) wx := fun wx => by
    have := idxA s 0 hF.sz.1 wx
    rw [← get_bL s 0 hF.sz.1, hc0] at this; exact this
  clear hF hc0
  rcases h with rfl | rfl | rfl
  all_goals (
    go_enter Tryd.func25, Tryd.ntmps25
    go_wp2_with fail
    go_ret
    exact ⟨rfl, Below.refl _ _⟩)
set_option maxRecDepth 100000 in
set_option maxHeartbeats 8000000 in
theorem apc_rest (s : ByteArray) (w : World) (c0 : Nat) (v : Int) (n : Nat) (c : Int) (r : Nat) (hF : PcF s c0 v n c r) (hc0 : (s.get! 0).toNat = c0) (hv : ((vAt s 0).1 : Int) = v) (hn : (vAt s 0).2 = n) (hc : clsR v = c) (h : ¬ (c0 = 7 ∨ c0 = 10 ∨ c0 = 13)) : Calls Tryd.prog 25 #[.string s] w fun e w' => e = .returned (.int .i64 (r : Int)) ∧ Below w.heap.size w w' := by
  have ix : ∀ wx, (Instr.index 9 (.string s) (.int .i64 0)).run Tryd.prog wx = .ok (.int .u8 (c0 : Int)) wx := fun wx => by
    have := idxA s 0 hF.sz.1 wx
    rw [← get_bL s 0 hF.sz.1, hc0] at this; exact this
  have ON := one_ref s w hF.sz.1 (by have := hF.sz.2; omega)
  rw [hv, hn] at ON
  have HON := Lib.hid ON
  have OF := Lib.hid fun w => of_ref v w
  rw [hc] at OF
  have HF := Lib.hid hF
  have HH := Lib.hid h
  have n7 : ¬ (c0 : Int) = 7 := by omega
  have n10 : ¬ (c0 : Int) = 10 := by omega
  have n13 : ¬ (c0 : Int) = 13 := by omega
  have b7 : ((c0 : Int) == 7) = false := beq_eq_false_iff_ne.2 n7
  have b10 : ((c0 : Int) == 10) = false := beq_eq_false_iff_ne.2 n10
  have b13 : ((c0 : Int) == 13) = false := beq_eq_false_iff_ne.2 n13
  have hs1 := hF.sz.2
  have HC0 := Lib.hid hc0
  clear ON hF hc0 hv hn hc h
  go_enter Tryd.func25, Tryd.ntmps25
  go_wp2_with fail
  go_at_call 33
  refine HON.out.mono ?_
  rintro e w1 ⟨rfl, n1, rfl⟩
  have N1 := Lib.hid (drewN_below (Below.refl w.heap.size w) n1)
  generalize w.drewN n1 = w1 at *
  go_wp2_with fail
  go_at_call 34
  refine (OF.out _).mono ?_
  rintro e w2 ⟨rfl, hb⟩
  have N2 := Lib.hid (seqB N1.out hb)
  clear hb
  by_cases hc : 1 ≤ c ∧ c ≤ 3
  · have hc1 := hc.1
    have hc3 := hc.2
    have HR : Hid (r = n) := Lib.hid (HF.out.shw HH.out hc1 hc3)
    go_wp2_with fail
    go_ret
    exact ⟨by rw [HR.out] <;> rfl, N2.out⟩
  have HNC := Lib.hid hc
  have hcc : ¬ 1 ≤ c ∨ (1 ≤ c ∧ ¬ c ≤ 3) := by omega
  clear hc
  by_cases hno : s.size < 3 ∨ c0 ≠ 27 ∨ (s.get! 1).toNat ≠ 91
  · have HR : Hid (r = 0) := Lib.hid (HF.out.no HH.out HNC.out hno)
    have hways : s.size < 3 ∨ (3 ≤ s.size ∧ c0 ≠ 27) ∨ (3 ≤ s.size ∧ c0 = 27 ∧ (s.get! 1).toNat ≠ 91) := by omega
    have IX1 : Hid (3 ≤ s.size → ∀ wx, (Instr.index 9 (.string s) (.int .i64 1)).run Tryd.prog wx = .ok (.int .u8 ((s.get! 1).toNat : Int)) wx) := Lib.hid (fun h3 wx => by
      have := idxA s 1 (by omega) wx
      rw [← get_bL s 1 (by omega)] at this; exact this)
    obtain ⟨c1, hc1⟩ : ∃ c1, (s.get! 1).toNat = c1 := ⟨_, rfl⟩
    rw [hc1] at hways IX1
    clear hno hc1
    rcases hcc with hca | ⟨hca, hcb⟩
    all_goals (
      rcases hways with h3 | ⟨h3, h4⟩ | ⟨h3, h4, h5⟩
      · have h3i : (s.size : Int) < 3 := by omega
        clear h3
        go_wp2_with fail
        go_ret
        exact ⟨by rw [HR.out] <;> rfl, N2.out⟩
      · have h3i : ¬ (s.size : Int) < 3 := by omega
        have h4i : ¬ (c0 : Int) = 27 := by omega
        have h4b : ((c0 : Int) == 27) = false := beq_eq_false_iff_ne.2 h4i
        have h4n : ((c0 : Int) != 27) = true := by rw [bne, h4b]; rfl
        clear h3 h4
        go_wp2_with fail
        go_ret
        exact ⟨by rw [HR.out] <;> rfl, N2.out⟩
      · subst h4
        have h3i : ¬ (s.size : Int) < 3 := by omega
        have ix1 := IX1.out h3
        have h5i : ¬ (c1 : Int) = 91 := by omega
        have h5b : ((c1 : Int) == 91) = false := beq_eq_false_iff_ne.2 h5i
        have h5n : ((c1 : Int) != 91) = true := by rw [bne, h5b]; rfl
        clear h3 h5
        go_wp2_with fail
        go_ret
        exact ⟨by rw [HR.out] <;> rfl, N2.out⟩)
  have h3 : 3 ≤ s.size := Nat.le_of_not_lt fun h => hno (.inl h)
  have h4 : c0 = 27 := Decidable.of_not_not fun h => hno (.inr (.inl h))
  have h5 : (s.get! 1).toNat = 91 := Decidable.of_not_not fun h => hno (.inr (.inr h))
  have HR : Hid (r = pcC (bL (s.extract 2 s.size))) := Lib.hid (HF.out.yes HH.out HNC.out h3 h4 h5)
  have ix1 : ∀ wx, (Instr.index 9 (.string s) (.int .i64 1)).run Tryd.prog wx = .ok (.int .u8 91) wx := fun wx => by
    have := idxA s 1 (by omega) wx
    rw [← get_bL s 1 (by omega), h5] at this; exact this
  have h3i : ¬ (s.size : Int) < 3 := by omega
  have H3 := Lib.hid h3
  subst h4
  clear hno h5 h3
  have RT := Lib.hid fun w => rof0_ref (s.extract 2 s.size) (sO0 (s.extract 2 s.size)).length w (by rw [ByteArray.size_extract]; omega) rfl
  have hTl : (sO0 (s.extract 2 s.size)).length ≤ 1000 := by
    have := valsS_len (s.extract 2 s.size)
    rw [ByteArray.size_extract] at this
    unfold sO0; rw [List.length_map]; omega
  have HTL := Lib.hid hTl
  clear hTl
  obtain ⟨A, hA⟩ : ∃ A, w2.heap.size = A := ⟨_, rfl⟩
  have LT : Hid ((w2.alloc (.cells litV 9)).heap[A]? = some (.cells litV 9 (0, 0))) := Lib.hid (by rw [← hA]; exact heap_alloc_new w2 (.cells litV 9))
  have NT : Hid (Below w.heap.size w (w2.alloc (.cells litV 9))) := Lib.hid (seqB N2.out (below_alloc w2 _))
  rcases hcc with hca | ⟨hca, hcb⟩
  · go_upto_region 11 with fail
    go_loopw [7] (fun iv wr => ∃ i : Nat, i ≤ 12 ∧ iv = .int .i64 (i : Int) ∧ Hid (∀ j, j < i → (litsA.getD j []).isPrefixOf (bL (s.extract 2 s.size)) = false) ∧ Hid (wr.heap[A]? = some (.cells litV 9 (0, 0))) ∧ Hid (Below w.heap.size w wr)) (fun iv _ => 12 - (intOf iv).toNat)
    case atStart => exact ⟨0, by omega, rfl, Lib.hid (fun j hj => absurd hj (Nat.not_lt_zero j)), LT, NT⟩
    case round =>
      obtain ⟨i, hi, rfl, HJ, HA, HB⟩ := hrel
      by_cases hlt : i < 12
      · have hi1 : (i : Int) < 12 := by omega
        have hi0 : (0 : Int) ≤ (i : Int) := by omega
        have h2s : (2 : Int) ≤ (s.size : Int) := by omega
        obtain ⟨la, lb, lc⟩ := lits_ascN i hlt
        have x0 : wr.cell? ⟨A, i, none⟩ = some (.string (mkB (litsA.getD i []))) := by rw [cell_of_row _ _ i _ _ _ HA.out]; exact litV_at i hlt
        obtain ⟨L, hL⟩ : ∃ L, litsA.getD i [] = L := ⟨_, rfl⟩
        rw [hL] at la lb lc x0
        have RL := Lib.hid fun w => rof0_ref (mkB L) (sO0 (mkB L)).length w (by rw [← bL_len, bL_mkB]; omega) rfl
        have AT := Lib.hid fun (a b : Option Addr) (c d B B' : Nat) (w : World) hs ht => aat_any (s.extract 2 s.size) L la a b (sO0 (s.extract 2 s.size)).length (sO0 (mkB L)).length c d B B' w rfl rfl (by have := HTL.out; omega) hs ht lb
        obtain ⟨sl, hsl⟩ : ∃ sl, mkB L = sl := ⟨_, rfl⟩
        rw [hsl] at RL x0 AT
        have HLL := Lib.hid (And.intro hL (And.intro hsl hlt))
        obtain ⟨pb, hpb⟩ : ∃ pb, L.isPrefixOf (bL (s.extract 2 s.size)) = pb := ⟨_, rfl⟩
        rw [hpb] at AT
        have HPB := Lib.hid hpb
        generalize (sO0 (s.extract 2 s.size)).length = nt at *
        generalize (sO0 sl).length = nl at *
        clear la lb lc hL hsl hpb hlt
        have HAd : Hid (wr.drew.heap[A]? = some (.cells litV 9 (0, 0))) := HA
        have HBd : Hid (Below w.heap.size w wr.drew) := Lib.hid HB.out.drew
        have x0 : wr.drew.cell? ⟨A, i, none⟩ = some (.string sl) := x0
        go_upto_region 13 with fail
        have XT : Hid (A < wr.heap.size) := Lib.hid (blk_lt HA.out)
        clear HA
        go_region_law (first
          | (go_simp; go_at_call 36; with_reducible refine (RT.out _).mono ?_; rintro e w9 ⟨b9, d9, rfl, ho, hb⟩; have x0 := (hb.cell (p := ⟨A, i, none⟩) (blk_lt HAd.out)).trans x0; have HO1 := Lib.hid ho; have HAd := Lib.hid (blk_below HAd.out hb); have HBd := Lib.hid (seqB HBd.out hb); (try (have HO2 := Lib.hid (ows_keepA HO2.out hb))); clear ho hb)
          | (go_simp; go_at_call 36; with_reducible refine (RL.out _).mono ?_; rintro e w9 ⟨b8, d8, rfl, ho, hb⟩; have x0 := (hb.cell (p := ⟨A, i, none⟩) (blk_lt HAd.out)).trans x0; have HO2 := Lib.hid ho; have HAd := Lib.hid (blk_below HAd.out hb); have HBd := Lib.hid (seqB HBd.out hb); (try (have HO1 := Lib.hid (ows_keepA HO1.out hb))); clear ho hb)
          | (go_simp; go_at_call 35; refine (AT.out _ _ _ _ _ _ _ HO1.out HO2.out).mono ?_; rintro e w9 ⟨rfl, hb⟩; have x0 := (hb.cell (p := ⟨A, i, none⟩) (blk_lt HAd.out)).trans x0; have HAd := Lib.hid (blk_below HAd.out hb); have HBd := Lib.hid (seqB HBd.out hb); clear hb))
        all_goals (
          cases pb with
          | true =>
            have HV : Hid ((2 : Int) + (sl.size : Int) = (r : Int)) := Lib.hid (by
              have h1 := fnd_some _ i HLL.out.2.2 HJ.out (by rw [HLL.out.1]; exact HPB.out)
              rw [HR.out, h1, HLL.out.1, ← HLL.out.2.1, ← bL_len, bL_mkB]; omega)
            have hsz : sl.size ≤ 12 := by
              have := (lits_ascN i HLL.out.2.2).2.2
              rw [← HLL.out.2.1, ← bL_len, bL_mkB, ← HLL.out.1]; exact this
            have hsz2 : (2 : Int) + (sl.size : Int) ≤ 9223372036854775807 := by omega
            clear hsz
            go_wp2_with fail
            go_ret
            exact ⟨by rw [← HV.out] <;> rfl, HBd.out⟩
          | false =>
            go_wp2_with fail
            go_roundw
            case rel => exact ⟨i + 1, by have := HLL.out.2.2; omega, by go_num, Lib.hid (fun j hj => by
              rcases Nat.lt_or_ge j i with h1 | h1
              · exact HJ.out j h1
              · obtain rfl : j = i := by omega
                rw [HLL.out.1]; exact HPB.out), HAd, HBd⟩
            case measure => (have := HLL.out.2.2; simp [intOf]; try omega))
      · obtain rfl : i = 12 := by omega
        have HM0 : Hid (r = mvR (bL (s.extract 2 s.size))) := Lib.hid (by rw [HR.out]; exact fnd_none _ HJ.out)
        have D1 := Lib.hid (adg_any (s.extract 2 s.size) wr (by rw [ByteArray.size_extract]; omega))
        have D2 := Lib.hid fun (a : Nat) w => adg_any (s.extract (3 + a) s.size) w (by rw [ByteArray.size_extract]; omega)
        have hle1 := dgR_le (bL (s.extract 2 s.size))
        have ME := Lib.hid (mv_ext s)
        unfold DgPost at D1 D2
        obtain ⟨⟨na, a⟩, hqa⟩ : ∃ q, dgR (bL (s.extract 2 s.size)) = q := ⟨_, rfl⟩
        rw [hqa] at D1 hle1
        have hle1 : a ≤ 5 := hle1
        have ME1 := Lib.hid fun b => ME.out a b (by rw [hqa])
        have h2s : (2 : Int) ≤ (s.size : Int) := by omega
        have hi12 : ¬ ((12 : Nat) : Int) < 12 := by omega
        clear hqa ME hlt
        go_wp2_with fail
        go_at_call 37
        refine D1.out.mono ?_
        rintro e w3 ⟨rfl, rfl⟩
        obtain ⟨⟨nb, b⟩, hqb⟩ : ∃ q, dgR (bL (s.extract (3 + a) s.size)) = q := ⟨_, rfl⟩
        have D3 := Lib.hid fun w => D2.out a w
        rw [hqb] at D3
        have hle2 := dgR_le (bL (s.extract (3 + a) s.size))
        rw [hqb] at hle2
        have hle2 : b ≤ 5 := hle2
        obtain ⟨m1, m2⟩ := ME1.out b (by rw [hqb])
        have hw : a = 0 ∨ (a ≠ 0 ∧ s.size ≤ 2 + a) ∨ (a ≠ 0 ∧ 2 + a < s.size ∧ (s.get! (2 + a)).toNat ≠ 59) ∨ (a ≠ 0 ∧ 2 + a < s.size ∧ (s.get! (2 + a)).toNat = 59) := by omega
        have IX2 : Hid (2 + a < s.size → ∀ wx, (Instr.index 9 (.string s) (.int .i64 ((2 : Int) + (a : Int)))).run Tryd.prog wx = .ok (.int .u8 ((s.get! (2 + a)).toNat : Int)) wx) := Lib.hid (fun h wx => by
          have := idxA s (2 + a) h wx
          rw [← get_bL s _ h] at this
          rwa [show ((2 + a : Nat) : Int) = (2 : Int) + (a : Int) by omega] at this)
        have IX3 : Hid (3 + a + b < s.size → ∀ wx, (Instr.index 9 (.string s) (.int .i64 ((3 : Int) + (a : Int) + (b : Int)))).run Tryd.prog wx = .ok (.int .u8 ((s.get! (3 + a + b)).toNat : Int)) wx) := Lib.hid (fun h wx => by
          have := idxA s (3 + a + b) h wx
          rw [← get_bL s _ h] at this
          rwa [show ((3 + a + b : Nat) : Int) = (3 : Int) + (a : Int) + (b : Int) by omega] at this)
        obtain ⟨x2, hx2⟩ : ∃ x2, (s.get! (2 + a)).toNat = x2 := ⟨_, rfl⟩
        obtain ⟨x3, hx3⟩ : ∃ x3, (s.get! (3 + a + b)).toNat = x3 := ⟨_, rfl⟩
        rw [hx2] at hw IX2 m1 m2
        rw [hx3] at IX3 m2
        have M1 := Lib.hid m1
        have M2 := Lib.hid m2
        have NB := Lib.hid HB.out
        clear hqb hx2 hx3 m1 m2 D1 D2 ME1
        rcases hw with h | ⟨h, h2⟩ | ⟨h, h2, h3⟩ | ⟨h, h2, h3⟩
        · have HM : Hid (r = 0) := Lib.hid (by rw [HM0.out]; exact M1.out (.inl h))
          subst h
          go_wp2_with fail
          go_ret
          exact ⟨by rw [HM.out] <;> rfl, NB.out⟩
        · have HM : Hid (r = 0) := Lib.hid (by rw [HM0.out]; exact M1.out (.inr (.inl h2)))
          have ai : ¬ (a : Int) = 0 := by omega
          have ab : ((a : Int) == 0) = false := beq_eq_false_iff_ne.2 ai
          have j2 : (s.size : Int) ≤ (2 : Int) + (a : Int) := by omega
          clear h h2
          go_wp2_with fail
          go_ret
          exact ⟨by rw [HM.out] <;> rfl, NB.out⟩
        · have HM : Hid (r = 0) := Lib.hid (by rw [HM0.out]; exact M1.out (.inr (.inr ⟨h2, h3⟩)))
          have ai : ¬ (a : Int) = 0 := by omega
          have ab : ((a : Int) == 0) = false := beq_eq_false_iff_ne.2 ai
          have j2 : ¬ (s.size : Int) ≤ (2 : Int) + (a : Int) := by omega
          have ix2 := IX2.out h2
          have j3 : ¬ (x2 : Int) = 59 := by omega
          have j3b : ((x2 : Int) == 59) = false := beq_eq_false_iff_ne.2 j3
          have j3n : ((x2 : Int) != 59) = true := by rw [bne, j3b]; rfl
          clear h h2 h3
          go_wp2_with fail
          go_ret
          exact ⟨by rw [HM.out] <;> rfl, NB.out⟩
        · subst h3
          have M3 := Lib.hid (M2.out h h2 rfl)
          have ai : ¬ (a : Int) = 0 := by omega
          have ab : ((a : Int) == 0) = false := beq_eq_false_iff_ne.2 ai
          have j2 : ¬ (s.size : Int) ≤ (2 : Int) + (a : Int) := by omega
          have j4 : (3 : Int) + (a : Int) ≤ (s.size : Int) := by omega
          have j5 : (0 : Int) ≤ (3 : Int) + (a : Int) := by omega
          have j6 : ((3 : Int) + (a : Int)).toNat = 3 + a := by omega
          have ix2 := IX2.out h2
          have hw2 : b = 0 ∨ (b ≠ 0 ∧ s.size ≤ 3 + a + b) ∨ (b ≠ 0 ∧ 3 + a + b < s.size ∧ x3 ≠ 72) ∨ (b ≠ 0 ∧ 3 + a + b < s.size ∧ x3 = 72) := by omega
          clear h h2
          go_wp2_with fail
          go_at_call 37
          refine (D3.out _).mono ?_
          rintro e w4 ⟨rfl, rfl⟩
          clear ix2
          rcases hw2 with h | ⟨h, h2⟩ | ⟨h, h2, h3⟩ | ⟨h, h2, h3⟩
          · have HM : Hid (r = 0) := Lib.hid (by rw [HM0.out]; exact M3.out.1 (.inl h))
            subst h
            go_wp2_with fail
            go_ret
            exact ⟨by rw [HM.out] <;> rfl, NB.out⟩
          · have HM : Hid (r = 0) := Lib.hid (by rw [HM0.out]; exact M3.out.1 (.inr (.inl h2)))
            have bi : ¬ (b : Int) = 0 := by omega
            have bb : ((b : Int) == 0) = false := beq_eq_false_iff_ne.2 bi
            have k2 : (s.size : Int) ≤ (3 : Int) + (a : Int) + (b : Int) := by omega
            clear h h2
            go_wp2_with fail
            go_ret
            exact ⟨by rw [HM.out] <;> rfl, NB.out⟩
          · have HM : Hid (r = 0) := Lib.hid (by rw [HM0.out]; exact M3.out.1 (.inr (.inr ⟨h2, h3⟩)))
            have bi : ¬ (b : Int) = 0 := by omega
            have bb : ((b : Int) == 0) = false := beq_eq_false_iff_ne.2 bi
            have k2 : ¬ (s.size : Int) ≤ (3 : Int) + (a : Int) + (b : Int) := by omega
            have ix3 := IX3.out h2
            have k3 : ¬ (x3 : Int) = 72 := by omega
            have k3b : ((x3 : Int) == 72) = false := beq_eq_false_iff_ne.2 k3
            have k3n : ((x3 : Int) != 72) = true := by rw [bne, k3b]; rfl
            clear h h2 h3
            go_wp2_with fail
            go_ret
            exact ⟨by rw [HM.out] <;> rfl, NB.out⟩
          · have HM : Hid ((r : Int) = (4 : Int) + (a : Int) + (b : Int)) := Lib.hid (by rw [HM0.out, M3.out.2 h h2 h3]; omega)
            subst h3
            have bi : ¬ (b : Int) = 0 := by omega
            have bb : ((b : Int) == 0) = false := beq_eq_false_iff_ne.2 bi
            have k2 : ¬ (s.size : Int) ≤ (3 : Int) + (a : Int) + (b : Int) := by omega
            have ix3 := IX3.out h2
            clear h h2
            go_wp2_with fail
            go_ret
            exact ⟨by rw [HM.out] <;> rfl, NB.out⟩
  · go_upto_region 11 with fail
    go_loopw [7] (fun iv wr => ∃ i : Nat, i ≤ 12 ∧ iv = .int .i64 (i : Int) ∧ Hid (∀ j, j < i → (litsA.getD j []).isPrefixOf (bL (s.extract 2 s.size)) = false) ∧ Hid (wr.heap[A]? = some (.cells litV 9 (0, 0))) ∧ Hid (Below w.heap.size w wr)) (fun iv _ => 12 - (intOf iv).toNat)
    case atStart => exact ⟨0, by omega, rfl, Lib.hid (fun j hj => absurd hj (Nat.not_lt_zero j)), LT, NT⟩
    case round =>
      obtain ⟨i, hi, rfl, HJ, HA, HB⟩ := hrel
      by_cases hlt : i < 12
      · have hi1 : (i : Int) < 12 := by omega
        have hi0 : (0 : Int) ≤ (i : Int) := by omega
        have h2s : (2 : Int) ≤ (s.size : Int) := by omega
        obtain ⟨la, lb, lc⟩ := lits_ascN i hlt
        have x0 : wr.cell? ⟨A, i, none⟩ = some (.string (mkB (litsA.getD i []))) := by rw [cell_of_row _ _ i _ _ _ HA.out]; exact litV_at i hlt
        obtain ⟨L, hL⟩ : ∃ L, litsA.getD i [] = L := ⟨_, rfl⟩
        rw [hL] at la lb lc x0
        have RL := Lib.hid fun w => rof0_ref (mkB L) (sO0 (mkB L)).length w (by rw [← bL_len, bL_mkB]; omega) rfl
        have AT := Lib.hid fun (a b : Option Addr) (c d B B' : Nat) (w : World) hs ht => aat_any (s.extract 2 s.size) L la a b (sO0 (s.extract 2 s.size)).length (sO0 (mkB L)).length c d B B' w rfl rfl (by have := HTL.out; omega) hs ht lb
        obtain ⟨sl, hsl⟩ : ∃ sl, mkB L = sl := ⟨_, rfl⟩
        rw [hsl] at RL x0 AT
        have HLL := Lib.hid (And.intro hL (And.intro hsl hlt))
        obtain ⟨pb, hpb⟩ : ∃ pb, L.isPrefixOf (bL (s.extract 2 s.size)) = pb := ⟨_, rfl⟩
        rw [hpb] at AT
        have HPB := Lib.hid hpb
        generalize (sO0 (s.extract 2 s.size)).length = nt at *
        generalize (sO0 sl).length = nl at *
        clear la lb lc hL hsl hpb hlt
        have HAd : Hid (wr.drew.heap[A]? = some (.cells litV 9 (0, 0))) := HA
        have HBd : Hid (Below w.heap.size w wr.drew) := Lib.hid HB.out.drew
        have x0 : wr.drew.cell? ⟨A, i, none⟩ = some (.string sl) := x0
        go_upto_region 13 with fail
        have XT : Hid (A < wr.heap.size) := Lib.hid (blk_lt HA.out)
        clear HA
        go_region_law (first
          | (go_simp; go_at_call 36; with_reducible refine (RT.out _).mono ?_; rintro e w9 ⟨b9, d9, rfl, ho, hb⟩; have x0 := (hb.cell (p := ⟨A, i, none⟩) (blk_lt HAd.out)).trans x0; have HO1 := Lib.hid ho; have HAd := Lib.hid (blk_below HAd.out hb); have HBd := Lib.hid (seqB HBd.out hb); (try (have HO2 := Lib.hid (ows_keepA HO2.out hb))); clear ho hb)
          | (go_simp; go_at_call 36; with_reducible refine (RL.out _).mono ?_; rintro e w9 ⟨b8, d8, rfl, ho, hb⟩; have x0 := (hb.cell (p := ⟨A, i, none⟩) (blk_lt HAd.out)).trans x0; have HO2 := Lib.hid ho; have HAd := Lib.hid (blk_below HAd.out hb); have HBd := Lib.hid (seqB HBd.out hb); (try (have HO1 := Lib.hid (ows_keepA HO1.out hb))); clear ho hb)
          | (go_simp; go_at_call 35; refine (AT.out _ _ _ _ _ _ _ HO1.out HO2.out).mono ?_; rintro e w9 ⟨rfl, hb⟩; have x0 := (hb.cell (p := ⟨A, i, none⟩) (blk_lt HAd.out)).trans x0; have HAd := Lib.hid (blk_below HAd.out hb); have HBd := Lib.hid (seqB HBd.out hb); clear hb))
        all_goals (
          cases pb with
          | true =>
            have HV : Hid ((2 : Int) + (sl.size : Int) = (r : Int)) := Lib.hid (by
              have h1 := fnd_some _ i HLL.out.2.2 HJ.out (by rw [HLL.out.1]; exact HPB.out)
              rw [HR.out, h1, HLL.out.1, ← HLL.out.2.1, ← bL_len, bL_mkB]; omega)
            have hsz : sl.size ≤ 12 := by
              have := (lits_ascN i HLL.out.2.2).2.2
              rw [← HLL.out.2.1, ← bL_len, bL_mkB, ← HLL.out.1]; exact this
            have hsz2 : (2 : Int) + (sl.size : Int) ≤ 9223372036854775807 := by omega
            clear hsz
            go_wp2_with fail
            go_ret
            exact ⟨by rw [← HV.out] <;> rfl, HBd.out⟩
          | false =>
            go_wp2_with fail
            go_roundw
            case rel => exact ⟨i + 1, by have := HLL.out.2.2; omega, by go_num, Lib.hid (fun j hj => by
              rcases Nat.lt_or_ge j i with h1 | h1
              · exact HJ.out j h1
              · obtain rfl : j = i := by omega
                rw [HLL.out.1]; exact HPB.out), HAd, HBd⟩
            case measure => (have := HLL.out.2.2; simp [intOf]; try omega))
      · obtain rfl : i = 12 := by omega
        have HM0 : Hid (r = mvR (bL (s.extract 2 s.size))) := Lib.hid (by rw [HR.out]; exact fnd_none _ HJ.out)
        have D1 := Lib.hid (adg_any (s.extract 2 s.size) wr (by rw [ByteArray.size_extract]; omega))
        have D2 := Lib.hid fun (a : Nat) w => adg_any (s.extract (3 + a) s.size) w (by rw [ByteArray.size_extract]; omega)
        have hle1 := dgR_le (bL (s.extract 2 s.size))
        have ME := Lib.hid (mv_ext s)
        unfold DgPost at D1 D2
        obtain ⟨⟨na, a⟩, hqa⟩ : ∃ q, dgR (bL (s.extract 2 s.size)) = q := ⟨_, rfl⟩
        rw [hqa] at D1 hle1
        have hle1 : a ≤ 5 := hle1
        have ME1 := Lib.hid fun b => ME.out a b (by rw [hqa])
        have h2s : (2 : Int) ≤ (s.size : Int) := by omega
        have hi12 : ¬ ((12 : Nat) : Int) < 12 := by omega
        clear hqa ME hlt
        go_wp2_with fail
        go_at_call 37
        refine D1.out.mono ?_
        rintro e w3 ⟨rfl, rfl⟩
        obtain ⟨⟨nb, b⟩, hqb⟩ : ∃ q, dgR (bL (s.extract (3 + a) s.size)) = q := ⟨_, rfl⟩
        have D3 := Lib.hid fun w => D2.out a w
        rw [hqb] at D3
        have hle2 := dgR_le (bL (s.extract (3 + a) s.size))
        rw [hqb] at hle2
        have hle2 : b ≤ 5 := hle2
        obtain ⟨m1, m2⟩ := ME1.out b (by rw [hqb])
        have hw : a = 0 ∨ (a ≠ 0 ∧ s.size ≤ 2 + a) ∨ (a ≠ 0 ∧ 2 + a < s.size ∧ (s.get! (2 + a)).toNat ≠ 59) ∨ (a ≠ 0 ∧ 2 + a < s.size ∧ (s.get! (2 + a)).toNat = 59) := by omega
        have IX2 : Hid (2 + a < s.size → ∀ wx, (Instr.index 9 (.string s) (.int .i64 ((2 : Int) + (a : Int)))).run Tryd.prog wx = .ok (.int .u8 ((s.get! (2 + a)).toNat : Int)) wx) := Lib.hid (fun h wx => by
          have := idxA s (2 + a) h wx
          rw [← get_bL s _ h] at this
          rwa [show ((2 + a : Nat) : Int) = (2 : Int) + (a : Int) by omega] at this)
        have IX3 : Hid (3 + a + b < s.size → ∀ wx, (Instr.index 9 (.string s) (.int .i64 ((3 : Int) + (a : Int) + (b : Int)))).run Tryd.prog wx = .ok (.int .u8 ((s.get! (3 + a + b)).toNat : Int)) wx) := Lib.hid (fun h wx => by
          have := idxA s (3 + a + b) h wx
          rw [← get_bL s _ h] at this
          rwa [show ((3 + a + b : Nat) : Int) = (3 : Int) + (a : Int) + (b : Int) by omega] at this)
        obtain ⟨x2, hx2⟩ : ∃ x2, (s.get! (2 + a)).toNat = x2 := ⟨_, rfl⟩
        obtain ⟨x3, hx3⟩ : ∃ x3, (s.get! (3 + a + b)).toNat = x3 := ⟨_, rfl⟩
        rw [hx2] at hw IX2 m1 m2
        rw [hx3] at IX3 m2
        have M1 := Lib.hid m1
        have M2 := Lib.hid m2
        have NB := Lib.hid HB.out
        clear hqb hx2 hx3 m1 m2 D1 D2 ME1
        rcases hw with h | ⟨h, h2⟩ | ⟨h, h2, h3⟩ | ⟨h, h2, h3⟩
        · have HM : Hid (r = 0) := Lib.hid (by rw [HM0.out]; exact M1.out (.inl h))
          subst h
          go_wp2_with fail
          go_ret
          exact ⟨by rw [HM.out] <;> rfl, NB.out⟩
        · have HM : Hid (r = 0) := Lib.hid (by rw [HM0.out]; exact M1.out (.inr (.inl h2)))
          have ai : ¬ (a : Int) = 0 := by omega
          have ab : ((a : Int) == 0) = false := beq_eq_false_iff_ne.2 ai
          have j2 : (s.size : Int) ≤ (2 : Int) + (a : Int) := by omega
          clear h h2
          go_wp2_with fail
          go_ret
          exact ⟨by rw [HM.out] <;> rfl, NB.out⟩
        · have HM : Hid (r = 0) := Lib.hid (by rw [HM0.out]; exact M1.out (.inr (.inr ⟨h2, h3⟩)))
          have ai : ¬ (a : Int) = 0 := by omega
          have ab : ((a : Int) == 0) = false := beq_eq_false_iff_ne.2 ai
          have j2 : ¬ (s.size : Int) ≤ (2 : Int) + (a : Int) := by omega
          have ix2 := IX2.out h2
          have j3 : ¬ (x2 : Int) = 59 := by omega
          have j3b : ((x2 : Int) == 59) = false := beq_eq_false_iff_ne.2 j3
          have j3n : ((x2 : Int) != 59) = true := by rw [bne, j3b]; rfl
          clear h h2 h3
          go_wp2_with fail
          go_ret
          exact ⟨by rw [HM.out] <;> rfl, NB.out⟩
        · subst h3
          have M3 := Lib.hid (M2.out h h2 rfl)
          have ai : ¬ (a : Int) = 0 := by omega
          have ab : ((a : Int) == 0) = false := beq_eq_false_iff_ne.2 ai
          have j2 : ¬ (s.size : Int) ≤ (2 : Int) + (a : Int) := by omega
          have j4 : (3 : Int) + (a : Int) ≤ (s.size : Int) := by omega
          have j5 : (0 : Int) ≤ (3 : Int) + (a : Int) := by omega
          have j6 : ((3 : Int) + (a : Int)).toNat = 3 + a := by omega
          have ix2 := IX2.out h2
          have hw2 : b = 0 ∨ (b ≠ 0 ∧ s.size ≤ 3 + a + b) ∨ (b ≠ 0 ∧ 3 + a + b < s.size ∧ x3 ≠ 72) ∨ (b ≠ 0 ∧ 3 + a + b < s.size ∧ x3 = 72) := by omega
          clear h h2
          go_wp2_with fail
          go_at_call 37
          refine (D3.out _).mono ?_
          rintro e w4 ⟨rfl, rfl⟩
          clear ix2
          rcases hw2 with h | ⟨h, h2⟩ | ⟨h, h2, h3⟩ | ⟨h, h2, h3⟩
          · have HM : Hid (r = 0) := Lib.hid (by rw [HM0.out]; exact M3.out.1 (.inl h))
            subst h
            go_wp2_with fail
            go_ret
            exact ⟨by rw [HM.out] <;> rfl, NB.out⟩
          · have HM : Hid (r = 0) := Lib.hid (by rw [HM0.out]; exact M3.out.1 (.inr (.inl h2)))
            have bi : ¬ (b : Int) = 0 := by omega
            have bb : ((b : Int) == 0) = false := beq_eq_false_iff_ne.2 bi
            have k2 : (s.size : Int) ≤ (3 : Int) + (a : Int) + (b : Int) := by omega
            clear h h2
            go_wp2_with fail
            go_ret
            exact ⟨by rw [HM.out] <;> rfl, NB.out⟩
          · have HM : Hid (r = 0) := Lib.hid (by rw [HM0.out]; exact M3.out.1 (.inr (.inr ⟨h2, h3⟩)))
            have bi : ¬ (b : Int) = 0 := by omega
            have bb : ((b : Int) == 0) = false := beq_eq_false_iff_ne.2 bi
            have k2 : ¬ (s.size : Int) ≤ (3 : Int) + (a : Int) + (b : Int) := by omega
            have ix3 := IX3.out h2
            have k3 : ¬ (x3 : Int) = 72 := by omega
            have k3b : ((x3 : Int) == 72) = false := beq_eq_false_iff_ne.2 k3
            have k3n : ((x3 : Int) != 72) = true := by rw [bne, k3b]; rfl
            clear h h2 h3
            go_wp2_with fail
            go_ret
            exact ⟨by rw [HM.out] <;> rfl, NB.out⟩
          · have HM : Hid ((r : Int) = (4 : Int) + (a : Int) + (b : Int)) := Lib.hid (by rw [HM0.out, M3.out.2 h h2 h3]; omega)
            subst h3
            have bi : ¬ (b : Int) = 0 := by omega
            have bb : ((b : Int) == 0) = false := beq_eq_false_iff_ne.2 bi
            have k2 : ¬ (s.size : Int) ≤ (3 : Int) + (a : Int) + (b : Int) := by omega
            have ix3 := IX3.out h2
            clear h h2
            go_wp2_with fail
            go_ret
            exact ⟨by rw [HM.out] <;> rfl, NB.out⟩
end Go.Proofs.YtmnjafceenckpaaDoor
set_option linter.unusedVariables false
set_option linter.unusedSimpArgs false
namespace Go.Proofs.YtmnjafceenckpaaDoor
open Go.RowKit
theorem apiece_any (s : ByteArray) (w : World) (hs : s.size ≤ 1000) (h0 : 0 < s.size) : Calls Tryd.prog 25 #[.string s] w fun e w' => e = .returned (.int .i64 (fp s : Int)) ∧ Below w.heap.size w w' := by
  rw [← pcR_fp h0]
  have hF := pcf_of h0 hs
  by_cases h : (s.get! 0).toNat = 7 ∨ (s.get! 0).toNat = 10 ∨ (s.get! 0).toNat = 13
  · exact apc_low s w _ _ _ _ _ hF rfl h
  · exact apc_rest s w _ _ _ _ _ hF rfl rfl rfl rfl h
set_option maxRecDepth 100000 in
set_option maxHeartbeats 4000000 in
theorem arcl_any (s : ByteArray) (w : World) (hs : s.size ≤ 1000) : Calls Tryd.prog 14 #[.string s] w fun e w' => e = .returned (.bool (clnB s)) ∧ Below w.heap.size w w' := by
  have HS := Lib.hid hs
  have PC := Lib.hid fun (t : ByteArray) w h1 h2 => apiece_any t w h1 h2
  obtain ⟨cb, hcb⟩ : ∃ cb, clnB s = cb := ⟨_, rfl⟩
  rw [hcb]
  have HC := Lib.hid hcb
  clear hs hcb
  go_enter Tryd.func14, Tryd.ntmps14
  go_upto_region 1 with fail
  go_loopw [0] (fun sv wr => ∃ k : Nat, k ≤ s.size ∧ sv = .string (s.extract k s.size) ∧ Hid (cb = true ↔ Cl (s.extract k s.size)) ∧ Hid (Below w.heap.size w wr)) (fun sv _ => match sv with | .string t => t.size | _ => 0)
  case atStart => exact ⟨0, Nat.zero_le _, by rw [ext_all], Lib.hid (by rw [ext_all, ← cln_iff, HC.out]), Lib.hid (Below.refl _ _)⟩
  case round =>
    obtain ⟨k, hk, rfl, HI, HB⟩ := hrel
    have hz : (s.extract k s.size).size = s.size - k := tail_size s k
    obtain ⟨t, ht⟩ : ∃ t, s.extract k s.size = t := ⟨_, rfl⟩
    rw [ht] at hz HI ⊢
    have HT := Lib.hid (And.intro ht hz)
    have ht1 : t.size ≤ 1000 := by have := HS.out; omega
    by_cases h0 : 0 < t.size
    · have h0i : (0 : Int) < (t.size : Int) := by omega
      have P := PC.out t wr ht1 h0
      have hle := fp_le (s := t)
      have hst := cl_step h0
      obtain ⟨p, hp⟩ : ∃ p, fp t = p := ⟨_, rfl⟩
      rw [hp] at P hle hst
      have HP := Lib.hid P
      have HQ := Lib.hid (And.intro hst hle)
      clear P hst hle hp ht hz h0
      go_wp2_with fail
      go_at_call 25
      refine HP.out.mono ?_
      rintro e w1 ⟨rfl, hb⟩
      have N1 := Lib.hid (seqB HB.out hb)
      clear hb
      by_cases hp0 : p = 0
      · have hcf : Hid (false = cb) := Lib.hid (by
          cases cb with
          | false => rfl
          | true => exact absurd hp0 (HQ.out.1.1 (HI.out.1 rfl)).1)
        subst hp0
        go_wp2_with fail
        go_ret
        exact ⟨by rw [hcf.out] <;> rfl, N1.out⟩
      · have hpi : ¬ (p : Int) = 0 := by omega
        have hpb : ((p : Int) == 0) = false := beq_eq_false_iff_ne.2 hpi
        have hle := HQ.out.2 hp0
        have hpz : (p : Int) ≤ (t.size : Int) := by omega
        have HN : Hid (cb = true ↔ Cl (t.extract p t.size)) := Lib.hid (HI.out.trans (HQ.out.1.trans ⟨fun h => h.2, fun h => ⟨hp0, h⟩⟩))
        have HE : Hid (t.extract p t.size = s.extract (k + p) s.size) := Lib.hid (by rw [← HT.out.1, ext_ext])
        have HPP := Lib.hid (And.intro hp0 hle)
        clear hp0
        go_wp2_with fail
        go_roundw
        case rel => exact ⟨k + p, by have := HPP.out.2; have := HT.out.2; omega, by first | exact congrArg Value.string HE.out | rw [HE.out], Lib.hid (by rw [← HE.out]; exact HN.out), N1⟩
        case measure =>
          have h1 := HPP.out
          have h2 : (t.extract p t.size).size = t.size - p := tail_size t p
          simp only [h2]
          omega
    · have h0i : ¬ (0 : Int) < (t.size : Int) := by omega
      have hct : Hid (true = cb) := Lib.hid (by
        have e : t = mt := size0 (by omega)
        rw [e] at HI
        exact (HI.out.2 .nil).symm)
      clear ht hz
      go_wp2_with fail
      go_ret
      exact ⟨by rw [hct.out] <;> rfl, HB.out⟩
set_option maxRecDepth 100000 in
set_option maxHeartbeats 4000000 in
theorem along_any (s : ByteArray) (w : World) (hs : s.size ≤ 1000) : Calls Tryd.prog 5 #[.string s] w fun e w' => e = .returned (.int .i64 (clZ s : Int)) ∧ Below w.heap.size w w' := by
  have HS := Lib.hid hs
  have CN := Lib.hid fun (k : Nat) w => arcl_any (s.extract 0 k) w (by rw [ByteArray.size_extract]; omega)
  have BE := Lib.hid (cl_best s.size s (Nat.le_refl _))
  clear hs
  go_enter Tryd.func5, Tryd.ntmps5
  go_upto_region 3 with fail
  go_loopw [3, 4] (fun bv iv wr => ∃ b k : Nat, k ≤ s.size + 1 ∧ b ≤ s.size ∧ bv = .int .i64 (b : Int) ∧ iv = .int .i64 (k : Int) ∧ Hid (Cl (s.extract 0 b) ∧ ∀ j, j < k → Cl (s.extract 0 j) → j ≤ b) ∧ Hid (Below w.heap.size w wr)) (fun _ iv _ => s.size + 1 - (intOf iv).toNat)
  case atStart => exact ⟨0, 0, Nat.zero_le _, Nat.zero_le _, rfl, rfl, Lib.hid ⟨by rw [show s.extract 0 0 = mt from size0 (by rw [ByteArray.size_extract]; omega)]; exact .nil, fun j hj => absurd hj (Nat.not_lt_zero j)⟩, Lib.hid (Below.refl _ _)⟩
  case round =>
    obtain ⟨b, k, hk, hb0, rfl, rfl, HI, HB⟩ := hrel
    have hs1 := HS.out
    by_cases hlt : k ≤ s.size
    · have hk1 : (k : Int) ≤ (s.size : Int) := by omega
      have hk0 : (0 : Int) ≤ (k : Int) := by omega
      obtain ⟨cb, hcb⟩ : ∃ cb, clnB (s.extract 0 k) = cb := ⟨_, rfl⟩
      have C := CN.out k wr
      rw [hcb] at C
      have HC := Lib.hid C
      have HCB := Lib.hid (And.intro hcb hlt)
      have HB0 := Lib.hid hb0
      clear C hcb hlt hb0
      go_wp2_with fail
      go_at_call 14
      refine HC.out.mono ?_
      rintro e w1 ⟨rfl, hb⟩
      have N1 := Lib.hid (seqB HB.out hb)
      clear hb
      cases cb with
      | true =>
        go_wp2_with fail
        go_roundw
        case rel => exact ⟨k, k + 1, by have := HCB.out.2; omega, HCB.out.2, rfl, by go_num, Lib.hid ⟨(cln_iff _).1 HCB.out.1, fun j hj _ => by omega⟩, N1⟩
        case measure => (have := HCB.out.2; simp [intOf]; try omega)
      | false =>
        go_wp2_with fail
        go_roundw
        case rel => exact ⟨b, k + 1, by have := HCB.out.2; omega, HB0.out, rfl, by go_num, Lib.hid ⟨HI.out.1, fun j hj h => by
          rcases Nat.lt_or_ge j k with h1 | h1
          · exact HI.out.2 j h1 h
          · obtain rfl : j = k := by omega
            have := (cln_iff _).2 h
            rw [HCB.out.1] at this; cases this⟩, N1⟩
        case measure => (have := HCB.out.2; simp [intOf]; try omega)
    · have hkl : ¬ (k : Int) ≤ (s.size : Int) := by omega
      have hbz : Hid (b = clZ s) := Lib.hid (Nat.le_antisymm (BE.out.2.2 b hb0 HI.out.1) (HI.out.2 (clZ s) (by have := BE.out.1; unfold clZ; omega) BE.out.2.1))
      clear hlt
      go_wp2_with fail
      go_ret
      exact ⟨by rw [hbz.out] <;> rfl, HB.out⟩
theorem cln_all (s : ByteArray) : (clnB s = true ↔ clZ s = s.size) ∧ clZ s ≤ s.size ∧ clnB (s.extract 0 (clZ s)) = true := by
  obtain ⟨h1, h2, h3⟩ := cl_best s.size s (Nat.le_refl _)
  refine ⟨⟨fun h => Nat.le_antisymm h1 (h3 s.size (Nat.le_refl _) (by rw [ext_all]; exact (cln_iff s).1 h)), fun h => ?_⟩, h1, (cln_iff _).2 h2⟩
  have h2 : Cl (s.extract 0 (clZ s)) := h2
  rw [h, ext_all] at h2
  exact (cln_iff s).2 h2
end Go.Proofs.YtmnjafceenckpaaDoor
set_option linter.unusedVariables false
set_option linter.unusedSimpArgs false
namespace Go.Proofs.YtmnjafceenckpaaDoor
open Go.RowKit
/-- How many pieces are of a kind. -/
def cntK (L : List Ot) (k : Int) : Int := ((L.filter fun o => decide (o.1 = k)).length : Nat)
def kRow (L : List Ot) : Array Value := #[.int .i64 (cntK L 0), .int .i64 (cntK L 1), .int .i64 (cntK L 2), .int .i64 (cntK L 3), .int .i64 (cntK L 4), .int .i64 (cntK L 5), .int .i64 (cntK L 6), .int .i64 (cntK L 7), .int .i64 (cntK L 8)]
def kdV (L : List Ot) : Value := .agg (kRow L)
theorem cntK_snoc (L : List Ot) (o : Ot) (k : Int) : cntK (L ++ [o]) k = if o.1 = k then cntK L k + 1 else cntK L k := by
  unfold cntK
  rw [List.filter_append, List.length_append]
  by_cases h : o.1 = k
  · rw [if_pos h, List.filter_cons, if_pos (by simpa using h)]; simp
  · rw [if_neg h, List.filter_cons, if_neg (by simpa using h)]; simp
theorem kRow_at (L : List Ot) (k : Nat) (hk : k ≤ 8) : (kRow L)[k]? = some (.int .i64 (cntK L (k : Int))) := by
  have : k = 0 ∨ k = 1 ∨ k = 2 ∨ k = 3 ∨ k = 4 ∨ k = 5 ∨ k = 6 ∨ k = 7 ∨ k = 8 := by omega
  rcases this with rfl | rfl | rfl | rfl | rfl | rfl | rfl | rfl | rfl <;> rfl
theorem kRow_set (L : List Ot) (o : Ot) (k : Nat) (hk : k ≤ 8) (ho : o.1 = (k : Int)) : (kRow L).setIfInBounds k (.int .i64 (cntK L (k : Int) + 1)) = kRow (L ++ [o]) := by
  have : k = 0 ∨ k = 1 ∨ k = 2 ∨ k = 3 ∨ k = 4 ∨ k = 5 ∨ k = 6 ∨ k = 7 ∨ k = 8 := by omega
  unfold kRow
  simp only [cntK_snoc, ho]
  rcases this with rfl | rfl | rfl | rfl | rfl | rfl | rfl | rfl | rfl <;> rfl
theorem cntK_rng (L : List Ot) (k : Int) : 0 ≤ cntK L k ∧ cntK L k ≤ L.length := by
  unfold cntK
  have := List.length_filter_le (fun o : Ot => decide (o.1 = k)) L
  omega
theorem kind_rng {L : List Ot} (h : mayAll L = true) (i : Nat) (hi : i < L.length) : 0 ≤ (L.getD i ot0).1 ∧ (L.getD i ot0).1 ≤ 8 := by
  have hm : mayP (L.getD i ot0) = true := by
    rw [List.getD, List.getElem?_eq_getElem hi]
    exact List.all_eq_true.1 h _ (List.getElem_mem hi)
  obtain ⟨o, ho⟩ : ∃ o, L.getD i ot0 = o := ⟨_, rfl⟩
  rw [ho] at hm ⊢
  have hpc := pc_of hm
  cases hpc <;> (constructor <;> (dsimp only; omega))
theorem take_snocO (L : List Ot) (i : Nat) (hi : i < L.length) : L.take (i + 1) = L.take i ++ [L.getD i ot0] := by
  rw [List.take_add_one, List.getElem?_eq_getElem hi, List.getD, List.getElem?_eq_getElem hi]; rfl
theorem prs_len {s : ByteArray} {L : List Ot} (h : prsS s = some L) : L.length ≤ s.size := by
  have key : ∀ L : List Ot, mayAll L = true → L.length ≤ (txOut L).size := by
    intro L
    induction L with
    | nil => intro _; exact Nat.le_refl _
    | cons o L ih =>
      intro hm
      unfold mayAll at hm
      rw [List.all_cons, Bool.and_eq_true] at hm
      have h1 := ih hm.2
      have h2 := bt_pos hm.1
      show L.length + 1 ≤ (bt o ++ txOut L).size
      rw [ByteArray.size_append]; omega
  obtain ⟨h1, h2, _⟩ := prsS_sound h
  rw [← h2]; exact key L h1
theorem aparse_own (s : ByteArray) (L : List Ot) (w : World) (hT : ET w) (hs : s.size ≤ 800000) (h : prsS s = some L) : Calls Tryd.prog 6 #[.string s] w fun e w' => ∃ a c, e = .returned (.tuple #[.slice a L.length c, .int .i64 0]) ∧ ownT w' w.heap.size (.slice a L.length c) L ∧ Below w.heap.size w w' := by
  refine (parse_any s w hT hs).mono ?_
  rintro e w' (⟨L', v, h1, rfl, h2, h3⟩ | ⟨h1, _⟩)
  · rw [h] at h1
    obtain rfl := Option.some.inj h1
    obtain ⟨a, c, rfl, h4⟩ := outs_of_own h2
    exact ⟨a, c, rfl, h2, h3⟩
  · rw [h] at h1; cases h1
theorem ownT_below {w w' : World} {B : Nat} {v : Value} {L : List Ot} (h : ownT w B v L) (hb : Below w.heap.size w w') : ownT w' B v L := own_below h hb
theorem ownT_at {w : World} {B n : Nat} {a : Option Addr} {c : Nat} {L : List Ot} (h : ownT w B (.slice a n c) L) : OutsIn w a L := by
  obtain ⟨a', c', e, ho⟩ := outs_of_own h
  injection e with e1 e2 e3
  rw [e1]; exact ho
theorem k_boxes (w : World) : ∃ W, ((w.alloc (.cells (kRow []) 28)).alloc (.cells (kRow []) 28)) = W ∧ Below w.heap.size w W ∧ W.heap[w.heap.size]? = some (.cells (kRow []) 28 (0, 0)) ∧ W.heap[w.heap.size + 1]? = some (.cells (kRow []) 28 (0, 0)) := by
  have b1 := below_alloc w (.cells (kRow []) 28)
  have r1 := heap_alloc_new w (.cells (kRow []) 28)
  have s1 : (w.alloc (.cells (kRow []) 28)).heap.size = w.heap.size + 1 := by simp
  have b2 := below_alloc (w.alloc (.cells (kRow []) 28)) (.cells (kRow []) 28)
  have r2 := heap_alloc_new (w.alloc (.cells (kRow []) 28)) (.cells (kRow []) 28)
  rw [s1] at r2
  exact ⟨_, rfl, seqB b1 b2, blk_below r1 b2, r2⟩
set_option maxRecDepth 100000 in
set_option maxHeartbeats 8000000 in
theorem akinds_any (s : ByteArray) (L : List Ot) (w : World) (hT : ET w) (hs : s.size ≤ 1000) (hL : prsS (s.extract 0 (clZ s)) = some L) : Calls Tryd.prog 8 #[.string s] w fun e w' => e = .returned (kdV L) ∧ Below w.heap.size w w' := by
  obtain ⟨W, hW, hb, r1, r2⟩ := k_boxes w
  have CL := Lib.hid (acl_any s W (hT.below hb) hs)
  have hcz := (cln_all s).2.1
  have hm := (prsS_sound hL).1
  have hll := prs_len hL
  rw [ByteArray.size_extract] at hll
  obtain ⟨z, hz⟩ : ∃ z, clZ s = z := ⟨_, rfl⟩
  rw [hz] at CL hcz hL hll
  have PY := Lib.hid fun w hT => aparse_own (s.extract 0 z) L w hT (by rw [ByteArray.size_extract]; omega) hL
  obtain ⟨n, hn⟩ : ∃ n, L.length = n := ⟨_, rfl⟩
  rw [hn] at PY hll
  have HM := Lib.hid (And.intro hm (And.intro hn (show n ≤ 1000 by omega)))
  have HT := Lib.hid hT
  have HB := Lib.hid hb
  have R1 := Lib.hid r1
  have R2 := Lib.hid r2
  have hzi : (z : Int) ≤ (s.size : Int) := by omega
  have hz0 : (0 : Int) ≤ (z : Int) := by omega
  unfold kRow at hW
  have e0 : ∀ k, cntK [] k = 0 := fun k => rfl
  simp only [e0] at hW
  clear hT hs hL hb r1 r2 hcz hm hll hz hn e0
  go_enter Tryd.func8, Tryd.ntmps8
  go_wp2_with fail
  go_at_call 17
  try rw [hW]
  clear hW
  refine CL.out.mono ?_
  rintro e w1 ⟨rfl, hb⟩
  have N1 := Lib.hid (seqB HB.out hb)
  have Q1 := Lib.hid (blk_below R1.out hb)
  have Q2 := Lib.hid (blk_below R2.out hb)
  clear hb
  go_wp2_with fail
  go_at_call 6
  refine (PY.out w1 (HT.out.below N1.out)).mono ?_
  rintro e w2 ⟨a, c, rfl, ho, hb⟩
  have N2 := Lib.hid (seqB N1.out hb)
  have P1 := Lib.hid (blk_below Q1.out hb)
  have P2 := Lib.hid (blk_below Q2.out hb)
  have O2 := Lib.hid ho
  have HZ := Lib.hid (show w.heap.size + 1 < w2.heap.size from Nat.lt_of_lt_of_le (blk_lt Q2.out) hb.size)
  clear hb ho
  go_upto_region 4 with fail
  generalize hB1 : w1.heap.size = B1 at *
  have HB1 := Lib.hid hB1
  clear hB1
  have HLB : Hid (w.heap.size + 1 < B1) := Lib.hid (by rw [← HB1.out]; exact blk_lt Q2.out)
  go_loopw [18] (fun iv wr => ∃ i : Nat, i ≤ n ∧ iv = .int .i64 (i : Int) ∧ Hid (ownT wr B1 (.slice a n c) L) ∧ Hid (wr.heap[w.heap.size]? = some (.cells (kRow []) 28 (0, 0))) ∧ Hid (wr.heap[w.heap.size + 1]? = some (.cells (kRow (L.take i)) 28 (0, 0))) ∧ Hid (Below w.heap.size w wr)) (fun iv _ => n - (intOf iv).toNat)
  case atStart => exact ⟨0, Nat.zero_le _, rfl, O2, P1, P2, N2⟩
  case round =>
    obtain ⟨i, hi, rfl, HO, HA, HK, HBe⟩ := hrel
    have hn1 := HM.out.2.2
    by_cases hlt : i < n
    · have hiL : i < L.length := by rw [HM.out.2.1]; exact hlt
      have hi1 : (i : Int) < (n : Int) := by omega
      have hi0 : (0 : Int) ≤ (i : Int) := by omega
      obtain ⟨bb, off, rfl, hblt, y0, y1, y2, y3⟩ := ownT_at HO.out i hiL
      have hr := kind_rng HM.out.1 i hiL
      obtain ⟨kk, hkk⟩ := Int.eq_ofNat_of_zero_le hr.1
      have hk8 : kk ≤ 8 := by have := hr.2; rw [hkk] at this; omega
      have hts := take_snocO L i hiL
      obtain ⟨⟨k, p, q, tx⟩, ho⟩ : ∃ o, L.getD i ot0 = o := ⟨_, rfl⟩
      rw [ho] at y0 y1 y2 y3 hkk hts
      obtain rfl : k = (kk : Int) := hkk
      have hset := kRow_set (L.take i) ((kk : Int), p, q, tx) kk hk8 rfl
      have hat := kRow_at (L.take i) kk hk8
      have hcr := cntK_rng (L.take i) (kk : Int)
      have htl : (L.take i).length ≤ 1000 := by rw [List.length_take]; omega
      obtain ⟨cc, hcc⟩ : ∃ cc, cntK (L.take i) (kk : Int) = cc := ⟨_, rfl⟩
      rw [hcc] at hset hat hcr
      have z0 : wr.cell? ⟨w.heap.size + 1, kk, none⟩ = some (.int .i64 cc) := by rw [cell_of_row _ _ kk _ _ _ HK.out]; exact hat
      have zf := frozen_of_row _ _ kk _ _ HK.out
      have hc1 : cc + 1 ≤ 9223372036854775807 := by omega
      have hc0 : 0 ≤ cc := hcr.1
      dsimp at y0 y1 y2 y3
      have hb7 := below_alloc wr (.cells #[.int .i64 (kk : Int), .int .i64 p, .int .i64 q, .string tx] 30)
      have r7 := heap_alloc_new wr (.cells #[.int .i64 (kk : Int), .int .i64 p, .int .i64 q, .string tx] 30)
      have HA7 := blk_below HA.out hb7
      have HK7 := blk_below HK.out hb7
      have HO7 := ownT_below HO.out hb7
      have HN7 := seqB HBe.out hb7
      obtain ⟨W7, hW7⟩ : ∃ W7, wr.alloc (.cells #[.int .i64 (kk : Int), .int .i64 p, .int .i64 q, .string tx] 30) = W7 := ⟨_, rfl⟩
      rw [hW7] at r7 HA7 HK7 HO7 HN7
      have z0 : W7.cell? ⟨w.heap.size + 1, kk, none⟩ = some (.int .i64 cc) := by rw [cell_of_row _ _ kk _ _ _ HK7]; exact hat
      have zf := frozen_of_row _ _ kk _ _ HK7
      have x0 := cell_of_row _ _ 0 _ _ _ r7
      dsimp at x0
      have HA8 := Lib.hid (blk_far HA7 (p := ⟨w.heap.size + 1, kk, none⟩) (by show w.heap.size ≠ w.heap.size + 1; omega) (.int .i64 (cc + 1)))
      have HK8 : Hid ((W7.setCell ⟨w.heap.size + 1, kk, none⟩ (.int .i64 (cc + 1))).heap[w.heap.size + 1]? = some (.cells (kRow (L.take (i + 1))) 28 (0, 0))) := Lib.hid (by
        have h := heap_setCell_same W7 (w.heap.size + 1) kk _ _ (.int .i64 (cc + 1)) HK7
        rw [hset, ← hts] at h
        exact h)
      have HO8 := Lib.hid (show ownT (W7.setCell ⟨w.heap.size + 1, kk, none⟩ (.int .i64 (cc + 1))) B1 _ L from ownsRow_setCell_below HO7 (a := ⟨w.heap.size + 1, kk, none⟩) HLB.out (.int .i64 (cc + 1)))
      have HN8 := Lib.hid (HN7.setCell (p := ⟨w.heap.size + 1, kk, none⟩) (by show w.heap.size ≤ w.heap.size + 1; omega) (.int .i64 (cc + 1)))
      have hk8i : (kk : Int) < 9 := by omega
      have hk0i : (0 : Int) ≤ (kk : Int) := by omega
      have HLT := Lib.hid hlt
      clear hb7 r7 HA7 HK7 HO7 HN7 hset hat hts hcc hcr htl ho hr hiL hlt hblt HO HA HK
      go_wp2_with fail
      go_roundw
      case rel => exact ⟨i + 1, by have := HLT.out; omega, by go_num, HO8, HA8, HK8, HN8⟩
      case measure => (have := HLT.out; simp [intOf]; try omega)
    · obtain rfl : i = n := by omega
      have hkl : ¬ (i : Int) < (i : Int) := by omega
      rw [List.take_of_length_le (Nat.le_of_eq HM.out.2.1)] at HK
      clear hlt
      have HKV : Hid (kdV L = .agg #[.int .i64 (cntK L 0), .int .i64 (cntK L 1), .int .i64 (cntK L 2), .int .i64 (cntK L 3), .int .i64 (cntK L 4), .int .i64 (cntK L 5), .int .i64 (cntK L 6), .int .i64 (cntK L 7), .int .i64 (cntK L 8)]) := Lib.hid rfl
      unfold kRow at HA HK
      generalize cntK L 0 = c0 at *
      generalize cntK L 1 = c1 at *
      generalize cntK L 2 = c2 at *
      generalize cntK L 3 = c3 at *
      generalize cntK L 4 = c4 at *
      generalize cntK L 5 = c5 at *
      generalize cntK L 6 = c6 at *
      generalize cntK L 7 = c7 at *
      generalize cntK L 8 = c8 at *
      have xx := fun j => cell_of_row _ _ j _ _ _ HK.out
      have x0 := xx 0
      have x1 := xx 1
      have x2 := xx 2
      have x3 := xx 3
      have x4 := xx 4
      have x5 := xx 5
      have x6 := xx 6
      have x7 := xx 7
      have x8 := xx 8
      have yy := fun j => cell_of_row _ _ j _ _ _ HA.out
      have y0 := yy 0
      have y1 := yy 1
      have y2 := yy 2
      have y3 := yy 3
      have y4 := yy 4
      have y5 := yy 5
      have y6 := yy 6
      have y7 := yy 7
      have y8 := yy 8
      have ff := fun j => frozen_of_row _ _ j _ _ HA.out
      have f0 := ff 0
      have f1 := ff 1
      have f2 := ff 2
      have f3 := ff 3
      have f4 := ff 4
      have f5 := ff 5
      have f6 := ff 6
      have f7 := ff 7
      have f8 := ff 8
      dsimp at x0 x1 x2 x3 x4 x5 x6 x7 x8 y0 y1 y2 y3 y4 y5 y6 y7 y8
      clear xx yy ff
      go_wp2_with fail
      refine bodyPost_ret (v := .agg #[.int .i64 c0, .int .i64 c1, .int .i64 c2, .int .i64 c3, .int .i64 c4, .int .i64 c5, .int .i64 c6, .int .i64 c7, .int .i64 c8]) ?_ rfl ⟨by rw [HKV.out], ?_⟩
      · simp [results, Tryd.results8, go_sem]
        go_simp
      · exact ((((((((HBe.out.setCell (p := ⟨w.heap.size, 0, none⟩) (Nat.le_refl _) _).setCell (p := ⟨w.heap.size, 1, none⟩) (Nat.le_refl _) _).setCell (p := ⟨w.heap.size, 2, none⟩) (Nat.le_refl _) _).setCell (p := ⟨w.heap.size, 3, none⟩) (Nat.le_refl _) _).setCell (p := ⟨w.heap.size, 4, none⟩) (Nat.le_refl _) _).setCell (p := ⟨w.heap.size, 5, none⟩) (Nat.le_refl _) _).setCell (p := ⟨w.heap.size, 6, none⟩) (Nat.le_refl _) _).setCell (p := ⟨w.heap.size, 7, none⟩) (Nat.le_refl _) _).setCell (p := ⟨w.heap.size, 8, none⟩) (Nat.le_refl _) _
end Go.Proofs.YtmnjafceenckpaaDoor
set_option linter.unusedVariables false
set_option linter.unusedSimpArgs false
namespace Go.Proofs.YtmnjafceenckpaaDoor
open Go.RowKit
/-- A finding: its place, the value, the class. -/
abbrev Fd := Int × Int × Int
def fdC (L : List Fd) : List Value := L.flatMap fun q => [Value.int .i64 q.1, Value.int .i64 q.2.1, Value.int .i64 q.2.2]
theorem fdC_len (L : List Fd) : (fdC L).length = L.length * 3 := by
  unfold fdC
  induction L with
  | nil => rfl
  | cons x L ih => simp only [List.flatMap_cons, List.length_append, List.length_cons, List.length_nil, ih]; omega
theorem fdC_app (a b : List Fd) : fdC (a ++ b) = fdC a ++ fdC b := by simp [fdC]
theorem fdC_one (l : List Fd) : ∀ u ∈ fdC l, u.oneCell' = true := by
  intro u hu
  unfold fdC at hu
  rw [List.mem_flatMap] at hu
  obtain ⟨p, _, hp⟩ := hu
  simp at hp
  rcases hp with rfl | rfl | rfl <;> rfl
def OwF (w : World) (B : Nat) (v : Value) (L : List Fd) : Prop := w.ownsRow B 40 3 v L.length (fdC L)
theorem infoFd : (Tryd.prog.info? 40).map (fun i => (i.zero, i.size, i.bytes)) = some (some (.agg #[.int .i64 0, .int .i64 0, .int .i64 0]), 3, 24) := by kernel_rfl
theorem OwF.form {w : World} {B : Nat} {v : Value} {L : List Fd} {n : Nat} (h : OwF w B v L) (hn : L.length = n) : ∃ a c, v = .slice a n c := by
  subst hn
  rcases h.2 with ⟨rfl, h0⟩ | ⟨g, cap, cur, rfl, _⟩
  · exact ⟨none, 0, by rw [h0]⟩
  · exact ⟨_, cap, rfl⟩
theorem wpList_app_fd {w : World} {ops : Array Oper} {rest : List Oper} {o : Oper} {a : Act} {Q : Exit → Act → World → Prop} (hgd : Region.wanted o (yielded ops a.tmps) = true) (s x : Operand)
    (ho : o.op = .call { callee := .builtin .append, args := #[s, x], argTypes := #[33, 33] }) (base : Nat)
    (v : Value) (L : List Fd) (hs : a.eval s = v) (hown : OwF w base v L) (r : Nat) (q : Fd) (T : TypeId) (hx : a.eval x = .slice (some ⟨r, 0, none⟩) 1 1) (hr : w.heap[r]? = some (.cells #[.int .i64 q.1, .int .i64 q.2.1, .int .i64 q.2.2] T (0, 0)))
    (hlen : L.length ≤ 1000) (hbase : base ≤ w.heap.size)
    (h : ∀ v' w', OwF w' base v' (L ++ [q]) → w.grownBy w' v.ownBlock → wpList Tryd.prog ops Q rest (a.put o.dst v') w') : wpList Tryd.prog ops Q (o :: rest) a w := by
  obtain ⟨i0, hi, hz0, hz1, hz2⟩ := info_parts infoFd
  refine wpList_step fun K hK => ?_
  rw [if_pos hgd]
  refine wp_append_own w s x 33 ho base 40 i0 _ 3 24 Tryd.underlying33 hi hz0 hz1 hz2 rfl (by decide) _ L.length _ hs hown ⟨r, 0, none⟩ 1 1 (fdC [q]) hx rfl (fun j u hj => by
    have hj2 : j < 3 := by
      have := (List.getElem?_eq_some_iff.1 hj).1
      exact this
    have hadd : (⟨r, 0, none⟩ : Addr).add j = ⟨r, j, none⟩ := by unfold Addr.add; split <;> simp_all
    rw [hadd, cell_of_row _ _ j _ _ _ hr, ← hj]
    match j, hj2 with
    | 0, _ => rfl
    | 1, _ => rfl
    | 2, _ => rfl) (fdC_one _) (by unfold maxLen; omega) (by omega) hbase (fun v' w' a1 a2 _ => ?_)
  rw [← fdC_app] at a1
  have hO : OwF w' base v' (L ++ [q]) := by unfold OwF; rw [List.length_append]; exact a1
  exact hK _ _ (h v' w' hO a2)
/-- The box of the findings, and the box of the text behind it. -/
structure StF (w0 : World) (h : Nat) (s : ByteArray) (M : List Fd) (w : World) : Prop where
  bel : Below h w0 w
  txt : w.heap[h + 1]? = some (.cells #[.string s] 9 (0, 0))
  row : ∃ v, w.heap[h]? = some (.cells #[v] 33 (0, 0)) ∧ OwF w (h + 1 + 1) v M
theorem StF.below {w0 w w' : World} {h : Nat} {s : ByteArray} {M : List Fd} (H : StF w0 h s M w) (hb : Below w.heap.size w w') : StF w0 h s M w' := by
  obtain ⟨v, h1, h2⟩ := H.row
  exact ⟨H.bel.trans (hb.mono (Nat.le_of_lt (blk_lt h1))), blk_below H.txt hb, v, blk_below h1 hb, own_below h2 hb⟩
set_option maxRecDepth 100000 in
set_option maxHeartbeats 4000000 in
theorem adtell_any (w0 : World) (h : Nat) (s : ByteArray) (M : List Fd) (p v c : Int) (w : World) (hT : Tabs w0) (hl : h = w0.heap.size) (hM : M.length ≤ 1000) (H : StF w0 h s M w) (hTw : Tabs w) : Calls Tryd.prog 19 #[.agg #[.int .i64 p, .int .i64 v, .int .i64 c], .pointer (some ⟨h, 0, none⟩)] w fun e w' => e = .returned (.tuple #[]) ∧ StF w0 h s (if dng v = true then M ++ [(p, v, c)] else M) w' ∧ h < w'.heap.size := by
  have hb1 := below_alloc w (.cells #[.int .i64 p, .int .i64 v, .int .i64 c] 40)
  have r1 := heap_alloc_new w (.cells #[.int .i64 p, .int .i64 v, .int .i64 c] 40)
  obtain ⟨W, hW⟩ : ∃ W, w.alloc (.cells #[.int .i64 p, .int .i64 v, .int .i64 c] 40) = W := ⟨_, rfl⟩
  rw [hW] at hb1 r1
  have H1 := Lib.hid (H.below hb1)
  have DG := Lib.hid (danger_any v W (hTw.below hb1))
  obtain ⟨dg_, hdg⟩ : ∃ b, dng v = b := ⟨_, rfl⟩
  rw [hdg] at DG ⊢
  have R1 := Lib.hid r1
  have HL := Lib.hid (And.intro hM hl)
  obtain ⟨x, hx⟩ : ∃ x, w.heap.size = x := ⟨_, rfl⟩
  rw [hx] at R1 r1
  have x0 := cell_of_row _ _ 0 _ _ _ r1
  have x1 := cell_of_row _ _ 1 _ _ _ r1
  have x2 := cell_of_row _ _ 2 _ _ _ r1
  dsimp at x0 x1 x2
  clear hb1 H hTw hdg r1 hT hM hl
  go_enter Tryd.func19, Tryd.ntmps19
  go_wp2_with fail
  go_at_call 20
  try rw [hW]
  clear hW x0 x1 x2
  refine DG.out.mono ?_
  rintro e w1 ⟨rfl, hb⟩
  have H2 := Lib.hid (H1.out.below hb)
  have R2 := Lib.hid (blk_below R1.out hb)
  clear hb
  cases dg_ with
  | false =>
    go_wp2_with fail
    first | refine bodyPost_end (results_none rfl _ _ _) rfl ?_ | refine bodyPost_ret (results_none rfl _ _ _) rfl ?_
    obtain ⟨v', h1, h2⟩ := H2.out.row
    exact ⟨rfl, by first | exact H2.out | (rw [if_neg (by decide)]; exact H2.out), blk_lt h1⟩
  | true =>
    obtain ⟨v', hv1, hv2⟩ := H2.out.row
    have y0 := cell_of_row _ _ 0 _ _ _ hv1
    have yf := frozen_of_row _ _ 0 _ _ hv1
    have x0 := cell_of_row _ _ 0 _ _ _ R2.out
    have x1 := cell_of_row _ _ 1 _ _ _ R2.out
    have x2 := cell_of_row _ _ 2 _ _ _ R2.out
    dsimp at y0 x0 x1 x2
    have hb3 := below_alloc w1 (.cells #[.int .i64 p, .int .i64 v, .int .i64 c] 40)
    have r3 := heap_alloc_new w1 (.cells #[.int .i64 p, .int .i64 v, .int .i64 c] 40)
    have hv13 := blk_below hv1 hb3
    have hv23 : OwF _ (h + 1 + 1) v' M := own_below hv2 hb3
    have ht3 := blk_below H2.out.txt hb3
    have hbe3 := H2.out.bel.trans (hb3.mono (Nat.le_of_lt (blk_lt hv1)))
    have hbz : h + 1 + 1 ≤ w1.heap.size := blk_lt H2.out.txt
    have hbz3 : h + 1 + 1 ≤ (w1.alloc (.cells #[.int .i64 p, .int .i64 v, .int .i64 c] 40)).heap.size := Nat.le_trans hbz hb3.size
    have F3 := Lib.hid (And.intro hv13 (And.intro hv23 (And.intro ht3 (And.intro hbe3 (And.intro r3 hbz3)))))
    clear hv1 hv2 hb3 r3 hv13 hv23 ht3 hbe3 hbz hbz3
    go_wp2_with (at_builtin; refine wpList_app_fd rfl _ _ rfl (h + 1 + 1) v' M rfl F3.out.2.1 w1.heap.size (p, v, c) _ rfl F3.out.2.2.2.2.1 HL.out.1 F3.out.2.2.2.2.2 ?_)
    intro v7 w7 ho7 hg7
    have hlo := F3.out.2.1.lt
    have ne0 : v'.ownBlock ≠ some h := fun e => by have := (hlo h e).1; omega
    have ne1 : v'.ownBlock ≠ some (h + 1) := fun e => by have := (hlo (h + 1) e).1; omega
    have k0 := (hg7.block h (by have := F3.out.2.2.2.2.2; omega) (Ne.symm ne0)).trans F3.out.1
    have k1 := (hg7.block (h + 1) (by have := F3.out.2.2.2.2.2; omega) (Ne.symm ne1)).trans F3.out.2.2.1
    have kb := F3.out.2.2.2.1.grown hg7 (by have := F3.out.2.2.2.2.2; omega) (fun j hj => by have := (hlo j hj).1; omega)
    have y0 := cell_of_row _ _ 0 _ _ _ k0
    have yf := frozen_of_row _ _ 0 _ _ k0
    have s0 := heap_setCell_same w7 h 0 _ _ v7 k0
    have s1 := blk_far k1 (p := ⟨h, 0, none⟩) (by show h + 1 ≠ h; omega) v7
    have s2 : OwF (w7.setCell ⟨h, 0, none⟩ v7) (h + 1 + 1) v7 (M ++ [(p, v, c)]) := ownsRow_setCell_below ho7 (a := ⟨h, 0, none⟩) (by show h < h + 1 + 1; omega) v7
    have s3 := kb.setCell (p := ⟨h, 0, none⟩) (Nat.le_refl h) v7
    have S9 : Hid (StF w0 h s (M ++ [(p, v, c)]) (w7.setCell ⟨h, 0, none⟩ v7) ∧ h < (w7.setCell ⟨h, 0, none⟩ v7).heap.size) := Lib.hid ⟨⟨s3, s1, v7, s0, s2⟩, blk_lt s0⟩
    obtain ⟨n7, hn7⟩ : ∃ n7, (M ++ [(p, v, c)]).length = n7 := ⟨_, rfl⟩
    obtain ⟨a7, c7, rfl⟩ := ho7.form hn7
    dsimp at y0
    clear hlo ne0 ne1 k0 k1 kb s0 s1 s2 s3 ho7 hg7 hn7
    go_wp2_with fail
    first | refine bodyPost_end (results_none rfl _ _ _) rfl ?_ | refine bodyPost_ret (results_none rfl _ _ _) rfl ?_
    exact ⟨rfl, by first | exact S9.out.1 | (rw [if_pos rfl]; exact S9.out.1), S9.out.2⟩
/-- The dangerous values from a place on. -/
def fdA (s : ByteArray) : Nat → Nat → List Fd
  | 0, _ => []
  | f + 1, k => if k < s.size then (if dng (vAt s k).1 = true then [((k : Int), ((vAt s k).1 : Int), cls (vAt s k).1)] else []) ++ fdA s f (k + (vAt s k).2) else []
set_option maxRecDepth 100000 in
set_option maxHeartbeats 4000000 in
theorem adfind_any (s : ByteArray) (h : Nat) (w0 w : World) (hT : ET w0) (hl : h = w0.heap.size) (hs : s.size ≤ 900) (H : StF w0 h s [] w) : Calls Tryd.prog 29 #[.func (.func 19) #[] #[.pointer (some ⟨h, 0, none⟩)], .pointer (some ⟨h + 1, 0, none⟩)] w fun e w' => e = .returned (.tuple #[]) ∧ StF w0 h s (fdA s s.size 0) w' := by
  have HT := Lib.hid hT
  have HL := Lib.hid hl
  have HS := Lib.hid hs
  have H0 := Lib.hid H
  have HET : Hid (∀ w M, StF w0 h s M w → ET w) := Lib.hid (fun w M H => hT.below (by rw [← hl]; exact H.bel))
  clear hT hs H hl
  go_enter Tryd.func29, Tryd.ntmps29
  go_upto_region 1 with fail
  go_loopw [3] (fun iv wr => ∃ (k f : Nat) (M : List Fd), k ≤ s.size ∧ s.size ≤ k + f ∧ iv = .int .i64 (k : Int) ∧ Hid (fdA s s.size 0 = M ++ fdA s f k ∧ M.length ≤ k) ∧ Hid (StF w0 h s M wr)) (fun iv _ => s.size - (intOf iv).toNat)
  case atStart => exact ⟨0, s.size, [], Nat.zero_le _, by omega, rfl, Lib.hid ⟨rfl, Nat.le_refl _⟩, H0⟩
  case round =>
    obtain ⟨k, f, M, hk, hf, rfl, HI, HR⟩ := hrel
    have hs1 := HS.out
    have y0 := cell_of_row _ _ 0 _ _ _ HR.out.txt
    dsimp at y0
    by_cases hlt : k < s.size
    · have hk1 : (k : Int) < (s.size : Int) := by omega
      have hk2 : (k : Int) ≤ (s.size : Int) := by omega
      have hk0 : (0 : Int) ≤ (k : Int) := by omega
      have ON := Lib.hid (one_at s k wr (HET.out _ _ HR.out).u (by omega) hlt)
      obtain ⟨f', rfl⟩ : ∃ f', f = f' + 1 := ⟨f - 1, by omega⟩
      have hpos := dec_pos s k hlt
      rw [← vAt_size s k hlt] at hpos
      have HN : Hid (fdA s s.size 0 = (if dng (vAt s k).1 = true then M ++ [((k : Int), ((vAt s k).1 : Int), cls (vAt s k).1)] else M) ++ fdA s f' (k + (vAt s k).2)) := Lib.hid (by
        rw [HI.out.1]
        conv => lhs; unfold fdA
        rw [if_pos hlt]
        split <;> simp)
      obtain ⟨v, hv⟩ : ∃ v : Int, ((vAt s k).1 : Int) = v := ⟨_, rfl⟩
      obtain ⟨n, hn⟩ : ∃ n, (vAt s k).2 = n := ⟨_, rfl⟩
      rw [hv, hn] at HN ON
      rw [hn] at hpos
      have HP := Lib.hid (And.intro hpos (And.intro hlt (And.intro hk hf)))
      have hML := HI.out.2
      have hsum : (k : Int) + (n : Int) ≤ 9223372036854775807 := by omega
      clear hv hn hpos hlt hk hf
      go_wp2_with fail
      go_at_call 30
      refine ON.out.mono ?_
      rintro e w1 ⟨rfl, hb⟩
      have S1 := Lib.hid (HR.out.below hb)
      clear hb y0
      go_wp2_with fail
      go_at_call 31
      refine (of_any v w1 (HET.out _ _ S1.out).c).mono ?_
      rintro e w2 ⟨rfl, hb⟩
      have S2 := Lib.hid (S1.out.below hb)
      clear hb
      obtain ⟨cv, hcv⟩ : ∃ cv, cls v = cv := ⟨_, rfl⟩
      rw [hcv] at HN ⊢
      have TL := Lib.hid (adtell_any w0 h s M (k : Int) v cv w2 HT.out.c HL.out (by have := HP.out.2.1; omega) S2.out (HET.out _ _ S2.out).c)
      clear hcv
      go_wp2_with fail
      go_at_call 19
      refine TL.out.mono ?_
      rintro e w3 ⟨rfl, hs3, _⟩
      have S3 := Lib.hid hs3
      clear hs3
      go_wp2_with fail
      go_roundw
      case rel => exact ⟨k + n, f', _, by have := HP.out.1; omega, by have := HP.out.1; have := HP.out.2.2.2; omega, by go_num, Lib.hid ⟨HN.out, by have := HP.out.1; split <;> (try simp only [List.length_append, List.length_cons, List.length_nil]) <;> omega⟩, S3⟩
      case measure => (have := HP.out.2.1; have := HP.out.1; simp [intOf]; try omega)
    · obtain rfl : k = s.size := by omega
      have hkl : ¬ (s.size : Int) < (s.size : Int) := by omega
      have HE : Hid (M = fdA s s.size 0) := Lib.hid (by
        rw [HI.out.1]
        have : fdA s f s.size = [] := by
          cases f with
          | zero => rfl
          | succ f => unfold fdA; rw [if_neg (by omega)]
        rw [this, List.append_nil])
      clear hlt
      go_wp2_with fail
      first | refine bodyPost_end (results_none rfl _ _ _) rfl ?_ | refine bodyPost_ret (results_none rfl _ _ _) rfl ?_
      exact ⟨rfl, by rw [← HE.out]; exact HR.out⟩
theorem afinder_any (s : ByteArray) (w : World) : Calls Tryd.prog 18 #[.string s] w fun e w' => e = .returned (.func (.func 29) #[] #[.pointer (some ⟨w.heap.size, 0, none⟩)]) ∧ w.alloc (.cells #[.string s] 9) = w' := by
  have hmf : ∀ (fn : Fn) (first cap : Array Value) (w : World), (Instr.makeFunc fn first cap).run Tryd.prog w = .ok (.func fn first cap) w := fun _ _ _ _ => rfl
  go_enter Tryd.func18, Tryd.ntmps18
  go_wp2_with fail
  go_ret
  exact ⟨rfl, rfl⟩
set_option maxRecDepth 100000 in
set_option maxHeartbeats 4000000 in
theorem adangers_any (s : ByteArray) (w : World) (hT : ET w) (hs : s.size ≤ 900) : Calls Tryd.prog 9 #[.string s] w fun e w' => ∃ a n c, e = .returned (.slice a n c) ∧ (fdA s s.size 0).length = n ∧ OwF w' w.heap.size (.slice a n c) (fdA s s.size 0) ∧ Below w.heap.size w w' := by
  have hmf : ∀ (fn : Fn) (first cap : Array Value) (w : World), (Instr.makeFunc fn first cap).run Tryd.prog w = .ok (.func fn first cap) w := fun _ _ _ _ => rfl
  have b1 := below_alloc w (.cells #[.slice none 0 0] 33)
  have r1 := heap_alloc_new w (.cells #[.slice none 0 0] 33)
  have s1 : (w.alloc (.cells #[.slice none 0 0] 33)).heap.size = w.heap.size + 1 := by simp
  obtain ⟨W, hW⟩ : ∃ W, w.alloc (.cells #[.slice none 0 0] 33) = W := ⟨_, rfl⟩
  rw [hW] at b1 r1 s1
  have FI := Lib.hid (afinder_any s W)
  have b2 := below_alloc W (.cells #[.string s] 9)
  have r2 := heap_alloc_new W (.cells #[.string s] 9)
  obtain ⟨W2, hW2⟩ : ∃ W2, W.alloc (.cells #[.string s] 9) = W2 := ⟨_, rfl⟩
  rw [hW2] at b2 r2 FI
  rw [s1] at r2 FI
  have ST : StF w w.heap.size s [] W2 := ⟨seqB b1 b2, r2, .slice none 0 0, blk_below r1 b2, World.ownsRow_nil _ _ _ _⟩
  have FA := Lib.hid (adfind_any s w.heap.size w W2 hT rfl hs ST)
  clear b1 r1 s1 b2 r2 hW2 ST hT hs
  go_enter Tryd.func9, Tryd.ntmps9
  go_wp2_with fail
  go_at_call 18
  try rw [hW]
  clear hW
  refine FI.out.mono ?_
  rintro e w3 ⟨rfl, rfl⟩
  go_wp2_with fail
  go_at_call 29
  refine FA.out.mono ?_
  rintro e w4 ⟨rfl, hS⟩
  obtain ⟨v, hv1, hv2⟩ := hS.row
  have y0 := cell_of_row _ _ 0 _ _ _ hv1
  have N4 := Lib.hid hS.bel
  obtain ⟨L, hL⟩ : ∃ L, fdA s s.size 0 = L := ⟨_, rfl⟩
  rw [hL] at hv2
  obtain ⟨n, hn⟩ : ∃ n, L.length = n := ⟨_, rfl⟩
  obtain ⟨a, c, rfl⟩ := hv2.form hn
  have HV := Lib.hid (show OwF w4 w.heap.size (.slice a n c) L from by
    refine ⟨hv2.1, ?_⟩
    rcases hv2.2 with h1 | ⟨g, cap, cur, h1, h2, h3⟩
    · exact .inl h1
    · exact .inr ⟨g, cap, cur, h1, by omega, h3⟩)
  have HL := Lib.hid (And.intro hL hn)
  dsimp at y0
  clear hS hv1 hv2 hL hn
  go_wp2_with fail
  go_ret
  exact ⟨a, n, c, rfl, by rw [HL.out.1]; exact HL.out.2, by rw [HL.out.1]; exact HV.out, N4.out⟩
end Go.Proofs.YtmnjafceenckpaaDoor
set_option linter.unusedVariables false
set_option linter.unusedSimpArgs false
namespace Go.Proofs.YtmnjafceenckpaaDoor
open Go.RowKit
theorem ints_oneC (l : List Int) : ∀ u ∈ l.map (Value.int .i64), u.oneCell' = true := by
  intro u hu
  obtain ⟨x, _, rfl⟩ := List.mem_map.1 hu
  rfl
def obB (v : Int) : Bool := decide (v < 32) || (decide (127 ≤ v) && decide (v ≤ 159))
theorem aobd_any (v : Int) (w : World) : Calls Tryd.prog 23 #[.int .i64 v] w fun e w' => e = .returned (.bool (obB v)) ∧ Below w.heap.size w w' := by
  unfold obB
  by_cases h1 : v < 32
  · rw [decide_eq_true h1]
    go_enter Tryd.func23, Tryd.ntmps23
    go_wp2_with fail
    go_ret
    exact ⟨rfl, Below.refl _ _⟩
  · rw [decide_eq_false h1]
    by_cases h2 : 127 ≤ v
    · rw [decide_eq_true h2]
      by_cases h3 : v ≤ 159
      · rw [decide_eq_true h3]
        go_enter Tryd.func23, Tryd.ntmps23
        go_wp2_with fail
        go_ret
        exact ⟨rfl, Below.refl _ _⟩
      · rw [decide_eq_false h3]
        go_enter Tryd.func23, Tryd.ntmps23
        go_wp2_with fail
        go_ret
        exact ⟨rfl, Below.refl _ _⟩
    · rw [decide_eq_false h2]
      go_enter Tryd.func23, Tryd.ntmps23
      go_wp2_with fail
      go_ret
      exact ⟨rfl, Below.refl _ _⟩
def OwN (w : World) (B : Nat) (v : Value) (L : List Int) : Prop := w.ownsRow B 3 1 v L.length (L.map (Value.int .i64))
theorem infoNi : (Tryd.prog.info? 3).map (fun i => (i.zero, i.size, i.bytes)) = some (some (.int .i64 0), 1, 8) := by kernel_rfl
theorem OwN.form {w : World} {B : Nat} {v : Value} {L : List Int} {n : Nat} (h : OwN w B v L) (hn : L.length = n) : ∃ a c, v = .slice a n c := by
  subst hn
  rcases h.2 with ⟨rfl, h0⟩ | ⟨g, cap, cur, rfl, _⟩
  · exact ⟨none, 0, by rw [h0]⟩
  · exact ⟨_, cap, rfl⟩
theorem wpList_app_ni {w : World} {ops : Array Oper} {rest : List Oper} {o : Oper} {a : Act} {Q : Exit → Act → World → Prop} (hgd : Region.wanted o (yielded ops a.tmps) = true) (s x : Operand)
    (ho : o.op = .call { callee := .builtin .append, args := #[s, x], argTypes := #[41, 41] }) (base : Nat)
    (v : Value) (L : List Int) (hs : a.eval s = v) (hown : OwN w base v L) (r : Nat) (q : Int) (T : TypeId) (hx : a.eval x = .slice (some ⟨r, 0, none⟩) 1 1) (hr : w.heap[r]? = some (.cells #[.int .i64 q] T (0, 0)))
    (hlen : L.length ≤ 1000) (hbase : base ≤ w.heap.size)
    (h : ∀ v' w', OwN w' base v' (L ++ [q]) → w.grownBy w' v.ownBlock → wpList Tryd.prog ops Q rest (a.put o.dst v') w') : wpList Tryd.prog ops Q (o :: rest) a w := by
  obtain ⟨i0, hi, hz0, hz1, hz2⟩ := info_parts infoNi
  refine wpList_step fun K hK => ?_
  rw [if_pos hgd]
  refine wp_append_own w s x 41 ho base 3 i0 _ 1 8 Tryd.underlying41 hi hz0 hz1 hz2 rfl (by decide) _ L.length _ hs hown ⟨r, 0, none⟩ 1 1 ([q].map (Value.int .i64)) hx rfl (fun j u hj => by
    have hj2 : j < 1 := by
      have := (List.getElem?_eq_some_iff.1 hj).1
      exact this
    have hadd : (⟨r, 0, none⟩ : Addr).add j = ⟨r, j, none⟩ := by unfold Addr.add; split <;> simp_all
    rw [hadd, cell_of_row _ _ j _ _ _ hr, ← hj]
    match j, hj2 with
    | 0, _ => rfl) (ints_oneC _) (by unfold maxLen; omega) (by omega) hbase (fun v' w' a1 a2 _ => ?_)
  rw [← List.map_append] at a1
  have hO : OwN w' base v' (L ++ [q]) := by unfold OwN; rw [List.length_append]; exact a1
  exact hK _ _ (h v' w' hO a2)
/-- The box of the findings, and the box of the text behind it. -/
structure StN (w0 : World) (h : Nat) (s : ByteArray) (M : List Int) (w : World) : Prop where
  bel : Below h w0 w
  txt : w.heap[h + 1]? = some (.cells #[.string s] 9 (0, 0))
  row : ∃ v, w.heap[h]? = some (.cells #[v] 41 (0, 0)) ∧ OwN w (h + 1 + 1) v M
theorem StN.below {w0 w w' : World} {h : Nat} {s : ByteArray} {M : List Int} (H : StN w0 h s M w) (hb : Below w.heap.size w w') : StN w0 h s M w' := by
  obtain ⟨v, h1, h2⟩ := H.row
  exact ⟨H.bel.trans (hb.mono (Nat.le_of_lt (blk_lt h1))), blk_below H.txt hb, v, blk_below h1 hb, own_below h2 hb⟩
set_option maxRecDepth 100000 in
set_option maxHeartbeats 4000000 in
theorem aotell_any (w0 : World) (h : Nat) (s : ByteArray) (M : List Int) (p v c : Int) (w : World) (hl : h = w0.heap.size) (hM : M.length ≤ 1000) (H : StN w0 h s M w) : Calls Tryd.prog 22 #[.agg #[.int .i64 p, .int .i64 v, .int .i64 c], .pointer (some ⟨h, 0, none⟩)] w fun e w' => e = .returned (.tuple #[]) ∧ StN w0 h s (if obB v = true then M ++ [p] else M) w' ∧ h < w'.heap.size := by
  have hb1 := below_alloc w (.cells #[.int .i64 p, .int .i64 v, .int .i64 c] 40)
  have r1 := heap_alloc_new w (.cells #[.int .i64 p, .int .i64 v, .int .i64 c] 40)
  obtain ⟨W, hW⟩ : ∃ W, w.alloc (.cells #[.int .i64 p, .int .i64 v, .int .i64 c] 40) = W := ⟨_, rfl⟩
  rw [hW] at hb1 r1
  have H1 := Lib.hid (H.below hb1)
  have DG := Lib.hid (aobd_any v W)
  obtain ⟨dg_, hdg⟩ : ∃ b, obB v = b := ⟨_, rfl⟩
  rw [hdg] at DG ⊢
  have R1 := Lib.hid r1
  have HL := Lib.hid (And.intro hM hl)
  obtain ⟨x, hx⟩ : ∃ x, w.heap.size = x := ⟨_, rfl⟩
  rw [hx] at R1 r1
  have x0 := cell_of_row _ _ 0 _ _ _ r1
  have x1 := cell_of_row _ _ 1 _ _ _ r1
  have x2 := cell_of_row _ _ 2 _ _ _ r1
  dsimp at x0 x1 x2
  clear hb1 H hdg r1 hM hl
  go_enter Tryd.func22, Tryd.ntmps22
  go_wp2_with fail
  go_at_call 23
  try rw [hW]
  clear hW x0 x1 x2
  refine DG.out.mono ?_
  rintro e w1 ⟨rfl, hb⟩
  have H2 := Lib.hid (H1.out.below hb)
  have R2 := Lib.hid (blk_below R1.out hb)
  clear hb
  cases dg_ with
  | false =>
    go_wp2_with fail
    first | refine bodyPost_end (results_none rfl _ _ _) rfl ?_ | refine bodyPost_ret (results_none rfl _ _ _) rfl ?_
    obtain ⟨v', h1, h2⟩ := H2.out.row
    exact ⟨rfl, by first | exact H2.out | (rw [if_neg (by decide)]; exact H2.out), blk_lt h1⟩
  | true =>
    obtain ⟨v', hv1, hv2⟩ := H2.out.row
    have y0 := cell_of_row _ _ 0 _ _ _ hv1
    have yf := frozen_of_row _ _ 0 _ _ hv1
    have x0 := cell_of_row _ _ 0 _ _ _ R2.out
    have x1 := cell_of_row _ _ 1 _ _ _ R2.out
    have x2 := cell_of_row _ _ 2 _ _ _ R2.out
    dsimp at y0 x0 x1 x2
    have hb3 := below_alloc w1 (.cells #[.int .i64 p] 3)
    have r3 := heap_alloc_new w1 (.cells #[.int .i64 p] 3)
    have hv13 := blk_below hv1 hb3
    have hv23 : OwN _ (h + 1 + 1) v' M := own_below hv2 hb3
    have ht3 := blk_below H2.out.txt hb3
    have hbe3 := H2.out.bel.trans (hb3.mono (Nat.le_of_lt (blk_lt hv1)))
    have hbz : h + 1 + 1 ≤ w1.heap.size := blk_lt H2.out.txt
    have hbz3 : h + 1 + 1 ≤ (w1.alloc (.cells #[.int .i64 p] 3)).heap.size := Nat.le_trans hbz hb3.size
    have F3 := Lib.hid (And.intro hv13 (And.intro hv23 (And.intro ht3 (And.intro hbe3 (And.intro r3 hbz3)))))
    clear hv1 hv2 hb3 r3 hv13 hv23 ht3 hbe3 hbz hbz3
    go_wp2_with (at_builtin; refine wpList_app_ni rfl _ _ rfl (h + 1 + 1) v' M rfl F3.out.2.1 w1.heap.size p _ rfl F3.out.2.2.2.2.1 HL.out.1 F3.out.2.2.2.2.2 ?_)
    intro v7 w7 ho7 hg7
    have hlo := F3.out.2.1.lt
    have ne0 : v'.ownBlock ≠ some h := fun e => by have := (hlo h e).1; omega
    have ne1 : v'.ownBlock ≠ some (h + 1) := fun e => by have := (hlo (h + 1) e).1; omega
    have k0 := (hg7.block h (by have := F3.out.2.2.2.2.2; omega) (Ne.symm ne0)).trans F3.out.1
    have k1 := (hg7.block (h + 1) (by have := F3.out.2.2.2.2.2; omega) (Ne.symm ne1)).trans F3.out.2.2.1
    have kb := F3.out.2.2.2.1.grown hg7 (by have := F3.out.2.2.2.2.2; omega) (fun j hj => by have := (hlo j hj).1; omega)
    have y0 := cell_of_row _ _ 0 _ _ _ k0
    have yf := frozen_of_row _ _ 0 _ _ k0
    have s0 := heap_setCell_same w7 h 0 _ _ v7 k0
    have s1 := blk_far k1 (p := ⟨h, 0, none⟩) (by show h + 1 ≠ h; omega) v7
    have s2 : OwN (w7.setCell ⟨h, 0, none⟩ v7) (h + 1 + 1) v7 (M ++ [p]) := ownsRow_setCell_below ho7 (a := ⟨h, 0, none⟩) (by show h < h + 1 + 1; omega) v7
    have s3 := kb.setCell (p := ⟨h, 0, none⟩) (Nat.le_refl h) v7
    have S9 : Hid (StN w0 h s (M ++ [p]) (w7.setCell ⟨h, 0, none⟩ v7) ∧ h < (w7.setCell ⟨h, 0, none⟩ v7).heap.size) := Lib.hid ⟨⟨s3, s1, v7, s0, s2⟩, blk_lt s0⟩
    obtain ⟨n7, hn7⟩ : ∃ n7, (M ++ [p]).length = n7 := ⟨_, rfl⟩
    obtain ⟨a7, c7, rfl⟩ := ho7.form hn7
    dsimp at y0
    clear hlo ne0 ne1 k0 k1 kb s0 s1 s2 s3 ho7 hg7 hn7
    go_wp2_with fail
    first | refine bodyPost_end (results_none rfl _ _ _) rfl ?_ | refine bodyPost_ret (results_none rfl _ _ _) rfl ?_
    exact ⟨rfl, by first | exact S9.out.1 | (rw [if_pos rfl]; exact S9.out.1), S9.out.2⟩
/-- The dangerous values from a place on. -/
def obA (s : ByteArray) : Nat → Nat → List Int
  | 0, _ => []
  | f + 1, k => if k < s.size then (if obB (vAt s k).1 = true then [(k : Int)] else []) ++ obA s f (k + (vAt s k).2) else []
set_option maxRecDepth 100000 in
set_option maxHeartbeats 4000000 in
theorem aofind_any (s : ByteArray) (h : Nat) (w0 w : World) (hT : ET w0) (hl : h = w0.heap.size) (hs : s.size ≤ 900) (H : StN w0 h s [] w) : Calls Tryd.prog 29 #[.func (.func 22) #[] #[.pointer (some ⟨h, 0, none⟩)], .pointer (some ⟨h + 1, 0, none⟩)] w fun e w' => e = .returned (.tuple #[]) ∧ StN w0 h s (obA s s.size 0) w' := by
  have HT := Lib.hid hT
  have HL := Lib.hid hl
  have HS := Lib.hid hs
  have H0 := Lib.hid H
  have HET : Hid (∀ w M, StN w0 h s M w → ET w) := Lib.hid (fun w M H => hT.below (by rw [← hl]; exact H.bel))
  clear hT hs H hl
  go_enter Tryd.func29, Tryd.ntmps29
  go_upto_region 1 with fail
  go_loopw [3] (fun iv wr => ∃ (k f : Nat) (M : List Int), k ≤ s.size ∧ s.size ≤ k + f ∧ iv = .int .i64 (k : Int) ∧ Hid (obA s s.size 0 = M ++ obA s f k ∧ M.length ≤ k) ∧ Hid (StN w0 h s M wr)) (fun iv _ => s.size - (intOf iv).toNat)
  case atStart => exact ⟨0, s.size, [], Nat.zero_le _, by omega, rfl, Lib.hid ⟨rfl, Nat.le_refl _⟩, H0⟩
  case round =>
    obtain ⟨k, f, M, hk, hf, rfl, HI, HR⟩ := hrel
    have hs1 := HS.out
    have y0 := cell_of_row _ _ 0 _ _ _ HR.out.txt
    dsimp at y0
    by_cases hlt : k < s.size
    · have hk1 : (k : Int) < (s.size : Int) := by omega
      have hk2 : (k : Int) ≤ (s.size : Int) := by omega
      have hk0 : (0 : Int) ≤ (k : Int) := by omega
      have ON := Lib.hid (one_at s k wr (HET.out _ _ HR.out).u (by omega) hlt)
      obtain ⟨f', rfl⟩ : ∃ f', f = f' + 1 := ⟨f - 1, by omega⟩
      have hpos := dec_pos s k hlt
      rw [← vAt_size s k hlt] at hpos
      have HN : Hid (obA s s.size 0 = (if obB (vAt s k).1 = true then M ++ [(k : Int)] else M) ++ obA s f' (k + (vAt s k).2)) := Lib.hid (by
        rw [HI.out.1]
        conv => lhs; unfold obA
        rw [if_pos hlt]
        split <;> simp)
      obtain ⟨v, hv⟩ : ∃ v : Int, ((vAt s k).1 : Int) = v := ⟨_, rfl⟩
      obtain ⟨n, hn⟩ : ∃ n, (vAt s k).2 = n := ⟨_, rfl⟩
      rw [hv, hn] at HN ON
      rw [hn] at hpos
      have HP := Lib.hid (And.intro hpos (And.intro hlt (And.intro hk hf)))
      have hML := HI.out.2
      have hsum : (k : Int) + (n : Int) ≤ 9223372036854775807 := by omega
      clear hv hn hpos hlt hk hf
      go_wp2_with fail
      go_at_call 30
      refine ON.out.mono ?_
      rintro e w1 ⟨rfl, hb⟩
      have S1 := Lib.hid (HR.out.below hb)
      clear hb y0
      go_wp2_with fail
      go_at_call 31
      refine (of_any v w1 (HET.out _ _ S1.out).c).mono ?_
      rintro e w2 ⟨rfl, hb⟩
      have S2 := Lib.hid (S1.out.below hb)
      clear hb
      obtain ⟨cv, hcv⟩ : ∃ cv, cls v = cv := ⟨_, rfl⟩
      rw [hcv]
      have TL := Lib.hid (aotell_any w0 h s M (k : Int) v cv w2 HL.out (by have := HP.out.2.1; omega) S2.out)
      clear hcv
      go_wp2_with fail
      go_at_call 22
      refine TL.out.mono ?_
      rintro e w3 ⟨rfl, hs3, _⟩
      have S3 := Lib.hid hs3
      clear hs3
      go_wp2_with fail
      go_roundw
      case rel => exact ⟨k + n, f', _, by have := HP.out.1; omega, by have := HP.out.1; have := HP.out.2.2.2; omega, by go_num, Lib.hid ⟨HN.out, by have := HP.out.1; split <;> (try simp only [List.length_append, List.length_cons, List.length_nil]) <;> omega⟩, S3⟩
      case measure => (have := HP.out.2.1; have := HP.out.1; simp [intOf]; try omega)
    · obtain rfl : k = s.size := by omega
      have hkl : ¬ (s.size : Int) < (s.size : Int) := by omega
      have HE : Hid (M = obA s s.size 0) := Lib.hid (by
        rw [HI.out.1]
        have : obA s f s.size = [] := by
          cases f with
          | zero => rfl
          | succ f => unfold obA; rw [if_neg (by omega)]
        rw [this, List.append_nil])
      clear hlt
      go_wp2_with fail
      first | refine bodyPost_end (results_none rfl _ _ _) rfl ?_ | refine bodyPost_ret (results_none rfl _ _ _) rfl ?_
      exact ⟨rfl, by rw [← HE.out]; exact HR.out⟩
set_option maxRecDepth 100000 in
set_option maxHeartbeats 4000000 in
theorem aobeyed_any (s : ByteArray) (w : World) (hT : ET w) (hs : s.size ≤ 900) : Calls Tryd.prog 12 #[.string s] w fun e w' => ∃ a n c, e = .returned (.slice a n c) ∧ (obA s s.size 0).length = n ∧ OwN w' w.heap.size (.slice a n c) (obA s s.size 0) ∧ Below w.heap.size w w' := by
  have hmf : ∀ (fn : Fn) (first cap : Array Value) (w : World), (Instr.makeFunc fn first cap).run Tryd.prog w = .ok (.func fn first cap) w := fun _ _ _ _ => rfl
  have b1 := below_alloc w (.cells #[.slice none 0 0] 41)
  have r1 := heap_alloc_new w (.cells #[.slice none 0 0] 41)
  have s1 : (w.alloc (.cells #[.slice none 0 0] 41)).heap.size = w.heap.size + 1 := by simp
  obtain ⟨W, hW⟩ : ∃ W, w.alloc (.cells #[.slice none 0 0] 41) = W := ⟨_, rfl⟩
  rw [hW] at b1 r1 s1
  have FI := Lib.hid (afinder_any s W)
  have b2 := below_alloc W (.cells #[.string s] 9)
  have r2 := heap_alloc_new W (.cells #[.string s] 9)
  obtain ⟨W2, hW2⟩ : ∃ W2, W.alloc (.cells #[.string s] 9) = W2 := ⟨_, rfl⟩
  rw [hW2] at b2 r2 FI
  rw [s1] at r2 FI
  have ST : StN w w.heap.size s [] W2 := ⟨seqB b1 b2, r2, .slice none 0 0, blk_below r1 b2, World.ownsRow_nil _ _ _ _⟩
  have FA := Lib.hid (aofind_any s w.heap.size w W2 hT rfl hs ST)
  clear b1 r1 s1 b2 r2 hW2 ST hT hs
  go_enter Tryd.func12, Tryd.ntmps12
  go_wp2_with fail
  go_at_call 18
  try rw [hW]
  clear hW
  refine FI.out.mono ?_
  rintro e w3 ⟨rfl, rfl⟩
  go_wp2_with fail
  go_at_call 29
  refine FA.out.mono ?_
  rintro e w4 ⟨rfl, hS⟩
  obtain ⟨v, hv1, hv2⟩ := hS.row
  have y0 := cell_of_row _ _ 0 _ _ _ hv1
  have N4 := Lib.hid hS.bel
  obtain ⟨L, hL⟩ : ∃ L, obA s s.size 0 = L := ⟨_, rfl⟩
  rw [hL] at hv2
  obtain ⟨n, hn⟩ : ∃ n, L.length = n := ⟨_, rfl⟩
  obtain ⟨a, c, rfl⟩ := hv2.form hn
  have HV := Lib.hid (show OwN w4 w.heap.size (.slice a n c) L from by
    refine ⟨hv2.1, ?_⟩
    rcases hv2.2 with h1 | ⟨g, cap, cur, h1, h2, h3⟩
    · exact .inl h1
    · exact .inr ⟨g, cap, cur, h1, by omega, h3⟩)
  have HL := Lib.hid (And.intro hL hn)
  dsimp at y0
  clear hS hv1 hv2 hL hn
  go_wp2_with fail
  go_ret
  exact ⟨a, n, c, rfl, by rw [HL.out.1]; exact HL.out.2, by rw [HL.out.1]; exact HV.out, N4.out⟩
end Go.Proofs.YtmnjafceenckpaaDoor
