/-
  Joined: Gu1 Gu2 Gu3 Gu4 Gu5 Gu6 Gu7 Gu8 Gu9.
-/
import Derived.Test.YtdifkjmpdmlobaaDoorJG04
import Derived.Test.YtdifkjmpdmlobaaDoorJG06
import Derived.Test.YtdifkjmpdmlobaaDoorJG07
import Derived.Test.YtdifkjmpdmlobaaDoorJG09
import Derived.Defers
import Derived.Recover
import Derived.Deep.RegionHeld3
set_option linter.unusedVariables false
set_option linter.unusedSimpArgs false
set_option maxRecDepth 100000
set_option linter.unusedVariables false
set_option linter.unusedSimpArgs false
namespace Go.Proofs.YtdifkjmpdmlobaaDoor
open Go.RowKit
/-- Texts that are not far too many. -/
def lgT (l : List ByteArray) : Bool := (l.all fun s => decide (s.size ≤ 60)) && decide (l.length ≤ 20)
theorem glight_any (l : List ByteArray) (a : Option Addr) (n c : Nat) (w : World) (hn : l.length = n) (hl : n ≤ 9223372036854775807) (hz : ∀ i, i < l.length → (l.getD i ⟨#[]⟩).size ≤ 9223372036854775807) (hs : StrsIn w a l) :
    Calls Tryd.prog 29 #[.slice a n c] w fun e w' => e = .returned (.bool (lgT l)) ∧ Below w.heap.size w w' := by
  have HS := Lib.hid hs
  have HN := Lib.hid hn
  have HZ := Lib.hid hz
  clear hs hn hz
  go_enter Tryd.func29, Tryd.ntmps29
  go_wp2
  go_loopw [3] (fun iv wr => ∃ k : Nat, k ≤ n ∧ iv = .int .i64 (k : Int) ∧ Hid (∀ j, j < k → (l.getD j ⟨#[]⟩).size ≤ 60) ∧ Hid (Below w.heap.size w wr)) (fun iv _ => n - (intOf iv).toNat)
  case atStart => exact ⟨0, Nat.zero_le _, rfl, Lib.hid (fun j hj => absurd hj (Nat.not_lt_zero j)), Lib.hid (Below.refl _ _)⟩
  case round =>
    obtain ⟨k, hk, rfl, HA, HB⟩ := hrel
    by_cases hlt : k < n
    · have hk1 : (k : Int) < n := by omega
      have hk0 : (0 : Int) ≤ k := by omega
      obtain ⟨b, off, rfl, hb, c0⟩ := (HS.out.below HB.out) k (by rw [HN.out]; exact hlt)
      have hz := HZ.out k (by rw [HN.out]; exact hlt)
      obtain ⟨s, hs⟩ : ∃ s, l.getD k ⟨#[]⟩ = s := ⟨_, rfl⟩
      rw [hs] at c0 hz
      by_cases h60 : 60 < s.size
      · have h60i : (60 : Int) < s.size := by omega
        have hF : lgT l = false := by
          unfold lgT
          rw [Bool.and_eq_false_iff]
          left
          rw [List.all_eq_false]
          refine ⟨s, ?_, by simp; omega⟩
          rw [← hs, List.getD, List.getElem?_eq_getElem (by rw [HN.out]; exact hlt)]
          exact List.getElem_mem _
        have HF := Lib.hid hF
        clear hF hs
        go_wp2_with fail
        go_ret
        exact ⟨by rw [HF.out]; rfl, HB.out⟩
      · have h60i : ¬ (60 : Int) < s.size := by omega
        have HA2 : Hid (∀ j, j < k + 1 → (l.getD j ⟨#[]⟩).size ≤ 60) := Lib.hid fun j hj => by
          by_cases e : j = k
          · rw [e, hs]; omega
          · exact HA.out j (by omega)
        clear hs
        go_wp2_with fail
        go_roundw
        case rel => exact ⟨k + 1, by omega, by go_num, HA2, HB⟩
        case measure => (simp [intOf]; try omega)
    · obtain rfl : k = n := by omega
      have hk1 : ¬ (k : Int) < k := by omega
      have hT : lgT l = decide (k ≤ 20) := by
        unfold lgT
        rw [HN.out]
        have : (l.all fun s => decide (s.size ≤ 60)) = true := by
          rw [List.all_eq_true]
          intro x hx
          obtain ⟨j, hj, rfl⟩ := List.getElem_of_mem hx
          have := HA.out j (by rw [← HN.out]; exact hj)
          rw [List.getD, List.getElem?_eq_getElem hj] at this
          simpa using this
        rw [this]; rfl
      have HT := Lib.hid hT
      clear hT
      by_cases h20 : k ≤ 20
      · have h20i : (k : Int) ≤ 20 := by omega
        go_wp2_with fail
        go_ret
        exact ⟨by rw [HT.out, decide_eq_true h20]; rfl, HB.out⟩
      · have h20i : ¬ (k : Int) ≤ 20 := by omega
        go_wp2_with fail
        go_ret
        exact ⟨by rw [HT.out, decide_eq_false h20]; rfl, HB.out⟩
/-- The signs of texts. -/
def tL (l : List ByteArray) : List (List (Int × Int)) := l.map (sOf 4)
theorem tL_len (l : List ByteArray) : (tL l).length = l.length := List.length_map ..
theorem tL_at (l : List ByteArray) (i : Nat) (h : i < l.length) : (tL l).getD i [] = sOf 4 (l.getD i ⟨#[]⟩) := by
  unfold tL
  rw [List.getD, List.getElem?_map, List.getD, List.getElem?_eq_getElem h]; rfl
theorem sOf_len (s : ByteArray) : (sOf 4 s).length ≤ s.size := by unfold sOf; rw [List.length_map]; exact valsS_len s
theorem sofO (s : ByteArray) (n : Nat) (w : World) (hT : UT w) (hs : s.size ≤ 4096) (hn : (sOf 4 s).length = n) :
    Calls Tryd.prog 40 #[.int .i64 4, .string s] w fun e w' => ∃ b d, e = .returned (.slice b n d) ∧ OwS w' w.heap.size (.slice b n d) (sOf 4 s) ∧ Below w.heap.size w w' := by
  have hl := valsS_len s
  have hl2 := sOf_len s
  have h := sof_any 4 s w hT (by omega) (by omega)
  rw [hn] at h
  refine h.mono ?_
  rintro e w' ⟨g, rfl, hg, hb, hB⟩
  exact ⟨_, _, rfl, ows_blk hb hg hn (by unfold maxLen; omega), hB⟩
set_option maxHeartbeats 4000000 in
theorem gsigns_any (l : List ByteArray) (a : Option Addr) (t c : Nat) (w : World) (hU : UT w) (hT : l.length = t) (ht : t ≤ 1000) (hz : ∀ i, i < l.length → (l.getD i ⟨#[]⟩).size ≤ 4096) (hs : StrsIn w a l) :
    Calls Tryd.prog 87 #[.slice a t c] w fun e w' => ∃ b, e = .returned (.slice b t t) ∧ SgsK (fun k => w.heap.size ≤ k ∧ k < w'.heap.size) w' b (tL l) ∧ Below w.heap.size w w' := by
  obtain ⟨i1, hj, hy0, hy1, hy2⟩ := info_parts infoSl
  have hmk := make_rowN (P := Tryd.prog) 22 28 i1 _ Tryd.underlying22 hj hy0 t (by rw [hy2]; omega) (by omega)
  rw [hy1] at hmk
  have hmade : madeCells (Value.slice none 0 0).cells (t * 1) = (slR2 [] t) := by rw [show (Value.slice none 0 0).cells = #[.slice none 0 0] from rfl, made_sls]
  rw [hmade] at hmk
  obtain ⟨A, hA⟩ : ∃ A, w.heap.size = A := ⟨_, rfl⟩
  have HA := Lib.hid hA
  have B0 := below_alloc w (.cells (slR2 [] t) 28)
  have r0 := heap_alloc_new w (.cells (slR2 [] t) 28)
  have H := Lib.hid hs
  have HU := Lib.hid fun w' (hb : Below w.heap.size w w') => hU.below hb
  have HT := Lib.hid hT
  have HZ := Lib.hid hz
  obtain ⟨W, hW⟩ : ∃ W, w.alloc (.cells (slR2 [] t) 28) = W := ⟨_, rfl⟩
  rw [hW] at B0 r0
  rw [hA] at r0
  clear hs hT hz hmade hU
  go_enter Tryd.func87, Tryd.ntmps87
  go_upto_region 3 with fail
  clear hW hA
  have N0 := Lib.hid B0
  have R0 := Lib.hid r0
  clear r0 B0 hmk
  go_loopw [11] (fun iv wr => ∃ (k : Nat) (xs : List Value), k ≤ t ∧ iv = .int .i64 (k : Int) ∧ Hid (xs.length = k) ∧ Hid (wr.heap[A]? = some (.cells (slR2 xs t) 28 (0, 0))) ∧ Hid (∀ i, i < k → ∃ ai ci, xs[i]? = some (.slice ai ((tL l).getD i []).length ci) ∧ SlS (fun q => A < q ∧ q < wr.heap.size) wr ai ((tL l).getD i []) ci) ∧ Hid (Below w.heap.size w wr)) (fun iv _ => t - (intOf iv).toNat)
  case atStart => exact ⟨0, [], Nat.zero_le _, rfl, Lib.hid rfl, R0, Lib.hid (fun i hi => absurd hi (Nat.not_lt_zero i)), N0⟩
  case round =>
    clear R0 N0
    obtain ⟨k, xs, hk, rfl, HX, HR, HE, HB⟩ := hrel
    by_cases hlt : k < t
    · have hk1 : (k : Int) < t := by omega
      have hk0 : (0 : Int) ≤ k := by omega
      obtain ⟨bs, os, rfl, hbs, ys⟩ := (H.out.below HB.out) k (by rw [HT.out]; exact hlt)
      have hz := HZ.out k (by rw [HT.out]; exact hlt)
      have hat := tL_at l k (by rw [HT.out]; exact hlt)
      obtain ⟨s, hs⟩ : ∃ s, l.getD k ⟨#[]⟩ = s := ⟨_, rfl⟩
      rw [hs] at ys hz hat
      obtain ⟨n0, hn0⟩ : ∃ n0, (sOf 4 s).length = n0 := ⟨_, rfl⟩
      have CL := Lib.hid (sofO s n0 wr (HU.out _ HB.out) hz hn0)
      have hAlt : Hid (A < wr.heap.size) := Lib.hid (blk_lt HR.out)
      have HN0 : Hid (((tL l).getD k []).length = n0) := Lib.hid (by rw [hat]; exact hn0)
      have HAT := Lib.hid hat
      clear hn0 hbs hz hs hat
      go_wp2_with (go_at_call 40; refine CL.out.mono ?_; rintro e w5 ⟨b5, d5, rfl, ho, hb⟩; have O5 := Lib.hid ho; have D5 := Lib.hid hb; have R5 := Lib.hid (blk_below HR.out hb); have x5 : w5.cell? ⟨A, k, none⟩ = some (.slice none 0 0) := (by rw [cell_of_row _ _ k _ _ _ R5.out, ← HX.out]; exact slR2_in xs t (by rw [HX.out]; exact hlt)); have f5 := frozen_of_row _ A k _ _ R5.out; clear ho hb CL ys)
      go_roundw
      case rel =>
        have hkeep : ∀ q, A < q → (w5.setCell ⟨A, k, none⟩ (.slice b5 n0 d5)).heap[q]? = w5.heap[q]? := fun q hq => Below.heap_setCell w5 ⟨A, k, none⟩ _ q (by show q ≠ A; omega)
        have hsz : (w5.setCell ⟨A, k, none⟩ (.slice b5 n0 d5)).heap.size = w5.heap.size := by simp [World.setCell]
        refine ⟨k + 1, xs ++ [.slice b5 n0 d5], by omega, by go_num, Lib.hid (by rw [List.length_append, HX.out]; rfl), Lib.hid ?_, Lib.hid (fun i hi => ?_), Lib.hid ?_⟩
        · have h9 := blk_set R5.out k (.slice b5 n0 d5)
          rw [← HX.out, slR2_set xs t _ (by rw [HX.out]; exact hlt)] at h9
          rw [← HX.out]; exact h9
        · by_cases hik : i < k
          · obtain ⟨ai, ci, e, hs⟩ := HE.out i hik
            refine ⟨ai, ci, by rw [List.getElem?_append_left (by rw [HX.out]; exact hik)]; exact e, ?_⟩
            exact ((hs.below D5.out).keep (by rw [hsz]; exact Nat.le_refl _) (fun q hq => hkeep q hq.1)).mono (fun q hq => ⟨hq.1, by rw [hsz]; exact Nat.lt_of_lt_of_le hq.2 D5.out.size⟩)
          · obtain rfl : i = k := by omega
            obtain ⟨a9, c9, e9, hs9⟩ := O5.out.sl
            injection e9 with e1 e2 e3
            subst e1; subst e3
            refine ⟨b5, d5, by rw [List.getElem?_append_right (by rw [HX.out]; omega), HX.out, Nat.sub_self, HN0.out]; rfl, ?_⟩
            rw [HAT.out]
            exact (hs9.keep (by rw [hsz]; exact Nat.le_refl _) (fun q hq => hkeep q (by have := hAlt.out; omega))).mono (fun q hq => ⟨by have := hAlt.out; omega, by rw [hsz]; exact hq.2⟩)
        · exact (seqB HB.out D5.out).setCell (p := ⟨A, k, none⟩) (by rw [HA.out]; exact Nat.le_refl _) _
      case measure => (simp [intOf]; try omega)
    · obtain rfl : k = t := by omega
      have hk1 : ¬ (k : Int) < k := by omega
      go_wp2_with fail
      go_ret
      refine ⟨_, rfl, fun i hi => ?_, HB.out⟩
      rw [tL_len, HT.out] at hi
      obtain ⟨ai, ci, e, hs⟩ := HE.out i hi
      refine ⟨A, 0, ai, ci, rfl, ⟨by rw [HA.out]; exact Nat.le_refl _, blk_lt HR.out⟩, blk_lt HR.out, ?_, hs.mono (fun q hq => ⟨by rw [HA.out]; omega, hq.2⟩)⟩
      rw [Nat.zero_add, cell_of_row _ _ i _ _ _ HR.out, slR2_at _ _ _ (by rw [HX.out]; exact hi), e]
set_option maxHeartbeats 4000000 in
theorem rof_ref (s : ByteArray) (n : Nat) (w : World) (hs : s.size ≤ 4096) (hn : (sOf 4 s).length = n) :
    Calls Tryd.prog 67 #[.int .i64 4, .string s] w fun e w' => ∃ b d, e = .returned (.slice b n d) ∧ OwS w' w.heap.size (.slice b n d) (sOf 4 s) ∧ Below w.heap.size w w' := by
  have hl := valsS_len s
  have D := Lib.hid (decode_ref s w (by omega))
  have hso : sOf 4 s = (valsS s).map fun v => (v, 4) := rfl
  have hvn : (valsS s).length = n := by rw [← hn, hso, List.length_map]
  have HSO := Lib.hid hso
  have hn2 : n ≤ 4096 := by omega
  generalize valsS s = l at *
  rw [hso]
  have HVN := Lib.hid hvn
  clear hso hn hl hvn
  go_enter Tryd.func67, Tryd.ntmps67
  go_wp2_with (go_at_call 89; refine D.out.mono ?_; rintro e w1 ⟨v, rfl, hown, hb1⟩; obtain ⟨a, cap, rfl, hr⟩ := own_row hown; rw [HVN.out]; have HR := Lib.hid hr; have N1 := Lib.hid hb1; clear hr hown hb1 D)
  go_loopw [6, 7] (fun ov iv wr => ∃ k : Nat, k ≤ n ∧ iv = .int .i64 (k : Int) ∧ Hid (OwS wr w1.heap.size ov ((l.take k).map fun v => (v, 4))) ∧ Hid (Below w1.heap.size w1 wr)) (fun _ iv _ => n - (intOf iv).toNat)
  case atStart => exact ⟨0, Nat.zero_le _, rfl, Lib.hid (World.ownsRow_nil _ _ _ _), Lib.hid (Below.refl _ _)⟩
  case round =>
    obtain ⟨k, hk, rfl, hO, hb⟩ := hrel
    by_cases hlt : k < n
    · obtain ⟨b, off, rfl, c1, hblk⟩ := (HR.out.below hb.out) k (by rw [HVN.out]; exact hlt)
      have hk1 : (k : Int) < n := by omega
      have hk0 : (0 : Int) ≤ k := by omega
      have hnext : ((l.take (k + 1)).map fun v => ((v, 4) : Int × Int)) = ((l.take k).map fun v => ((v, 4) : Int × Int)) ++ [(l.getD k 0, 4)] := by
        rw [List.take_add_one, List.getElem?_eq_getElem (by rw [HVN.out]; exact hlt), List.map_append]
        simp [List.getD, List.getElem?_eq_getElem (show k < l.length by rw [HVN.out]; exact hlt)]
      have hlen : ((l.take k).map fun v => ((v, 4) : Int × Int)).length = k := by have := HVN.out; simp; omega
      have Hn := Lib.hid hnext
      have Hl := Lib.hid hlen
      have BA := fun o => below_alloc wr o
      generalize l.getD k 0 = v at *
      generalize ((l.take k).map fun v => ((v, 4) : Int × Int)) = Y at *
      have O1 := Lib.hid (ows_keep hO.out (BA (.cells #[.int .i64 v, .int .i64 4] 89)))
      have M1 := Lib.hid (seqB hb.out (BA (.cells #[.int .i64 v, .int .i64 4] 89)))
      have S1 := Lib.hid (show Signs (wr.alloc (.cells #[.int .i64 v, .int .i64 4] 89)) (some ⟨wr.heap.size, 0, none⟩) [(v, 4)] from signs_new wr [(v, 4)] 89)
      obtain ⟨ay, cy, rfl⟩ := hO.out.form Hl.out
      clear hnext hlen hO hb BA
      go_wp2_with (at_builtin; refine wpList_app_signs rfl _ _ rfl w1.heap.size _ k Y rfl Hl.out O1.out (some ⟨wr.heap.size, 0, none⟩) 1 1 [(v, 4)] rfl rfl S1.out (fun e => (by cases e)) ?g3 ?g4 ?_)
      case g3 => omega
      case g4 => exact M1.out.size
      intro ad5 c5 w5 hown5 hgrow5
      have N5 := Lib.hid (M1.out.grown hgrow5 M1.out.size (fun j hj => (O1.out.lt j hj).1))
      have HO := Lib.hid hown5
      clear hown5 hgrow5
      go_wp2
      go_roundw
      case rel => exact ⟨k + 1, by omega, by go_num, Lib.hid (by rw [Hn.out]; exact HO.out), N5⟩
      case measure => (simp [intOf]; try omega)
    · obtain rfl : k = n := by omega
      rw [List.take_of_length_le (by rw [HVN.out]; exact Nat.le_refl _)] at hO
      have hO2 := Lib.hid (OwS.mono hO.out N1.out.size)
      obtain ⟨ad, cd, rfl⟩ := hO.out.form (n := k) (by rw [List.length_map, HVN.out])
      have hkl : ¬ (k : Int) < k := by omega
      have NB := Lib.hid (seqB N1.out hb.out)
      clear hO
      go_wp2
      go_ret
      exact ⟨_, _, rfl, hO2.out, NB.out⟩
/-- The document's rows of signs, under way. -/
theorem rsigns_ref (l : List ByteArray) (a : Option Addr) (t c : Nat) (w : World) (hT : l.length = t) (ht : t ≤ 1000) (hz : ∀ i, i < l.length → (l.getD i ⟨#[]⟩).size ≤ 4096) (hs : StrsIn w a l) :
    Calls Tryd.prog 37 #[.slice a t c] w fun e w' => ∃ b d, e = .returned (.slice b t d) ∧ SgsK (fun k => w.heap.size ≤ k ∧ k < w'.heap.size) w' b (tL l) ∧ Below w.heap.size w w' := by
  obtain ⟨i1, hj, hy0, hy1, hy2⟩ := info_parts infoSl
  have HS := Lib.hid hs
  have HT := Lib.hid hT
  have HZ := Lib.hid hz
  clear hs hT hz
  go_enter Tryd.func37, Tryd.ntmps37
  go_wp2
  go_loopw [3, 4] (fun ov iv wr => ∃ k : Nat, k ≤ t ∧ iv = .int .i64 (k : Int) ∧ Hid (RdK w.heap.size ov (tL (l.take k)) wr) ∧ Hid (Below w.heap.size w wr)) (fun _ iv _ => t - (intOf iv).toNat)
  case atStart => exact ⟨0, Nat.zero_le _, rfl, Lib.hid ⟨⟨[], World.ownsRow_nil _ _ _ _, fun i hi => absurd hi (Nat.not_lt_zero i)⟩, Nat.le_refl _⟩, Lib.hid (Below.refl _ _)⟩
  case round =>
    obtain ⟨k, hk, rfl, hR, hb⟩ := hrel
    have hlk : (tL (l.take k)).length = k := by rw [tL_len, List.length_take, HT.out]; omega
    have HLK := Lib.hid hlk
    by_cases hlt : k < t
    · obtain ⟨b, off, rfl, hblk, c1⟩ := (HS.out.below hb.out) k (by rw [HT.out]; exact hlt)
      have hk1 : (k : Int) < t := by omega
      have hk0 : (0 : Int) ≤ k := by omega
      have hnext : tL (l.take (k + 1)) = tL (l.take k) ++ [sOf 4 (l.getD k ⟨#[]⟩)] := by
        unfold tL
        rw [List.take_add_one, List.getElem?_eq_getElem (by rw [HT.out]; exact hlt), List.map_append]
        simp [List.getD, List.getElem?_eq_getElem (show k < l.length by rw [HT.out]; exact hlt)]
      have hz := HZ.out k (by rw [HT.out]; exact hlt)
      generalize l.getD k ⟨#[]⟩ = s at *
      obtain ⟨m, hm⟩ : ∃ m, (sOf 4 s).length = m := ⟨_, rfl⟩
      have OF := Lib.hid (rof_ref s m wr hz hm)
      have Hn := Lib.hid hnext
      clear hnext hz hblk
      obtain ⟨a0, d0, rfl⟩ := hR.out.form
      rw [HLK.out]
      have HD := Lib.hid hR.out
      have HN := Lib.hid hb.out
      generalize tL (l.take k) = Y at *
      clear hlk hm hR hb
      go_wp2_with (first
        | (go_at_call 67; refine OF.out.mono ?_; rintro e w4 ⟨ax, cx, rfl, hox, hb4⟩; have D4 := Lib.hid (HD.out.below hb4); have N4 := Lib.hid (seqB HN.out hb4); have BA := below_alloc w4 (.cells #[.slice ax m cx] 28); have OX := Lib.hid (ows_keep (OwS.mono hox HD.out.le) BA); have D5 := Lib.hid (D4.out.below BA); have N5 := Lib.hid (seqB N4.out BA); have hnew : ∀ j x, ([Value.slice ax m cx] : List Value)[j]? = some x → (w4.alloc (.cells #[.slice ax m cx] 28)).cell? ((⟨w4.heap.size, 0, none⟩ : Addr).add j) = some x := (fun j x hj => app_cells rfl hj); have D5x := D5.out.ex; clear hox hb4 BA OF c1)
        | (at_builtin; obtain ⟨vs, hwv, hvs⟩ := D5x; rw [HLK.out] at hwv; refine wpList_append_own _ rfl _ _ 22 rfl w.heap.size 28 i1 _ 1 24 Tryd.underlying22 hj hy0 hy1 hy2 rfl (by decide) _ _ _ rfl hwv ⟨_, 0, none⟩ 1 1 [.slice ax m cx] rfl rfl hnew (by simp [Value.oneCell']) ?g3 ?g4 D5.out.le ?_))
      case g3 => unfold maxLen; omega
      case g4 => omega
      intro v' w6 hown hgrow _
      have hvl : vs.length = Y.length := by have := hwv.1; rw [HLK.out]; omega
      have hwv' := hwv
      rw [← HLK.out] at hwv' hown
      have D6 := Lib.hid (RdK.next hvs hvl hwv' OX.out hown (by rw [HLK.out]; exact hgrow) D5.out.le)
      have N6 := Lib.hid (N5.out.grown hgrow D5.out.le (fun k hk => (hwv.lt k hk).1))
      clear hown hgrow hwv hvs hwv' hvl
      go_wp2
      go_roundw
      case rel => exact ⟨k + 1, by omega, by go_num, Lib.hid (by rw [Hn.out]; exact D6.out), N6⟩
      case measure => (simp [intOf]; try omega)
    · obtain rfl : k = t := by omega
      rw [List.take_of_length_le (by rw [HT.out]; exact Nat.le_refl _)] at hR HLK
      obtain ⟨a2, c2, rfl, _, _, hs2⟩ := hR.out.sgs
      rw [HLK.out]
      have hkl : ¬ (k : Int) < k := by omega
      have HS2 := Lib.hid hs2
      clear hs2 hlk
      go_wp2
      go_ret
      exact ⟨_, ⟨_, rfl⟩, HS2.out, hb.out⟩
end Go.Proofs.YtdifkjmpdmlobaaDoor
set_option linter.unusedVariables false
set_option linter.unusedSimpArgs false
namespace Go.Proofs.YtdifkjmpdmlobaaDoor
open Go.RowKit
/-- The texts that are told of a guest. -/
def tdT (n : Int) (l : List ByteArray) (b : Bool) : List ByteArray := if n = 0 then l else if b = true then [] else if n = 1 then (if l = [] then [⟨#[]⟩] else [l.getD 0 ⟨#[]⟩]) else []
/-- The error that is told. -/
def tdE (n : Int) (b : Bool) : Int := if n = 0 then 0 else if b = true then 11 else if n = 1 then 0 else if n = 2 ∨ n = 7 then 6 else if 8 ≤ n ∧ n ≤ 20 then n - 7 else 11
/-- What Told answers. -/
def TdPost (n : Int) (l : List ByteArray) (b : Bool) (w : World) (e : Ending) (w' : World) : Prop := ∃ a m c, e = .returned (.tuple #[.slice a m c, .int .i64 (tdE n b)]) ∧ (tdT n l b).length = m ∧ StrsIn w' a (tdT n l b) ∧ m ≤ c ∧ Below w.heap.size w w'
theorem strs_nil (w : World) (a : Option Addr) : StrsIn w a [] := fun i hi => absurd hi (Nat.not_lt_zero i)
theorem strs_one (w : World) (s : ByteArray) (t : TypeId) : StrsIn (w.alloc (.cells #[.string s] t)) (some ⟨w.heap.size, 0, none⟩) [s] := fun i hi => by
  obtain rfl : i = 0 := by simpa using hi
  exact ⟨w.heap.size, 0, rfl, by simp, by simp⟩
theorem told_zero (n : Int) (l : List ByteArray) (b : Bool) (a : Option Addr) (t c : Nat) (w : World) (hT : l.length = t) (hc : t ≤ c) (hs : StrsIn w a l) (h : n = 0) :
    Calls Tryd.prog 34 #[.int .i64 n, .slice a t c, .bool b] w (TdPost n l b w) := by
  subst h
  have HS := Lib.hid hs
  have HT := Lib.hid hT
  clear hs hT
  go_enter Tryd.func34, Tryd.ntmps34
  go_wp2
  refine bodyPost_ret (results_tmp2 rfl _ _ _) rfl ?_
  exact ⟨a, t, c, rfl, HT.out, HS.out, hc, Below.refl _ _⟩
theorem told_list (n : Int) (l : List ByteArray) (b : Bool) (a : Option Addr) (t c : Nat) (w : World) (hT : l.length = t) (hc : t ≤ c) (hs : StrsIn w a l) (h : ¬ n = 0) (hb : b = true) :
    Calls Tryd.prog 34 #[.int .i64 n, .slice a t c, .bool b] w (TdPost n l b w) := by
  subst hb
  have hnb : (n == 0) = false := beq_eq_false_iff_ne.2 h
  have he : Hid (tdE n true = 11 ∧ tdT n l true = []) := Lib.hid ⟨by unfold tdE; rw [if_neg h, if_pos rfl], by unfold tdT; rw [if_neg h, if_pos rfl]⟩
  clear hs hT
  go_enter Tryd.func34, Tryd.ntmps34
  go_wp2
  refine bodyPost_ret (results_tmp2 rfl _ _ _) rfl ?_
  exact ⟨none, 0, 0, by rw [he.out.1]; rfl, by rw [he.out.2]; rfl, by rw [he.out.2]; exact strs_nil _ _, Nat.le_refl _, Below.refl _ _⟩
theorem told_one (n : Int) (l : List ByteArray) (b : Bool) (a : Option Addr) (t c : Nat) (w : World) (hT : l.length = t) (hc : t ≤ c) (hs : StrsIn w a l) (h : n = 1) (hb : b = false) (hl : 0 < t) :
    Calls Tryd.prog 34 #[.int .i64 n, .slice a t c, .bool b] w (TdPost n l b w) := by
  subst hb; subst h
  have hne : l ≠ [] := fun e => by rw [e] at hT; simp at hT; omega
  have he : Hid (tdE 1 false = 0 ∧ tdT 1 l false = [l.getD 0 ⟨#[]⟩]) := Lib.hid ⟨rfl, by unfold tdT; rw [if_neg (by decide), if_neg (by decide), if_pos rfl, if_neg hne]⟩
  have hSO : StrsIn w (if c = 0 then a else a.map (·.add (0 * 1))) [l.getD 0 ⟨#[]⟩] := fun i hi => by
    obtain rfl : i = 0 := by simpa using hi
    obtain ⟨b, off, rfl, hb, c0⟩ := hs 0 (by omega)
    rw [if_neg (by omega)]
    refine ⟨b, off, ?_, hb, c0⟩
    have hadd : (⟨b, off, none⟩ : Addr).add (0 * 1) = ⟨b, off, none⟩ := by unfold Addr.add; split <;> simp_all
    rw [Option.map_some, hadd]
  have hcut : ∀ w, (Instr.slice 61 (.slice a t c) none (some (.int .i64 1)) none).run Tryd.prog w = .ok (.slice (if c = 0 then a else a.map (·.add (0 * 1))) 1 c) w := fun w => by
    have := run_slice_h (P := Tryd.prog) w 61 a t c (by kernel_rfl) .i64 ((1 : Nat) : Int) (by omega) (by omega)
    rw [show Tryd.prog.elem 61 = 9 by kernel_rfl, show (sizeOf 9).run Tryd.prog w = .ok 1 w by kernel_rfl] at this
    exact this
  obtain ⟨A, hA⟩ : ∃ A, (if c = 0 then a else a.map (·.add (0 * 1))) = A := ⟨_, rfl⟩
  rw [hA] at hSO hcut
  have HSO := Lib.hid hSO
  have hl1 : (0 : Int) < t := by omega
  clear hs hT hA hne hSO
  go_enter Tryd.func34, Tryd.ntmps34
  go_wp2
  refine bodyPost_ret (results_tmp2 rfl _ _ _) rfl ?_
  exact ⟨A, 1, c, rfl, by rw [he.out.2]; rfl, by rw [he.out.2]; exact HSO.out, by omega, Below.refl _ _⟩
theorem told_none (n : Int) (l : List ByteArray) (b : Bool) (a : Option Addr) (t c : Nat) (w : World) (hT : l.length = t) (hc : t ≤ c) (hs : StrsIn w a l) (h : n = 1) (hb : b = false) (hl : t = 0) :
    Calls Tryd.prog 34 #[.int .i64 n, .slice a t c, .bool b] w (TdPost n l b w) := by
  subst hb; subst h; subst hl
  have hne : l = [] := List.eq_nil_of_length_eq_zero hT
  have he : Hid (tdE 1 false = 0 ∧ tdT 1 l false = [⟨#[]⟩]) := Lib.hid ⟨rfl, by unfold tdT; rw [if_neg (by decide), if_neg (by decide), if_pos rfl, if_pos hne]⟩
  have SO := Lib.hid (strs_one w ⟨#[]⟩ 9)
  have BA := Lib.hid (below_alloc w (.cells #[.string ⟨#[]⟩] 9))
  clear hs hT hne
  go_enter Tryd.func34, Tryd.ntmps34
  go_wp2
  refine bodyPost_ret (results_tmp2 rfl _ _ _) rfl ?_
  exact ⟨_, 1, 1, rfl, by rw [he.out.2]; rfl, by rw [he.out.2]; exact SO.out, Nat.le_refl _, BA.out⟩
theorem told_form (n : Int) (l : List ByteArray) (b : Bool) (a : Option Addr) (t c : Nat) (w : World) (hT : l.length = t) (hc : t ≤ c) (hs : StrsIn w a l) (h : n = 2 ∨ n = 7) (hb : b = false) :
    Calls Tryd.prog 34 #[.int .i64 n, .slice a t c, .bool b] w (TdPost n l b w) := by
  subst hb
  have h0 : ¬ n = 0 := by omega
  have h1 : ¬ n = 1 := by omega
  have he : Hid (tdE n false = 6 ∧ tdT n l false = []) := Lib.hid ⟨by unfold tdE; rw [if_neg h0, if_neg (by decide), if_neg h1, if_pos h], by unfold tdT; rw [if_neg h0, if_neg (by decide), if_neg h1]⟩
  clear hs hT h0 h1
  rcases h with rfl | rfl
  all_goals
    go_enter Tryd.func34, Tryd.ntmps34
    go_wp2
    refine bodyPost_ret (results_tmp2 rfl _ _ _) rfl ?_
    exact ⟨none, 0, 0, rfl, by rw [he.out.2]; rfl, by rw [he.out.2]; exact strs_nil _ _, Nat.le_refl _, Below.refl _ _⟩
theorem told_fail (n : Int) (l : List ByteArray) (b : Bool) (a : Option Addr) (t c : Nat) (w : World) (hT : l.length = t) (hc : t ≤ c) (hs : StrsIn w a l) (h : 8 ≤ n ∧ n ≤ 20) (hb : b = false) :
    Calls Tryd.prog 34 #[.int .i64 n, .slice a t c, .bool b] w (TdPost n l b w) := by
  subst hb
  have h0 : ¬ n = 0 := by omega
  have h1 : ¬ n = 1 := by omega
  have h2 : ¬ n = 2 := by omega
  have h7 : ¬ n = 7 := by omega
  have b0 : (n == 0) = false := beq_eq_false_iff_ne.2 h0
  have b1 : (n == 1) = false := beq_eq_false_iff_ne.2 h1
  have b2 : (n == 2) = false := beq_eq_false_iff_ne.2 h2
  have b7 : (n == 7) = false := beq_eq_false_iff_ne.2 h7
  have he : Hid (tdE n false = n - 7 ∧ tdT n l false = []) := Lib.hid ⟨by unfold tdE; rw [if_neg h0, if_neg (by decide), if_neg h1, if_neg (by omega), if_pos h], by unfold tdT; rw [if_neg h0, if_neg (by decide), if_neg h1]⟩
  obtain ⟨h8, h20⟩ := h
  clear hs hT
  go_enter Tryd.func34, Tryd.ntmps34
  go_wp2
  refine bodyPost_ret (results_tmp2 rfl _ _ _) rfl ?_
  exact ⟨none, 0, 0, by rw [he.out.1]; rfl, by rw [he.out.2]; rfl, by rw [he.out.2]; exact strs_nil _ _, Nat.le_refl _, Below.refl _ _⟩
theorem told_wild (n : Int) (l : List ByteArray) (b : Bool) (a : Option Addr) (t c : Nat) (w : World) (hT : l.length = t) (hc : t ≤ c) (hs : StrsIn w a l) (h : n < 0 ∨ (3 ≤ n ∧ n ≤ 6) ∨ 20 < n) (hb : b = false) :
    Calls Tryd.prog 34 #[.int .i64 n, .slice a t c, .bool b] w (TdPost n l b w) := by
  subst hb
  have h0 : ¬ n = 0 := by omega
  have h1 : ¬ n = 1 := by omega
  have h2 : ¬ n = 2 := by omega
  have h7 : ¬ n = 7 := by omega
  have b0 : (n == 0) = false := beq_eq_false_iff_ne.2 h0
  have b1 : (n == 1) = false := beq_eq_false_iff_ne.2 h1
  have b2 : (n == 2) = false := beq_eq_false_iff_ne.2 h2
  have b7 : (n == 7) = false := beq_eq_false_iff_ne.2 h7
  have he : Hid (tdE n false = 11 ∧ tdT n l false = []) := Lib.hid ⟨by unfold tdE; rw [if_neg h0, if_neg (by decide), if_neg h1, if_neg (by omega), if_neg (by omega)], by unfold tdT; rw [if_neg h0, if_neg (by decide), if_neg h1]⟩
  clear hs hT
  by_cases h8 : 8 ≤ n
  · have h20 : ¬ n ≤ 20 := by omega
    go_enter Tryd.func34, Tryd.ntmps34
    go_wp2
    refine bodyPost_ret (results_tmp2 rfl _ _ _) rfl ?_
    exact ⟨none, 0, 0, by rw [he.out.1]; rfl, by rw [he.out.2]; rfl, by rw [he.out.2]; exact strs_nil _ _, Nat.le_refl _, Below.refl _ _⟩
  · go_enter Tryd.func34, Tryd.ntmps34
    go_wp2
    refine bodyPost_ret (results_tmp2 rfl _ _ _) rfl ?_
    exact ⟨none, 0, 0, by rw [he.out.1]; rfl, by rw [he.out.2]; rfl, by rw [he.out.2]; exact strs_nil _ _, Nat.le_refl _, Below.refl _ _⟩
/-- What is told of a guest, in one law. -/
theorem told_ref (n : Int) (l : List ByteArray) (b : Bool) (a : Option Addr) (t c : Nat) (w : World) (hT : l.length = t) (hc : t ≤ c) (hs : StrsIn w a l) :
    Calls Tryd.prog 34 #[.int .i64 n, .slice a t c, .bool b] w (TdPost n l b w) := by
  by_cases h0 : n = 0
  · exact told_zero n l b a t c w hT hc hs h0
  cases b with
  | true => exact told_list n l true a t c w hT hc hs h0 rfl
  | false =>
    by_cases h1 : n = 1
    · by_cases hl : 0 < t
      · exact told_one n l false a t c w hT hc hs h1 rfl hl
      · exact told_none n l false a t c w hT hc hs h1 rfl (by omega)
    · by_cases h2 : n = 2 ∨ n = 7
      · exact told_form n l false a t c w hT hc hs h2 rfl
      · by_cases h8 : 8 ≤ n ∧ n ≤ 20
        · exact told_fail n l false a t c w hT hc hs h8 rfl
        · exact told_wild n l false a t c w hT hc hs (by omega) rfl
end Go.Proofs.YtdifkjmpdmlobaaDoor
set_option linter.unusedVariables false
set_option linter.unusedSimpArgs false
namespace Go.Proofs.YtdifkjmpdmlobaaDoor
open Go.RowKit
def vTexts (a : Option Addr) (m c : Nat) : Value := .iface 118 (.agg #[.slice a m c])
def vOne (s : ByteArray) : Value := .iface 120 (.agg #[.string s])
def vFail (e : Int) : Value := .iface 122 (.agg #[.int .i64 e])
/-- Rows of signs, and an error. -/
def RsPost (T : List ByteArray) (er : Int) (w : World) (e : Ending) (w' : World) : Prop := ∃ b m d, e = .returned (.tuple #[.slice b m d, .int .i64 er]) ∧ T.length = m ∧ SgsK (fun k => w.heap.size ≤ k ∧ k < w'.heap.size) w' b (tL T) ∧ Below w.heap.size w w'
theorem sgs_nil (S : Nat → Prop) (w : World) (a : Option Addr) : SgsK S w a (tL []) := fun i hi => absurd hi (Nat.not_lt_zero i)
theorem ta_TT (v : Value) (w : World) : (Instr.typeAssert (.iface 118 v) 116 118 true).run Tryd.prog w = .ok (.tuple #[v, .bool true]) w := by kernel_rfl
theorem ta_OT (v : Value) (w : World) : (Instr.typeAssert (.iface 120 v) 116 118 true).run Tryd.prog w = .ok (.tuple #[.agg #[.slice none 0 0], .bool false]) w := by kernel_rfl
theorem ta_OO (v : Value) (w : World) : (Instr.typeAssert (.iface 120 v) 116 120 true).run Tryd.prog w = .ok (.tuple #[v, .bool true]) w := by kernel_rfl
theorem ta_FT (v : Value) (w : World) : (Instr.typeAssert (.iface 122 v) 116 118 true).run Tryd.prog w = .ok (.tuple #[.agg #[.slice none 0 0], .bool false]) w := by kernel_rfl
theorem ta_FO (v : Value) (w : World) : (Instr.typeAssert (.iface 122 v) 116 120 true).run Tryd.prog w = .ok (.tuple #[.agg #[.string ⟨#[]⟩], .bool false]) w := by kernel_rfl
theorem ta_FF (v : Value) (w : World) : (Instr.typeAssert (.iface 122 v) 116 122 true).run Tryd.prog w = .ok (.tuple #[v, .bool true]) w := by kernel_rfl
theorem ta_NT (w : World) : (Instr.typeAssert .nilIface 116 118 true).run Tryd.prog w = .ok (.tuple #[.agg #[.slice none 0 0], .bool false]) w := by kernel_rfl
theorem ta_NO (w : World) : (Instr.typeAssert .nilIface 116 120 true).run Tryd.prog w = .ok (.tuple #[.agg #[.string ⟨#[]⟩], .bool false]) w := by kernel_rfl
theorem ta_NF (w : World) : (Instr.typeAssert .nilIface 116 122 true).run Tryd.prog w = .ok (.tuple #[.agg #[.int .i64 0], .bool false]) w := by kernel_rfl
theorem ta_T (v : Value) (w : World) : (Instr.typeAssert (.iface 118 v) 116 118 false).run Tryd.prog w = .ok v w := by kernel_rfl
theorem ta_O (v : Value) : ∃ u o, ∀ w, (Instr.typeAssert (.iface 120 v) 116 118 false).run Tryd.prog w = .halt (.panic (.iface u (.pointer (some ⟨w.heap.size, 0, none⟩)))) (w.alloc o) := ⟨_, _, fun w => rfl⟩
theorem ta_F (v : Value) : ∃ u o, ∀ w, (Instr.typeAssert (.iface 122 v) 116 118 false).run Tryd.prog w = .halt (.panic (.iface u (.pointer (some ⟨w.heap.size, 0, none⟩)))) (w.alloc o) := ⟨_, _, fun w => rfl⟩
theorem ta_N : ∃ u o, ∀ w, (Instr.typeAssert .nilIface 116 118 false).run Tryd.prog w = .halt (.panic (.iface u (.pointer (some ⟨w.heap.size, 0, none⟩)))) (w.alloc o) := ⟨_, _, fun w => rfl⟩
theorem every_texts (l : List ByteArray) (a : Option Addr) (t c : Nat) (w : World) (hU : UT w) (hT : l.length = t) (ht : t ≤ 1000) (hz : ∀ i, i < l.length → (l.getD i ⟨#[]⟩).size ≤ 4096) (hs : StrsIn w a l) :
    Calls Tryd.prog 64 #[.iface 118 (.agg #[.slice a t c])] w (RsPost l 0 w) := by
  have HT := Lib.hid hT
  have BA := below_alloc w (.cells #[.slice a t c] 118)
  have SG := Lib.hid (gsigns_any l a t c (w.alloc (.cells #[.slice a t c] 118)) (hU.below BA) hT ht hz (hs.below BA))
  have N0 := Lib.hid BA
  clear hU hT hz hs BA
  have k1 := ta_TT
  have k2 := ta_OT
  have k3 := ta_OO
  have k4 := ta_FT
  have k5 := ta_FO
  have k6 := ta_FF
  have k7 := ta_NT
  have k8 := ta_NO
  have k9 := ta_NF
  go_enter Tryd.func64, Tryd.ntmps64
  go_wp2_with (go_at_call 87; refine SG.out.mono ?_; rintro e w2 ⟨b, rfl, hs, hb⟩; have N2 := Lib.hid (seqB N0.out hb); have S2 := Lib.hid (hs.mono (Q := fun k => w.heap.size ≤ k ∧ k < w2.heap.size) (fun k hk => ⟨Nat.le_trans N0.out.size hk.1, hk.2⟩)); clear hs hb SG)
  refine bodyPost_ret (results_tmp2 rfl _ _ _) rfl ?_
  exact ⟨b, t, t, rfl, HT.out, S2.out, N2.out⟩
theorem every_one (s : ByteArray) (w : World) (hU : UT w) (hz : s.size ≤ 4096) :
    Calls Tryd.prog 64 #[.iface 120 (.agg #[.string s])] w (RsPost [s] 0 w) := by
  have BA := below_alloc w (.cells #[.string s] 120)
  obtain ⟨w1, hw1⟩ : ∃ W, w.alloc (.cells #[.string s] 120) = W := ⟨_, rfl⟩
  have hr := heap_alloc_new w (.cells #[.string s] 120)
  rw [hw1] at BA hr
  have y := cell_of_row _ _ 0 _ _ _ hr
  dsimp at y
  have BB := below_alloc w1 (.cells #[.string s] 9)
  have SG := Lib.hid (gsigns_any [s] (some ⟨w1.heap.size, 0, none⟩) 1 1 (w1.alloc (.cells #[.string s] 9)) (hU.below (seqB BA BB)) rfl (by omega) (fun i hi => by have e : i = 0 := (by simpa using hi); subst e; exact hz) (strs_one w1 s 9))
  have N0 := Lib.hid (seqB BA BB)
  clear hU hz BA BB hr
  have k1 := ta_TT
  have k2 := ta_OT
  have k3 := ta_OO
  have k4 := ta_FT
  have k5 := ta_FO
  have k6 := ta_FF
  have k7 := ta_NT
  have k8 := ta_NO
  have k9 := ta_NF
  go_enter Tryd.func64, Tryd.ntmps64
  go_wp2_with (go_at_call 87; refine SG.out.mono ?_; rintro e w2 ⟨b, rfl, hs, hb⟩; have N2 := Lib.hid (seqB N0.out hb); have S2 := Lib.hid (hs.mono (Q := fun k => w.heap.size ≤ k ∧ k < w2.heap.size) (fun k hk => ⟨Nat.le_trans N0.out.size hk.1, hk.2⟩)); clear hs hb SG)
  refine bodyPost_ret (results_tmp2 rfl _ _ _) rfl ?_
  exact ⟨b, 1, 1, rfl, rfl, S2.out, N2.out⟩
theorem every_fail (er : Int) (w : World) (h : ¬ er = 0) :
    Calls Tryd.prog 64 #[.iface 122 (.agg #[.int .i64 er])] w (RsPost [] er w) := by
  have BA := below_alloc w (.cells #[.int .i64 er] 122)
  have hr := heap_alloc_new w (.cells #[.int .i64 er] 122)
  obtain ⟨w1, hw1⟩ : ∃ W, w.alloc (.cells #[.int .i64 er] 122) = W := ⟨_, rfl⟩
  rw [hw1] at BA hr
  obtain ⟨Q, hQ⟩ : ∃ Q, w.heap.size = Q := ⟨_, rfl⟩
  rw [hQ] at hr
  have y := cell_of_row _ _ 0 _ _ _ hr
  dsimp at y
  have hb : (er == 0) = false := beq_eq_false_iff_ne.2 h
  have hbn : (er != 0) = true := by simpa using h
  have N0 := Lib.hid BA
  clear BA hr
  have k1 := ta_TT
  have k2 := ta_OT
  have k3 := ta_OO
  have k4 := ta_FT
  have k5 := ta_FO
  have k6 := ta_FF
  have k7 := ta_NT
  have k8 := ta_NO
  have k9 := ta_NF
  go_enter Tryd.func64, Tryd.ntmps64
  go_upto_region 11 with fail
  clear hw1 hQ
  go_quiet (fail)
  have N1 := Lib.hid (drewN_below N0.out nq)
  go_wp2
  refine bodyPost_ret (results_tmp2 rfl _ _ _) rfl ?_
  exact ⟨none, 0, 0, rfl, rfl, sgs_nil _ _ _, N1.out⟩
theorem every_zero (w : World) :
    Calls Tryd.prog 64 #[.iface 122 (.agg #[.int .i64 0])] w (RsPost [] 6 w) := by
  have N0 := Lib.hid (below_alloc w (.cells #[.int .i64 0] 122))
  have k1 := ta_TT
  have k2 := ta_OT
  have k3 := ta_OO
  have k4 := ta_FT
  have k5 := ta_FO
  have k6 := ta_FF
  have k7 := ta_NT
  have k8 := ta_NO
  have k9 := ta_NF
  go_enter Tryd.func64, Tryd.ntmps64
  go_wp2
  refine bodyPost_ret (results_tmp2 rfl _ _ _) rfl ?_
  exact ⟨none, 0, 0, rfl, rfl, sgs_nil _ _ _, N0.out⟩
theorem every_nil (w : World) :
    Calls Tryd.prog 64 #[.nilIface] w (RsPost [] 6 w) := by
  have k1 := ta_TT
  have k2 := ta_OT
  have k3 := ta_OO
  have k4 := ta_FT
  have k5 := ta_FO
  have k6 := ta_FF
  have k7 := ta_NT
  have k8 := ta_NO
  have k9 := ta_NF
  go_enter Tryd.func64, Tryd.ntmps64
  go_wp2
  refine bodyPost_ret (results_tmp2 rfl _ _ _) rfl ?_
  exact ⟨none, 0, 0, rfl, rfl, sgs_nil _ _ _, Below.refl _ _⟩
theorem list_texts (l : List ByteArray) (a : Option Addr) (t c : Nat) (w : World) (hU : UT w) (hT : l.length = t) (ht : t ≤ 1000) (hz : ∀ i, i < l.length → (l.getD i ⟨#[]⟩).size ≤ 4096) (hs : StrsIn w a l) :
    Calls Tryd.prog 68 #[.iface 118 (.agg #[.slice a t c])] w (RsPost l 0 w) := by
  have HT := Lib.hid hT
  have SG := Lib.hid (gsigns_any l a t c w hU hT ht hz hs)
  clear hU hT hz hs
  have k1 := ta_T
  have kf : ∀ w, (Instr.field 118 (.agg #[.slice a t c]) 0).run Tryd.prog w = .ok (.slice a t c) w := fun _ => by kernel_rfl
  go_enter Tryd.func68, Tryd.ntmps68
  go_wp2_with (go_at_call 87; refine SG.out.mono ?_; rintro e w2 ⟨b, rfl, hs, hb⟩; have N2 := Lib.hid hb; have S2 := Lib.hid hs; clear hs hb SG)
  refine bodyPost_ret (results_tmp2 rfl _ _ _) rfl ?_
  exact ⟨b, t, t, rfl, HT.out, S2.out, N2.out⟩
/-- A fall. -/
def PnPost (B : Nat) (w : World) (e : Ending) (w' : World) : Prop := ∃ u pv, e = .panicked [{ v := .iface u pv, recovered := false }] ∧ Below B w w'
theorem list_one (s : ByteArray) (w : World) :
    Calls Tryd.prog 68 #[.iface 120 (.agg #[.string s])] w (PnPost w.heap.size w) := by
  obtain ⟨u, o, hk⟩ := ta_O (.agg #[.string s])
  have BA := Lib.hid (below_alloc w o)
  go_enter Tryd.func68, Tryd.ntmps68
  go_wp2
  exact ⟨rfl, u, _, rfl, BA.out⟩
theorem list_fail (er : Int) (w : World) :
    Calls Tryd.prog 68 #[.iface 122 (.agg #[.int .i64 er])] w (PnPost w.heap.size w) := by
  obtain ⟨u, o, hk⟩ := ta_F (.agg #[.int .i64 er])
  have BA := Lib.hid (below_alloc w o)
  go_enter Tryd.func68, Tryd.ntmps68
  go_wp2
  exact ⟨rfl, u, _, rfl, BA.out⟩
theorem list_nil (w : World) :
    Calls Tryd.prog 68 #[.nilIface] w (PnPost w.heap.size w) := by
  obtain ⟨u, o, hk⟩ := ta_N
  have BA := Lib.hid (below_alloc w o)
  go_enter Tryd.func68, Tryd.ntmps68
  go_wp2
  exact ⟨rfl, u, _, rfl, BA.out⟩
end Go.Proofs.YtdifkjmpdmlobaaDoor
set_option linter.unusedVariables false
set_option linter.unusedSimpArgs false
namespace Go.Proofs.YtdifkjmpdmlobaaDoor
open Go.RowKit
/-- A guest of the law's: its number and its texts, behind variables. -/
structure MdB (w : World) (Qn Ql : Nat) (n : Int) (a : Option Addr) (t c : Nat) (l : List ByteArray) : Prop where
  qn : w.heap[Qn]? = some (.cells #[.int .i64 n] 3 (0, 0))
  ql : w.heap[Ql]? = some (.cells #[.slice a t c] 61 (0, 0))
  s : StrsIn w a l
  len : l.length = t
  cap : t ≤ c
theorem MdB.below {w w' : World} {Qn Ql : Nat} {n : Int} {a : Option Addr} {t c : Nat} {l : List ByteArray} (h : MdB w Qn Ql n a t c l) (hb : Below w.heap.size w w') : MdB w' Qn Ql n a t c l :=
  ⟨blk_below h.qn hb, blk_below h.ql hb, h.s.below hb, h.len, h.cap⟩
theorem made_any (n : Int) (l : List ByteArray) (a : Option Addr) (t c : Nat) (w : World) (hT : l.length = t) (hc : t ≤ c) (hs : StrsIn w a l) :
    Calls Tryd.prog 33 #[.int .i64 n, .slice a t c] w fun e w' => ∃ Qn Ql, e = .returned (.func (.func 65) #[] #[.pointer (some ⟨Qn, 0, none⟩), .pointer (some ⟨Ql, 0, none⟩)]) ∧ MdB w' Qn Ql n a t c l ∧ Below w.heap.size w w' := by
  have hmf : ∀ (fn : Fn) (first cap : Array Value) (w : World), (Instr.makeFunc fn first cap).run Tryd.prog w = .ok (.func fn first cap) w := fun _ _ _ _ => rfl
  have b1 := below_alloc w (.cells #[.int .i64 n] 3)
  have r1 := heap_alloc_new w (.cells #[.int .i64 n] 3)
  have b2 := below_alloc (w.alloc (.cells #[.int .i64 n] 3)) (.cells #[.slice a t c] 61)
  have r2 := heap_alloc_new (w.alloc (.cells #[.int .i64 n] 3)) (.cells #[.slice a t c] 61)
  rw [show (w.alloc (.cells #[.int .i64 n] 3)).heap.size = w.heap.size + 1 by simp] at r2
  have HM := Lib.hid (MdB.mk (n := n) (blk_below r1 b2) r2 (hs.below (seqB b1 b2)) hT hc)
  have HB := Lib.hid (seqB b1 b2)
  clear b1 r1 b2 r2 hs hT hc
  go_enter Tryd.func33, Tryd.ntmps33
  go_wp2
  go_ret
  exact ⟨_, _, rfl, HM.out, HB.out⟩
/-- What the guest does: it answers, or falls. -/
def MdPost (n : Int) (a : Option Addr) (t c : Nat) (l : List ByteArray) (e : Ending) : Prop :=
  (n = 0 ∧ e = .returned (.iface 118 (.agg #[.slice a t c]))) ∨ (n = 1 ∧ 0 < t ∧ e = .returned (.iface 120 (.agg #[.string (l.getD 0 ⟨#[]⟩)]))) ∨ (n = 1 ∧ t = 0 ∧ e = .returned (.iface 120 (.agg #[.string ⟨#[]⟩]))) ∨
  (n = 2 ∧ e = .returned .nilIface) ∨ (7 ≤ n ∧ n ≤ 20 ∧ e = .returned (.iface 122 (.agg #[.int .i64 (n - 7)]))) ∨ ((n < 0 ∨ (3 ≤ n ∧ n ≤ 6) ∨ 20 < n) ∧ ∃ u pv, e = .panicked [{ v := .iface u pv, recovered := false }])
set_option maxHeartbeats 8000000 in
theorem made1_any (n : Int) (l : List ByteArray) (a : Option Addr) (t c Qn Ql B : Nat) (L : List (Int × Int)) (xa : Option Addr) (m xc : Nat) (x : Int) (w0 w : World) (hM : MdB w0 Qn Ql n a t c l) (hb0 : Below w0.heap.size w0 w) (hB : w0.heap.size ≤ B) (hBw : B ≤ w.heap.size) (hL : L.length = m) (hl : m ≤ 100000) (ht : t ≤ 100000) (ho : OwS w B (.slice xa m xc) L) :
    Calls Tryd.prog 65 #[.agg #[.slice xa m xc, .int .i64 x], .pointer (some ⟨Qn, 0, none⟩), .pointer (some ⟨Ql, 0, none⟩)] w fun e w' => MdPost n a t c l e ∧ Below B w w' := by
  obtain ⟨Qx, hQ⟩ : ∃ Q, w.heap.size = Q := ⟨_, rfl⟩
  have ba := below_alloc w (.cells #[.slice xa m xc, .int .i64 x] 42)
  have ra := heap_alloc_new w (.cells #[.slice xa m xc, .int .i64 x] 42)
  rw [hQ] at ra
  have HX : Hid (0 < m → ∃ g cur, xa = some ⟨g, 0, none⟩ ∧ B ≤ g ∧ g < Qx ∧ (w.alloc (.cells #[.slice xa m xc, .int .i64 x] 42)).heap[g]? = some (.cells cur 89 (0, 0)) ∧ m * 2 ≤ cur.size) := Lib.hid fun h0 => by
    have h2 := ho.2
    rw [hL] at h2
    rcases h2 with ⟨_, h⟩ | ⟨g, cap, cur, e, h1, hg, h3, h4, h5, h6⟩
    · omega
    · injection e with e1 e2 e3
      have := blk_lt hg
      exact ⟨g, cur, e1, h1, by omega, blk_below hg ba, by have h5 : cur.size = cap * 2 := h5; omega⟩
  obtain ⟨W, hW⟩ : ∃ W, w.alloc (.cells #[.slice xa m xc, .int .i64 x] 42) = W := ⟨_, rfl⟩
  rw [hW] at ba ra HX
  have HM := Lib.hid hM
  have HB0 := Lib.hid hb0
  have HB := Lib.hid hB
  have R0 := Lib.hid ra
  have N0 := Lib.hid (ba.mono hBw)
  have HQ := Lib.hid hQ
  have HBw := Lib.hid hBw
  clear hM hb0 hB ho hL ba ra hBw
  go_enter Tryd.func65, Tryd.ntmps65
  go_wp2_with fail
  clear hW hQ
  go_loopw [5] (fun iv wr => ∃ k : Nat, k ≤ m ∧ iv = .int .i64 (k : Int) ∧ Hid (0 < m → ∃ g cur, xa = some ⟨g, 0, none⟩ ∧ B ≤ g ∧ g < Qx ∧ wr.heap[g]? = some (.cells cur 89 (0, 0)) ∧ m * 2 ≤ cur.size) ∧ Hid (wr.heap[Qx]? = some (.cells #[.slice xa m xc, .int .i64 x] 42 (0, 0))) ∧ Hid (Below B w wr)) (fun iv _ => m - (intOf iv).toNat)
  case atStart => exact ⟨0, Nat.zero_le _, rfl, HX, R0, N0⟩
  case round =>
    obtain ⟨k, hk, rfl, HXr, HR, HBr⟩ := hrel
    clear HX R0 N0
    have y0 := cell_of_row _ _ 0 _ _ _ HR.out
    dsimp at y0
    by_cases hlt : k < m
    · have hk1 : (k : Int) < m := by omega
      have hk0 : (0 : Int) ≤ k := by omega
      obtain ⟨g, cur, rfl, hBg, hgQ, hg, hsz⟩ := HXr.out (by omega)
      obtain ⟨v0, hv0⟩ : ∃ v, cur[k * 2]? = some v := ⟨cur[k * 2]'(by omega), Array.getElem?_eq_getElem (by omega)⟩
      obtain ⟨v1, hv1⟩ : ∃ v, cur[k * 2 + 1]? = some v := ⟨cur[k * 2 + 1]'(by omega), Array.getElem?_eq_getElem (by omega)⟩
      have c0 : wr.cell? ⟨g, k * 2, none⟩ = some v0 := (cell_of_row _ g (k * 2) _ _ _ hg).trans hv0
      have hg2 := blk_set hg (k * 2) (.int .i64 122)
      have c1 : (wr.setCell ⟨g, k * 2, none⟩ (.int .i64 122)).cell? ⟨g, k * 2 + 1, none⟩ = some v1 := by
        rw [cell_of_row _ g (k * 2 + 1) _ _ _ hg2, Array.getElem?_setIfInBounds_ne (by omega)]; exact hv1
      have f0 := frozen_of_row _ g (k * 2) _ _ hg
      have f1 := frozen_of_row _ g (k * 2 + 1) _ _ hg2
      have hg3 := blk_set hg2 (k * 2 + 1) (.int .i64 0)
      have hne : Qx ≠ g := by omega
      have HR3 : Hid (((wr.setCell ⟨g, k * 2, none⟩ (.int .i64 122)).setCell ⟨g, k * 2 + 1, none⟩ (.int .i64 0)).heap[Qx]? = some (.cells #[.slice (some ⟨g, 0, none⟩) m xc, .int .i64 x] 42 (0, 0))) := Lib.hid (((Below.heap_setCell _ ⟨g, k * 2 + 1, none⟩ _ Qx hne).trans (Below.heap_setCell wr ⟨g, k * 2, none⟩ _ Qx hne)).trans HR.out)
      have HB3 : Hid (Below B w ((wr.setCell ⟨g, k * 2, none⟩ (.int .i64 122)).setCell ⟨g, k * 2 + 1, none⟩ (.int .i64 0))) := Lib.hid ((HBr.out.setCell (p := ⟨g, k * 2, none⟩) hBg _).setCell (p := ⟨g, k * 2 + 1, none⟩) hBg _)
      have HX3 : Hid (0 < m → ∃ g' cur, (some ⟨g, 0, none⟩ : Option Addr) = some ⟨g', 0, none⟩ ∧ B ≤ g' ∧ g' < Qx ∧ ((wr.setCell ⟨g, k * 2, none⟩ (.int .i64 122)).setCell ⟨g, k * 2 + 1, none⟩ (.int .i64 0)).heap[g']? = some (.cells cur 89 (0, 0)) ∧ m * 2 ≤ cur.size) := Lib.hid fun _ => ⟨g, _, rfl, hBg, hgQ, hg3, by rw [Array.size_setIfInBounds, Array.size_setIfInBounds]; exact hsz⟩
      clear hv0 hv1 hg hg2 hg3 hsz HXr HR hne hBg hgQ
      go_wp2_with fail
      go_roundw
      case rel => exact ⟨k + 1, by omega, by go_num, HX3, HR3, HB3⟩
      case measure => (simp [intOf]; try omega)
    · obtain rfl : k = m := by omega
      have hk1 : ¬ (k : Int) < k := by omega
      have hMr := HM.out.below (HB0.out.trans (HBr.out.mono HB.out))
      have q0 := cell_of_row _ _ 0 _ _ _ hMr.qn
      have q1 := cell_of_row _ _ 0 _ _ _ hMr.ql
      have qs := Lib.hid hMr.s
      have HMr := Lib.hid hMr.len
      dsimp at q0 q1
      clear hMr HM HB0 HXr HR
      by_cases n0 : n = 0
      · subst n0
        clear HMr qs
        go_wp2_with fail
        go_ret
        exact ⟨Or.inl ⟨rfl, rfl⟩, HBr.out⟩
      have b0 : (n == 0) = false := beq_eq_false_iff_ne.2 n0
      by_cases n1 : n = 1
      · subst n1
        by_cases t0 : 0 < t
        · have t1 : (0 : Int) < t := by omega
          obtain ⟨bs, os, rfl, hbs, cs⟩ := qs.out 0 (by rw [HMr.out]; exact t0)
          rw [Nat.add_zero] at cs
          clear HMr qs hbs
          go_wp2_with fail
          go_ret
          exact ⟨Or.inr (Or.inl ⟨rfl, t0, rfl⟩), HBr.out⟩
        · obtain rfl : t = 0 := by omega
          clear HMr qs
          go_wp2_with fail
          go_ret
          exact ⟨Or.inr (Or.inr (Or.inl ⟨rfl, rfl, rfl⟩)), HBr.out⟩
      have b1 : (n == 1) = false := beq_eq_false_iff_ne.2 n1
      by_cases n2 : n = 2
      · subst n2
        clear HMr qs
        go_wp2_with fail
        go_ret
        exact ⟨Or.inr (Or.inr (Or.inr (Or.inl ⟨rfl, rfl⟩))), HBr.out⟩
      have b2 : (n == 2) = false := beq_eq_false_iff_ne.2 n2
      by_cases n3 : n = 3
      · subst n3
        clear HMr qs
        go_wp2_with fail
        exact ⟨rfl, Or.inr (Or.inr (Or.inr (Or.inr (Or.inr ⟨by omega, _, _, rfl⟩)))), HBr.out⟩
      have b3 : (n == 3) = false := beq_eq_false_iff_ne.2 n3
      by_cases n4 : n = 4
      · subst n4
        clear HMr qs
        go_wp2_with fail
        exact ⟨rfl, Or.inr (Or.inr (Or.inr (Or.inr (Or.inr ⟨by omega, _, _, rfl⟩)))), HBr.out⟩
      have b4 : (n == 4) = false := beq_eq_false_iff_ne.2 n4
      by_cases n7 : 7 ≤ n
      · by_cases n20 : n ≤ 20
        · clear HMr qs
          go_wp2_with fail
          go_ret
          exact ⟨Or.inr (Or.inr (Or.inr (Or.inr (Or.inl ⟨n7, n20, rfl⟩)))), HBr.out⟩
        · clear HMr qs
          go_wp2_with fail
          exact ⟨rfl, Or.inr (Or.inr (Or.inr (Or.inr (Or.inr ⟨by omega, _, _, rfl⟩)))), HBr.out⟩
      · clear HMr qs
        go_wp2_with fail
        exact ⟨rfl, Or.inr (Or.inr (Or.inr (Or.inr (Or.inr ⟨by omega, _, _, rfl⟩)))), HBr.out⟩
end Go.Proofs.YtdifkjmpdmlobaaDoor
set_option linter.unusedVariables false
set_option linter.unusedSimpArgs false
namespace Go.Proofs.YtdifkjmpdmlobaaDoor
open Go.RowKit
/-- Which guests fall. -/
def panN (n : Int) : Prop := n < 0 ∨ (3 ≤ n ∧ n ≤ 6) ∨ 20 < n
/-- What a guest answers. -/
def AnsV (n : Int) (a : Option Addr) (t c : Nat) (l : List ByteArray) (v : Value) : Prop :=
  (n = 0 ∧ v = .iface 118 (.agg #[.slice a t c])) ∨ (n = 1 ∧ 0 < t ∧ v = .iface 120 (.agg #[.string (l.getD 0 ⟨#[]⟩)])) ∨ (n = 1 ∧ t = 0 ∧ v = .iface 120 (.agg #[.string ⟨#[]⟩])) ∨
  (n = 2 ∧ v = .nilIface) ∨ (7 ≤ n ∧ n ≤ 20 ∧ v = .iface 122 (.agg #[.int .i64 (n - 7)]))
theorem md_ret {n : Int} {a : Option Addr} {t c : Nat} {l : List ByteArray} {e : Ending} (h : MdPost n a t c l e) (hp : ¬ panN n) : ∃ v, e = .returned v ∧ AnsV n a t c l v := by
  unfold MdPost at h
  unfold panN at hp
  rcases h with ⟨h, rfl⟩ | ⟨h, h2, rfl⟩ | ⟨h, h2, rfl⟩ | ⟨h, rfl⟩ | ⟨h, h2, rfl⟩ | ⟨h, _⟩
  · exact ⟨_, rfl, Or.inl ⟨h, rfl⟩⟩
  · exact ⟨_, rfl, Or.inr (Or.inl ⟨h, h2, rfl⟩)⟩
  · exact ⟨_, rfl, Or.inr (Or.inr (Or.inl ⟨h, h2, rfl⟩))⟩
  · exact ⟨_, rfl, Or.inr (Or.inr (Or.inr (Or.inl ⟨h, rfl⟩)))⟩
  · exact ⟨_, rfl, Or.inr (Or.inr (Or.inr (Or.inr ⟨h, h2, rfl⟩)))⟩
  · exact absurd h hp
theorem md_pan {n : Int} {a : Option Addr} {t c : Nat} {l : List ByteArray} {e : Ending} (h : MdPost n a t c l e) (hp : panN n) : ∃ u pv, e = .panicked [{ v := .iface u pv, recovered := false }] := by
  unfold MdPost at h
  unfold panN at hp
  rcases h with ⟨h, rfl⟩ | ⟨h, h2, rfl⟩ | ⟨h, h2, rfl⟩ | ⟨h, rfl⟩ | ⟨h, h2, rfl⟩ | ⟨_, h⟩
  all_goals first | omega | exact h
section
variable {n : Int} {l : List ByteArray} {a : Option Addr} {t c Qn Ql B : Nat} {L : List (Int × Int)} {xa : Option Addr} {m xc : Nat} {x : Int} {w0 w : World}
theorem offer_ret (hp : ¬ panN n) (hM : MdB w0 Qn Ql n a t c l) (hb0 : Below w0.heap.size w0 w) (hB : w0.heap.size ≤ B) (hBw : B ≤ w.heap.size) (hL : L.length = m) (hl : m ≤ 100000) (ht : t ≤ 100000) (ho : OwS w B (.slice xa m xc) L) :
    Calls Tryd.prog 165 #[.func (.func 65) #[] #[.pointer (some ⟨Qn, 0, none⟩), .pointer (some ⟨Ql, 0, none⟩)], .agg #[.slice xa m xc, .int .i64 x]] w fun e w' => ∃ v, e = .returned v ∧ AnsV n a t c l v ∧ Below B w w' := by
  have ba := below_alloc w (.cells #[.slice xa m xc, .int .i64 x] 42)
  have MD := Lib.hid (made1_any n l a t c Qn Ql B L xa m xc x w0 (w.alloc (.cells #[.slice xa m xc, .int .i64 x] 42)) hM (hb0.trans (ba.mono hb0.size)) hB (Nat.le_trans hBw ba.size) hL hl ht (ows_keep ho ba))
  have N0 := Lib.hid (ba.mono hBw)
  have HP := Lib.hid hp
  clear hM hb0 hB hBw hL ho hp ba
  go_enter Tryd.func165, Tryd.ntmps165
  go_wp2_with (go_at_call 65; refine MD.out.mono ?_; rintro e w1 ⟨hm, hb⟩; obtain ⟨v, rfl, hv⟩ := md_ret hm HP.out; have HV := Lib.hid hv; have HB := Lib.hid (N0.out.trans hb); clear hm hv hb MD)
  go_ret
  exact ⟨v, rfl, HV.out, HB.out⟩
theorem offer_pan (hp : panN n) (hM : MdB w0 Qn Ql n a t c l) (hb0 : Below w0.heap.size w0 w) (hB : w0.heap.size ≤ B) (hBw : B ≤ w.heap.size) (hL : L.length = m) (hl : m ≤ 100000) (ht : t ≤ 100000) (ho : OwS w B (.slice xa m xc) L) :
    Calls Tryd.prog 165 #[.func (.func 65) #[] #[.pointer (some ⟨Qn, 0, none⟩), .pointer (some ⟨Ql, 0, none⟩)], .agg #[.slice xa m xc, .int .i64 x]] w (PnPost B w) := by
  have ba := below_alloc w (.cells #[.slice xa m xc, .int .i64 x] 42)
  have MD := Lib.hid (made1_any n l a t c Qn Ql B L xa m xc x w0 (w.alloc (.cells #[.slice xa m xc, .int .i64 x] 42)) hM (hb0.trans (ba.mono hb0.size)) hB (Nat.le_trans hBw ba.size) hL hl ht (ows_keep ho ba))
  have N0 := Lib.hid (ba.mono hBw)
  have HP := Lib.hid hp
  clear hM hb0 hB hBw hL ho hp ba
  go_enter Tryd.func165, Tryd.ntmps165
  go_wp2_with (go_at_call 65; refine MD.out.mono ?_; rintro e w1 ⟨hm, hb⟩; obtain ⟨u, pv, rfl⟩ := md_pan hm HP.out; have HB := Lib.hid (N0.out.trans hb); clear hm hb MD)
  exact ⟨rfl, u, pv, rfl, HB.out⟩
end
theorem gcatch_pan (p q : Addr) (x y : Value) (u : TypeId) (pv : Value) (older : List PanicEntry) (w : World) (hp : w.cell? p = some x) (hz : w.frozen? p = false) (hq : (w.setCell p (.slice none 0 0)).cell? q = some y) (hy : (w.setCell p (.slice none 0 0)).frozen? q = false) :
    CallsD Tryd.prog 108 #[.pointer (some p), .pointer (some q)] (.panicking ({ v := .iface u pv, recovered := false } :: older)) w fun e u' w' =>
      e = .returned (.tuple #[]) ∧ u' = .panicking ({ v := .iface u pv, recovered := true } :: older) ∧ w' = (w.setCell p (.slice none 0 0)).setCell q (.int .i64 11) := by
  refine callsD_of_wpS Tryd.func108 rfl fun c₀ cs hu => ?_
  apply wpS_seq
  apply wpS_region
  simp [wpOpsS, go_sem, recoverD, hu, Tryd.ntmps108, Exit.thenS]
  refine wpS_cond (t := true) (by simp [Act.eval, Array.replicate]) ?_
  simp only [if_true]
  apply wpS_region
  simp [wpOpsS, go_sem, hp, hz, hq, hy, bodyPostS, results, Tryd.results108]
theorem gcatch_idle (p q : Addr) (w : World) :
    CallsD Tryd.prog 108 #[.pointer (some p), .pointer (some q)] .returning w fun e u' w' => e = .returned (.tuple #[]) ∧ u' = .returning ∧ w' = w := by
  refine callsD_of_wpS Tryd.func108 rfl fun c₀ cs hu => ?_
  apply wpS_seq
  apply wpS_region
  simp [wpOpsS, go_sem, recoverD, hu, Tryd.ntmps108, Exit.thenS]
  refine wpS_cond (t := false) (by simp [Act.eval, Array.replicate]) ?_
  simp only [Bool.false_eq_true, if_false]
  refine wpS_of_wp (wp_skip ?_)
  cases c₀
  simp_all [bodyPostS, results, Tryd.results108]
end Go.Proofs.YtdifkjmpdmlobaaDoor
set_option linter.unusedVariables false
set_option linter.unusedSimpArgs false
namespace Go.Proofs.YtdifkjmpdmlobaaDoor
open Go.RowKit
/-- The asker's variables: who reads, and the guest. -/
structure AkB (w : World) (Qr Qg : Nat) (RF : Fn) (Qn Ql : Nat) : Prop where
  qr : w.heap[Qr]? = some (.cells #[.func RF #[] #[]] 114 (0, 0))
  qg : w.heap[Qg]? = some (.cells #[.iface 67 (.func (.func 65) #[] #[.pointer (some ⟨Qn, 0, none⟩), .pointer (some ⟨Ql, 0, none⟩)])] 112 (0, 0))
theorem AkB.below {w w' : World} {Qr Qg : Nat} {RF : Fn} {Qn Ql : Nat} (h : AkB w Qr Qg RF Qn Ql) (hb : Below w.heap.size w w') : AkB w' Qr Qg RF Qn Ql := ⟨blk_below h.qr hb, blk_below h.qg hb⟩
theorem nil_offer (v : Value) (k : Nat) (w : World) : (nilAhead (k + 1) 67 v "Offer").run Tryd.prog w = .ok (some false) w := by kernel_rfl
theorem far4 {w : World} {P Qr Qg Qx : Nat} {u v1 v2 v3 v4 : Value} (h1 : P ≠ Qr) (h2 : P ≠ Qg) (h3 : P ≠ Qx) (h : w.cell? ⟨Qr, 0, none⟩ = some v1 ∧ w.cell? ⟨Qg, 0, none⟩ = some v2 ∧ w.cell? ⟨Qx, 0, none⟩ = some v3 ∧ w.cell? ⟨Qx, 1, none⟩ = some v4) :
    (w.setCell ⟨P, 0, none⟩ u).cell? ⟨Qr, 0, none⟩ = some v1 ∧ (w.setCell ⟨P, 0, none⟩ u).cell? ⟨Qg, 0, none⟩ = some v2 ∧ (w.setCell ⟨P, 0, none⟩ u).cell? ⟨Qx, 0, none⟩ = some v3 ∧ (w.setCell ⟨P, 0, none⟩ u).cell? ⟨Qx, 1, none⟩ = some v4 :=
  ⟨(World.cell?_setCell_far w ⟨P, 0, none⟩ ⟨Qr, 0, none⟩ u h1).trans h.1, (World.cell?_setCell_far w ⟨P, 0, none⟩ ⟨Qg, 0, none⟩ u h2).trans h.2.1, (World.cell?_setCell_far w ⟨P, 0, none⟩ ⟨Qx, 0, none⟩ u h3).trans h.2.2.1, (World.cell?_setCell_far w ⟨P, 0, none⟩ ⟨Qx, 1, none⟩ u h3).trans h.2.2.2⟩
section
variable {n : Int} {l : List ByteArray} {a : Option Addr} {t c Qn Ql Qr Qg : Nat} {L : List (Int × Int)} {xa : Option Addr} {m xc : Nat} {x : Int} {w : World}
set_option maxHeartbeats 8000000 in
theorem ask1_ev (T : List ByteArray) (er : Int) (hp : ¬ panN n) (hK : AkB w Qr Qg (.func 64) Qn Ql) (hM : MdB w Qn Ql n a t c l) (hL : L.length = m) (hl : m ≤ 100000) (ht : t ≤ 100000) (hs : SlS (fun _ => True) w xa L xc)
    (hRd : ∀ v w1, AnsV n a t c l v → Below w.heap.size w w1 → Calls Tryd.prog 64 #[v] w1 (RsPost T er w1)) :
    Calls Tryd.prog 107 #[.agg #[.slice xa m xc, .int .i64 x], .pointer (some ⟨Qr, 0, none⟩), .pointer (some ⟨Qg, 0, none⟩)] w (RsPost T er w) := by
  have hmf : ∀ (fn : Fn) (first cap : Array Value) (w : World), (Instr.makeFunc fn first cap).run Tryd.prog w = .ok (.func fn first cap) w := fun _ _ _ _ => rfl
  have b1 := below_alloc w (.cells #[.slice xa m xc, .int .i64 x] 42)
  have r1 := heap_alloc_new w (.cells #[.slice xa m xc, .int .i64 x] 42)
  obtain ⟨w1, hw1⟩ : ∃ W, w.alloc (.cells #[.slice xa m xc, .int .i64 x] 42) = W := ⟨_, rfl⟩
  rw [hw1] at b1 r1
  have b2 := below_alloc w1 (.cells #[.slice none 0 0] 22)
  have r2 := heap_alloc_new w1 (.cells #[.slice none 0 0] 22)
  obtain ⟨w2, hw2⟩ : ∃ W, w1.alloc (.cells #[.slice none 0 0] 22) = W := ⟨_, rfl⟩
  rw [hw2] at b2 r2
  have b3 := below_alloc w2 (.cells #[.int .i64 0] 25)
  have r3 := heap_alloc_new w2 (.cells #[.int .i64 0] 25)
  obtain ⟨w3, hw3⟩ : ∃ W, w2.alloc (.cells #[.int .i64 0] 25) = W := ⟨_, rfl⟩
  rw [hw3] at b3 r3
  obtain ⟨Qx, hQx⟩ : ∃ Q, w.heap.size = Q := ⟨_, rfl⟩
  obtain ⟨P1, hP1⟩ : ∃ Q, w1.heap.size = Q := ⟨_, rfl⟩
  obtain ⟨P2, hP2⟩ : ∃ Q, w2.heap.size = Q := ⟨_, rfl⟩
  rw [hQx] at r1
  rw [hP1] at r2
  rw [hP2] at r3
  have HM := Lib.hid hM
  have HL := Lib.hid hL
  have HP := Lib.hid hp
  have HS := Lib.hid hs
  have HR := Lib.hid hRd
  have RX := Lib.hid (blk_below (blk_below r1 b2) b3)
  have RP := Lib.hid (blk_below r2 b3)
  have RQ := Lib.hid r3
  have N3 := Lib.hid (seqB (seqB b1 b2) b3)
  have AK := Lib.hid (hK.below N3.out)
  have HPQ : Hid (P1 < P2 ∧ P2 < w3.heap.size ∧ Qr < P1 ∧ Qg < P1 ∧ Qx < P1 ∧ w.heap.size ≤ P1) := Lib.hid (by have h1 := b1.size; have h2 := blk_lt r3; have h3 := blk_lt r2; have h4 := blk_lt hK.qr; have h5 := blk_lt hK.qg; have h6 := blk_lt r1; omega)
  clear hM hL hp hs hRd b1 r1 b2 r2 b3 r3 hK
  go_enter_defers Tryd.func107, Tryd.ntmps107
  go_upto_region 2 with fail
  clear hw1 hw2 hw3 hQx hP1 hP2
  have D0 : Hid (Below w3.heap.size w3 w3.drew) := Lib.hid (Below.refl _ _).drew
  have CE : Hid (∀ wx, Below w3.heap.size w3 wx → wx.cell? ⟨Qr, 0, none⟩ = some (.func (.func 64) #[] #[]) ∧ wx.cell? ⟨Qg, 0, none⟩ = some (.iface 67 (.func (.func 65) #[] #[.pointer (some ⟨Qn, 0, none⟩), .pointer (some ⟨Ql, 0, none⟩)])) ∧ wx.cell? ⟨Qx, 0, none⟩ = some (.slice xa m xc) ∧ wx.cell? ⟨Qx, 1, none⟩ = some (.int .i64 x)) := Lib.hid fun wx b => by
    have h := AK.out.below b
    have h2 := blk_below RX.out b
    exact ⟨cell_of_row _ _ 0 _ _ _ h.qr, cell_of_row _ _ 0 _ _ _ h.qg, cell_of_row _ _ 0 _ _ _ h2, cell_of_row _ _ 1 _ _ _ h2⟩
  have e0 := CE.out _ (Below.refl _ w3)
  have CL := Lib.hid (clone_sg L xa m xc _ w3.drew HL.out (by omega) (HS.out.below (N3.out.trans (D0.out.mono N3.out.size))))
  have OF := Lib.hid fun (b : Option Addr) (d : Nat) (w4 : World) (b4 : Below w3.heap.size w3 w4) (ho : OwS w4 w3.heap.size (.slice b m d) L) => offer_ret (x := x) (xc := d) (xa := b) HP.out HM.out (N3.out.trans (b4.mono N3.out.size)) N3.out.size b4.size HL.out hl ht ho
  have hna := nil_offer (.func (.func 65) #[] #[.pointer (some ⟨Qn, 0, none⟩), .pointer (some ⟨Ql, 0, none⟩)])
  go_region_held3 (fun w' => w'.cell? ⟨Qr, 0, none⟩ = some (.func (.func 64) #[] #[]) ∧ w'.cell? ⟨Qg, 0, none⟩ = some (.iface 67 (.func (.func 65) #[] #[.pointer (some ⟨Qn, 0, none⟩), .pointer (some ⟨Ql, 0, none⟩)])) ∧ w'.cell? ⟨Qx, 0, none⟩ = some (.slice xa m xc) ∧ w'.cell? ⟨Qx, 1, none⟩ = some (.int .i64 x)) (first | exact e0 | exact e4 | exact e5 | exact e6 | exact e9 | exact e10 | go_keep)
    (first
      | (go_at_call 55; refine CL.out.mono ?_; rintro e w4 ⟨b4, d4, rfl, ho, hb⟩; have D4 : Below w3.heap.size w3 w4 := D0.out.trans hb; have O4 : Hid (OwS w4 w3.heap.size (.slice b4 m d4) L) := Lib.hid ho; have e4 := CE.out _ D4; have D4 := Lib.hid D4; clear ho hb CL)
      | (go_at_call 165; refine (OF.out _ _ _ D4.out O4.out).mono ?_; rintro e w5 ⟨v5, rfl, hv, hb⟩; have D5 : Below w3.heap.size w3 w5 := D4.out.trans hb; have V5 := Lib.hid hv; have e5 := CE.out _ D5; have D5 := Lib.hid D5; clear hv hb OF)
      | (go_at_call 64; refine (HR.out _ _ V5.out (N3.out.trans (D5.out.mono N3.out.size))).mono ?_; rintro e w6 ⟨b6, m6, d6, rfl, hm6, hs6, hb⟩; have D6 : Below w3.heap.size w3 w6 := D5.out.trans (hb.mono D5.out.size); have S6 := Lib.hid (hs6.mono (Q := fun k => w3.heap.size ≤ k ∧ k < w6.heap.size) (fun k hk => ⟨Nat.le_trans D5.out.size hk.1, hk.2⟩)); have M6 := Lib.hid hm6; have e6 := CE.out _ D6; have p6 := blk_below RP.out D6; have q6 := blk_below RQ.out D6; have yp := cell_of_row _ _ 0 _ _ _ p6; have fp := frozen_of_row _ P1 0 _ _ p6; dsimp at yp; have q7 := (Below.heap_setCell w6 ⟨P1, 0, none⟩ (.slice b6 m6 d6) P2 (by have := HPQ.out; show P2 ≠ P1; omega)).trans q6; have yq := cell_of_row _ _ 0 _ _ _ q7; have fq := frozen_of_row _ P2 0 _ _ q7; dsimp at yq; have e9 := far4 (w := w6) (P := P1) (u := .slice b6 m6 d6) (by have := HPQ.out; omega) (by have := HPQ.out; omega) (by have := HPQ.out; omega) e6; have e10 := far4 (w := w6.setCell ⟨P1, 0, none⟩ (.slice b6 m6 d6)) (P := P2) (u := .int .i64 er) (by have := HPQ.out; omega) (by have := HPQ.out; omega) (by have := HPQ.out; omega) e9; have D6 := Lib.hid D6; clear hm6 hs6 hb p6 q6 q7 HR))
  all_goals
    have p6 := blk_below RP.out D6.out
    have q6 := blk_below RQ.out D6.out
    have p7 := blk_set p6 0 (.slice b6 m6 d6)
    have hne : P1 ≠ P2 := by have := HPQ.out; omega
    have p8 := (Below.heap_setCell (w6.setCell ⟨P1, 0, none⟩ (.slice b6 m6 d6)) ⟨P2, 0, none⟩ (.int .i64 er) P1 hne).trans p7
    have q7 := (Below.heap_setCell w6 ⟨P1, 0, none⟩ (.slice b6 m6 d6) P2 hne.symm).trans q6
    have q8 := blk_set q7 0 (.int .i64 er)
    have z1 := cell_of_row _ _ 0 _ _ _ p8
    have z2 := cell_of_row _ _ 0 _ _ _ q8
    replace z1 : ((w6.setCell ⟨P1, 0, none⟩ (.slice b6 m6 d6)).setCell ⟨P2, 0, none⟩ (.int .i64 er)).cell? ⟨P1, 0, none⟩ = some (.slice b6 m6 d6) := z1
    replace z2 : ((w6.setCell ⟨P1, 0, none⟩ (.slice b6 m6 d6)).setCell ⟨P2, 0, none⟩ (.int .i64 er)).cell? ⟨P2, 0, none⟩ = some (.int .i64 er) := z2
    have NF : Below w.heap.size w ((w6.setCell ⟨P1, 0, none⟩ (.slice b6 m6 d6)).setCell ⟨P2, 0, none⟩ (.int .i64 er)) := ((N3.out.trans (D6.out.mono N3.out.size)).setCell (p := ⟨P1, 0, none⟩) (by have := HPQ.out; show w.heap.size ≤ P1; omega) _).setCell (p := ⟨P2, 0, none⟩) (by have := HPQ.out; show w.heap.size ≤ P2; omega) _
    have SF : SgsK (fun k => w.heap.size ≤ k ∧ k < ((w6.setCell ⟨P1, 0, none⟩ (.slice b6 m6 d6)).setCell ⟨P2, 0, none⟩ (.int .i64 er)).heap.size) ((w6.setCell ⟨P1, 0, none⟩ (.slice b6 m6 d6)).setCell ⟨P2, 0, none⟩ (.int .i64 er)) b6 (tL T) := by
      have h := HPQ.out
      have hz : ((w6.setCell ⟨P1, 0, none⟩ (.slice b6 m6 d6)).setCell ⟨P2, 0, none⟩ (.int .i64 er)).heap.size = w6.heap.size := by simp [World.setCell]
      refine (S6.out.keep (by rw [hz]; exact Nat.le_refl _) (fun k hk => (Below.heap_setCell _ ⟨P2, 0, none⟩ _ k (by show k ≠ P2; omega)).trans (Below.heap_setCell w6 ⟨P1, 0, none⟩ _ k (by show k ≠ P1; omega)))).mono (fun k hk => ⟨by have := N3.out.size; omega, by rw [hz]; exact hk.2⟩)
    have NF := Lib.hid NF
    have SF := Lib.hid SF
    clear p6 q6 p7 p8 q7 q8
    go_wp2_with fail
    refine leaves_cons (f := 108) (args := #[.pointer (some ⟨P1, 0, none⟩), .pointer (some ⟨P2, 0, none⟩)]) (by simp) (by simp [go_sem]) ?_
    refine (gcatch_idle ⟨P1, 0, none⟩ ⟨P2, 0, none⟩ _).mono ?_
    rintro e u' w'' ⟨rfl, rfl, rfl⟩
    simp [Leaves, settle, results, Tryd.results107, go_sem, z1, z2]
    exact ⟨b6, m6, d6, rfl, M6.out, SF.out, NF.out⟩
end
end Go.Proofs.YtdifkjmpdmlobaaDoor
set_option linter.unusedVariables false
set_option linter.unusedSimpArgs false
namespace Go.Proofs.YtdifkjmpdmlobaaDoor
open Go.RowKit
section
variable {n : Int} {l : List ByteArray} {a : Option Addr} {t c Qn Ql Qr Qg : Nat} {L : List (Int × Int)} {xa : Option Addr} {m xc : Nat} {x : Int} {w : World}
set_option maxHeartbeats 8000000 in
theorem ask1_li (T : List ByteArray) (er : Int) (hp : ¬ panN n) (hK : AkB w Qr Qg (.func 68) Qn Ql) (hM : MdB w Qn Ql n a t c l) (hL : L.length = m) (hl : m ≤ 100000) (ht : t ≤ 100000) (hs : SlS (fun _ => True) w xa L xc)
    (hRd : ∀ v w1, AnsV n a t c l v → Below w.heap.size w w1 → Calls Tryd.prog 68 #[v] w1 (RsPost T er w1)) :
    Calls Tryd.prog 107 #[.agg #[.slice xa m xc, .int .i64 x], .pointer (some ⟨Qr, 0, none⟩), .pointer (some ⟨Qg, 0, none⟩)] w (RsPost T er w) := by
  have hmf : ∀ (fn : Fn) (first cap : Array Value) (w : World), (Instr.makeFunc fn first cap).run Tryd.prog w = .ok (.func fn first cap) w := fun _ _ _ _ => rfl
  have b1 := below_alloc w (.cells #[.slice xa m xc, .int .i64 x] 42)
  have r1 := heap_alloc_new w (.cells #[.slice xa m xc, .int .i64 x] 42)
  obtain ⟨w1, hw1⟩ : ∃ W, w.alloc (.cells #[.slice xa m xc, .int .i64 x] 42) = W := ⟨_, rfl⟩
  rw [hw1] at b1 r1
  have b2 := below_alloc w1 (.cells #[.slice none 0 0] 22)
  have r2 := heap_alloc_new w1 (.cells #[.slice none 0 0] 22)
  obtain ⟨w2, hw2⟩ : ∃ W, w1.alloc (.cells #[.slice none 0 0] 22) = W := ⟨_, rfl⟩
  rw [hw2] at b2 r2
  have b3 := below_alloc w2 (.cells #[.int .i64 0] 25)
  have r3 := heap_alloc_new w2 (.cells #[.int .i64 0] 25)
  obtain ⟨w3, hw3⟩ : ∃ W, w2.alloc (.cells #[.int .i64 0] 25) = W := ⟨_, rfl⟩
  rw [hw3] at b3 r3
  obtain ⟨Qx, hQx⟩ : ∃ Q, w.heap.size = Q := ⟨_, rfl⟩
  obtain ⟨P1, hP1⟩ : ∃ Q, w1.heap.size = Q := ⟨_, rfl⟩
  obtain ⟨P2, hP2⟩ : ∃ Q, w2.heap.size = Q := ⟨_, rfl⟩
  rw [hQx] at r1
  rw [hP1] at r2
  rw [hP2] at r3
  have HM := Lib.hid hM
  have HL := Lib.hid hL
  have HP := Lib.hid hp
  have HS := Lib.hid hs
  have HR := Lib.hid hRd
  have RX := Lib.hid (blk_below (blk_below r1 b2) b3)
  have RP := Lib.hid (blk_below r2 b3)
  have RQ := Lib.hid r3
  have N3 := Lib.hid (seqB (seqB b1 b2) b3)
  have AK := Lib.hid (hK.below N3.out)
  have HPQ : Hid (P1 < P2 ∧ P2 < w3.heap.size ∧ Qr < P1 ∧ Qg < P1 ∧ Qx < P1 ∧ w.heap.size ≤ P1) := Lib.hid (by have h1 := b1.size; have h2 := blk_lt r3; have h3 := blk_lt r2; have h4 := blk_lt hK.qr; have h5 := blk_lt hK.qg; have h6 := blk_lt r1; omega)
  clear hM hL hp hs hRd b1 r1 b2 r2 b3 r3 hK
  go_enter_defers Tryd.func107, Tryd.ntmps107
  go_upto_region 2 with fail
  clear hw1 hw2 hw3 hQx hP1 hP2
  have D0 : Hid (Below w3.heap.size w3 w3.drew) := Lib.hid (Below.refl _ _).drew
  have CE : Hid (∀ wx, Below w3.heap.size w3 wx → wx.cell? ⟨Qr, 0, none⟩ = some (.func (.func 68) #[] #[]) ∧ wx.cell? ⟨Qg, 0, none⟩ = some (.iface 67 (.func (.func 65) #[] #[.pointer (some ⟨Qn, 0, none⟩), .pointer (some ⟨Ql, 0, none⟩)])) ∧ wx.cell? ⟨Qx, 0, none⟩ = some (.slice xa m xc) ∧ wx.cell? ⟨Qx, 1, none⟩ = some (.int .i64 x)) := Lib.hid fun wx b => by
    have h := AK.out.below b
    have h2 := blk_below RX.out b
    exact ⟨cell_of_row _ _ 0 _ _ _ h.qr, cell_of_row _ _ 0 _ _ _ h.qg, cell_of_row _ _ 0 _ _ _ h2, cell_of_row _ _ 1 _ _ _ h2⟩
  have e0 := CE.out _ (Below.refl _ w3)
  have CL := Lib.hid (clone_sg L xa m xc _ w3.drew HL.out (by omega) (HS.out.below (N3.out.trans (D0.out.mono N3.out.size))))
  have OF := Lib.hid fun (b : Option Addr) (d : Nat) (w4 : World) (b4 : Below w3.heap.size w3 w4) (ho : OwS w4 w3.heap.size (.slice b m d) L) => offer_ret (x := x) (xc := d) (xa := b) HP.out HM.out (N3.out.trans (b4.mono N3.out.size)) N3.out.size b4.size HL.out hl ht ho
  have hna := nil_offer (.func (.func 65) #[] #[.pointer (some ⟨Qn, 0, none⟩), .pointer (some ⟨Ql, 0, none⟩)])
  go_region_held3 (fun w' => w'.cell? ⟨Qr, 0, none⟩ = some (.func (.func 68) #[] #[]) ∧ w'.cell? ⟨Qg, 0, none⟩ = some (.iface 67 (.func (.func 65) #[] #[.pointer (some ⟨Qn, 0, none⟩), .pointer (some ⟨Ql, 0, none⟩)])) ∧ w'.cell? ⟨Qx, 0, none⟩ = some (.slice xa m xc) ∧ w'.cell? ⟨Qx, 1, none⟩ = some (.int .i64 x)) (first | exact e0 | exact e4 | exact e5 | exact e6 | exact e9 | exact e10 | go_keep)
    (first
      | (go_at_call 55; refine CL.out.mono ?_; rintro e w4 ⟨b4, d4, rfl, ho, hb⟩; have D4 : Below w3.heap.size w3 w4 := D0.out.trans hb; have O4 : Hid (OwS w4 w3.heap.size (.slice b4 m d4) L) := Lib.hid ho; have e4 := CE.out _ D4; have D4 := Lib.hid D4; clear ho hb CL)
      | (go_at_call 165; refine (OF.out _ _ _ D4.out O4.out).mono ?_; rintro e w5 ⟨v5, rfl, hv, hb⟩; have D5 : Below w3.heap.size w3 w5 := D4.out.trans hb; have V5 := Lib.hid hv; have e5 := CE.out _ D5; have D5 := Lib.hid D5; clear hv hb OF)
      | (go_at_call 68; refine (HR.out _ _ V5.out (N3.out.trans (D5.out.mono N3.out.size))).mono ?_; rintro e w6 ⟨b6, m6, d6, rfl, hm6, hs6, hb⟩; have D6 : Below w3.heap.size w3 w6 := D5.out.trans (hb.mono D5.out.size); have S6 := Lib.hid (hs6.mono (Q := fun k => w3.heap.size ≤ k ∧ k < w6.heap.size) (fun k hk => ⟨Nat.le_trans D5.out.size hk.1, hk.2⟩)); have M6 := Lib.hid hm6; have e6 := CE.out _ D6; have p6 := blk_below RP.out D6; have q6 := blk_below RQ.out D6; have yp := cell_of_row _ _ 0 _ _ _ p6; have fp := frozen_of_row _ P1 0 _ _ p6; dsimp at yp; have q7 := (Below.heap_setCell w6 ⟨P1, 0, none⟩ (.slice b6 m6 d6) P2 (by have := HPQ.out; show P2 ≠ P1; omega)).trans q6; have yq := cell_of_row _ _ 0 _ _ _ q7; have fq := frozen_of_row _ P2 0 _ _ q7; dsimp at yq; have e9 := far4 (w := w6) (P := P1) (u := .slice b6 m6 d6) (by have := HPQ.out; omega) (by have := HPQ.out; omega) (by have := HPQ.out; omega) e6; have e10 := far4 (w := w6.setCell ⟨P1, 0, none⟩ (.slice b6 m6 d6)) (P := P2) (u := .int .i64 er) (by have := HPQ.out; omega) (by have := HPQ.out; omega) (by have := HPQ.out; omega) e9; have D6 := Lib.hid D6; clear hm6 hs6 hb p6 q6 q7 HR))
  all_goals
    have p6 := blk_below RP.out D6.out
    have q6 := blk_below RQ.out D6.out
    have p7 := blk_set p6 0 (.slice b6 m6 d6)
    have hne : P1 ≠ P2 := by have := HPQ.out; omega
    have p8 := (Below.heap_setCell (w6.setCell ⟨P1, 0, none⟩ (.slice b6 m6 d6)) ⟨P2, 0, none⟩ (.int .i64 er) P1 hne).trans p7
    have q7 := (Below.heap_setCell w6 ⟨P1, 0, none⟩ (.slice b6 m6 d6) P2 hne.symm).trans q6
    have q8 := blk_set q7 0 (.int .i64 er)
    have z1 := cell_of_row _ _ 0 _ _ _ p8
    have z2 := cell_of_row _ _ 0 _ _ _ q8
    replace z1 : ((w6.setCell ⟨P1, 0, none⟩ (.slice b6 m6 d6)).setCell ⟨P2, 0, none⟩ (.int .i64 er)).cell? ⟨P1, 0, none⟩ = some (.slice b6 m6 d6) := z1
    replace z2 : ((w6.setCell ⟨P1, 0, none⟩ (.slice b6 m6 d6)).setCell ⟨P2, 0, none⟩ (.int .i64 er)).cell? ⟨P2, 0, none⟩ = some (.int .i64 er) := z2
    have NF : Below w.heap.size w ((w6.setCell ⟨P1, 0, none⟩ (.slice b6 m6 d6)).setCell ⟨P2, 0, none⟩ (.int .i64 er)) := ((N3.out.trans (D6.out.mono N3.out.size)).setCell (p := ⟨P1, 0, none⟩) (by have := HPQ.out; show w.heap.size ≤ P1; omega) _).setCell (p := ⟨P2, 0, none⟩) (by have := HPQ.out; show w.heap.size ≤ P2; omega) _
    have SF : SgsK (fun k => w.heap.size ≤ k ∧ k < ((w6.setCell ⟨P1, 0, none⟩ (.slice b6 m6 d6)).setCell ⟨P2, 0, none⟩ (.int .i64 er)).heap.size) ((w6.setCell ⟨P1, 0, none⟩ (.slice b6 m6 d6)).setCell ⟨P2, 0, none⟩ (.int .i64 er)) b6 (tL T) := by
      have h := HPQ.out
      have hz : ((w6.setCell ⟨P1, 0, none⟩ (.slice b6 m6 d6)).setCell ⟨P2, 0, none⟩ (.int .i64 er)).heap.size = w6.heap.size := by simp [World.setCell]
      refine (S6.out.keep (by rw [hz]; exact Nat.le_refl _) (fun k hk => (Below.heap_setCell _ ⟨P2, 0, none⟩ _ k (by show k ≠ P2; omega)).trans (Below.heap_setCell w6 ⟨P1, 0, none⟩ _ k (by show k ≠ P1; omega)))).mono (fun k hk => ⟨by have := N3.out.size; omega, by rw [hz]; exact hk.2⟩)
    have NF := Lib.hid NF
    have SF := Lib.hid SF
    clear p6 q6 p7 p8 q7 q8
    go_wp2_with fail
    refine leaves_cons (f := 108) (args := #[.pointer (some ⟨P1, 0, none⟩), .pointer (some ⟨P2, 0, none⟩)]) (by simp) (by simp [go_sem]) ?_
    refine (gcatch_idle ⟨P1, 0, none⟩ ⟨P2, 0, none⟩ _).mono ?_
    rintro e u' w'' ⟨rfl, rfl, rfl⟩
    simp [Leaves, settle, results, Tryd.results107, go_sem, z1, z2]
    exact ⟨b6, m6, d6, rfl, M6.out, SF.out, NF.out⟩
end
end Go.Proofs.YtdifkjmpdmlobaaDoor
set_option linter.unusedVariables false
set_option linter.unusedSimpArgs false
namespace Go.Proofs.YtdifkjmpdmlobaaDoor
open Go.RowKit
/-- A post that says of a fall what hangs on some slots alone. -/
def PanQ (Q : Exit → Act → World → Prop) (P0 : Act → Prop) (R : World → Prop) : Exit → Act → World → Prop
  | .panic c, a, w => P0 a ∧ (∃ u pv, c = [{ v := .iface u pv, recovered := false }]) ∧ R w
  | e, a, w => Q e a w
theorem wp_pan {P : Program} {code : Code} {Q : Exit → Act → World → Prop} {a : Act} {w : World} (P0 : Act → Prop) (R : World → Prop) (hR : ∀ u pv a w, P0 a → R w → Q (.panic [{ v := .iface u pv, recovered := false }]) a w) (h : code.wp P (PanQ Q P0 R) a w) : code.wp P Q a w :=
  Code.wp_mono (fun e a w h => by
    cases e with
    | panic c =>
      obtain ⟨h1, ⟨u, pv, rfl⟩, h3⟩ := h
      exact hR u pv a w h1 h3
    | _ => exact h) h
/-- What the slots are. -/
structure SlP (D : List Deferred) (v4 v5 : Value) (a : Act) : Prop where
  d : a.defers = D
  s4 : a.tmps[4]? = some v4
  s5 : a.tmps[5]? = some v5
theorem SlP.put {D : List Deferred} {v4 v5 : Value} {a : Act} {d : Nat} {v : Value} (h : SlP D v4 v5 (a.put (some d) v)) (h4 : d ≠ 4) (h5 : d ≠ 5) : SlP D v4 v5 a := by
  obtain ⟨h1, h2, h3⟩ := h
  simp only [Act.put] at h1 h2 h3
  rw [Array.getElem?_setIfInBounds_ne h4] at h2
  rw [Array.getElem?_setIfInBounds_ne h5] at h3
  exact ⟨h1, h2, h3⟩
theorem pan_put {Q : Exit → Act → World → Prop} {D : List Deferred} {v4 v5 : Value} {R : World → Prop} (d : Nat) (v : Value) (h4 : d ≠ 4) (h5 : d ≠ 5) : ∀ c a w, PanQ Q (SlP D v4 v5) R (.panic c) (a.put (some d) v) w → PanQ Q (SlP D v4 v5) R (.panic c) a w := fun c a w h => ⟨h.1.put h4 h5, h.2⟩
section
variable {n : Int} {l : List ByteArray} {a : Option Addr} {t c Qn Ql Qr Qg : Nat} {L : List (Int × Int)} {xa : Option Addr} {m xc : Nat} {x : Int} {w : World}
set_option maxHeartbeats 8000000 in
theorem ask1_pan {RF : Fn} (hp : panN n) (hK : AkB w Qr Qg RF Qn Ql) (hM : MdB w Qn Ql n a t c l) (hL : L.length = m) (hl : m ≤ 100000) (ht : t ≤ 100000) (hs : SlS (fun _ => True) w xa L xc) :
    Calls Tryd.prog 107 #[.agg #[.slice xa m xc, .int .i64 x], .pointer (some ⟨Qr, 0, none⟩), .pointer (some ⟨Qg, 0, none⟩)] w (RsPost [] 11 w) := by
  have hmf : ∀ (fn : Fn) (first cap : Array Value) (w : World), (Instr.makeFunc fn first cap).run Tryd.prog w = .ok (.func fn first cap) w := fun _ _ _ _ => rfl
  have b1 := below_alloc w (.cells #[.slice xa m xc, .int .i64 x] 42)
  have r1 := heap_alloc_new w (.cells #[.slice xa m xc, .int .i64 x] 42)
  obtain ⟨w1, hw1⟩ : ∃ W, w.alloc (.cells #[.slice xa m xc, .int .i64 x] 42) = W := ⟨_, rfl⟩
  rw [hw1] at b1 r1
  have b2 := below_alloc w1 (.cells #[.slice none 0 0] 22)
  have r2 := heap_alloc_new w1 (.cells #[.slice none 0 0] 22)
  obtain ⟨w2, hw2⟩ : ∃ W, w1.alloc (.cells #[.slice none 0 0] 22) = W := ⟨_, rfl⟩
  rw [hw2] at b2 r2
  have b3 := below_alloc w2 (.cells #[.int .i64 0] 25)
  have r3 := heap_alloc_new w2 (.cells #[.int .i64 0] 25)
  obtain ⟨w3, hw3⟩ : ∃ W, w2.alloc (.cells #[.int .i64 0] 25) = W := ⟨_, rfl⟩
  rw [hw3] at b3 r3
  obtain ⟨Qx, hQx⟩ : ∃ Q, w.heap.size = Q := ⟨_, rfl⟩
  obtain ⟨P1, hP1⟩ : ∃ Q, w1.heap.size = Q := ⟨_, rfl⟩
  obtain ⟨P2, hP2⟩ : ∃ Q, w2.heap.size = Q := ⟨_, rfl⟩
  rw [hQx] at r1
  rw [hP1] at r2
  rw [hP2] at r3
  have HM := Lib.hid hM
  have HL := Lib.hid hL
  have HP := Lib.hid hp
  have HS := Lib.hid hs
  have RX := Lib.hid (blk_below (blk_below r1 b2) b3)
  have RP := Lib.hid (blk_below r2 b3)
  have RQ := Lib.hid r3
  have N3 := Lib.hid (seqB (seqB b1 b2) b3)
  have AK := Lib.hid (hK.below N3.out)
  have HPQ : Hid (P1 < P2 ∧ P2 < w3.heap.size ∧ Qr < P1 ∧ Qg < P1 ∧ Qx < P1 ∧ w.heap.size ≤ P1) := Lib.hid (by have h1 := b1.size; have h2 := blk_lt r3; have h3 := blk_lt r2; have h4 := blk_lt hK.qr; have h5 := blk_lt hK.qg; have h6 := blk_lt r1; omega)
  clear hM hL hp hs b1 r1 b2 r2 b3 r3 hK
  go_enter_defers Tryd.func107, Tryd.ntmps107
  go_upto_region 2 with fail
  clear hw1 hw2 hw3 hQx hP1 hP2
  have D0 : Hid (Below w3.heap.size w3 w3.drew) := Lib.hid (Below.refl _ _).drew
  have CE : Hid (∀ wx, Below w3.heap.size w3 wx → wx.cell? ⟨Qr, 0, none⟩ = some (.func RF #[] #[]) ∧ wx.cell? ⟨Qg, 0, none⟩ = some (.iface 67 (.func (.func 65) #[] #[.pointer (some ⟨Qn, 0, none⟩), .pointer (some ⟨Ql, 0, none⟩)])) ∧ wx.cell? ⟨Qx, 0, none⟩ = some (.slice xa m xc) ∧ wx.cell? ⟨Qx, 1, none⟩ = some (.int .i64 x)) := Lib.hid fun wx b => by
    have h := AK.out.below b
    have h2 := blk_below RX.out b
    exact ⟨cell_of_row _ _ 0 _ _ _ h.qr, cell_of_row _ _ 0 _ _ _ h.qg, cell_of_row _ _ 0 _ _ _ h2, cell_of_row _ _ 1 _ _ _ h2⟩
  have e0 := CE.out _ (Below.refl _ w3)
  have CL := Lib.hid (clone_sg L xa m xc _ w3.drew HL.out (by omega) (HS.out.below (N3.out.trans (D0.out.mono N3.out.size))))
  have OF := Lib.hid fun (b : Option Addr) (d : Nat) (w4 : World) (b4 : Below w3.heap.size w3 w4) (ho : OwS w4 w3.heap.size (.slice b m d) L) => offer_pan (x := x) (xc := d) (xa := b) HP.out HM.out (N3.out.trans (b4.mono N3.out.size)) N3.out.size b4.size HL.out hl ht ho
  have hna := nil_offer (.func (.func 65) #[] #[.pointer (some ⟨Qn, 0, none⟩), .pointer (some ⟨Ql, 0, none⟩)])
  obtain ⟨D, hD⟩ : ∃ D : List Deferred, D = [{ target := .fn (.func 108) #[.pointer (some ⟨P1, 0, none⟩), .pointer (some ⟨P2, 0, none⟩)], args := #[] }] := ⟨_, rfl⟩
  refine wp_pan (SlP D (.pointer (some ⟨P1, 0, none⟩)) (.pointer (some ⟨P2, 0, none⟩))) (fun w' => Below w3.heap.size w3 w') ?_ ?_
  · intro u pv a' w' ⟨h1, h4, h5⟩ hb
    have p6 := blk_below RP.out hb
    have q6 := blk_below RQ.out hb
    have p7 := blk_set p6 0 (.slice none 0 0)
    have hne : P1 ≠ P2 := by have := HPQ.out; omega
    have p8 := (Below.heap_setCell (w'.setCell ⟨P1, 0, none⟩ (.slice none 0 0)) ⟨P2, 0, none⟩ (.int .i64 11) P1 hne).trans p7
    have q7 := (Below.heap_setCell w' ⟨P1, 0, none⟩ (.slice none 0 0) P2 hne.symm).trans q6
    have q8 := blk_set q7 0 (.int .i64 11)
    have z1 : ((w'.setCell ⟨P1, 0, none⟩ (.slice none 0 0)).setCell ⟨P2, 0, none⟩ (.int .i64 11)).cell? ⟨P1, 0, none⟩ = some (.slice none 0 0) := cell_of_row _ _ 0 _ _ _ p8
    have z2 : ((w'.setCell ⟨P1, 0, none⟩ (.slice none 0 0)).setCell ⟨P2, 0, none⟩ (.int .i64 11)).cell? ⟨P2, 0, none⟩ = some (.int .i64 11) := cell_of_row _ _ 0 _ _ _ q8
    have NF : Below w.heap.size w ((w'.setCell ⟨P1, 0, none⟩ (.slice none 0 0)).setCell ⟨P2, 0, none⟩ (.int .i64 11)) := ((N3.out.trans (hb.mono N3.out.size)).setCell (p := ⟨P1, 0, none⟩) (by have := HPQ.out; show w.heap.size ≤ P1; omega) _).setCell (p := ⟨P2, 0, none⟩) (by have := HPQ.out; show w.heap.size ≤ P2; omega) _
    have c1 : w'.cell? ⟨P1, 0, none⟩ = some (.slice none 0 0) := cell_of_row _ _ 0 _ _ _ p6
    have f1 := frozen_of_row _ P1 0 _ _ p6
    have c2 : (w'.setCell ⟨P1, 0, none⟩ (.slice none 0 0)).cell? ⟨P2, 0, none⟩ = some (.int .i64 0) := cell_of_row _ _ 0 _ _ _ q7
    have f2 := frozen_of_row _ P2 0 _ _ q7
    obtain ⟨tm, df⟩ := a'
    replace h1 : df = D := h1
    replace h4 : tm[4]? = some (.pointer (some ⟨P1, 0, none⟩)) := h4
    replace h5 : tm[5]? = some (.pointer (some ⟨P2, 0, none⟩)) := h5
    subst h1
    subst hD
    show Leaves Tryd.prog Tryd.f107 tm (RsPost [] 11 w) _ (.panicking [{ v := .iface u pv, recovered := false }]) w'
    refine leaves_cons (f := 108) (args := #[.pointer (some ⟨P1, 0, none⟩), .pointer (some ⟨P2, 0, none⟩)]) (by simp) (by simp [go_sem]) ?_
    refine (gcatch_pan ⟨P1, 0, none⟩ ⟨P2, 0, none⟩ _ _ u pv [] w' c1 f1 c2 f2).mono ?_
    rintro e u' w'' ⟨rfl, rfl, rfl⟩
    have g4 : tm.getD 4 undef = .pointer (some ⟨P1, 0, none⟩) := by rw [Array.getD_eq_getD_getElem?, h4]; rfl
    have g5 : tm.getD 5 undef = .pointer (some ⟨P2, 0, none⟩) := by rw [Array.getD_eq_getD_getElem?, h5]; rfl
    simp [Leaves, settle, results, Tryd.results107, go_sem, h4, h5, g4, g5, z1, z2]
    exact ⟨none, 0, 0, rfl, rfl, sgs_nil _ _ _, NF⟩
  refine wp_region_held_drew (S := fun w' => w'.cell? ⟨Qr, 0, none⟩ = some (.func RF #[] #[]) ∧ w'.cell? ⟨Qg, 0, none⟩ = some (.iface 67 (.func (.func 65) #[] #[.pointer (some ⟨Qn, 0, none⟩), .pointer (some ⟨Ql, 0, none⟩)])) ∧ w'.cell? ⟨Qx, 0, none⟩ = some (.slice xa m xc) ∧ w'.cell? ⟨Qx, 1, none⟩ = some (.int .i64 x)) (by kernel_rfl) e0 (fun hHeld => ?_)
  have hna := nil_offer (.func (.func 65) #[] #[.pointer (some ⟨Qn, 0, none⟩), .pointer (some ⟨Ql, 0, none⟩)])
  refine wpAnyH_take (i := 0) (v := ?v0) rfl (by kernel_rfl) (by kernel_rfl) (by kernel_rfl) (pan_put 7 _ (by decide) (by decide)) (Or.inl ⟨by rfl, ?y0⟩) (by assumption) ?r0
  case y0 =>
    intro w hSw
    try dsimp only at hSw
    go_simp
    all_goals with_reducible rfl
  try simp only [Act.put, List.getElem_toArray, List.getElem_cons_zero, List.getElem_cons_succ, List.setIfInBounds_toArray, List.set_cons_zero, List.set_cons_succ]
  refine wpAnyH_take (i := 1) (v := ?v1) rfl (by kernel_rfl) (by kernel_rfl) (by kernel_rfl) (pan_put 8 _ (by decide) (by decide)) (Or.inl ⟨by rfl, ?y1⟩) (by assumption) ?r1
  case y1 =>
    intro w hSw
    try dsimp only at hSw
    go_simp
    all_goals with_reducible rfl
  try simp only [Act.put, List.getElem_toArray, List.getElem_cons_zero, List.getElem_cons_succ, List.setIfInBounds_toArray, List.set_cons_zero, List.set_cons_succ]
  refine wpAnyH_take (i := 2) (v := ?v2) rfl (by kernel_rfl) (by kernel_rfl) (by kernel_rfl) (pan_put 9 _ (by decide) (by decide)) (Or.inl ⟨by rfl, ?y2⟩) (by assumption) ?r2
  case y2 =>
    intro w hSw
    try dsimp only at hSw
    go_simp
    all_goals with_reducible rfl
  try simp only [Act.put, List.getElem_toArray, List.getElem_cons_zero, List.getElem_cons_succ, List.setIfInBounds_toArray, List.set_cons_zero, List.set_cons_succ]
  refine wpAnyH_take (i := 3) (v := ?v3) rfl (by kernel_rfl) (by kernel_rfl) (by kernel_rfl) (pan_put 10 _ (by decide) (by decide)) (Or.inl ⟨by rfl, ?y3⟩) (by assumption) ?r3
  case y3 =>
    intro w hSw
    try dsimp only at hSw
    go_simp
    all_goals with_reducible rfl
  try simp only [Act.put, List.getElem_toArray, List.getElem_cons_zero, List.getElem_cons_succ, List.setIfInBounds_toArray, List.set_cons_zero, List.set_cons_succ]
  refine wpAnyH_take (i := 5) (v := ?v5) rfl (by kernel_rfl) (by kernel_rfl) (by kernel_rfl) (pan_put 12 _ (by decide) (by decide)) (Or.inl ⟨by rfl, ?y5⟩) (by assumption) ?r5
  case y5 =>
    intro w hSw
    try dsimp only at hSw
    go_simp
    all_goals with_reducible rfl
  try simp only [Act.put, List.getElem_toArray, List.getElem_cons_zero, List.getElem_cons_succ, List.setIfInBounds_toArray, List.set_cons_zero, List.set_cons_succ]
  refine wpAnyH_take (i := 6) (v := ?v6) rfl (by kernel_rfl) (by kernel_rfl) (by kernel_rfl) (pan_put 13 _ (by decide) (by decide)) (Or.inl ⟨by rfl, ?y6⟩) (by assumption) ?r6
  case y6 =>
    intro w hSw
    try dsimp only at hSw
    go_simp
    all_goals with_reducible rfl
  try simp only [Act.put, List.getElem_toArray, List.getElem_cons_zero, List.getElem_cons_succ, List.setIfInBounds_toArray, List.set_cons_zero, List.set_cons_succ]
  refine wpAnyH_take (i := 8) (v := ?v8) rfl (by kernel_rfl) (by kernel_rfl) (by kernel_rfl) (pan_put 15 _ (by decide) (by decide)) (Or.inl ⟨by rfl, ?y8⟩) (by assumption) ?r8
  case y8 =>
    intro w hSw
    try dsimp only at hSw
    go_simp
    all_goals with_reducible rfl
  try simp only [Act.put, List.getElem_toArray, List.getElem_cons_zero, List.getElem_cons_succ, List.setIfInBounds_toArray, List.set_cons_zero, List.set_cons_succ]
  refine wpAnyH_take (i := 9) (v := ?v9) rfl (by kernel_rfl) (by kernel_rfl) (by kernel_rfl) (pan_put 16 _ (by decide) (by decide)) (Or.inl ⟨by rfl, ?y9⟩) (by assumption) ?r9
  case y9 =>
    intro w hSw
    try dsimp only at hSw
    go_simp
    all_goals with_reducible rfl
  try simp only [Act.put, List.getElem_toArray, List.getElem_cons_zero, List.getElem_cons_succ, List.setIfInBounds_toArray, List.set_cons_zero, List.set_cons_succ]
  refine wpAnyH_take (i := 10) (v := ?v10) rfl (by kernel_rfl) (by kernel_rfl) (by kernel_rfl) (pan_put 17 _ (by decide) (by decide)) (Or.inl ⟨by rfl, ?y10⟩) (by assumption) ?r10
  case y10 =>
    intro w hSw
    try dsimp only at hSw
    go_simp
    all_goals with_reducible rfl
  try simp only [Act.put, List.getElem_toArray, List.getElem_cons_zero, List.getElem_cons_succ, List.setIfInBounds_toArray, List.set_cons_zero, List.set_cons_succ]
  refine wpAnyH_ready (rs := [4]) (by kernel_rfl) (by simp) ?_
  refine AllReadyH.cons rfl (fun K hK => ?_) AllReadyH.nil
  go_simp
  go_at_call 55
  refine CL.out.mono ?_
  rintro e w4 ⟨b4, d4, rfl, ho, hb⟩
  have D4 : Below w3.heap.size w3 w4 := D0.out.trans hb
  have O4 : Hid (OwS w4 w3.heap.size (.slice b4 m d4) L) := Lib.hid ho
  have e4 := CE.out _ D4
  have D4 := Lib.hid D4
  clear ho hb CL
  refine hK.out _ _ e4 (fun hHeld4 => ?_)
  clear hK K hHeld
  try simp only [Act.put, List.getElem_toArray, List.getElem_cons_zero, List.getElem_cons_succ, List.setIfInBounds_toArray, List.set_cons_zero, List.set_cons_succ]
  refine wpAnyH_take (i := 7) (v := ?v7) rfl (by kernel_rfl) (by kernel_rfl) (by kernel_rfl) (pan_put 14 _ (by decide) (by decide)) (Or.inl ⟨by rfl, ?y7⟩) (by assumption) ?r7
  case y7 =>
    intro w hSw
    try dsimp only at hSw
    go_simp
    all_goals with_reducible rfl
  try simp only [Act.put, List.getElem_toArray, List.getElem_cons_zero, List.getElem_cons_succ, List.setIfInBounds_toArray, List.set_cons_zero, List.set_cons_succ]
  refine wpAnyH_ready (rs := [11]) (by kernel_rfl) (by simp) ?_
  refine AllReadyH.cons rfl (fun K hK => ?_) AllReadyH.nil
  go_simp
  go_wp2_with (go_at_call 165; refine (OF.out _ _ _ D4.out O4.out).mono ?_; rintro e w5 ⟨u, pv, rfl, hb⟩)
  exact ⟨⟨rfl, rfl, rfl⟩, ⟨u, pv, rfl⟩, D4.out.trans hb⟩
end
end Go.Proofs.YtdifkjmpdmlobaaDoor
set_option linter.unusedVariables false
set_option linter.unusedSimpArgs false
namespace Go.Proofs.YtdifkjmpdmlobaaDoor
open Go.RowKit
section
variable {n : Int} {l : List ByteArray} {a : Option Addr} {t c Qn Ql Qr Qg : Nat} {L : List (Int × Int)} {xa : Option Addr} {m xc : Nat} {x : Int} {w : World}
set_option maxHeartbeats 8000000 in
theorem ask1_pan2 (hp : ¬ panN n) (hK : AkB w Qr Qg (.func 68) Qn Ql) (hM : MdB w Qn Ql n a t c l) (hL : L.length = m) (hl : m ≤ 100000) (ht : t ≤ 100000) (hs : SlS (fun _ => True) w xa L xc)
    (hRd : ∀ v w1, AnsV n a t c l v → Calls Tryd.prog 68 #[v] w1 (PnPost w1.heap.size w1)) :
    Calls Tryd.prog 107 #[.agg #[.slice xa m xc, .int .i64 x], .pointer (some ⟨Qr, 0, none⟩), .pointer (some ⟨Qg, 0, none⟩)] w (RsPost [] 11 w) := by
  have hmf : ∀ (fn : Fn) (first cap : Array Value) (w : World), (Instr.makeFunc fn first cap).run Tryd.prog w = .ok (.func fn first cap) w := fun _ _ _ _ => rfl
  have b1 := below_alloc w (.cells #[.slice xa m xc, .int .i64 x] 42)
  have r1 := heap_alloc_new w (.cells #[.slice xa m xc, .int .i64 x] 42)
  obtain ⟨w1, hw1⟩ : ∃ W, w.alloc (.cells #[.slice xa m xc, .int .i64 x] 42) = W := ⟨_, rfl⟩
  rw [hw1] at b1 r1
  have b2 := below_alloc w1 (.cells #[.slice none 0 0] 22)
  have r2 := heap_alloc_new w1 (.cells #[.slice none 0 0] 22)
  obtain ⟨w2, hw2⟩ : ∃ W, w1.alloc (.cells #[.slice none 0 0] 22) = W := ⟨_, rfl⟩
  rw [hw2] at b2 r2
  have b3 := below_alloc w2 (.cells #[.int .i64 0] 25)
  have r3 := heap_alloc_new w2 (.cells #[.int .i64 0] 25)
  obtain ⟨w3, hw3⟩ : ∃ W, w2.alloc (.cells #[.int .i64 0] 25) = W := ⟨_, rfl⟩
  rw [hw3] at b3 r3
  obtain ⟨Qx, hQx⟩ : ∃ Q, w.heap.size = Q := ⟨_, rfl⟩
  obtain ⟨P1, hP1⟩ : ∃ Q, w1.heap.size = Q := ⟨_, rfl⟩
  obtain ⟨P2, hP2⟩ : ∃ Q, w2.heap.size = Q := ⟨_, rfl⟩
  rw [hQx] at r1
  rw [hP1] at r2
  rw [hP2] at r3
  have HM := Lib.hid hM
  have HL := Lib.hid hL
  have HP := Lib.hid hp
  have HS := Lib.hid hs
  have HR := Lib.hid hRd
  have RX := Lib.hid (blk_below (blk_below r1 b2) b3)
  have RP := Lib.hid (blk_below r2 b3)
  have RQ := Lib.hid r3
  have N3 := Lib.hid (seqB (seqB b1 b2) b3)
  have AK := Lib.hid (hK.below N3.out)
  have HPQ : Hid (P1 < P2 ∧ P2 < w3.heap.size ∧ Qr < P1 ∧ Qg < P1 ∧ Qx < P1 ∧ w.heap.size ≤ P1) := Lib.hid (by have h1 := b1.size; have h2 := blk_lt r3; have h3 := blk_lt r2; have h4 := blk_lt hK.qr; have h5 := blk_lt hK.qg; have h6 := blk_lt r1; omega)
  clear hM hL hp hs hRd b1 r1 b2 r2 b3 r3 hK
  go_enter_defers Tryd.func107, Tryd.ntmps107
  go_upto_region 2 with fail
  clear hw1 hw2 hw3 hQx hP1 hP2
  have D0 : Hid (Below w3.heap.size w3 w3.drew) := Lib.hid (Below.refl _ _).drew
  have CE : Hid (∀ wx, Below w3.heap.size w3 wx → wx.cell? ⟨Qr, 0, none⟩ = some (.func (.func 68) #[] #[]) ∧ wx.cell? ⟨Qg, 0, none⟩ = some (.iface 67 (.func (.func 65) #[] #[.pointer (some ⟨Qn, 0, none⟩), .pointer (some ⟨Ql, 0, none⟩)])) ∧ wx.cell? ⟨Qx, 0, none⟩ = some (.slice xa m xc) ∧ wx.cell? ⟨Qx, 1, none⟩ = some (.int .i64 x)) := Lib.hid fun wx b => by
    have h := AK.out.below b
    have h2 := blk_below RX.out b
    exact ⟨cell_of_row _ _ 0 _ _ _ h.qr, cell_of_row _ _ 0 _ _ _ h.qg, cell_of_row _ _ 0 _ _ _ h2, cell_of_row _ _ 1 _ _ _ h2⟩
  have e0 := CE.out _ (Below.refl _ w3)
  have CL := Lib.hid (clone_sg L xa m xc _ w3.drew HL.out (by omega) (HS.out.below (N3.out.trans (D0.out.mono N3.out.size))))
  have OF := Lib.hid fun (b : Option Addr) (d : Nat) (w4 : World) (b4 : Below w3.heap.size w3 w4) (ho : OwS w4 w3.heap.size (.slice b m d) L) => offer_ret (x := x) (xc := d) (xa := b) HP.out HM.out (N3.out.trans (b4.mono N3.out.size)) N3.out.size b4.size HL.out hl ht ho
  have hna := nil_offer (.func (.func 65) #[] #[.pointer (some ⟨Qn, 0, none⟩), .pointer (some ⟨Ql, 0, none⟩)])
  obtain ⟨D, hD⟩ : ∃ D : List Deferred, D = [{ target := .fn (.func 108) #[.pointer (some ⟨P1, 0, none⟩), .pointer (some ⟨P2, 0, none⟩)], args := #[] }] := ⟨_, rfl⟩
  refine wp_pan (SlP D (.pointer (some ⟨P1, 0, none⟩)) (.pointer (some ⟨P2, 0, none⟩))) (fun w' => Below w3.heap.size w3 w') ?_ ?_
  · intro u pv a' w' ⟨h1, h4, h5⟩ hb
    have p6 := blk_below RP.out hb
    have q6 := blk_below RQ.out hb
    have p7 := blk_set p6 0 (.slice none 0 0)
    have hne : P1 ≠ P2 := by have := HPQ.out; omega
    have p8 := (Below.heap_setCell (w'.setCell ⟨P1, 0, none⟩ (.slice none 0 0)) ⟨P2, 0, none⟩ (.int .i64 11) P1 hne).trans p7
    have q7 := (Below.heap_setCell w' ⟨P1, 0, none⟩ (.slice none 0 0) P2 hne.symm).trans q6
    have q8 := blk_set q7 0 (.int .i64 11)
    have z1 : ((w'.setCell ⟨P1, 0, none⟩ (.slice none 0 0)).setCell ⟨P2, 0, none⟩ (.int .i64 11)).cell? ⟨P1, 0, none⟩ = some (.slice none 0 0) := cell_of_row _ _ 0 _ _ _ p8
    have z2 : ((w'.setCell ⟨P1, 0, none⟩ (.slice none 0 0)).setCell ⟨P2, 0, none⟩ (.int .i64 11)).cell? ⟨P2, 0, none⟩ = some (.int .i64 11) := cell_of_row _ _ 0 _ _ _ q8
    have NF : Below w.heap.size w ((w'.setCell ⟨P1, 0, none⟩ (.slice none 0 0)).setCell ⟨P2, 0, none⟩ (.int .i64 11)) := ((N3.out.trans (hb.mono N3.out.size)).setCell (p := ⟨P1, 0, none⟩) (by have := HPQ.out; show w.heap.size ≤ P1; omega) _).setCell (p := ⟨P2, 0, none⟩) (by have := HPQ.out; show w.heap.size ≤ P2; omega) _
    have c1 : w'.cell? ⟨P1, 0, none⟩ = some (.slice none 0 0) := cell_of_row _ _ 0 _ _ _ p6
    have f1 := frozen_of_row _ P1 0 _ _ p6
    have c2 : (w'.setCell ⟨P1, 0, none⟩ (.slice none 0 0)).cell? ⟨P2, 0, none⟩ = some (.int .i64 0) := cell_of_row _ _ 0 _ _ _ q7
    have f2 := frozen_of_row _ P2 0 _ _ q7
    obtain ⟨tm, df⟩ := a'
    replace h1 : df = D := h1
    replace h4 : tm[4]? = some (.pointer (some ⟨P1, 0, none⟩)) := h4
    replace h5 : tm[5]? = some (.pointer (some ⟨P2, 0, none⟩)) := h5
    subst h1
    subst hD
    show Leaves Tryd.prog Tryd.f107 tm (RsPost [] 11 w) _ (.panicking [{ v := .iface u pv, recovered := false }]) w'
    refine leaves_cons (f := 108) (args := #[.pointer (some ⟨P1, 0, none⟩), .pointer (some ⟨P2, 0, none⟩)]) (by simp) (by simp [go_sem]) ?_
    refine (gcatch_pan ⟨P1, 0, none⟩ ⟨P2, 0, none⟩ _ _ u pv [] w' c1 f1 c2 f2).mono ?_
    rintro e u' w'' ⟨rfl, rfl, rfl⟩
    have g4 : tm.getD 4 undef = .pointer (some ⟨P1, 0, none⟩) := by rw [Array.getD_eq_getD_getElem?, h4]; rfl
    have g5 : tm.getD 5 undef = .pointer (some ⟨P2, 0, none⟩) := by rw [Array.getD_eq_getD_getElem?, h5]; rfl
    simp [Leaves, settle, results, Tryd.results107, go_sem, h4, h5, g4, g5, z1, z2]
    exact ⟨none, 0, 0, rfl, rfl, sgs_nil _ _ _, NF⟩
  refine wp_region_held_drew (S := fun w' => w'.cell? ⟨Qr, 0, none⟩ = some (.func (.func 68) #[] #[]) ∧ w'.cell? ⟨Qg, 0, none⟩ = some (.iface 67 (.func (.func 65) #[] #[.pointer (some ⟨Qn, 0, none⟩), .pointer (some ⟨Ql, 0, none⟩)])) ∧ w'.cell? ⟨Qx, 0, none⟩ = some (.slice xa m xc) ∧ w'.cell? ⟨Qx, 1, none⟩ = some (.int .i64 x)) (by kernel_rfl) e0 (fun hHeld => ?_)
  have hna := nil_offer (.func (.func 65) #[] #[.pointer (some ⟨Qn, 0, none⟩), .pointer (some ⟨Ql, 0, none⟩)])
  refine wpAnyH_take (i := 0) (v := ?v0) rfl (by kernel_rfl) (by kernel_rfl) (by kernel_rfl) (pan_put 7 _ (by decide) (by decide)) (Or.inl ⟨by rfl, ?y0⟩) (by assumption) ?r0
  case y0 =>
    intro w hSw
    try dsimp only at hSw
    go_simp
    all_goals with_reducible rfl
  try simp only [Act.put, List.getElem_toArray, List.getElem_cons_zero, List.getElem_cons_succ, List.setIfInBounds_toArray, List.set_cons_zero, List.set_cons_succ]
  refine wpAnyH_take (i := 1) (v := ?v1) rfl (by kernel_rfl) (by kernel_rfl) (by kernel_rfl) (pan_put 8 _ (by decide) (by decide)) (Or.inl ⟨by rfl, ?y1⟩) (by assumption) ?r1
  case y1 =>
    intro w hSw
    try dsimp only at hSw
    go_simp
    all_goals with_reducible rfl
  try simp only [Act.put, List.getElem_toArray, List.getElem_cons_zero, List.getElem_cons_succ, List.setIfInBounds_toArray, List.set_cons_zero, List.set_cons_succ]
  refine wpAnyH_take (i := 2) (v := ?v2) rfl (by kernel_rfl) (by kernel_rfl) (by kernel_rfl) (pan_put 9 _ (by decide) (by decide)) (Or.inl ⟨by rfl, ?y2⟩) (by assumption) ?r2
  case y2 =>
    intro w hSw
    try dsimp only at hSw
    go_simp
    all_goals with_reducible rfl
  try simp only [Act.put, List.getElem_toArray, List.getElem_cons_zero, List.getElem_cons_succ, List.setIfInBounds_toArray, List.set_cons_zero, List.set_cons_succ]
  refine wpAnyH_take (i := 3) (v := ?v3) rfl (by kernel_rfl) (by kernel_rfl) (by kernel_rfl) (pan_put 10 _ (by decide) (by decide)) (Or.inl ⟨by rfl, ?y3⟩) (by assumption) ?r3
  case y3 =>
    intro w hSw
    try dsimp only at hSw
    go_simp
    all_goals with_reducible rfl
  try simp only [Act.put, List.getElem_toArray, List.getElem_cons_zero, List.getElem_cons_succ, List.setIfInBounds_toArray, List.set_cons_zero, List.set_cons_succ]
  refine wpAnyH_take (i := 5) (v := ?v5) rfl (by kernel_rfl) (by kernel_rfl) (by kernel_rfl) (pan_put 12 _ (by decide) (by decide)) (Or.inl ⟨by rfl, ?y5⟩) (by assumption) ?r5
  case y5 =>
    intro w hSw
    try dsimp only at hSw
    go_simp
    all_goals with_reducible rfl
  try simp only [Act.put, List.getElem_toArray, List.getElem_cons_zero, List.getElem_cons_succ, List.setIfInBounds_toArray, List.set_cons_zero, List.set_cons_succ]
  refine wpAnyH_take (i := 6) (v := ?v6) rfl (by kernel_rfl) (by kernel_rfl) (by kernel_rfl) (pan_put 13 _ (by decide) (by decide)) (Or.inl ⟨by rfl, ?y6⟩) (by assumption) ?r6
  case y6 =>
    intro w hSw
    try dsimp only at hSw
    go_simp
    all_goals with_reducible rfl
  try simp only [Act.put, List.getElem_toArray, List.getElem_cons_zero, List.getElem_cons_succ, List.setIfInBounds_toArray, List.set_cons_zero, List.set_cons_succ]
  refine wpAnyH_take (i := 8) (v := ?v8) rfl (by kernel_rfl) (by kernel_rfl) (by kernel_rfl) (pan_put 15 _ (by decide) (by decide)) (Or.inl ⟨by rfl, ?y8⟩) (by assumption) ?r8
  case y8 =>
    intro w hSw
    try dsimp only at hSw
    go_simp
    all_goals with_reducible rfl
  try simp only [Act.put, List.getElem_toArray, List.getElem_cons_zero, List.getElem_cons_succ, List.setIfInBounds_toArray, List.set_cons_zero, List.set_cons_succ]
  refine wpAnyH_take (i := 9) (v := ?v9) rfl (by kernel_rfl) (by kernel_rfl) (by kernel_rfl) (pan_put 16 _ (by decide) (by decide)) (Or.inl ⟨by rfl, ?y9⟩) (by assumption) ?r9
  case y9 =>
    intro w hSw
    try dsimp only at hSw
    go_simp
    all_goals with_reducible rfl
  try simp only [Act.put, List.getElem_toArray, List.getElem_cons_zero, List.getElem_cons_succ, List.setIfInBounds_toArray, List.set_cons_zero, List.set_cons_succ]
  refine wpAnyH_take (i := 10) (v := ?v10) rfl (by kernel_rfl) (by kernel_rfl) (by kernel_rfl) (pan_put 17 _ (by decide) (by decide)) (Or.inl ⟨by rfl, ?y10⟩) (by assumption) ?r10
  case y10 =>
    intro w hSw
    try dsimp only at hSw
    go_simp
    all_goals with_reducible rfl
  try simp only [Act.put, List.getElem_toArray, List.getElem_cons_zero, List.getElem_cons_succ, List.setIfInBounds_toArray, List.set_cons_zero, List.set_cons_succ]
  refine wpAnyH_ready (rs := [4]) (by kernel_rfl) (by simp) ?_
  refine AllReadyH.cons rfl (fun K hK => ?_) AllReadyH.nil
  go_simp
  go_at_call 55
  refine CL.out.mono ?_
  rintro e w4 ⟨b4, d4, rfl, ho, hb⟩
  have D4 : Below w3.heap.size w3 w4 := D0.out.trans hb
  have O4 : Hid (OwS w4 w3.heap.size (.slice b4 m d4) L) := Lib.hid ho
  have e4 := CE.out _ D4
  have D4 := Lib.hid D4
  clear ho hb CL
  refine hK.out _ _ e4 (fun hHeld4 => ?_)
  clear hK K hHeld
  try simp only [Act.put, List.getElem_toArray, List.getElem_cons_zero, List.getElem_cons_succ, List.setIfInBounds_toArray, List.set_cons_zero, List.set_cons_succ]
  refine wpAnyH_take (i := 7) (v := ?v7) rfl (by kernel_rfl) (by kernel_rfl) (by kernel_rfl) (pan_put 14 _ (by decide) (by decide)) (Or.inl ⟨by rfl, ?y7⟩) (by assumption) ?r7
  case y7 =>
    intro w hSw
    try dsimp only at hSw
    go_simp
    all_goals with_reducible rfl
  try simp only [Act.put, List.getElem_toArray, List.getElem_cons_zero, List.getElem_cons_succ, List.setIfInBounds_toArray, List.set_cons_zero, List.set_cons_succ]
  refine wpAnyH_ready (rs := [11]) (by kernel_rfl) (by simp) ?_
  refine AllReadyH.cons rfl (fun K hK => ?_) AllReadyH.nil
  go_simp
  go_wp2_with (go_at_call 165; refine (OF.out _ _ _ D4.out O4.out).mono ?_; rintro e w5 ⟨v5, rfl, hv, hb⟩)
  have D5 : Below w3.heap.size w3 w5 := D4.out.trans hb
  have V5 := Lib.hid hv
  have e5 := CE.out _ D5
  have D5 := Lib.hid D5
  clear hv hb OF
  refine hK.out _ _ e5 (fun hHeld5 => ?_)
  clear hK K hHeld4
  try simp only [Act.put, List.getElem_toArray, List.getElem_cons_zero, List.getElem_cons_succ, List.setIfInBounds_toArray, List.set_cons_zero, List.set_cons_succ]
  refine wpAnyH_ready (rs := [12]) (by kernel_rfl) (by simp) ?_
  refine AllReadyH.cons rfl (fun K hK => ?_) AllReadyH.nil
  go_simp
  go_wp2_with (go_at_call 68; refine (HR.out _ _ V5.out).mono ?_; rintro e w6 ⟨u, pv, rfl, hb⟩)
  exact ⟨⟨rfl, rfl, rfl⟩, ⟨u, pv, rfl⟩, D5.out.trans (hb.mono D5.out.size)⟩
end
end Go.Proofs.YtdifkjmpdmlobaaDoor
