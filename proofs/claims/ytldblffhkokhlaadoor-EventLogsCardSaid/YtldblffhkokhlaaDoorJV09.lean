/-
  Joined: Ev5 Ev6 Ev7 Ev8.
-/
import Derived.Test.YtldblffhkokhlaaDoorJV04
import Derived.Test.YtldblffhkokhlaaDoorJV05
import Derived.Test.YtldblffhkokhlaaDoorJV06
import Derived.Test.YtldblffhkokhlaaDoorJV07
import Derived.Test.YtldblffhkokhlaaDoorJV08
import Derived.Deep.RegionLaw
set_option linter.unusedVariables false
set_option linter.unusedSimpArgs false
set_option maxRecDepth 100000
set_option linter.unusedVariables false
set_option linter.unusedSimpArgs false
namespace Go.Proofs.YtldblffhkokhlaaDoor
open Go.RowKit
theorem infoStrE : (Tryd.prog.info? 9).map (fun i => (i.zero, i.size, i.bytes)) = some (some (.string ⟨#[]⟩), 1, 16) := by kernel_rfl
theorem own_stiE {w : World} {B : Nat} {v : Value} {E : List ByteArray} (h : w.ownsRow B 9 1 v E.length (E.map Value.string)) (hE : 0 < E.length) : ∃ a c, v = .slice a E.length c ∧ E.length ≤ c ∧ StI w a E := by
  rcases h.2 with ⟨rfl, h0⟩ | ⟨g, cap, cur, rfl, hBg, hg, r⟩
  · omega
  · refine ⟨_, cap, rfl, ?_, fun j hj => ⟨g, 0, rfl, blk_lt hg, ?_⟩⟩
    · exact r.1
    · rw [Nat.zero_add, h.cellAt j (by omega), List.getElem?_map, List.getD, List.getElem?_eq_getElem hj]; rfl
/-- Joined pieces. -/
theorem joK_joB (b : UInt8) (p : List UInt8) (ps : List (List UInt8)) : ∀ k, k ≤ ps.length → joK ⟨#[b]⟩ ((p :: ps).map mkL) (k + 1) = joB b p (ps.take k) := by
  intro k
  induction k with
  | zero => intro _; rw [List.take_zero, joB_nil]; rfl
  | succ k ih =>
    intro hk
    have h := ih (by omega)
    show joK ⟨#[b]⟩ ((p :: ps).map mkL) (k + 1) ++ [b] ++ bysL (((p :: ps).map mkL).getD (k + 1) ⟨#[]⟩) = _
    have e : ((p :: ps).map mkL).getD (k + 1) ⟨#[]⟩ = mkL (ps[k]) := by
      rw [List.getD, List.getElem?_map, List.getElem?_cons_succ, List.getElem?_eq_getElem (by omega)]; rfl
    rw [h, e, show bysL (mkL ps[k]) = ps[k] from rfl, List.take_succ_eq_append_getElem (by omega)]
    unfold joB
    rw [List.flatMap_append, List.flatMap_cons, List.flatMap_nil, List.append_nil, List.append_assoc, List.append_assoc]
    rfl
def evS (v : Ev) : List ByteArray := (evN v.1 :: evP v).map mkL
theorem evS_jo (v : Ev) : joK ⟨#[9]⟩ (evS v) (evS v).length = evT v := by
  have := joK_joB 9 (evN v.1) (evP v) (evP v).length (Nat.le_refl _)
  rw [List.take_length, ← evT_jo] at this
  rw [← this]
  unfold evS
  rw [List.length_map, List.length_cons]
theorem mem_jo (b : UInt8) (p : List UInt8) (ps : List (List UInt8)) (E : List ByteArray) (hE : E = (p :: ps).map mkL) (n : Nat) (hn : (joB b p ps).length ≤ n) (i : Nat) : (E.getD i ⟨#[]⟩).size ≤ n := by
  subst hE
  have h := joB_mem b p ps
  rw [List.getD, List.getElem?_map]
  by_cases hi : i < (p :: ps).length
  · rw [List.getElem?_eq_getElem hi]
    have hm := List.getElem_mem hi
    show (mkL (p :: ps)[i]).size ≤ n
    rw [mkL_size]
    rcases List.mem_cons.1 hm with e | e
    · rw [e]; omega
    · have := h.2 _ e; omega
  · rw [List.getElem?_eq_none (by omega)]; exact Nat.zero_le _
theorem evS_len {v : Ev} (h : evAb v.1 = true) : (evS v).length = 2 + (rnM v.2.1 v.2.1.length).length := by
  unfold evS evP
  rw [if_pos h, List.length_map, List.length_cons, List.length_cons, List.length_map]; omega
theorem evS_two {v : Ev} (h : evAb v.1 = true) : (evS v).take 2 = [mkL (evN v.1), mkL (decS v.2.2)] := by
  unfold evS evP
  rw [if_pos h]; rfl
theorem evS_next {v : Ev} (h : evAb v.1 = true) (i : Nat) (hi : i < (rnM v.2.1 v.2.1.length).length) : (evS v).take (2 + i + 1) = (evS v).take (2 + i) ++ [mkL (ruP v.2.1 ((rnM v.2.1 v.2.1.length).getD i (0, 0, 0)))] := by
  have hl := evS_len h
  rw [List.take_succ_eq_append_getElem (by omega)]
  congr 2
  have : (evS v)[2 + i]? = some (mkL (ruP v.2.1 ((rnM v.2.1 v.2.1.length).getD i (0, 0, 0)))) := by
    unfold evS evP
    rw [if_pos h, List.getElem?_map, show 2 + i = i + 1 + 1 by omega, List.getElem?_cons_succ, List.getElem?_cons_succ, List.getElem?_map, List.getElem?_eq_getElem hi, List.getD, List.getElem?_eq_getElem hi]; rfl
  exact (List.getElem?_eq_some_iff.1 this).2
theorem etext_bad (k : Int) (l : List (Int × Int)) (p : Int) (n : Nat) (a : Option Addr) (c : Nat) (w : World) (hn : l.length = n) (hK : EVT w) (hl : n ≤ 9223372036854775807) (hs : Signs w a l) (hm : evMay (k, l, p) = false) :
    Calls Tryd.prog 12 #[.agg #[.int .i64 k, .slice a n c, .int .i64 p]] w fun e w' => e = .returned (.tuple #[.string ⟨#[]⟩, .int .i64 2]) ∧ Below w.heap.size w w' := by
  have B0 := below_alloc w (.cells #[.int .i64 k, .slice a n c, .int .i64 p] 24)
  have hq := heap_alloc_new w (.cells #[.int .i64 k, .slice a n c, .int .i64 p] 24)
  obtain ⟨W0, hW0⟩ : ∃ W0, w.alloc (.cells #[.int .i64 k, .slice a n c, .int .i64 p] 24) = W0 := ⟨_, rfl⟩
  rw [hW0] at B0 hq
  have CH := Lib.hid (echeck_any k l p n a c W0 hn (hK.below B0) hl (hs.below B0))
  rw [evE_no hm] at CH
  have y := fun i => cell_of_row _ _ i _ _ _ hq
  have y0 := y 0; have y1 := y 1; have y2 := y 2
  dsimp at y0 y1 y2
  have NB := Lib.hid B0
  clear y hq B0 hK hs hm hn
  go_enter Tryd.func12, Tryd.ntmps12
  go_upto_region 1 with fail
  clear hW0
  go_wp2_with (go_at_call 16; refine CH.out.mono ?_; rintro e w1 ⟨rfl, hb1⟩)
  refine bodyPost_ret (v := .tuple #[.string ⟨#[]⟩, .int .i64 2]) (by simp [results, Tryd.results12, go_sem]) rfl ?_
  exact ⟨rfl, seqB NB.out hb1⟩
theorem ownst_form {w : World} {B n : Nat} {v : Value} {xs : List Value} (h : w.ownsRow B 9 1 v n xs) (hn : 0 < n) : ∃ a c, v = .slice a n c := by
  rcases h.2 with ⟨rfl, h0⟩ | ⟨g, cap, cur, rfl, _⟩
  · omega
  · exact ⟨_, cap, rfl⟩
theorem signs_cut {w : World} {a : Option Addr} {l : List (Int × Int)} {c f t : Nat} (h : Signs w a l) (hf : f ≤ t) (ht : t ≤ l.length) (hc : l.length ≤ c) : Signs w (if c = f then a else a.map (·.add (f * 2))) ((l.take t).drop f) := by
  intro i hi
  rw [List.length_drop, List.length_take] at hi
  obtain ⟨b, off, e, hb, h1, h2⟩ := h (f + i) (by omega)
  have hg : ((l.take t).drop f).getD i (0, 0) = l.getD (f + i) (0, 0) := by
    rw [List.getD, List.getElem?_drop, List.getElem?_take, if_pos (by omega), List.getD]
  rw [if_neg (by omega), e, hg]
  refine ⟨b, off + f * 2, ?_, hb, ?_, ?_⟩
  · have hadd : (⟨b, off, none⟩ : Addr).add (f * 2) = ⟨b, off + f * 2, none⟩ := by unfold Addr.add; split <;> simp_all
    simp only [Option.map_some, hadd]
  · rw [show off + f * 2 + i * 2 = off + (f + i) * 2 by omega]; exact h1
  · rw [show off + f * 2 + i * 2 + 1 = off + (f + i) * 2 + 1 by omega]; exact h2
set_option maxRecDepth 100000 in
set_option maxHeartbeats 8000000 in
theorem etext_good (k : Int) (l : List (Int × Int)) (p : Int) (n : Nat) (a : Option Addr) (c : Nat) (w : World) (hn : l.length = n) (hK : EVT w) (hl : n ≤ 1000) (hc : n ≤ c) (hs : Signs w a l) (hm : evMay (k, l, p) = true) :
    Calls Tryd.prog 12 #[.agg #[.int .i64 k, .slice a n c, .int .i64 p]] w fun e w' => e = .returned (.tuple #[.string (mkL (evT (k, l, p))), .int .i64 0]) ∧ Below w.heap.size w w' := by
  have B0 := below_alloc w (.cells #[.int .i64 k, .slice a n c, .int .i64 p] 24)
  have hq := heap_alloc_new w (.cells #[.int .i64 k, .slice a n c, .int .i64 p] 24)
  have hbq : w.heap.size < (w.alloc (.cells #[.int .i64 k, .slice a n c, .int .i64 p] 24)).heap.size := blk_lt hq
  obtain ⟨W0, hW0⟩ : ∃ W0, w.alloc (.cells #[.int .i64 k, .slice a n c, .int .i64 p] 24) = W0 := ⟨_, rfl⟩
  rw [hW0] at B0 hq hbq
  have HK := Lib.hid (hK.below B0)
  have HS := Lib.hid (hs.below B0)
  have HSw := Lib.hid hs
  have CH := Lib.hid (echeck_any k l p n a c W0 hn (hK.below B0) (by omega) (hs.below B0))
  rw [evE_yes hm] at CH
  have hm' := hm
  unfold evMay at hm'
  simp only [Bool.and_eq_true, decide_eq_true_eq] at hm'
  obtain ⟨hkn, _, ⟨hp0, hp1⟩, hok⟩ := hm'
  have RO := Lib.hid fun (wx : World) (hK : EVT wx) => rowof_any k wx hK
  have hro : evRo k = .agg #[.int .i64 k, .string (mkL (evN k)), .bool (evAb k)] := by unfold evRo; rw [if_pos hkn]
  rw [hro, hkn] at RO
  have hpn : p ≤ (n : Int) := by rw [← hn]; exact hp1
  have HQ := Lib.hid hq
  have NB := Lib.hid B0
  have HM := Lib.hid hm
  have HN := Lib.hid hn
  have y := fun i => cell_of_row _ _ i _ _ _ hq
  have y0 := y 0; have y1 := y 1; have y2 := y 2
  dsimp at y0 y1 y2
  have HOK := Lib.hid hok
  clear y hq B0 hK hs hm hro hkn hok hp1
  obtain ⟨b, hb⟩ : ∃ b, w.heap.size = b := ⟨_, rfl⟩
  have HB := Lib.hid hb
  rw [hb] at HQ y0 y1 y2 hbq
  by_cases hab : evAb k = true
  · have HA : Hid (evAb ((k, l, p) : Ev).1 = true) := Lib.hid hab
    rw [hab] at RO
    have hET : Hid (joK ⟨#[9]⟩ (evS (k, l, p)) (evS (k, l, p)).length = evT (k, l, p)) := Lib.hid (evS_jo _)
    have hEl : (evS (k, l, p)).length = 2 + (rnM l l.length).length := evS_len hab
    have hE2 : (evS (k, l, p)).take 2 = [mkL (evN k), mkL (decS p)] := evS_two hab
    have hEn : Hid (∀ i, i < (rnM l l.length).length → (evS (k, l, p)).take (2 + i + 1) = (evS (k, l, p)).take (2 + i) ++ [mkL (ruP l ((rnM l l.length).getD i (0, 0, 0)))]) := Lib.hid fun i hi => evS_next hab i hi
    have hEz : Hid (∀ i, ((evS (k, l, p)).getD i ⟨#[]⟩).size ≤ 1000000) := Lib.hid fun i => mem_jo 9 (evN k) (evP (k, l, p)) _ rfl 1000000 (by rw [← evT_jo (k, l, p)]; have h1 := evT_len HM.out; have h2 := HN.out; dsimp only at h1; omega) i
    have hRl := rn_len l l.length (Nat.le_refl _)
    have hRm : Hid (∀ i, i < (rnM l l.length).length → (rnM l l.length).getD i (0, 0, 0) ∈ rnM l l.length) := Lib.hid fun i hi => by rw [List.getD, List.getElem?_eq_getElem hi]; exact List.getElem_mem hi
    have DC : Hid (∀ wx : World, Calls Tryd.prog 40 #[.int .i64 p] wx fun e w' => e = .returned (.string (mkL (decS p))) ∧ Below wx.heap.size wx w') := Lib.hid fun (wx : World) => dec_any p wx (by omega) (by omega)
    have DL : Hid (∀ (u : Int) (wx : World), 0 ≤ u → u ≤ 5 → Calls Tryd.prog 40 #[.int .i64 u] wx fun e w' => e = .returned (.string (mkL (decS u))) ∧ Below wx.heap.size wx w') := Lib.hid fun u (wx : World) h0 h5 => dec_any u wx (by omega) (by omega)
    have RN := Lib.hid fun (wx : World) (h : Signs wx a l) => runs_any l a c wx (by omega) h
    have hRB : Hid (∀ r ∈ rnM l l.length, 0 ≤ r.2.1 ∧ r.2.1 < r.2.2 ∧ r.2.2 ≤ l.length ∧ 0 ≤ r.1 ∧ r.1 ≤ 5) := Lib.hid fun r hr => by
      have h1 := rn_mem hr
      have h2 := rn_lab HOK.out hr
      exact ⟨h1.1, h1.2.1, h1.2.2.1, h2.1, h2.2⟩
    have JN := Lib.hid fun (ax : Option Addr) (cx : Nat) (wx : World) (hcx : (evS (k, l, p)).length ≤ cx) (h : StI wx ax (evS (k, l, p))) => join_any ⟨#[9]⟩ (evS (k, l, p)) ax cx wx (by decide) (by decide) hEz.out (by omega) (by rw [hEl]; omega) hcx h
    rw [hET.out] at JN
    rw [hn] at RN hRl
    generalize hS : evS (k, l, p) = E at *
    generalize hT : evT (k, l, p) = T at *
    generalize hNm : mkL (evN k) = nm at *
    generalize hDp : mkL (decS p) = dp at *
    have HE2 := Lib.hid hE2
    clear hE2 hS hT hNm hDp hET hn hab
    rw [HN.out] at hEn hRm hRB hEl
    generalize hRR : rnM l n = R at *
    have hrl : R.length ≤ 1000 := by omega
    clear hRR
    go_enter Tryd.func12, Tryd.ntmps12
    go_upto_region 1 with fail
    clear hW0
    go_upto_region 7 with (first
      | (go_at_call 16; refine CH.out.mono ?_; rintro e w1 ⟨rfl, hb1⟩; have Q1 := Lib.hid (blk_below HQ.out hb1); have N1 := Lib.hid (seqB NB.out hb1); have K1 := Lib.hid (HK.out.below hb1); have S1 := Lib.hid (HS.out.below hb1); have y := fun i => cell_of_row _ _ i _ _ _ Q1.out; have x0 := y 0; have x1 := y 1; have x2 := y 2; dsimp at x0 x1 x2; have hbq1 := Nat.lt_of_lt_of_le hbq hb1.size; clear y y0 y1 y2 hb1 CH hbq)
      | (go_at_call 39; refine (RO.out _ K1.out).mono ?_; rintro e w2 ⟨rfl, hb2⟩; have BA := below_alloc w2 (.cells #[.int .i64 k, .string nm, .bool true] 79); have hb2' := hb2.trans (BA.mono hb2.size); have Q2 := Lib.hid (blk_below Q1.out hb2'); have R2 := Lib.hid (heap_alloc_new w2 (.cells #[.int .i64 k, .string nm, .bool true] 79)); have N2 := Lib.hid (seqB N1.out hb2'); have S2 := Lib.hid (S1.out.below hb2'); have y := fun i => cell_of_row _ _ i _ _ _ Q2.out; have x0 := y 0; have x1 := y 1; have x2 := y 2; dsimp at x0 x1 x2; have z := fun i => cell_of_row _ _ i _ _ _ R2.out; have z1 := z 1; have z2 := z 2; dsimp at z1 z2; have hbq2 := blk_lt Q2.out; have hrq2 := blk_lt R2.out; clear y z hb2 hb2' BA RO hbq1 S1 K1 N1))
    clear HK HS HQ HM NB
    obtain ⟨rb, hrb⟩ : ∃ rb, w2.heap.size = rb := ⟨_, rfl⟩
    obtain ⟨W3, hW3⟩ : ∃ W3, w2.alloc (.cells #[.int .i64 k, .string nm, .bool true] 79) = W3 := ⟨_, rfl⟩
    rw [hrb] at R2 z1 z2 hrq2 ⊢
    rw [hW3] at R2 z1 z2 Q2 N2 S2 x0 x1 x2 hbq2 hrq2 ⊢
    have N3 := Lib.hid (N2.out.drew)
    have S3 : Hid (Signs W3.drew a l) := S2
    have Q3 : Hid (W3.drew.heap[b]? = some (.cells #[.int .i64 k, .slice a n c, .int .i64 p] 24 (0, 0))) := Q2
    have d1 : W3.drew.cell? ⟨rb, 1, none⟩ = some (.string nm) := z1
    have d2 : W3.drew.cell? ⟨b, 2, none⟩ = some (.int .i64 p) := x2
    have hbq3 : b < W3.drew.heap.size := hbq2
    have hrq3 : rb < W3.drew.heap.size := hrq2
    clear z1 z2 x0 x1 x2 hrb hW3 N2 S2 Q2 R2 hbq2 hrq2 Q1
    go_region_held3 (fun w' => w'.cell? ⟨rb, 1, none⟩ = some (.string nm) ∧ w'.cell? ⟨b, 2, none⟩ = some (.int .i64 p)) (first | exact ⟨d1, d2⟩ | exact ⟨d4, e4⟩ | go_keep)
      (first
        | (go_at_call 40; refine (DC.out _).mono ?_; rintro e w4 ⟨rfl, hb4⟩; have d4 := (hb4.cell (p := ⟨rb, 1, none⟩) hrq3).trans d1; have e4 := (hb4.cell (p := ⟨b, 2, none⟩) hbq3).trans d2; have BA := below_alloc w4 (.cells #[.string nm, .string dp] 9); have hb4' := hb4.trans (BA.mono hb4.size); have HZ := Lib.hid (Nat.lt_of_lt_of_le hbq3 hb4.size); have N4 := Lib.hid (seqB N3.out hb4'); have S4 := Lib.hid (S3.out.below hb4'); have Q4 := Lib.hid (blk_below Q3.out hb4'); have P4 := Lib.hid (heap_alloc_new w4 (.cells #[.string nm, .string dp] 9)); have y := fun i => cell_of_row _ _ i _ _ _ Q4.out; have x0 := y 0; have x1 := y 1; have x2 := y 2; dsimp at x0 x1 x2; clear y hb4 hb4' BA DC))
    obtain ⟨PB, hPB⟩ : ∃ PB, w4.heap.size = PB := ⟨_, rfl⟩
    obtain ⟨W5, hW5⟩ : ∃ W5, w4.alloc (.cells #[.string nm, .string dp] 9) = W5 := ⟨_, rfl⟩
    rw [hPB] at P4 HZ ⊢
    rw [hW5] at P4 N4 S4 Q4 x0 x1 x2 ⊢
    clear d4 e4 d1 d2 hPB hW5 N3 S3 Q3 hbq3 hrq3
    have hWP : Hid (w.heap.size ≤ PB) := Lib.hid (by have h1 := HB.out; have h2 := HZ.out; omega)
    have HPS : Hid (PB ≤ W5.heap.size) := Lib.hid (Nat.le_of_lt (blk_lt P4.out))
    have O5 : Hid (W5.ownsRow PB 9 1 (.slice (some ⟨PB, 0, none⟩) 2 2) (2 + 0) ((E.take (2 + 0)).map Value.string)) := Lib.hid (by
      rw [HE2.out]
      exact ⟨rfl, .inr ⟨PB, 2, #[.string nm, .string dp], rfl, Nat.le_refl _, P4.out, Nat.le_refl _, by decide, rfl, rfl⟩⟩)
    clear P4
    go_upto_region 9 with (go_at_call 41; refine (RN.out _ S4.out).mono ?_; rintro e w6 ⟨rv, rfl, hown, hb6⟩; obtain ⟨ra, rc, rfl, hri⟩ := runs_of_own hown; have N6 := Lib.hid (seqB N4.out hb6); have O6 := Lib.hid (own_below O5.out hb6); have R6 := Lib.hid (World.ownsRow.mono hown HPS.out); have D6 := Lib.hid (hb6.mono HPS.out); have Z6 := Lib.hid (Nat.le_trans HPS.out hb6.size); clear hown hri hb6 RN)
    clear x0 x1 x2 O5
    go_loopw [7, 38] (fun pv iv wr => ∃ i : Nat, i ≤ R.length ∧ iv = .int .i64 (i : Int) ∧ Hid (wr.ownsRow PB 9 1 pv (2 + i) ((E.take (2 + i)).map Value.string)) ∧ Hid (ownR wr PB (.slice ra R.length rc) R) ∧ Hid (PB ≤ wr.heap.size) ∧ Hid (Below PB W5 wr) ∧ Hid (Below w.heap.size w wr)) (fun _ iv _ => R.length - (intOf iv).toNat)
    case atStart => exact ⟨0, Nat.zero_le _, rfl, O6, R6, Z6, D6, N6⟩
    case round =>
      obtain ⟨i, hi, rfl, HP, HR, HZr, HD, HNr⟩ := hrel
      clear O6 R6 Z6 D6 N6
      obtain ⟨pa, pc, rfl⟩ := ownst_form HP.out (by omega)
      by_cases hlt : i < R.length
      · have hi1 : (i : Int) < (R.length : Int) := by omega
        have hi0 : (0 : Int) ≤ (i : Int) := by omega
        have hmem := hRm.out i hlt
        have hbd := hRB.out _ hmem
        have hEn1 := hEn.out i hlt
        obtain ⟨_, _, he, hri⟩ := runs_of_own HR.out
        cases he
        obtain ⟨gb, off, rfl, hblt, c0, c1, c2⟩ := hri i hlt
        obtain ⟨u, f', t', hr⟩ : ∃ u f t, R.getD i (0, 0, 0) = (u, f, t) := ⟨_, _, _, rfl⟩
        rw [hr] at c0 c1 c2 hbd hEn1
        dsimp only at c0 c1 c2 hbd
        obtain ⟨h1, h2, h3, h4, h5⟩ := hbd
        obtain ⟨f, rfl⟩ : ∃ f : Nat, f' = (f : Int) := ⟨f'.toNat, by omega⟩
        obtain ⟨t, rfl⟩ : ∃ t : Nat, t' = (t : Int) := ⟨t'.toNat, by omega⟩
        have hft : f ≤ t := by omega
        have htn : t ≤ n := by omega
        have hcut := fun w => run_cutLH w a n c f t hft (by omega)
        obtain ⟨BA, hBA⟩ : ∃ x, (if c = f then a else a.map (·.add (f * 2))) = x := ⟨_, rfl⟩
        simp only [hBA] at hcut
        obtain ⟨m, hmm⟩ : ∃ m, t - f = m := ⟨_, rfl⟩
        simp only [hmm] at hcut
        have hsubl : ((l.take t).drop f).length = m := by rw [List.length_drop, List.length_take, HN.out]; omega
        have hru : mkL (ruP l (u, (f : Int), (t : Int))) = mkL (decS u) ++ mkL (lnL ((l.take t).drop f)) := by
          unfold ruP
          dsimp only
          rw [Int.toNat_natCast, Int.toNat_natCast]
          exact (ba_app _ _).symm
        have EL := Lib.hid fun (wx : World) (h : Signs wx a l) => eline_any ((l.take t).drop f) BA (c - f) wx (by rw [hsubl]; omega) (by rw [← hBA]; exact signs_cut h hft (by rw [HN.out]; exact htn) (by rw [HN.out]; exact hc)) (cut_ok HOK.out _ _)
        rw [hsubl] at EL
        have hz1 : (mkL (decS u)).size ≤ 21 := by rw [mkL_size]; exact decS_len u
        have hz2 : (mkL (lnL ((l.take t).drop f))).size ≤ 8000 := by
          rw [mkL_size]
          have := lnL_len (sg_right (cut_ok HOK.out f t))
          rw [hsubl] at this
          omega
        have DU := Lib.hid fun (wx : World) => DL.out u wx h4 h5
        rw [hru] at hEn1
        generalize mkL (decS u) = du at *
        generalize mkL (lnL ((l.take t).drop f)) = ls at *
        have BA1 := below_alloc wr (.cells #[.int .i64 u, .int .i64 (f : Int), .int .i64 (t : Int)] 87)
        obtain ⟨W7, hW7⟩ : ∃ W7, wr.alloc (.cells #[.int .i64 u, .int .i64 (f : Int), .int .i64 (t : Int)] 87) = W7 := ⟨_, rfl⟩
        have q7 := heap_alloc_new wr (.cells #[.int .i64 u, .int .i64 (f : Int), .int .i64 (t : Int)] 87)
        rw [hW7] at BA1 q7
        have N7 := Lib.hid (seqB HNr.out BA1)
        have O7 := Lib.hid (own_below HP.out BA1)
        have R7 := Lib.hid (own_below HR.out BA1)
        have D7 := Lib.hid (HD.out.trans (BA1.mono HZr.out))
        have Z7 := Lib.hid (Nat.le_trans HZr.out BA1.size)
        have S7 := Lib.hid (HSw.out.below N7.out)
        have Q7 : Hid (W7.heap[b]? = some (.cells #[.int .i64 k, .slice a n c, .int .i64 p] 24 (0, 0))) := Lib.hid ((D7.out.block b HZ.out).trans Q4.out)
        have y := fun i => cell_of_row _ _ i _ _ _ Q7.out
        have x1 := y 1
        dsimp at x1
        have z := fun i => cell_of_row _ _ i _ _ _ q7
        have z0 := z 0; have z1 := z 1; have z2 := z 2
        dsimp at z0 z1 z2
        obtain ⟨i0, hj, hy0, hy1, hy2⟩ := info_parts infoStrE
        have q7' := Lib.hid q7
        have hadd : (du ++ ls).size ≤ 10000 := by rw [ByteArray.size_append]; omega
        clear y z q7 BA1 hri hr hmem hru hsubl hBA
        go_upto_region 11 with fail
        obtain ⟨rb7, hrb7⟩ : ∃ r, wr.heap.size = r := ⟨_, rfl⟩
        rw [hrb7] at z0 z1 z2 q7' ⊢
        clear hW7 hrb7 c0 c1 c2
        go_wp2_with (first
          | (go_at_call 42; refine (EL.out _ S7.out).mono ?_; rintro e w8 ⟨rfl, hb8⟩; have N8 := Lib.hid (seqB N7.out hb8); have O8 := Lib.hid (own_below O7.out hb8); have R8 := Lib.hid (own_below R7.out hb8); have D8 := Lib.hid (D7.out.trans (hb8.mono Z7.out)); have Z8 := Lib.hid (Nat.le_trans Z7.out hb8.size); have y := fun i => cell_of_row _ _ i _ _ _ (blk_below q7'.out hb8); have v0 := y 0; dsimp at v0; clear y hb8 z0 z1 z2 x1 hcut EL)
          | (go_at_call 40; refine (DU.out _).mono ?_; rintro e w9 ⟨rfl, hb9⟩; have BA9 := below_alloc w9 (.cells #[.string (du ++ ls)] 9); have hb9' := hb9.trans (BA9.mono hb9.size); have N9 := Lib.hid (seqB N8.out hb9'); have O9 := Lib.hid (own_below O8.out hb9'); have R9 := Lib.hid (own_below R8.out hb9'); have D9 := Lib.hid (D8.out.trans (hb9'.mono Z8.out)); have Z9 := Lib.hid (Nat.le_trans Z8.out hb9'.size); have hnew : ∀ j x, ([Value.string (du ++ ls)] : List Value)[j]? = some x → (w9.alloc (.cells #[.string (du ++ ls)] 9)).cell? ((⟨w9.heap.size, 0, none⟩ : Addr).add j) = some x := (fun j x hj => app_cells rfl hj); clear v0 hb9 hb9' BA9 DU)
          | (at_builtin; refine wpList_append_own _ rfl _ _ 83 rfl PB 9 i0 _ 1 16 Tryd.underlying83 hj hy0 hy1 hy2 rfl (by decide) _ _ _ rfl O9.out ⟨_, 0, none⟩ 1 1 [.string (du ++ ls)] rfl rfl hnew (by simp [Value.oneCell']) ?g3 ?g4 Z9.out ?_))
        case g3 => unfold maxLen; omega
        case g4 => omega
        intro v' w10 hown hgrow _
        have N10 := Lib.hid (N9.out.grown hgrow (Nat.le_trans hWP.out Z9.out) (fun k hk => Nat.le_trans hWP.out (O9.out.lt k hk).1))
        have R10 := Lib.hid (World.ownsRow.kept R9.out hgrow (own_ne_own R9.out O9.out (by decide)))
        have D10 := Lib.hid (D9.out.grown hgrow Z9.out (fun k hk => (O9.out.lt k hk).1))
        have Z10 := Lib.hid (Nat.le_trans Z9.out hgrow.size)
        have O10 : Hid (w10.ownsRow PB 9 1 v' (2 + (i + 1)) ((E.take (2 + (i + 1))).map Value.string)) := Lib.hid (by
          rw [show 2 + (i + 1) = 2 + i + 1 by omega, hEn1, List.map_append, List.map_take]
          exact hown)
        clear hown hgrow hnew hEn1
        go_wp2
        go_roundw
        case rel => exact ⟨i + 1, by omega, by go_num, O10, R10, Z10, D10, N10⟩
        case measure => (simp [intOf]; try omega)
      · obtain rfl : i = R.length := by omega
        have hkl : ¬ (R.length : Int) < (R.length : Int) := by omega
        have hO := HP.out
        rw [← hEl, List.take_length] at hO
        obtain ⟨_, _, he, hc2, hst⟩ := own_stiE hO (by omega)
        rw [hEl] at he hc2
        cases he
        have JJ := JN.out pa pc wr (by rw [hEl]; exact hc2) hst
        rw [hEl] at JJ
        replace JJ := Lib.hid JJ
        clear hst hO hc2
        go_wp2_with (go_at_call 43; refine JJ.out.mono ?_; rintro e w8 ⟨rfl, hb8⟩; have N8 := Lib.hid (seqB HNr.out hb8); clear hb8)
        refine bodyPost_ret (v := .tuple #[.string (mkL T), .int .i64 0]) (by simp [results, Tryd.results12, go_sem]; rfl) rfl ?_
        exact ⟨rfl, N8.out⟩
  · have hab' : evAb k = false := by simpa using hab
    rw [hab'] at RO
    have hT : Hid (mkL (evT (k, l, p)) = mkL (evN k)) := Lib.hid (by unfold evT; dsimp only; rw [hab', if_neg (by decide), List.append_nil])
    generalize hNm : mkL (evN k) = nm at *
    clear hNm hab hab'
    go_enter Tryd.func12, Tryd.ntmps12
    go_upto_region 1 with fail
    clear hW0
    go_wp2_with (first
      | (go_at_call 16; refine CH.out.mono ?_; rintro e w1 ⟨rfl, hb1⟩; have Q1 := Lib.hid (blk_below HQ.out hb1); have N1 := Lib.hid (seqB NB.out hb1); have K1 := Lib.hid (HK.out.below hb1); have y := fun i => cell_of_row _ _ i _ _ _ Q1.out; have x0 := y 0; dsimp at x0; clear y y0 y1 y2 hb1 CH hbq)
      | (go_at_call 39; refine (RO.out _ K1.out).mono ?_; rintro e w2 ⟨rfl, hb2⟩; have BA := below_alloc w2 (.cells #[.int .i64 k, .string nm, .bool false] 79); have N2 := Lib.hid (seqB (seqB N1.out hb2) BA); have z := fun i => cell_of_row _ _ i _ _ _ (heap_alloc_new w2 (.cells #[.int .i64 k, .string nm, .bool false] 79)); have z1 := z 1; have z2 := z 2; dsimp at z1 z2; clear z BA hb2 RO))
    refine bodyPost_ret (v := .tuple #[.string nm, .int .i64 0]) (by simp [results, Tryd.results12, go_sem]) rfl ?_
    rw [hT.out]
    exact ⟨rfl, N2.out⟩
end Go.Proofs.YtldblffhkokhlaaDoor
set_option linter.unusedVariables false
set_option linter.unusedSimpArgs false
namespace Go.Proofs.YtldblffhkokhlaaDoor
open Go.RowKit
theorem estr_ne {s t : ByteArray} (h : ¬ s = t) : (s.toList == t.toList) = false ∧ (s.toList != t.toList) = true ∧ ¬ s.toList = t.toList := by
  have h1 : ¬ s.toList = t.toList := by rw [ByteArray.toList_eq, ByteArray.toList_eq]; intro e; exact h (ByteArray.ext (Array.ext' e))
  exact ⟨beq_eq_false_iff_ne.2 h1, bne_iff_ne.2 h1, h1⟩
theorem mkL_inj {a b : List UInt8} (h : mkL a = mkL b) : a = b := by
  have := congrArg (fun s : ByteArray => s.data.toList) h
  simpa [mkL] using this
theorem evKo_none {q : List UInt8} (h : ∀ j : Nat, j < 6 → evN ((j : Int) + 1) ≠ q) : evKo q = 0 := by
  unfold evKo
  rw [if_neg (fun e => h 0 (by decide) e.symm), if_neg (fun e => h 1 (by decide) e.symm), if_neg (fun e => h 2 (by decide) e.symm), if_neg (fun e => h 3 (by decide) e.symm), if_neg (fun e => h 4 (by decide) e.symm), if_neg (fun e => h 5 (by decide) e.symm)]
theorem evKo_rng (q : List UInt8) : 0 ≤ evKo q ∧ evKo q ≤ 6 := by
  unfold evKo
  repeat' split
  all_goals decide
set_option maxHeartbeats 4000000 in
set_option maxRecDepth 100000 in
theorem kindof_any (q : List UInt8) (w : World) (hK : EVT w) : Calls Tryd.prog 51 #[.string (mkL q)] w fun e w' => e = .returned (.int .i64 (evKo q)) ∧ Below w.heap.size w w' := by
  have hld := Lib.hid hK
  clear hK
  go_enter Tryd.func51, Tryd.ntmps51
  go_wp2_with (with_reducible refine wpList_load_ev hld.out ?_)
  clear hld
  go_loopw [6] (fun iv wr => ∃ k : Nat, k ≤ 6 ∧ iv = .int .i64 (k : Int) ∧ Hid (∀ j : Nat, j < k → evN ((j : Int) + 1) ≠ q) ∧ Hid (Below w.heap.size w wr)) (fun iv _ => 6 - (intOf iv).toNat)
  case atStart => exact ⟨0, by omega, rfl, Lib.hid (fun j hj => absurd hj (Nat.not_lt_zero j)), Lib.hid (Below.refl _ _)⟩
  case round =>
    obtain ⟨k, hk, rfl, HE, hb⟩ := hrel
    by_cases hlt : k < 6
    · have hk0 : (0 : Int) ≤ k := by omega
      have hk1 : (k : Int) < 6 := by omega
      have hix := fun w => evIdx k hlt w
      unfold evV at hix
      have hkn : evKn ((k : Int) + 1) = true := decide_eq_true (by omega)
      obtain ⟨n, hn⟩ : ∃ n, (k : Int) + 1 = n := ⟨_, rfl⟩
      rw [hn] at hix hkn
      have B1 := below_alloc wr (.cells #[.int .i64 n, .string (mkL (evN n)), .bool (evAb n)] 79)
      have HN1 := Lib.hid (seqB hb.out B1)
      by_cases h1 : evN n = q
      · have HF : Hid (evKo q = n) := Lib.hid (by rw [← h1]; exact evKo_N hkn)
        rw [h1] at hix HN1
        generalize mkL q = s at *
        generalize evAb n = ab at *
        have h1b : (s.toList == s.toList) = true := by simp
        clear HE hkn hn B1 h1
        go_wp2_with fail
        go_ret
        rw [HF.out]
        exact ⟨rfl, HN1.out⟩
      · have HE2 : Hid (∀ j : Nat, j < k + 1 → evN ((j : Int) + 1) ≠ q) := Lib.hid fun j hj => by
          by_cases e : j = k
          · rw [e, hn]; exact h1
          · exact HE.out j (by omega)
        have h1b := (estr_ne (s := mkL (evN n)) (t := mkL q) (fun e => h1 (mkL_inj e))).1
        generalize mkL q = s at *
        generalize mkL (evN n) = r at *
        generalize evAb n = ab at *
        clear hkn hn B1 h1 HE
        go_wp2_with fail
        go_roundw
        case rel => exact ⟨k + 1, by omega, by go_num, HE2, HN1⟩
        case measure => (simp [intOf]; try omega)
    · obtain rfl : k = 6 := by omega
      have HF : Hid (evKo q = 0) := Lib.hid (evKo_none HE.out)
      go_wp2_with fail
      go_ret
      rw [HF.out]
      exact ⟨rfl, hb.out⟩
end Go.Proofs.YtldblffhkokhlaaDoor
set_option linter.unusedVariables false
set_option linter.unusedSimpArgs false
namespace Go.Proofs.YtldblffhkokhlaaDoor
open Go.RowKit
theorem etext_any (k : Int) (l : List (Int × Int)) (p : Int) (n : Nat) (a : Option Addr) (c : Nat) (w : World) (hn : l.length = n) (hK : EVT w) (hl : n ≤ 1000) (hc : n ≤ c) (hs : Signs w a l) :
    Calls Tryd.prog 12 #[.agg #[.int .i64 k, .slice a n c, .int .i64 p]] w fun e w' => e = .returned (.tuple #[.string (mkL (if evMay (k, l, p) = true then evT (k, l, p) else [])), .int .i64 (evE (k, l, p))]) ∧ Below w.heap.size w w' := by
  cases h : evMay (k, l, p)
  · rw [if_neg (by decide), evE_no h]
    exact etext_bad k l p n a c w hn hK (by omega) hs h
  · rw [if_pos rfl, evE_yes h]
    exact etext_good k l p n a c w hn hK hl hc hs h
/-- What Parse answers. -/
def EvPost (r : Option Ev) (w : World) (e : Ending) (w' : World) : Prop :=
  (match r with
   | none => e = .returned (.tuple #[.agg #[.int .i64 0, .slice none 0 0, .int .i64 0], .int .i64 10])
   | some v => ∃ a c, e = .returned (.tuple #[.agg #[.int .i64 v.1, .slice a v.2.1.length c, .int .i64 v.2.2], .int .i64 0]) ∧ OwS w' w.heap.size (.slice a v.2.1.length c) v.2.1) ∧ Below w.heap.size w w'
theorem evpost_none {r : Option Ev} {w w' : World} (h : r = none) (hb : Below w.heap.size w w') : EvPost r w (.returned (.tuple #[.agg #[.int .i64 0, .slice none 0 0, .int .i64 0], .int .i64 10])) w' := by
  subst h; exact ⟨rfl, hb⟩
theorem evpost_some {r : Option Ev} {v : Ev} {w w' : World} {a : Option Addr} {n c : Nat} (h : r = some v) (hn : v.2.1.length = n) (hs : OwS w' w.heap.size (.slice a n c) v.2.1) (hb : Below w.heap.size w w') : EvPost r w (.returned (.tuple #[.agg #[.int .i64 v.1, .slice a n c, .int .i64 v.2.2], .int .i64 0])) w' := by
  subst h; subst hn; exact ⟨⟨a, c, rfl, hs⟩, hb⟩
/-- The event under way. -/
structure PaSt (vb B : Nat) (K X : Int) (L : List (Int × Int)) (w : World) : Prop where
  v : ∃ x, w.heap[vb]? = some (.cells #[.int .i64 K, x, .int .i64 X] 24 (0, 0)) ∧ OwS w B x L
  lt : vb < B
  le : B ≤ w.heap.size
theorem PaSt.below {vb B : Nat} {K X : Int} {L : List (Int × Int)} {w w' : World} (h : PaSt vb B K X L w) (hb : Below w.heap.size w w') : PaSt vb B K X L w' := by
  obtain ⟨v, h1, h2⟩ := h.v
  exact ⟨⟨v, blk_below h1 hb, own_below h2 hb⟩, h.lt, Nat.le_trans h.le hb.size⟩
theorem past_next {vb B : Nat} {K X : Int} {L M : List (Int × Int)} {w w1 : World} {v u : Value} (h : PaSt vb B K X L w) (hv : OwS w B v L) (ho : OwS w1 B u M) (hg : w.grownBy w1 v.ownBlock) :
    PaSt vb B K X M (w1.setCell ⟨vb, 1, none⟩ u) ∧ KeepB B vb w (w1.setCell ⟨vb, 1, none⟩ u) := by
  have hle := h.le; have hlt := h.lt
  have hb := fun k (hk : k < B) => hg.block k (by omega) (ows_ge hv hk)
  obtain ⟨x, hx, _⟩ := h.v
  have hp1 := (hb vb hlt).trans hx
  have hz : (w1.setCell ⟨vb, 1, none⟩ u).heap.size = w1.heap.size := by simp [World.setCell]
  refine ⟨⟨⟨u, blk_set hp1 1 u, own_set ho (own_ne_kind ho hp1 (by decide)) u⟩, hlt, by rw [hz]; exact Nat.le_trans hle hg.size⟩, ⟨hg.os, hg.tape, hg.output, by rw [hz]; exact hg.size, fun k hk hkp => (Below.heap_setCell w1 ⟨vb, 1, none⟩ u k hkp).trans (hb k hk)⟩⟩
theorem fl9_len (rs : List (List UInt8)) : (rs.flatMap (rdP ugS)).length ≤ (rs.flatMap fun q => (9 : UInt8) :: q).length := by
  induction rs with
  | nil => exact Nat.le_refl _
  | cons q rs ih =>
    rw [List.flatMap_cons, List.flatMap_cons, List.length_append, List.length_append, List.length_cons]
    have : (rdP ugS q).length ≤ q.length := by unfold rdP; rw [List.length_map]; exact ugS_len _ _
    omega
theorem fl9_take (rs : List (List UInt8)) (i : Nat) : ((rs.take i).flatMap (rdP ugS)).length ≤ (rs.flatMap fun q => (9 : UInt8) :: q).length := by
  refine Nat.le_trans (fl9_len _) ?_
  conv => rhs; rw [← List.take_append_drop i rs]
  rw [List.flatMap_append, List.length_append]; omega
theorem fl9_s {s p q : List UInt8} {rs : List (List UInt8)} (h : pcB 9 s = p :: q :: rs) (i : Nat) : ((rs.take i).flatMap (rdP ugS)).length ≤ s.length := by
  refine Nat.le_trans (fl9_take rs i) ?_
  have h1 := spB_jo 9 s
  unfold pcB at h
  injection h with h2 h3
  rw [h2, h3] at h1
  rw [← h1, joB_cons, List.length_append, List.length_cons]
  unfold joB
  rw [List.length_append]; omega
theorem rd_take (rs : List (List UInt8)) (i : Nat) (h : i < rs.length) : (rs.take (i + 1)).flatMap (rdP ugS) = (rs.take i).flatMap (rdP ugS) ++ rdP ugS (rs.getD i []) := by
  rw [List.take_succ_eq_append_getElem h, List.flatMap_append, List.getD, List.getElem?_eq_getElem h]
  simp
/-- What the line tells, by cases. -/
theorem evR_one {s p : List UInt8} (h : pcB 9 s = [p]) : evR ugS s = if (evMay (evKo p, [], 0) && decide (evT (evKo p, [], 0) = s)) = true then some (evKo p, [], 0) else none := by
  unfold evR; rw [h]; rfl
theorem evR_bad {s p q : List UInt8} {rs : List (List UInt8)} (h : pcB 9 s = p :: q :: rs) (he : undE q ≠ 0) : evR ugS s = none := by
  unfold evR; rw [h]; unfold evC; dsimp only; rw [if_neg he]
theorem evR_nil {s p q : List UInt8} {rs : List (List UInt8)} (h : pcB 9 s = p :: q :: rs) {i : Nat} (hi : i < rs.length) (he : rs.getD i [] = []) : evR ugS s = none := by
  by_cases hq : undE q = 0
  · have : rs.any (fun r => decide (r = [])) = true := by
      rw [List.any_eq_true]
      refine ⟨rs.getD i [], ?_, by simpa using he⟩
      rw [List.getD, List.getElem?_eq_getElem hi]; exact List.getElem_mem hi
    unfold evR; rw [h]; unfold evC; dsimp only; rw [if_pos hq, this, if_pos rfl]
  · exact evR_bad h hq
theorem evR_many {s p q : List UInt8} {rs : List (List UInt8)} (h : pcB 9 s = p :: q :: rs) (hq : undE q = 0) (hne : ∀ i, i < rs.length → rs.getD i [] ≠ []) : evR ugS s = if (evMay (evKo p, rs.flatMap (rdP ugS), undR q) && decide (evT (evKo p, rs.flatMap (rdP ugS), undR q) = s)) = true then some (evKo p, rs.flatMap (rdP ugS), undR q) else none := by
  have : rs.any (fun r => decide (r = [])) = false := by
    rw [List.any_eq_false]
    intro x hx
    obtain ⟨i, hi, e⟩ := List.getElem_of_mem hx
    have := hne i hi
    rw [List.getD, List.getElem?_eq_getElem hi] at this
    rw [← e]; simpa using this
  unfold evR; rw [h]; unfold evC; dsimp only; rw [if_pos hq, this, if_neg (by decide)]
end Go.Proofs.YtldblffhkokhlaaDoor
set_option linter.unusedVariables false
set_option linter.unusedSimpArgs false
namespace Go.Proofs.YtldblffhkokhlaaDoor
open Go.RowKit
theorem own_set3 {w : World} {b B : Nat} {x0 x1 x2 v : Value} {L : List (Int × Int)} (h : w.heap[b]? = some (.cells #[x0, x1, x2] 24 (0, 0))) (hs : OwS w B v L) (v0 v1 v2 : Value) : OwS (((w.setCell ⟨b, 0, none⟩ v0).setCell ⟨b, 1, none⟩ v1).setCell ⟨b, 2, none⟩ v2) B v L := by
  have h1 := blk_set h 0 v0
  have h2 := blk_set h1 1 v1
  have o1 := own_set hs (a := ⟨b, 0, none⟩) (own_ne_kind hs h (by decide)) v0
  have o2 := own_set o1 (a := ⟨b, 1, none⟩) (own_ne_kind o1 h1 (by decide)) v1
  exact own_set o2 (a := ⟨b, 2, none⟩) (own_ne_kind o2 h2 (by decide)) v2
set_option maxHeartbeats 8000000 in
set_option maxRecDepth 100000 in
theorem eparse_one (s p : List UInt8) (w : World) (hT : UT w) (hK : EVT w) (hl : s.length ≤ 1000) (hP : pcB 9 s = [p]) : Calls Tryd.prog 17 #[.string (mkL s)] w (EvPost (evR ugS s) w) := by
  have SP := splitb_any 9 s
  rw [hP] at SP
  have B0 := below_alloc w (.cells #[.int .i64 0, .slice none 0 0, .int .i64 0] 24)
  have hq := heap_alloc_new w (.cells #[.int .i64 0, .slice none 0 0, .int .i64 0] 24)
  obtain ⟨W0, hW0⟩ : ∃ W0, w.alloc (.cells #[.int .i64 0, .slice none 0 0, .int .i64 0] 24) = W0 := ⟨_, rfl⟩
  rw [hW0] at B0 hq
  have HQ := Lib.hid hq; have HB0 := Lib.hid B0; have HK0 := Lib.hid (hK.below B0)
  have HSP := Lib.hid fun (wx : World) => SP wx (by omega)
  have KO := Lib.hid fun (wx : World) (h : EVT wx) => kindof_any p wx h
  have HEV := evR_one hP
  clear SP B0 hq hT hK
  go_enter Tryd.func17, Tryd.ntmps17
  go_upto_region 1 with fail
  clear hW0
  go_upto_region 3 with (first
    | (go_at_call 50; refine (HSP.out _).mono ?_; rintro e w1 ⟨rfl, hpc, hb1⟩; have c0 := hpc.2 0 (Nat.succ_pos _); replace c0 : w1.cell? ⟨W0.heap.size, 0, none⟩ = some (.string (mkL p)) := c0; have N1 := Lib.hid (seqB HB0.out hb1); have Q1 := Lib.hid (blk_below HQ.out hb1); have K1 := Lib.hid (HK0.out.below hb1); clear hpc hb1)
    | (go_at_call 51; refine (KO.out _ K1.out).mono ?_; rintro e w2 ⟨rfl, hb2⟩; have BA := below_alloc w2 (.cells #[.int .i64 (evKo p), .slice none 0 0, .int .i64 0] 24); have N2 := Lib.hid (seqB (seqB N1.out hb2) BA); have Q2 := Lib.hid (blk_below (blk_below Q1.out hb2) BA); have K2 := Lib.hid ((K1.out.below hb2).below BA); have V2 := Lib.hid (heap_alloc_new w2 (.cells #[.int .i64 (evKo p), .slice none 0 0, .int .i64 0] 24)); clear hb2 BA c0))
  obtain ⟨vb, hvb⟩ : ∃ vb, w2.heap.size = vb := ⟨_, rfl⟩
  obtain ⟨wt, hwt⟩ : ∃ wt, w2.alloc (.cells #[.int .i64 (evKo p), .slice none 0 0, .int .i64 0] 24) = wt := ⟨_, rfl⟩
  rw [hvb] at V2 ⊢
  rw [hwt] at V2 N2 Q2 K2 ⊢
  clear hvb hwt N1 Q1 K1 HB0 HQ HK0
  have HVB := V2; have HRB := Q2; have HNb := N2; have HKt := K2
  have HL : Hid (([] : List (Int × Int)).length = 0) := Lib.hid rfl
  have HSG : Hid (Signs wt none []) := Lib.hid (fun j hj => absurd hj (Nat.not_lt_zero j))
  have HOW : Hid (OwS wt w.heap.size (.slice none 0 0) []) := Lib.hid (World.ownsRow_nil _ _ _ _)
  have hnc : 0 ≤ 0 := Nat.le_refl _
  have hn1000 : 0 ≤ 1000 := by omega
  have TX := etext_any (evKo p) [] 0 0 none 0 wt HL.out HKt.out (by have := hn1000; omega) hnc HSG.out
  have yv := fun i => cell_of_row _ _ i _ _ _ HVB.out
  have y0 := yv 0; have y1 := yv 1; have y2 := yv 2
  dsimp at y0 y1 y2
  clear yv
  cases hmay : evMay ((evKo p), [], 0)
  · rw [evE_no hmay, hmay, if_neg (by decide)] at TX
    rw [hmay] at HEV
    have HR : Hid (evR ugS s = none) := Lib.hid (by rw [HEV]; rfl)
    replace TX := Lib.hid TX
    clear HEV hmay
    go_wp2_with (go_at_call 12; refine TX.out.mono ?_; rintro e wz ⟨rfl, hbz⟩; have NZ := Lib.hid (seqB HNb.out hbz); have RZ := Lib.hid (blk_below HRB.out hbz); have zz := fun i => frozen_of_row _ w.heap.size i _ _ RZ.out; have zy := fun i => cell_of_row _ _ i _ _ _ RZ.out; have x0 := zy 0; have x1 := zy 1; have x2 := zy 2; dsimp at x0 x1 x2; clear zy hbz)
    generalize hWF : World.setCell _ _ _ = WF
    have hqf : WF.heap[w.heap.size]? = some (.cells #[.int .i64 0, .slice none 0 0, .int .i64 0] 24 (0, 0)) := by rw [← hWF]; exact three_set RZ.out _ _ _
    have hN : Below w.heap.size w WF := by rw [← hWF]; exact three_below _ w w.heap.size _ _ _ (Nat.le_refl _) NZ.out
    have y := fun i => cell_of_row _ _ i _ _ _ hqf
    have y0 := y 0; have y1 := y 1; have y2 := y 2
    dsimp at y0 y1 y2
    clear y hqf hWF
    refine bodyPost_ret (v := .tuple #[.agg #[.int .i64 0, .slice none 0 0, .int .i64 0], .int .i64 10]) (by simp [results, Tryd.results17, go_sem, y0, y1, y2]) rfl ?_
    exact evpost_none HR.out hN
  · rw [evE_yes hmay, hmay, if_pos rfl] at TX
    rw [hmay] at HEV
    by_cases hs : evT ((evKo p), [], 0) = s
    · have HR : Hid (evR ugS s = some ((evKo p), [], 0)) := Lib.hid (by rw [HEV, decide_eq_true hs]; rfl)
      rw [hs] at TX
      replace TX := Lib.hid TX
      clear HEV hmay hs
      generalize hS : mkL s = S at *
      clear hS
      have hSS : (S.toList != S.toList) = false := by simp
      go_wp2_with (go_at_call 12; refine TX.out.mono ?_; rintro e wz ⟨rfl, hbz⟩; have NZ := Lib.hid (seqB HNb.out hbz); have RZ := Lib.hid (blk_below HRB.out hbz); have SZ := Lib.hid (own_below HOW.out hbz); have zz := fun i => frozen_of_row _ w.heap.size i _ _ RZ.out; have zy := fun i => cell_of_row _ _ i _ _ _ RZ.out; have x0 := zy 0; have x1 := zy 1; have x2 := zy 2; dsimp at x0 x1 x2; have vy := fun i => cell_of_row _ _ i _ _ _ (blk_below HVB.out hbz); have v0 := vy 0; have v1 := vy 1; have v2 := vy 2; dsimp at v0 v1 v2; clear zy vy hbz y0 y1 y2)
      generalize hWF : World.setCell _ _ _ = WF
      have hqf : WF.heap[w.heap.size]? = some (.cells #[.int .i64 ((evKo p)), .slice none 0 0, .int .i64 (0)] 24 (0, 0)) := by rw [← hWF]; exact three_set RZ.out _ _ _
      have hN : Below w.heap.size w WF := by rw [← hWF]; exact three_below _ w w.heap.size _ _ _ (Nat.le_refl _) NZ.out
      have hSF : OwS WF w.heap.size (.slice none 0 0) ([]) := by rw [← hWF]; exact own_set3 RZ.out SZ.out _ _ _
      have y := fun i => cell_of_row _ _ i _ _ _ hqf
      have y0 := y 0; have y1 := y 1; have y2 := y 2
      dsimp at y0 y1 y2
      clear y hqf hWF
      refine bodyPost_ret (v := .tuple #[.agg #[.int .i64 ((evKo p)), .slice none 0 0, .int .i64 (0)], .int .i64 0]) (by simp [results, Tryd.results17, go_sem, y0, y1, y2]) rfl ?_
      exact evpost_some HR.out HL.out hSF hN
    · have HR : Hid (evR ugS s = none) := Lib.hid (by rw [HEV, decide_eq_false hs]; rfl)
      obtain ⟨hne1, hne2, hne3⟩ := estr_ne (s := mkL (evT ((evKo p), [], 0))) (t := mkL s) (fun e => hs (mkL_inj e))
      generalize mkL (evT ((evKo p), [], 0)) = T at *
      generalize hS : mkL s = S at *
      replace TX := Lib.hid TX
      clear HEV hmay hs hS
      go_wp2_with (go_at_call 12; refine TX.out.mono ?_; rintro e wz ⟨rfl, hbz⟩; have NZ := Lib.hid (seqB HNb.out hbz); have RZ := Lib.hid (blk_below HRB.out hbz); have zz := fun i => frozen_of_row _ w.heap.size i _ _ RZ.out; have zy := fun i => cell_of_row _ _ i _ _ _ RZ.out; have x0 := zy 0; have x1 := zy 1; have x2 := zy 2; dsimp at x0 x1 x2; clear zy hbz y0 y1 y2)
      generalize hWF : World.setCell _ _ _ = WF
      have hqf : WF.heap[w.heap.size]? = some (.cells #[.int .i64 0, .slice none 0 0, .int .i64 0] 24 (0, 0)) := by rw [← hWF]; exact three_set RZ.out _ _ _
      have hN : Below w.heap.size w WF := by rw [← hWF]; exact three_below _ w w.heap.size _ _ _ (Nat.le_refl _) NZ.out
      have y := fun i => cell_of_row _ _ i _ _ _ hqf
      have y0 := y 0; have y1 := y 1; have y2 := y 2
      dsimp at y0 y1 y2
      clear y hqf hWF
      refine bodyPost_ret (v := .tuple #[.agg #[.int .i64 0, .slice none 0 0, .int .i64 0], .int .i64 10]) (by simp [results, Tryd.results17, go_sem, y0, y1, y2]) rfl ?_
      exact evpost_none HR.out hN

end Go.Proofs.YtldblffhkokhlaaDoor
