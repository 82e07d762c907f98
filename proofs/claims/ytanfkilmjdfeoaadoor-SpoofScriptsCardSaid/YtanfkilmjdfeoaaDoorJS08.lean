/-
  Joined: Sp12 Sp13 Sp14.
-/
import Derived.Test.YtanfkilmjdfeoaaDoorJS07
set_option linter.unusedVariables false
set_option linter.unusedSimpArgs false
set_option maxRecDepth 100000
set_option linter.unusedVariables false
set_option linter.unusedSimpArgs false
namespace Go.Proofs.YtanfkilmjdfeoaaDoor
open Go.RowKit
theorem beq_symm_l (x y : List UInt8) : (x == y) = (y == x) := by
  rw [Bool.eq_iff_iff, beq_iff_eq, beq_iff_eq]; exact eq_comm
set_option maxRecDepth 100000 in
set_option maxHeartbeats 8000000 in
theorem spoofalike_any (a b c : ByteArray) (w : World) (hT : SpT w) : Calls Tryd.prog 4 #[.string a, .string b, .string c] w fun e w' => e = .returned (.bool true) ∧ Below w.heap.size w w' := by
  have HT := Lib.hid hT; clear hT
  have AW := Lib.hid fun w hT => spawake_any w hT
  by_cases h1 : 200 < a.size
  · have h1i : (200 : Int) < (a.size : Int) := by omega
    go_enter Tryd.func4, Tryd.ntmps4
    go_wp2_with (go_at_call 10; refine (AW.out _ HT.out).mono ?_; rintro e w1 ⟨rfl, b1⟩)
    go_ret
    exact ⟨rfl, b1⟩
  have h1i : ¬ (200 : Int) < (a.size : Int) := by omega
  by_cases h2 : 200 < b.size
  · have h2i : (200 : Int) < (b.size : Int) := by omega
    go_enter Tryd.func4, Tryd.ntmps4
    go_wp2_with (go_at_call 10; refine (AW.out _ HT.out).mono ?_; rintro e w1 ⟨rfl, b1⟩)
    go_ret
    exact ⟨rfl, b1⟩
  have h2i : ¬ (200 : Int) < (b.size : Int) := by omega
  by_cases h3 : 200 < c.size
  · have h3i : (200 : Int) < (c.size : Int) := by omega
    go_enter Tryd.func4, Tryd.ntmps4
    go_wp2_with (go_at_call 10; refine (AW.out _ HT.out).mono ?_; rintro e w1 ⟨rfl, b1⟩)
    go_ret
    exact ⟨rfl, b1⟩
  have h3i : ¬ (200 : Int) < (c.size : Int) := by omega
  have AB := fun w hT => spalike_any a b w hT (by omega) (by omega)
  have BC := fun w hT => spalike_any b c w hT (by omega) (by omega)
  have AC := fun w hT => spalike_any a c w hT (by omega) (by omega)
  have AA := fun w hT => spalike_any a a w hT (by omega) (by omega)
  have BA := fun w hT => spalike_any b a w hT (by omega) (by omega)
  have sa := strip_size a
  have sb := strip_size b
  have R1 := Lib.hid fun w => rstrip_ref a w (by omega)
  have R2 := Lib.hid fun w => rfold_ref (tellS stF a) w (by omega)
  have R3 := Lib.hid fun w => rstrip_ref b w (by omega)
  have R4 := Lib.hid fun w => rfold_ref (tellS stF b) w (by omega)
  have hxyz : alB a b = true → alB b c = true → alB a c = true := by
    unfold alB; intro h h'; rw [beq_iff_eq] at *; rw [h, h']
  have haa : alB a a = true := by unfold alB; exact beq_self_eq_true _
  have hba : alB b a = alB a b := by unfold alB; exact beq_symm_l _ _
  have hx : ((tellS foF (tellS stF a)).toList == (tellS foF (tellS stF b)).toList) = alB a b := rfl
  rw [haa] at AA; rw [hba] at BA
  clear haa hba sa sb
  generalize alB a b = x at *
  generalize alB b c = y at *
  generalize alB a c = z at *
  generalize tellS foF (tellS stF a) = fa at *
  generalize tellS foF (tellS stF b) = fb at *
  generalize tellS stF a = ga at *
  generalize tellS stF b = gb at *
  replace AB := Lib.hid AB; replace BC := Lib.hid BC; replace AC := Lib.hid AC; replace AA := Lib.hid AA; replace BA := Lib.hid BA
  have hz : (x = false ∨ y = false) ∨ z = true := by
    cases x
    · exact Or.inl (Or.inl rfl)
    · cases y
      · exact Or.inl (Or.inr rfl)
      · exact Or.inr (hxyz rfl rfl)
  clear hxyz
  rcases hz with (rfl | rfl) | rfl
  all_goals (try cases x)
  all_goals (try cases y)
  all_goals
    go_enter Tryd.func4, Tryd.ntmps4
    go_wp2_with (first
      | (go_at_call 19; (with_reducible refine (AB.out _ HT.out).mono ?_); rintro e w1 ⟨rfl, b1⟩; have N1 := Lib.hid b1; clear b1 AB)
      | (go_at_call 19; (with_reducible refine (BC.out _ (HT.out.below N1.out)).mono ?_); rintro e w2 ⟨rfl, b2⟩; have N2 := Lib.hid (seqB N1.out b2); clear b2 BC)
      | (go_at_call 19; (with_reducible refine (AC.out _ (HT.out.below N2.out)).mono ?_); rintro e w3 ⟨rfl, b3⟩; have N3 := Lib.hid (seqB N2.out b3); clear b3 AC)
      | (go_at_call 10; (with_reducible refine (AW.out _ (HT.out.below N3.out)).mono ?_); rintro e w4 ⟨rfl, b4⟩; have N4 := Lib.hid (seqB N3.out b4); clear b4 AW)
      | (go_at_call 16; (with_reducible refine (R1.out _).mono ?_); rintro e w5 ⟨rfl, b5⟩; have N5 := Lib.hid (seqB N4.out b5); clear b5 R1)
      | (go_at_call 18; (with_reducible refine (R2.out _).mono ?_); rintro e w6 ⟨rfl, b6⟩; have N6 := Lib.hid (seqB N5.out b6); clear b6 R2)
      | (go_at_call 16; (with_reducible refine (R3.out _).mono ?_); rintro e w7 ⟨rfl, b7⟩; have N7 := Lib.hid (seqB N6.out b7); clear b7 R3)
      | (go_at_call 18; (with_reducible refine (R4.out _).mono ?_); rintro e w8 ⟨rfl, b8⟩; have N8 := Lib.hid (seqB N7.out b8); clear b8 R4)
      | (go_at_call 19; (with_reducible refine (AA.out _ (HT.out.below N8.out)).mono ?_); rintro e w9 ⟨rfl, b9⟩; have N9 := Lib.hid (seqB N8.out b9); clear b9 AA)
      | (go_at_call 19; (with_reducible refine (BA.out _ (HT.out.below N9.out)).mono ?_); rintro e wa ⟨rfl, ba⟩; have Na := Lib.hid (seqB N9.out ba); clear ba BA))
    go_ret
    exact ⟨rfl, Na.out⟩
end Go.Proofs.YtanfkilmjdfeoaaDoor
set_option linter.unusedVariables false
set_option linter.unusedSimpArgs false
namespace Go.Proofs.YtanfkilmjdfeoaaDoor
open Go.RowKit
set_option maxRecDepth 100000 in
set_option maxHeartbeats 8000000 in
theorem spoofstrips_any (s : ByteArray) (w : World) (hT : SpT w) : Calls Tryd.prog 3 #[.string s] w fun e w' => e = .returned (.bool true) ∧ Below w.heap.size w w' := by
  have HT := Lib.hid hT; clear hT
  have AW := Lib.hid fun w hT => spawake_any w hT
  by_cases h1 : 300 < s.size
  · have h1i : (300 : Int) < (s.size : Int) := by omega
    go_enter Tryd.func3, Tryd.ntmps3
    go_wp2_with (go_at_call 10; refine (AW.out _ HT.out).mono ?_; rintro e w1 ⟨rfl, b1⟩)
    go_ret
    exact ⟨rfl, b1⟩
  have h1i : ¬ (300 : Int) < (s.size : Int) := by omega
  have sa := strip_size s
  have sb := told_size s
  have sc := fold_size s
  have A1 := Lib.hid fun w hT => spstrip_any s w hT (by omega)
  have A2 := Lib.hid fun w hT => sptell_any s w hT (by omega)
  have A3 := Lib.hid fun w hT => spfold_any s w hT (by omega)
  have R1 := Lib.hid fun w => rstrip_ref s w (by omega)
  have R2 := Lib.hid fun w => rtell_ref s w (by omega)
  have R3 := Lib.hid fun w => rfold_ref s w (by omega)
  have A4 := fun w hT => spstrip_any (tellS stF s) w hT (by omega)
  rw [st_st] at A4
  have A5 := fun w hT => spstrip_any (tellS shF s) w hT (by omega)
  rw [st_sh] at A5
  have sf := fold_size (tellS stF s)
  have A6 := Lib.hid fun w hT => spfold_any (tellS stF s) w hT (by omega)
  have A7 := fun w hT => spfold_any (tellS foF (tellS stF s)) w hT (by omega)
  rw [fo_fo] at A7
  have A8 := fun w hT => spfold_any (tellS foF s) w hT (by omega)
  rw [fo_fo] at A8
  replace A4 := Lib.hid A4; replace A5 := Lib.hid A5; replace A7 := Lib.hid A7; replace A8 := Lib.hid A8
  have hok := both_ok s
  have DC := decode_ref (tellS stF s ++ tellS shF s)
  have hds := valsS_len (tellS stF s ++ tellS shF s)
  have happ : (tellS stF s ++ tellS shF s).size = (tellS stF s).size + (tellS shF s).size := ByteArray.size_append
  generalize hl : valsS (tellS stF s ++ tellS shF s) = l at *
  generalize tellS foF (tellS stF s) = fa at *
  generalize tellS stF s = a at *
  generalize tellS shF s = b at *
  generalize tellS foF s = c at *
  have hll : l.length ≤ 20000 := by omega
  have hasz : a.size ≤ 20000 := by omega
  have hbsz : b.size ≤ 20000 := by omega
  have HD := Lib.hid fun w => DC w (by omega)
  have HO := Lib.hid hok
  clear hl hds happ sf sa sb sc DC hok
  go_enter Tryd.func3, Tryd.ntmps3
  go_upto_region 5 with (first
    | (go_at_call 11; (with_reducible refine (A1.out _ HT.out).mono ?_); rintro e w1 ⟨rfl, b1⟩; have N1 := Lib.hid b1; clear b1 A1)
    | (go_at_call 12; (with_reducible refine (A2.out _ (HT.out.below N1.out)).mono ?_); rintro e w2 ⟨rfl, b2⟩; have N2 := Lib.hid (seqB N1.out b2); clear b2 A2)
    | (go_at_call 13; (with_reducible refine (A3.out _ (HT.out.below N2.out)).mono ?_); rintro e w3 ⟨rfl, b3⟩; have N3 := Lib.hid (seqB N2.out b3); clear b3 A3)
    | (go_at_call 14; (with_reducible refine (HD.out _).mono ?_); rintro e w4 ⟨v, rfl, own, b4⟩; obtain ⟨ad, cap, rfl, hrow⟩ := row_of_vals own; have Hr := Lib.hid hrow; have N4 := Lib.hid (seqB N3.out b4); clear b4 HD own hrow))
  go_upto_region 6 with fail
  go_loopw [7] (fun iv wr => ∃ k : Nat, iv = .int .i64 (k : Int) ∧ k ≤ l.length ∧ Below w4.heap.size w4 wr) (fun iv _ => l.length - (intOf iv).toNat)
  case atStart => exact ⟨0, rfl, Nat.zero_le _, Below.refl _ _⟩
  case round =>
    obtain ⟨k, rfl, hk, hbl⟩ := hrel
    by_cases hlt : k < l.length
    · obtain ⟨ba, oa, rfl, hca, hba⟩ := (Hr.out.below hbl) k hlt
      have hlti : (k : Int) < (l.length : Int) := by omega
      have hk0 : (0 : Int) ≤ k := by omega
      have OF := fun w => of_ref (l.getD k 0) w
      rw [← cls_eq] at OF
      have hc := HO.out (l.getD k 0) (by rw [List.getD, List.getElem?_eq_getElem hlt]; exact List.getElem_mem hlt)
      generalize l.getD k 0 = x at *
      generalize cls x = cx at *
      replace OF := Lib.hid OF
      go_wp2_with (go_at_call 15; refine (OF.out _).mono ?_; rintro e w5 ⟨rfl, b5⟩)
      go_roundw
      case rel => exact ⟨k + 1, by go_num, by omega, seqB hbl b5⟩
      case measure => simp [intOf]; omega
    · obtain rfl : k = l.length := by omega
      have hkl : ¬ (l.length : Int) < (l.length : Int) := by omega
      have M4 := Lib.hid (N4.out.trans (hbl.mono N4.out.size))
      go_wp2_with (first
        | (go_at_call 10; (with_reducible refine (AW.out _ (HT.out.below M4.out)).mono ?_); rintro e w5 ⟨rfl, b5⟩; have N5 := Lib.hid (seqB M4.out b5); clear b5 AW)
        | (go_at_call 16; (with_reducible refine (R1.out _).mono ?_); rintro e w6 ⟨rfl, b6⟩; have N6 := Lib.hid (seqB N5.out b6); clear b6 R1)
        | (go_at_call 17; (with_reducible refine (R2.out _).mono ?_); rintro e w7 ⟨rfl, b7⟩; have N7 := Lib.hid (seqB N6.out b7); clear b7 R2)
        | (go_at_call 18; (with_reducible refine (R3.out _).mono ?_); rintro e w8 ⟨rfl, b8⟩; have N8 := Lib.hid (seqB N7.out b8); clear b8 R3)
        | (go_at_call 11; (with_reducible refine (A4.out _ (HT.out.below N8.out)).mono ?_); rintro e w9 ⟨rfl, b9⟩; have N9 := Lib.hid (seqB N8.out b9); clear b9 A4)
        | (go_at_call 11; (with_reducible refine (A5.out _ (HT.out.below N9.out)).mono ?_); rintro e wa ⟨rfl, ba⟩; have Na := Lib.hid (seqB N9.out ba); clear ba A5)
        | (go_at_call 13; (with_reducible refine (A6.out _ (HT.out.below Na.out)).mono ?_); rintro e wb ⟨rfl, bb⟩; have Nb := Lib.hid (seqB Na.out bb); have A6b := Lib.hid A6.out; clear bb A6)
        | (go_at_call 13; (with_reducible refine (A6b.out _ (HT.out.below Nb.out)).mono ?_); rintro e wc ⟨rfl, bc⟩; have Nc := Lib.hid (seqB Nb.out bc); clear bc A6b)
        | (go_at_call 13; (with_reducible refine (A7.out _ (HT.out.below Nc.out)).mono ?_); rintro e wd ⟨rfl, bd⟩; have Nd := Lib.hid (seqB Nc.out bd); clear bd A7)
        | (go_at_call 13; (with_reducible refine (A8.out _ (HT.out.below Nd.out)).mono ?_); rintro e we ⟨rfl, be⟩; have Ne := Lib.hid (seqB Nd.out be); clear be A8))
      go_ret
      exact ⟨rfl, Ne.out⟩
end Go.Proofs.YtanfkilmjdfeoaaDoor
set_option linter.unusedVariables false
set_option linter.unusedSimpArgs false
namespace Go.Proofs.YtanfkilmjdfeoaaDoor
open Go.RowKit
/-- A row of numbers that grows: [k] comes behind. -/
theorem grow_one {w wr w3 : World} {v v' : Value} {L : List Int} {x : Int} (h : wr.ownsRow w.heap.size 3 1 v L.length (L.map (Value.int .i64))) (hb : Below w.heap.size w wr)
    (hown3 : w3.ownsRow w.heap.size 3 1 v' (L.length + 1) (L.map (Value.int .i64) ++ [.int .i64 x])) (hg : (wr.alloc (.cells #[.int .i64 x] 3)).grownBy w3 v.ownBlock) :
    w3.ownsRow w.heap.size 3 1 v' (L ++ [x]).length ((L ++ [x]).map (Value.int .i64)) ∧ Below w.heap.size w w3 := by
  refine ⟨?_, (hb.alloc hb.size (.cells #[.int .i64 x] 3)).grown hg (by have := hb.size; simp; omega) (fun j hj => (h.lt j hj).1)⟩
  rw [List.length_append, List.map_append]
  exact hown3
set_option maxRecDepth 100000 in
set_option maxHeartbeats 16000000 in
theorem spoofscripts_any (s : ByteArray) (l : List ByteArray) (a : Option Addr) (c : Nat) (w : World) (hT : SpT w) (hl63 : l.length ≤ 9223372036854775807) (hz63 : ∀ i, i < l.length → (l.getD i ⟨#[]⟩).size ≤ 9223372036854775807) (hL : StrsIn w a l) : Calls Tryd.prog 5 #[.string s, .slice a l.length c] w fun e w' => e = .returned (.bool true) ∧ Below w.heap.size w w' := by
  obtain ⟨i0, hi0, hz0, hz1, hz2⟩ := info_parts infoInt
  have HT := Lib.hid hT; have HL := Lib.hid hL
  clear hT hL
  have AW := Lib.hid fun w hT => spawake_any w hT
  by_cases h1 : 200 < s.size
  · have h1i : (200 : Int) < (s.size : Int) := by omega
    go_enter Tryd.func5, Tryd.ntmps5
    go_wp2_with (go_at_call 10; refine (AW.out _ HT.out).mono ?_; rintro e w1 ⟨rfl, b1⟩)
    go_ret
    exact ⟨rfl, b1⟩
  have h1i : ¬ (200 : Int) < (s.size : Int) := by omega
  by_cases h2 : 12 < l.length
  · have h2i : (12 : Int) < (l.length : Int) := by omega
    go_enter Tryd.func5, Tryd.ntmps5
    go_wp2_with (go_at_call 10; refine (AW.out _ HT.out).mono ?_; rintro e w1 ⟨rfl, b1⟩)
    go_ret
    exact ⟨rfl, b1⟩
  have h2i : ¬ (12 : Int) < (l.length : Int) := by omega
  have HS := Lib.hid fun k w hk0 hk4 => rhas_ref s k w (by omega) hk0 hk4
  have hv := valsS_len s
  go_enter Tryd.func5, Tryd.ntmps5
  go_upto_region 5 with fail
  go_loopw [5, 6] (fun sv iv wr => ∃ k : Nat, k ≤ 4 ∧ iv = .int .i64 ((k : Int) + 1) ∧ Hid (wr.ownsRow w.heap.size 3 1 sv (scI (valsS s) k).length ((scI (valsS s) k).map (Value.int .i64))) ∧ Hid (Below w.heap.size w wr)) (fun _ iv _ => 10 - (intOf iv).toNat)
  case atStart => exact ⟨0, by omega, rfl, Lib.hid (World.ownsRow_nil _ _ _ _), Lib.hid (Below.refl _ _)⟩
  case round =>
    obtain ⟨k, hk, rfl, HO, HB⟩ := hrel
    by_cases h4 : k < 4
    · have hki : (k : Int) + 1 ≤ 4 := by omega
      have hki2 : (k : Int) + 1 < 5 := by omega
      have hst : scI (valsS s) (k + 1) = scI (valsS s) k ++ (if hvB (valsS s) (k + 1) = true then [((k + 1 : Nat) : Int)] else []) := rfl
      have hlen := scI_len (valsS s) k
      have HK := fun w => HS.out (k + 1) w (by omega) (by omega)
      cases hb : hvB (valsS s) (k + 1)
      · rw [hb] at hst HK
        rw [if_neg (by simp), List.append_nil] at hst
        have Hst := Lib.hid hst
        replace HK := Lib.hid HK
        clear hst hb hlen hv
        go_wp2_with (go_at_call 20; refine (HK.out _).mono ?_; rintro e w1 ⟨rfl, b1⟩)
        go_roundw
        case rel => exact ⟨k + 1, by omega, by go_num, by rw [Hst.out]; exact Lib.hid (own_below HO.out b1), Lib.hid (HB.out.trans (b1.mono HB.out.size))⟩
        case measure => (simp [intOf]; try omega)
      · rw [hb] at hst HK
        rw [if_pos rfl] at hst
        have Hst := Lib.hid hst
        have Hlen := Lib.hid hlen
        replace HK := Lib.hid HK
        clear hst hb hlen hv
        go_wp2_with (first
          | (go_at_call 20; refine (HK.out _).mono ?_; rintro e w1 ⟨rfl, b1⟩; have HO1 := Lib.hid (own_below HO.out b1); have HB1 := Lib.hid (HB.out.trans (b1.mono HB.out.size)); clear b1)
          | (at_builtin; refine wpList_append_own _ rfl _ _ 24 rfl w.heap.size 3 i0 (.int .i64 0) 1 8 Tryd.underlying24 hi0 hz0 hz1 hz2 rfl (by decide) _ _ _ rfl (HO1.out.alloc _) ⟨w1.heap.size, 0, none⟩ 1 1 [.int .i64 ((k : Int) + 1)] rfl rfl (one_int _ _) ?c2 ?c3 ?c4 ?c5 ?_))
        case c2 => intro u hu; simp at hu; subst hu; rfl
        case c3 => have := Hlen.out; unfold maxLen; omega
        case c4 => have := Hlen.out; omega
        case c5 => have := HB1.out.size; simp; omega
        intro v' w3 hown3 hgrow3 _
        have I3 := Lib.hid (grow_one HO1.out HB1.out hown3 hgrow3)
        clear hown3 hgrow3
        go_wp2
        go_roundw
        case rel => exact ⟨k + 1, by omega, by go_num, by rw [Hst.out]; exact Lib.hid I3.out.1, Lib.hid I3.out.2⟩
        case measure => (simp [intOf]; try omega)
    · obtain rfl : k = 4 := by omega
      obtain ⟨aw, cw, hav, hrow⟩ := row_own HO.out
      subst hav
      have HRW := Lib.hid hrow
      have hsl := scI_len (valsS s) 4
      clear hrow HO
      go_upto_region 11 with fail
      go_loopw [7, 8] (fun atv iv wx => ∃ i : Nat, i ≤ l.length ∧ iv = .int .i64 ((i : Int) - 1) ∧ atv = .int .i64 (lkF s l (l.length - i) i) ∧ Hid (∀ j, i ≤ j → j < l.length → (l.getD j ⟨#[]⟩).size ≤ 200) ∧ Hid (Below wr.heap.size wr wx)) (fun _ iv _ => (intOf iv + 1).toNat)
      case atStart => exact ⟨l.length, Nat.le_refl _, rfl, by rw [Nat.sub_self]; rfl, Lib.hid (fun j h1 h2 => by omega), Lib.hid (Below.refl _ _)⟩
      case round =>
        obtain ⟨i, hi, rfl, rfl, HZ, HX⟩ := hrel
        by_cases h0 : i = 0
        · subst h0
          have HF := Lib.hid fun w hT hLw => find_any s l a c w hT (by omega) (by omega) (fun j hj => by have := HZ.out j (Nat.zero_le _) hj; omega) hLw
          have HN := Lib.hid (seqB HB.out HX.out)
          have hlk : lkF s l (l.length - 0) 0 = lkF s l l.length 0 := rfl
          rw [hlk]
          generalize lkF s l l.length 0 = at0 at *
          have S1 : ∀ w, Calls Tryd.prog 20 #[.string s, .int .i64 1] w fun e w' => e = .returned (.bool (hvB (valsS s) 1)) ∧ Below w.heap.size w w' := fun w => HS.out 1 w (by omega) (by omega)
          have S2 : ∀ w, Calls Tryd.prog 20 #[.string s, .int .i64 2] w fun e w' => e = .returned (.bool (hvB (valsS s) 2)) ∧ Below w.heap.size w w' := fun w => HS.out 2 w (by omega) (by omega)
          have S3 : ∀ w, Calls Tryd.prog 20 #[.string s, .int .i64 3] w fun e w' => e = .returned (.bool (hvB (valsS s) 3)) ∧ Below w.heap.size w w' := fun w => HS.out 3 w (by omega) (by omega)
          have MX := fun w hT => mixed_any s w hT (by omega)
          have SC := Lib.hid fun w hT => scripts_any s w hT (by omega)
          unfold mxB at MX
          generalize scI (valsS s) 4 = L at *
          generalize hvB (valsS s) 1 = b1 at *
          generalize hvB (valsS s) 2 = b2 at *
          generalize hvB (valsS s) 3 = b3 at *
          replace S1 := Lib.hid S1; replace S2 := Lib.hid S2; replace S3 := Lib.hid S3
          have IN : Hid (∀ (pa : Option Addr) (ca : Nat) (w : World), Row w pa L → Row w aw L → Calls Tryd.prog 21 #[.slice pa L.length ca, .slice aw L.length cw] w fun e w' => e = .returned (.bool true) ∧ Below w.heap.size w w') := Lib.hid fun pa ca w ha hb => by
            refine (ints_ref L L pa aw ca cw w ha hb (by omega) (by omega)).mono ?_
            rintro e w' ⟨rfl, n, rfl⟩
            exact ⟨by rw [decide_eq_true (rfl : L = L)], drewN_below (Below.refl _ _) n⟩
          have HR2 := Lib.hid (HRW.out.below HX.out)
          clear HS hlk HRW HX HB hv
          cases b1 <;> cases b2 <;> cases b3
          all_goals
            replace MX := Lib.hid MX
            go_wp2_with (first
              | (go_at_call 20; (with_reducible refine (S1.out _).mono ?_); rintro e w1 ⟨rfl, d1⟩; have N1 := Lib.hid (seqB HN.out d1); have R1 := Lib.hid (HR2.out.below d1); clear d1 S1)
              | (go_at_call 20; (with_reducible refine (S2.out _).mono ?_); rintro e w2 ⟨rfl, d2⟩; have N2 := Lib.hid (seqB N1.out d2); have R2 := Lib.hid (R1.out.below d2); clear d2 S2)
              | (go_at_call 20; (with_reducible refine (S3.out _).mono ?_); rintro e w3 ⟨rfl, d3⟩; have N3 := Lib.hid (seqB N2.out d3); have R3 := Lib.hid (R2.out.below d3); clear d3 S3)
              | (go_at_call 10; (with_reducible refine (AW.out _ (HT.out.below N3.out)).mono ?_); rintro e w4 ⟨rfl, d4⟩; have N4 := Lib.hid (seqB N3.out d4); have R4 := Lib.hid (R3.out.below d4); clear d4 AW)
              | (go_at_call 22; (with_reducible refine (SC.out _ (HT.out.below N4.out)).mono ?_); rintro e w5 ⟨a5, c5, rfl, r5, d5⟩; have N5 := Lib.hid (seqB N4.out d5); have R5 := Lib.hid (R4.out.below d5); have Q5 := Lib.hid r5; clear d5 r5 SC)
              | (go_at_call 21; refine (IN.out _ _ _ Q5.out R5.out).mono ?_; rintro e w6 ⟨rfl, d6⟩; have N6 := Lib.hid (seqB N5.out d6); clear d6 IN)
              | (go_at_call 23; (with_reducible refine (MX.out _ (HT.out.below N6.out)).mono ?_); rintro e w7 ⟨rfl, d7⟩; have N7 := Lib.hid (seqB N6.out d7); clear d7 MX)
              | (go_at_call 24; (with_reducible refine (HF.out _ (HT.out.below N7.out) (HL.out.below N7.out)).mono ?_); rintro e w8 ⟨rfl, d8⟩; have N8 := Lib.hid (seqB N7.out d8); clear d8 HF))
            go_ret
            exact ⟨rfl, N8.out⟩
        · obtain ⟨m, rfl⟩ : ∃ m, i = m + 1 := ⟨i - 1, by omega⟩
          have hst : lkF s l (l.length - m) m = if isLk s (l.getD m ⟨#[]⟩) = true then (m : Int) else lkF s l (l.length - (m + 1)) (m + 1) := by
            obtain ⟨f, hf⟩ : ∃ f, l.length - m = f + 1 := ⟨l.length - m - 1, by omega⟩
            rw [hf, show l.length - (m + 1) = f by omega]
            show (if m < l.length then _ else _) = _
            rw [if_pos (by omega)]
          have hmi : (m : Int) < (l.length : Int) := by omega
          have hm0 : (0 : Int) ≤ (m : Int) := by omega
          rw [show ((m + 1 : Nat) : Int) - 1 = (m : Int) by omega]
          have HN := Lib.hid (seqB HB.out HX.out)
          obtain ⟨bb, off, rfl, hbb, hcell⟩ := (HL.out.below HN.out) m (by omega)
          have HZ2 : (l.getD m ⟨#[]⟩).size ≤ 200 → ∀ j, m ≤ j → j < l.length → (l.getD j ⟨#[]⟩).size ≤ 200 := fun h j h1 h2 => by
            by_cases hj : j = m
            · rw [hj]; exact h
            · exact HZ.out j (by omega) h2
          replace HZ2 := Lib.hid HZ2
          have hz := hz63 m (by omega)
          unfold isLk alB at hst
          generalize lkF s l (l.length - (m + 1)) (m + 1) = at1 at *
          generalize hat : lkF s l (l.length - m) m = at2 at *
          have Hat := Lib.hid hat
          clear hat HS hv HRW
          generalize l.getD m ⟨#[]⟩ = t at *
          by_cases hbig : 200 < t.size
          · have hbigi : (200 : Int) < (t.size : Int) := by omega
            clear hst
            go_wp2_with (go_at_call 10; (with_reducible refine (AW.out _ (HT.out.below HN.out)).mono ?_); rintro e w1 ⟨rfl, d1⟩)
            go_ret
            exact ⟨rfl, seqB HN.out d1⟩
          · have hbigi : ¬ (200 : Int) < (t.size : Int) := by omega
            by_cases hts : t.toList == s.toList
            · rw [hts] at hst
              have Hst : Hid (at2 = at1) := Lib.hid (by rw [hst]; simp)
              clear hst
              go_wp2
              go_roundw
              case rel => exact ⟨m, by omega, by go_num, by rw [← Hst.out, Hat.out], Lib.hid (HZ2.out (by omega)), HX⟩
              case measure => (simp [intOf]; try omega)
            · have hts2 : (t.toList == s.toList) = false := by simpa using hts
              rw [hts2] at hst
              clear hts
              have st := strip_size t
              have ss := strip_size s
              have R1 := Lib.hid fun w => rstrip_ref t w (by omega)
              have R2 := Lib.hid fun w => rfold_ref (tellS stF t) w (by omega)
              have R3 := Lib.hid fun w => rstrip_ref s w (by omega)
              have R4 := Lib.hid fun w => rfold_ref (tellS stF s) w (by omega)
              rw [beq_symm_l] at hst
              clear st ss
              generalize tellS foF (tellS stF t) = ft at *
              generalize tellS foF (tellS stF s) = fs at *
              generalize tellS stF t = gt at *
              generalize tellS stF s = gs at *
              cases hal : ft.toList == fs.toList
              · rw [hal] at hst
                have Hst : Hid (at2 = at1) := Lib.hid (by rw [hst]; simp)
                clear hst
                go_wp2_with (first
                  | (go_at_call 16; (with_reducible refine (R1.out _).mono ?_); rintro e w1 ⟨rfl, d1⟩; have hc1 := (d1.cell (p := ⟨bb, off + m, none⟩) hbb).trans hcell; have N1 := Lib.hid (seqB HX.out d1); clear d1 R1)
                  | (go_at_call 18; (with_reducible refine (R2.out _).mono ?_); rintro e w2 ⟨rfl, d2⟩; have N2 := Lib.hid (seqB N1.out d2); clear d2 R2)
                  | (go_at_call 16; (with_reducible refine (R3.out _).mono ?_); rintro e w3 ⟨rfl, d3⟩; have N3 := Lib.hid (seqB N2.out d3); clear d3 R3)
                  | (go_at_call 18; (with_reducible refine (R4.out _).mono ?_); rintro e w4 ⟨rfl, d4⟩; have N4 := Lib.hid (seqB N3.out d4); clear d4 R4))
                go_roundw
                case rel => (repeat apply Exists.intro); refine ⟨?_, rfl⟩; exact ⟨m, by omega, by go_num, by rw [← Hst.out, Hat.out], Lib.hid (HZ2.out (by omega)), N4⟩
                case measure => (simp [intOf]; try omega)
              · rw [hal] at hst
                have Hst : Hid (at2 = (m : Int)) := Lib.hid (by rw [hst]; simp)
                clear hst
                go_wp2_with (first
                  | (go_at_call 16; (with_reducible refine (R1.out _).mono ?_); rintro e w1 ⟨rfl, d1⟩; have hc1 := (d1.cell (p := ⟨bb, off + m, none⟩) hbb).trans hcell; have N1 := Lib.hid (seqB HX.out d1); clear d1 R1)
                  | (go_at_call 18; (with_reducible refine (R2.out _).mono ?_); rintro e w2 ⟨rfl, d2⟩; have N2 := Lib.hid (seqB N1.out d2); clear d2 R2)
                  | (go_at_call 16; (with_reducible refine (R3.out _).mono ?_); rintro e w3 ⟨rfl, d3⟩; have N3 := Lib.hid (seqB N2.out d3); clear d3 R3)
                  | (go_at_call 18; (with_reducible refine (R4.out _).mono ?_); rintro e w4 ⟨rfl, d4⟩; have N4 := Lib.hid (seqB N3.out d4); clear d4 R4))
                go_roundw
                case rel => (repeat apply Exists.intro); refine ⟨?_, rfl⟩; exact ⟨m, by omega, by go_num, by rw [← Hst.out, Hat.out], Lib.hid (HZ2.out (by omega)), N4⟩
                case measure => (simp [intOf]; try omega)
end Go.Proofs.YtanfkilmjdfeoaaDoor
