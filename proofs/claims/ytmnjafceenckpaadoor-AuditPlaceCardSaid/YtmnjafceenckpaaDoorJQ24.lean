/-
  Joined: Au15.
-/
import Derived.Test.YtmnjafceenckpaaDoorJQ23
set_option linter.unusedVariables false
set_option linter.unusedSimpArgs false
set_option maxRecDepth 100000
set_option linter.unusedVariables false
set_option linter.unusedSimpArgs false
namespace Go.Proofs.YtmnjafceenckpaaDoor
open Go.RowKit
set_option maxRecDepth 100000 in
set_option maxHeartbeats 4000000 in
theorem eq9 (c0 c1 c2 c3 c4 c5 c6 c7 c8 : Int) (w : World) : (Op.equalIn 10000 28 (.agg #[.int .i64 c0, .int .i64 c1, .int .i64 c2, .int .i64 c3, .int .i64 c4, .int .i64 c5, .int .i64 c6, .int .i64 c7, .int .i64 c8]) (.agg #[.int .i64 c0, .int .i64 c1, .int .i64 c2, .int .i64 c3, .int .i64 c4, .int .i64 c5, .int .i64 c6, .int .i64 c7, .int .i64 c8])).run Tryd.prog w = .ok true w := by
  obtain ⟨i0, hi, hz0, hz1, hz2⟩ := info_parts infoNi
  have hu := Tryd.underlying28
  have hv := Tryd.underlying3
  have hk : Tryd.prog.plainKey 3 = true := by kernel_rfl
  have pt : ∀ (xs : Array Value) (k : Nat) (v : Value), xs[k]? = some v → (part 3 xs k).run Tryd.prog w = .ok v w := fun xs k v h => run_part_plain w hk h
  rw [show (10000 : Nat) = (9998 + 1) + 1 by rfl]
  generalize 9998 = d
  rw [Op.equalIn]
  simp only [Sem.run_bind, run_underlying hu, Result.andThen_ok, sizeOf, typeInfo, run_program, hi, Sem.run_pure, hz1]
  have hr : List.range' 0 9 = [0, 1, 2, 3, 4, 5, 6, 7, 8] := rfl
  simp [hr, pt, run_equalIn_int, hv]
theorem auEq9 (w : World) (c0 c1 c2 c3 c4 c5 c6 c7 c8 : Int) : (binOp .eql 28 (.agg #[.int .i64 c0, .int .i64 c1, .int .i64 c2, .int .i64 c3, .int .i64 c4, .int .i64 c5, .int .i64 c6, .int .i64 c7, .int .i64 c8]) (.agg #[.int .i64 c0, .int .i64 c1, .int .i64 c2, .int .i64 c3, .int .i64 c4, .int .i64 c5, .int .i64 c6, .int .i64 c7, .int .i64 c8])).run Tryd.prog w = .ok (.bool true) w := by
  rw [run_eql_struct, eq9 c0 c1 c2 c3 c4 c5 c6 c7 c8 w]; rfl
set_option maxRecDepth 100000 in
set_option maxHeartbeats 8000000 in
theorem auplace_far (s : ByteArray) (w : World) (hT : ET w) (hs : 120 < s.size) : Calls Tryd.prog 3 #[.string s] w fun e w' => e = .returned (.bool true) ∧ Below w.heap.size w w' := by
  have AW := Lib.hid (auawake_any w hT)
  have hs1 : (120 : Int) < (s.size : Int) := by omega
  clear hT
  go_enter Tryd.func3, Tryd.ntmps3
  go_wp2_with fail
  go_at_call 4
  refine AW.out.mono ?_
  rintro e w1 ⟨rfl, hb⟩
  have N := Lib.hid hb
  clear hb
  go_wp2_with fail
  go_ret
  exact ⟨rfl, N.out⟩
set_option maxRecDepth 100000 in
set_option maxHeartbeats 8000000 in
theorem auplace_near (s : ByteArray) (w : World) (hT : ET w) (hs : s.size ≤ 120) : Calls Tryd.prog 3 #[.string s] w fun e w' => e = .returned (.bool true) ∧ Below w.heap.size w w' := by
  obtain ⟨hiff, hzle, hcl⟩ := cln_all s
  obtain ⟨L, hL⟩ : ∃ L, prsS (s.extract 0 (clZ s)) = some L := Option.isSome_iff_exists.1 hcl
  have LO := Lib.hid (along_any s w (by omega))
  have KI := Lib.hid fun w hT => akinds_any s L w hT (by omega) hL
  have PLc := Lib.hid fun w hT => aplace_any s w hT (by omega)
  have hm := (prsS_sound hL).1
  have hll := prs_len hL
  rw [ByteArray.size_extract] at hll
  obtain ⟨z, hz⟩ : ∃ z, clZ s = z := ⟨_, rfl⟩
  have PW : Hid (plZ s = if z = s.size then -1 else (z : Int)) := Lib.hid (by
    unfold plZ
    by_cases h : clZ s = s.size
    · rw [if_pos (hiff.2 h), if_pos (by rw [← hz]; exact h)]
    · rw [if_neg (fun e => h (hiff.1 e)), if_neg (by rw [← hz]; exact h), hz])
  rw [hz] at LO hzle hL hll
  have PY := Lib.hid fun w hT => aparse_own (s.extract 0 z) L w hT (by rw [ByteArray.size_extract]; omega) hL
  obtain ⟨n, hn⟩ : ∃ n, L.length = n := ⟨_, rfl⟩
  rw [hn] at PY hll
  have HM := Lib.hid (And.intro hm (And.intro hn (And.intro (show n ≤ 120 by omega) (And.intro hzle hs))))
  have HT := Lib.hid hT
  have hs1 : ¬ (120 : Int) < (s.size : Int) := by omega
  have hzi : (z : Int) ≤ (s.size : Int) := by omega
  have hz0 : (0 : Int) ≤ (z : Int) := by omega
  obtain ⟨want, hwant⟩ : ∃ want, (if z = s.size then (-1 : Int) else (z : Int)) = want := ⟨_, rfl⟩
  have HW : Hid ((z = s.size ∧ want = -1) ∨ (z ≠ s.size ∧ want = (z : Int))) := Lib.hid (by
    by_cases h : z = s.size
    · exact .inl ⟨h, by rw [← hwant, if_pos h]⟩
    · exact .inr ⟨h, by rw [← hwant, if_neg h]⟩)
  rw [hwant] at PW
  clear hT hs hL hll hz hn hm hzle hcl hiff hwant
  go_enter Tryd.func3, Tryd.ntmps3
  go_wp2_with fail
  go_at_call 5
  refine LO.out.mono ?_
  rintro e w1 ⟨rfl, hb⟩
  have N1 := Lib.hid hb
  clear hb
  have hcase := HW.out
  rcases hcase with ⟨hzs, hw⟩ | ⟨hzs, hw⟩
  · subst hw
    have hzb : ((z : Int) == (s.size : Int)) = true := by rw [beq_iff_eq]; omega
    clear hzs
    go_upto_region 7 with fail
    clear hzb
    go_wp2_with fail
    go_at_call 6
    refine (PY.out w1 (HT.out.below N1.out)).mono ?_
    rintro e w2 ⟨a, c, rfl, ho, hb⟩
    have hb3 := below_alloc w2 (.cells (kRow []) 28)
    have r3 := heap_alloc_new w2 (.cells (kRow []) 28)
    have O3 := ownT_below ho hb3
    have M3 := seqB (seqB N1.out hb) hb3
    obtain ⟨gk, hgk⟩ : ∃ gk, w2.heap.size = gk := ⟨_, rfl⟩
    rw [hgk] at r3
    have hlow : w.heap.size ≤ gk := by rw [← hgk]; exact Nat.le_trans N1.out.size hb.size
    obtain ⟨B1, hB1⟩ : ∃ B1, w1.heap.size = B1 := ⟨_, rfl⟩
    rw [hB1] at O3
    have HO3 := Lib.hid O3
    have HR3 := Lib.hid r3
    have HM3 := Lib.hid M3
    have HLW := Lib.hid hlow
    clear ho hb hb3 r3 O3 M3 hlow hB1
    go_upto_region 10 with fail
    clear hgk
    go_loopw [8] (fun iv wr => ∃ i : Nat, i ≤ n ∧ iv = .int .i64 (i : Int) ∧ Hid (ownT wr B1 (.slice a n c) L) ∧ Hid (wr.heap[gk]? = some (.cells (kRow (L.take i)) 28 (0, 0))) ∧ Hid (Below w.heap.size w wr)) (fun iv _ => n - (intOf iv).toNat)
    case atStart => exact ⟨0, Nat.zero_le _, rfl, HO3, HR3, HM3⟩
    case round =>
      obtain ⟨i, hi, rfl, HO, HK, HBe⟩ := hrel
      have hn1 := HM.out.2.2.1
      by_cases hlt : i < n
      · have hiL : i < L.length := by rw [HM.out.2.1]; exact hlt
        have hi1 : (i : Int) < (n : Int) := by omega
        have hi0 : (0 : Int) ≤ (i : Int) := by omega
        have hne := own_ne_kind HO.out HK.out (by decide)
        obtain ⟨bb, off, rfl, hblt, y0, y1, y2, y3⟩ := ownT_at HO.out i hiL
        have hr := kind_rng HM.out.1 i hiL
        obtain ⟨kk, hkk⟩ := Int.eq_ofNat_of_zero_le hr.1
        have hk8 : kk ≤ 8 := by have := hr.2; rw [hkk] at this; omega
        have hts := take_snocO L i hiL
        obtain ⟨⟨k, p, q, tx⟩, ho⟩ : ∃ o, L.getD i ot0 = o := ⟨_, rfl⟩
        rw [ho] at y0 hkk hts
        obtain rfl : k = (kk : Int) := hkk
        have hset := kRow_set (L.take i) ((kk : Int), p, q, tx) kk hk8 rfl
        have hat := kRow_at (L.take i) kk hk8
        have hcr := cntK_rng (L.take i) (kk : Int)
        have htl : (L.take i).length ≤ 1000 := by rw [List.length_take]; omega
        obtain ⟨cc, hcc⟩ : ∃ cc, cntK (L.take i) (kk : Int) = cc := ⟨_, rfl⟩
        rw [hcc] at hset hat hcr
        have z0 : wr.cell? ⟨gk, kk, none⟩ = some (.int .i64 cc) := by rw [cell_of_row _ _ kk _ _ _ HK.out]; exact hat
        have zf := frozen_of_row _ _ kk _ _ HK.out
        have hc1 : cc + 1 ≤ 9223372036854775807 := by omega
        have hc0 : 0 ≤ cc := hcr.1
        dsimp at y0
        have HK8 : Hid ((wr.setCell ⟨gk, kk, none⟩ (.int .i64 (cc + 1))).heap[gk]? = some (.cells (kRow (L.take (i + 1))) 28 (0, 0))) := Lib.hid (by
          have h := heap_setCell_same wr gk kk _ _ (.int .i64 (cc + 1)) HK.out
          rw [hset, ← hts] at h
          exact h)
        have HO8 := Lib.hid (show ownT (wr.setCell ⟨gk, kk, none⟩ (.int .i64 (cc + 1))) B1 _ L from ownsRow_setCell_other HO.out (a := ⟨gk, kk, none⟩) hne (.int .i64 (cc + 1)))
        have HN8 := Lib.hid (HBe.out.setCell (p := ⟨gk, kk, none⟩) HLW.out (.int .i64 (cc + 1)))
        have hk8i : (kk : Int) < 9 := by omega
        have hk0i : (0 : Int) ≤ (kk : Int) := by omega
        have hkn : ¬ (kk : Int) < 0 := by omega
        have hk8j : ¬ (8 : Int) < (kk : Int) := by omega
        have HLT := Lib.hid hlt
        clear hset hat hts hcc hcr htl ho hr hiL hlt hblt HO HK y1 y2 y3 hne
        go_wp2_with fail
        go_roundw
        case rel => exact ⟨i + 1, by have := HLT.out; omega, by go_num, HO8, HK8, HN8⟩
        case measure => (have := HLT.out; simp [intOf]; try omega)
      · obtain rfl : i = n := by omega
        have hkl : ¬ (i : Int) < (i : Int) := by omega
        rw [List.take_of_length_le (Nat.le_of_eq HM.out.2.1)] at HK
        clear hlt
        have HKV : Hid (kdV L = .agg #[.int .i64 (cntK L 0), .int .i64 (cntK L 1), .int .i64 (cntK L 2), .int .i64 (cntK L 3), .int .i64 (cntK L 4), .int .i64 (cntK L 5), .int .i64 (cntK L 6), .int .i64 (cntK L 7), .int .i64 (cntK L 8)]) := Lib.hid rfl
        unfold kRow at HK
        generalize cntK L 0 = c0 at *
        generalize cntK L 1 = c1 at *
        generalize cntK L 2 = c2 at *
        generalize cntK L 3 = c3 at *
        generalize cntK L 4 = c4 at *
        generalize cntK L 5 = c5 at *
        generalize cntK L 6 = c6 at *
        generalize cntK L 7 = c7 at *
        generalize cntK L 8 = c8 at *
        have KI2 : Hid (∀ w, ET w → Calls Tryd.prog 8 #[.string s] w fun e w' => e = .returned (.agg #[.int .i64 c0, .int .i64 c1, .int .i64 c2, .int .i64 c3, .int .i64 c4, .int .i64 c5, .int .i64 c6, .int .i64 c7, .int .i64 c8]) ∧ Below w.heap.size w w') := Lib.hid (fun w hT => by
          have := KI.out w hT
          rw [HKV.out] at this; exact this)
        have PL2 : Hid (∀ w, ET w → Calls Tryd.prog 7 #[.string s] w fun e w' => e = .returned (.int .i64 (-1)) ∧ Below w.heap.size w w') := Lib.hid (fun w hT => by
          have := PLc.out w hT
          rw [PW.out] at this; exact this)
        have HKr : Hid (wr.drew.heap[gk]? = some (.cells #[.int .i64 c0, .int .i64 c1, .int .i64 c2, .int .i64 c3, .int .i64 c4, .int .i64 c5, .int .i64 c6, .int .i64 c7, .int .i64 c8] 28 (0, 0))) := HK
        have HNr : Hid (Below w.heap.size w wr.drew) := Lib.hid HBe.out.drew
        have xx := fun j => cell_of_row _ _ j _ _ _ HKr.out
        have x0 := xx 0
        have x1 := xx 1
        have x2 := xx 2
        have x3 := xx 3
        have x4 := xx 4
        have x5 := xx 5
        have x6 := xx 6
        have x7 := xx 7
        have x8 := xx 8
        dsimp at x0 x1 x2 x3 x4 x5 x6 x7 x8
        clear xx HK
        have hEq := fun w => auEq9 w c0 c1 c2 c3 c4 c5 c6 c7 c8
        go_upto_region 15 with fail
        go_region_law (first
          | (go_simp; go_at_call 4; refine (auawake_any _ (HT.out.below HNr.out)).mono ?_; rintro e w9 ⟨rfl, hb⟩; have HKr := Lib.hid (blk_below HKr.out hb); have HNr := Lib.hid (seqB HNr.out hb); have xx := fun j => cell_of_row _ _ j _ _ _ HKr.out; have x0 := xx 0; have x1 := xx 1; have x2 := xx 2; have x3 := xx 3; have x4 := xx 4; have x5 := xx 5; have x6 := xx 6; have x7 := xx 7; have x8 := xx 8; dsimp at x0 x1 x2 x3 x4 x5 x6 x7 x8; clear xx hb)
          | (go_simp; go_at_call 7; refine (PL2.out _ (HT.out.below HNr.out)).mono ?_; rintro e w9 ⟨rfl, hb⟩; have HKr := Lib.hid (blk_below HKr.out hb); have HNr := Lib.hid (seqB HNr.out hb); have xx := fun j => cell_of_row _ _ j _ _ _ HKr.out; have x0 := xx 0; have x1 := xx 1; have x2 := xx 2; have x3 := xx 3; have x4 := xx 4; have x5 := xx 5; have x6 := xx 6; have x7 := xx 7; have x8 := xx 8; dsimp at x0 x1 x2 x3 x4 x5 x6 x7 x8; clear xx hb)
          | (go_simp; go_at_call 8; refine (KI2.out _ (HT.out.below HNr.out)).mono ?_; rintro e w9 ⟨rfl, hb⟩; have HKr := Lib.hid (blk_below HKr.out hb); have HNr := Lib.hid (seqB HNr.out hb); have xx := fun j => cell_of_row _ _ j _ _ _ HKr.out; have x0 := xx 0; have x1 := xx 1; have x2 := xx 2; have x3 := xx 3; have x4 := xx 4; have x5 := xx 5; have x6 := xx 6; have x7 := xx 7; have x8 := xx 8; dsimp at x0 x1 x2 x3 x4 x5 x6 x7 x8; clear xx hb))
        all_goals (
          go_wp2_with fail
          go_ret
          exact ⟨rfl, HNr.out⟩)
  · subst hw
    have hzi2 : ¬ (z : Int) = (s.size : Int) := by omega
    have hzb : ((z : Int) == (s.size : Int)) = false := beq_eq_false_iff_ne.2 hzi2
    clear hzs
    go_upto_region 7 with fail
    clear hzb hzi2
    go_wp2_with fail
    go_at_call 6
    refine (PY.out w1 (HT.out.below N1.out)).mono ?_
    rintro e w2 ⟨a, c, rfl, ho, hb⟩
    have hb3 := below_alloc w2 (.cells (kRow []) 28)
    have r3 := heap_alloc_new w2 (.cells (kRow []) 28)
    have O3 := ownT_below ho hb3
    have M3 := seqB (seqB N1.out hb) hb3
    obtain ⟨gk, hgk⟩ : ∃ gk, w2.heap.size = gk := ⟨_, rfl⟩
    rw [hgk] at r3
    have hlow : w.heap.size ≤ gk := by rw [← hgk]; exact Nat.le_trans N1.out.size hb.size
    obtain ⟨B1, hB1⟩ : ∃ B1, w1.heap.size = B1 := ⟨_, rfl⟩
    rw [hB1] at O3
    have HO3 := Lib.hid O3
    have HR3 := Lib.hid r3
    have HM3 := Lib.hid M3
    have HLW := Lib.hid hlow
    clear ho hb hb3 r3 O3 M3 hlow hB1
    go_upto_region 10 with fail
    clear hgk
    go_loopw [8] (fun iv wr => ∃ i : Nat, i ≤ n ∧ iv = .int .i64 (i : Int) ∧ Hid (ownT wr B1 (.slice a n c) L) ∧ Hid (wr.heap[gk]? = some (.cells (kRow (L.take i)) 28 (0, 0))) ∧ Hid (Below w.heap.size w wr)) (fun iv _ => n - (intOf iv).toNat)
    case atStart => exact ⟨0, Nat.zero_le _, rfl, HO3, HR3, HM3⟩
    case round =>
      obtain ⟨i, hi, rfl, HO, HK, HBe⟩ := hrel
      have hn1 := HM.out.2.2.1
      by_cases hlt : i < n
      · have hiL : i < L.length := by rw [HM.out.2.1]; exact hlt
        have hi1 : (i : Int) < (n : Int) := by omega
        have hi0 : (0 : Int) ≤ (i : Int) := by omega
        have hne := own_ne_kind HO.out HK.out (by decide)
        obtain ⟨bb, off, rfl, hblt, y0, y1, y2, y3⟩ := ownT_at HO.out i hiL
        have hr := kind_rng HM.out.1 i hiL
        obtain ⟨kk, hkk⟩ := Int.eq_ofNat_of_zero_le hr.1
        have hk8 : kk ≤ 8 := by have := hr.2; rw [hkk] at this; omega
        have hts := take_snocO L i hiL
        obtain ⟨⟨k, p, q, tx⟩, ho⟩ : ∃ o, L.getD i ot0 = o := ⟨_, rfl⟩
        rw [ho] at y0 hkk hts
        obtain rfl : k = (kk : Int) := hkk
        have hset := kRow_set (L.take i) ((kk : Int), p, q, tx) kk hk8 rfl
        have hat := kRow_at (L.take i) kk hk8
        have hcr := cntK_rng (L.take i) (kk : Int)
        have htl : (L.take i).length ≤ 1000 := by rw [List.length_take]; omega
        obtain ⟨cc, hcc⟩ : ∃ cc, cntK (L.take i) (kk : Int) = cc := ⟨_, rfl⟩
        rw [hcc] at hset hat hcr
        have z0 : wr.cell? ⟨gk, kk, none⟩ = some (.int .i64 cc) := by rw [cell_of_row _ _ kk _ _ _ HK.out]; exact hat
        have zf := frozen_of_row _ _ kk _ _ HK.out
        have hc1 : cc + 1 ≤ 9223372036854775807 := by omega
        have hc0 : 0 ≤ cc := hcr.1
        dsimp at y0
        have HK8 : Hid ((wr.setCell ⟨gk, kk, none⟩ (.int .i64 (cc + 1))).heap[gk]? = some (.cells (kRow (L.take (i + 1))) 28 (0, 0))) := Lib.hid (by
          have h := heap_setCell_same wr gk kk _ _ (.int .i64 (cc + 1)) HK.out
          rw [hset, ← hts] at h
          exact h)
        have HO8 := Lib.hid (show ownT (wr.setCell ⟨gk, kk, none⟩ (.int .i64 (cc + 1))) B1 _ L from ownsRow_setCell_other HO.out (a := ⟨gk, kk, none⟩) hne (.int .i64 (cc + 1)))
        have HN8 := Lib.hid (HBe.out.setCell (p := ⟨gk, kk, none⟩) HLW.out (.int .i64 (cc + 1)))
        have hk8i : (kk : Int) < 9 := by omega
        have hk0i : (0 : Int) ≤ (kk : Int) := by omega
        have hkn : ¬ (kk : Int) < 0 := by omega
        have hk8j : ¬ (8 : Int) < (kk : Int) := by omega
        have HLT := Lib.hid hlt
        clear hset hat hts hcc hcr htl ho hr hiL hlt hblt HO HK y1 y2 y3 hne
        go_wp2_with fail
        go_roundw
        case rel => exact ⟨i + 1, by have := HLT.out; omega, by go_num, HO8, HK8, HN8⟩
        case measure => (have := HLT.out; simp [intOf]; try omega)
      · obtain rfl : i = n := by omega
        have hkl : ¬ (i : Int) < (i : Int) := by omega
        rw [List.take_of_length_le (Nat.le_of_eq HM.out.2.1)] at HK
        clear hlt
        have HKV : Hid (kdV L = .agg #[.int .i64 (cntK L 0), .int .i64 (cntK L 1), .int .i64 (cntK L 2), .int .i64 (cntK L 3), .int .i64 (cntK L 4), .int .i64 (cntK L 5), .int .i64 (cntK L 6), .int .i64 (cntK L 7), .int .i64 (cntK L 8)]) := Lib.hid rfl
        unfold kRow at HK
        generalize cntK L 0 = c0 at *
        generalize cntK L 1 = c1 at *
        generalize cntK L 2 = c2 at *
        generalize cntK L 3 = c3 at *
        generalize cntK L 4 = c4 at *
        generalize cntK L 5 = c5 at *
        generalize cntK L 6 = c6 at *
        generalize cntK L 7 = c7 at *
        generalize cntK L 8 = c8 at *
        have KI2 : Hid (∀ w, ET w → Calls Tryd.prog 8 #[.string s] w fun e w' => e = .returned (.agg #[.int .i64 c0, .int .i64 c1, .int .i64 c2, .int .i64 c3, .int .i64 c4, .int .i64 c5, .int .i64 c6, .int .i64 c7, .int .i64 c8]) ∧ Below w.heap.size w w') := Lib.hid (fun w hT => by
          have := KI.out w hT
          rw [HKV.out] at this; exact this)
        have PL2 : Hid (∀ w, ET w → Calls Tryd.prog 7 #[.string s] w fun e w' => e = .returned (.int .i64 (z : Int)) ∧ Below w.heap.size w w') := Lib.hid (fun w hT => by
          have := PLc.out w hT
          rw [PW.out] at this; exact this)
        have HKr : Hid (wr.drew.heap[gk]? = some (.cells #[.int .i64 c0, .int .i64 c1, .int .i64 c2, .int .i64 c3, .int .i64 c4, .int .i64 c5, .int .i64 c6, .int .i64 c7, .int .i64 c8] 28 (0, 0))) := HK
        have HNr : Hid (Below w.heap.size w wr.drew) := Lib.hid HBe.out.drew
        have xx := fun j => cell_of_row _ _ j _ _ _ HKr.out
        have x0 := xx 0
        have x1 := xx 1
        have x2 := xx 2
        have x3 := xx 3
        have x4 := xx 4
        have x5 := xx 5
        have x6 := xx 6
        have x7 := xx 7
        have x8 := xx 8
        dsimp at x0 x1 x2 x3 x4 x5 x6 x7 x8
        clear xx HK
        have hEq := fun w => auEq9 w c0 c1 c2 c3 c4 c5 c6 c7 c8
        go_upto_region 15 with fail
        go_region_law (first
          | (go_simp; go_at_call 4; refine (auawake_any _ (HT.out.below HNr.out)).mono ?_; rintro e w9 ⟨rfl, hb⟩; have HKr := Lib.hid (blk_below HKr.out hb); have HNr := Lib.hid (seqB HNr.out hb); have xx := fun j => cell_of_row _ _ j _ _ _ HKr.out; have x0 := xx 0; have x1 := xx 1; have x2 := xx 2; have x3 := xx 3; have x4 := xx 4; have x5 := xx 5; have x6 := xx 6; have x7 := xx 7; have x8 := xx 8; dsimp at x0 x1 x2 x3 x4 x5 x6 x7 x8; clear xx hb)
          | (go_simp; go_at_call 7; refine (PL2.out _ (HT.out.below HNr.out)).mono ?_; rintro e w9 ⟨rfl, hb⟩; have HKr := Lib.hid (blk_below HKr.out hb); have HNr := Lib.hid (seqB HNr.out hb); have xx := fun j => cell_of_row _ _ j _ _ _ HKr.out; have x0 := xx 0; have x1 := xx 1; have x2 := xx 2; have x3 := xx 3; have x4 := xx 4; have x5 := xx 5; have x6 := xx 6; have x7 := xx 7; have x8 := xx 8; dsimp at x0 x1 x2 x3 x4 x5 x6 x7 x8; clear xx hb)
          | (go_simp; go_at_call 8; refine (KI2.out _ (HT.out.below HNr.out)).mono ?_; rintro e w9 ⟨rfl, hb⟩; have HKr := Lib.hid (blk_below HKr.out hb); have HNr := Lib.hid (seqB HNr.out hb); have xx := fun j => cell_of_row _ _ j _ _ _ HKr.out; have x0 := xx 0; have x1 := xx 1; have x2 := xx 2; have x3 := xx 3; have x4 := xx 4; have x5 := xx 5; have x6 := xx 6; have x7 := xx 7; have x8 := xx 8; dsimp at x0 x1 x2 x3 x4 x5 x6 x7 x8; clear xx hb))
        all_goals (
          go_wp2_with fail
          go_ret
          exact ⟨rfl, HNr.out⟩)
theorem auditplace_any (s : ByteArray) (w : World) (hT : ET w) : Calls Tryd.prog 3 #[.string s] w fun e w' => e = .returned (.bool true) ∧ Below w.heap.size w w' := by
  by_cases hs : 120 < s.size
  · exact auplace_far s w hT hs
  · exact auplace_near s w hT (Nat.le_of_not_lt hs)
end Go.Proofs.YtmnjafceenckpaaDoor
