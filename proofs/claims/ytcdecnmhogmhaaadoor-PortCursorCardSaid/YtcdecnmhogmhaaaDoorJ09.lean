/-
  Joined: R18 Sh8 V1.
-/
import Derived.Test.YtcdecnmhogmhaaaDoorJ04
import Derived.Test.YtcdecnmhogmhaaaDoorJ06
import Derived.Test.YtcdecnmhogmhaaaDoorJ08
set_option linter.unusedVariables false
set_option linter.unusedSimpArgs false
namespace Go.Proofs.YtcdecnmhogmhaaaDoor
set_option maxRecDepth 100000
open Go.RowKit
set_option maxHeartbeats 8000000 in
theorem lay_any (L : List Cl) (wd : Int) (a : Option Addr) (c : Nat) (w : World) (hl : L.length ≤ 100000) (hw : 1 ≤ wd) (hw2 : wd ≤ 1000) (hlay : layB L = true) (ha : CellsIn w a L) (hc : L.length ≤ c) :
    Calls Tryd.prog 66 #[.slice a L.length c, .int .i64 wd] w fun e w' => ∃ v pv, e = .returned (.tuple #[v, pv, .int .i64 0]) ∧ (∃ ra rc, v = .slice ra (lyRows L wd).length rc ∧ (lyRows L wd).length ≤ rc ∧ RowsC w' ra (lyRows L wd)) ∧ ownA w' w.heap.size pv (spAll L wd) ∧ Below w.heap.size w w' := by
  obtain ⟨i0, hi, hz0, hz1, hz2⟩ := info_parts infoA2
  have HA := Lib.hid ha; have HLA := Lib.hid hlay
  have hLY := Lib.hid fun w' (ha : CellsIn w' a L) => layable_any L a c w' (by omega) ha
  have hPC := Lib.hid fun k w' (hk : k ≤ 1000000) (ha : CellsIn w' a L) => piece_any L k a c w' (by omega) hk ha
  clear ha hlay
  have hLB : layB L = true := HLA.out
  go_enter Tryd.func66, Tryd.ntmps66
  go_wp2_with (first
    | (go_at_call 111; refine (hLY.out _ HA.out).mono ?_; rintro e w1 ⟨rfl, hb1⟩; rw [hLB])
    | (at_make; refine wpList_make_own _ rfl _ _ 96 rfl w.heap.size 99 i0 (.agg #[.int .i64 0, .int .i64 0]) 2 Tryd.underlying96 hi hz0 hz1 _ _ _ (L.length + 1) rfl rfl ?b1 ?b2 ?b3 ?b4 ?_))
  case b1 => omega
  case b2 => rw [hz2]; omega
  case b3 => unfold maxLen; omega
  case b4 => have := hb1.size; simp; omega
  intro w2 hown2 hgrow2
  have hb1s := hb1.size
  have S2 := (LayM.start w1 w.heap.size hb1.size).kept hgrow2
  have N2 := ((hb1.alloc hb1.size (.cells #[.slice none 0 0] 36)).alloc (by simp; omega) (.cells #[.slice (some ⟨w1.heap.size, 0, none⟩) 1 1] 26)).grown hgrow2 (by simp; omega) (fun j hj => by cases hj)
  have K1 := blk_alloc (heap_alloc_new w2 (.cells #[.pointer (some ⟨w1.heap.size + 1, 0, none⟩)] 141)) (.cells #[.int .i64 wd] 3)
  have K2 := heap_alloc_new (w2.alloc (.cells #[.pointer (some ⟨w1.heap.size + 1, 0, none⟩)] 141)) (.cells #[.int .i64 wd] 3)
  have e2 : (w2.alloc (.cells #[.pointer (some ⟨w1.heap.size + 1, 0, none⟩)] 141)).heap.size = w2.heap.size + 1 := by simp
  rw [e2] at K2
  have S3 := Lib.hid ((S2.alloc (.cells #[.pointer (some ⟨w1.heap.size + 1, 0, none⟩)] 141)).alloc (.cells #[.int .i64 wd] 3))
  have O3 := Lib.hid (show ownA _ _ _ [] from (World.ownsRow.alloc (World.ownsRow.alloc hown2 (.cells #[.pointer (some ⟨w1.heap.size + 1, 0, none⟩)] 141)) (.cells #[.int .i64 wd] 3)))
  have N3 := (N2.alloc N2.size (.cells #[.pointer (some ⟨w1.heap.size + 1, 0, none⟩)] 141)).alloc (by have := N2.size; simp; omega) (.cells #[.int .i64 wd] 3)
  have hB1 : w.heap.size ≤ w1.heap.size + 1 := by omega
  replace K1 := Lib.hid K1; replace K2 := Lib.hid K2
  clear hown2 hgrow2 N2 S2 hb1 hb1s e2
  go_wp2_with (go_at_call 112; refine (putter_any _ _ _).mono ?_; rintro e w3 ⟨rfl, rfl⟩)
  generalize (w2.alloc _).alloc _ = W0 at *
  generalize w2.heap.size = b1 at *
  generalize w1.heap.size + 1 = q at *
  have hBq := hB1
  go_loopw [8, 10] (fun pv iv wr => ∃ (k : Nat) (X : List (List Cl)) (y : List Cl) (S : List (Int × Int)) (v vy : Value) (vs : List Value), k ≤ L.length ∧ iv = .int .i64 (k : Int) ∧ Hid (k < L.length → (L.getD k cl0).1 ≠ -1) ∧ Hid (LyI L wd k X y S) ∧ Hid (LayM wr w.heap.size q v vy vs X y) ∧ Hid (ownA wr w.heap.size pv S) ∧
    Hid (wr.heap[b1]? = some (.cells #[.pointer (some ⟨q, 0, none⟩)] 141 (0, 0))) ∧ Hid (wr.heap[b1 + 1]? = some (.cells #[.int .i64 wd] 3 (0, 0))) ∧ Below w.heap.size w wr) (fun _ iv _ => L.length - (intOf iv).toNat)
  case atStart => exact ⟨0, [], [], [], _, _, _, Nat.zero_le _, rfl, Lib.hid (fun h e => (layB_at hLB h e).1 rfl), Lib.hid (LyI.start L wd hw), S3, O3, K1, K2, N3⟩
  case round =>
    obtain ⟨k, X, y, S, v, vy, vs, hk, rfl, hne, hI, hM, hO, hK1, hK2, hbl⟩ := hrel
    by_cases hlt : k < L.length
    · obtain ⟨bb, off, rfl, hbb, _⟩ := HA.out k hlt
      have hv := hne.out hlt
      have hk1 : (k : Int) < L.length := by omega
      have hk0 : (0 : Int) ≤ k := by omega
      have hsz := hbl.size
      have HAr := Lib.hid (HA.out.below hbl)
      have hpm : (pieceM L k = 2 ∧ k + 1 < L.length ∧ (L.getD (k + 1) cl0).1 = -1) ∨ (pieceM L k = 1 ∧ (k + 1 < L.length → (L.getD (k + 1) cl0).1 ≠ -1)) := by
        unfold pieceM
        by_cases h : k + 1 < L.length ∧ (L.getD (k + 1) cl0).1 = -1
        · exact Or.inl ⟨if_pos h, h⟩
        · exact Or.inr ⟨if_neg h, fun h1 h2 => h ⟨h1, h2⟩⟩
      have hsm := hI.out.small
      have hpv : v.ownBlock ≠ some bb := fun e => by have := (hM.out.out.lt _ e).1; omega
      have hpq : bb ≠ q := by omega
      rcases hpm with ⟨hn, hr, hr1⟩ | ⟨hn, hr⟩
      · by_cases hw1 : 1 < wd
        · have hnw : ¬ wd < 2 := by omega
          have hr' : (k + 1 : Nat) < L.length := hr
          have hkc : (k : Int) + 2 ≤ c := by omega
          have hkc2 : k + 2 ≤ c := by omega
          have PU := put_any [L.getD k cl0, L.getD (k + 1) cl0] ⟨bb, off + k * 5, none⟩ (c - k) wd b1 (b1 + 1) w.heap.size q v vy vs X y wr (by simp) (by simp) (by omega) (by have := hI.out.fit; omega) (HAr.out.two hr) hpv hpq hM.out hBq hK1.out hK2.out
          have hlen : ([L.getD k cl0, L.getD (k + 1) cl0] : List Cl).length = 2 := rfl
          rw [hlen] at PU
          have I3 : Hid (LyI L wd (k + 2) (lyX wd X y ((2 : Nat) : Int)) (lyY wd y ((2 : Nat) : Int) ++ [L.getD k cl0, L.getD (k + 1) cl0]) (S ++ plN ((lyX wd X y ((2 : Nat) : Int)).length : Int) ((lyY wd y ((2 : Nat) : Int)).length : Int) 2)) := Lib.hid (by rw [plN_two]; exact hI.out.two hw1 hr hv hr1)
          have sX : (lyX wd X y ((2 : Nat) : Int)).length ≤ k + 1 := by
            unfold lyX; split
            · rw [List.length_append, List.length_singleton]; omega
            · omega
          have sY : (lyY wd y ((2 : Nat) : Int)).length ≤ 1000 := by
            have := hI.out.fit
            unfold lyY; split
            · show 0 ≤ 1000; omega
            · omega
          generalize lyX wd X y ((2 : Nat) : Int) = X2 at *
          generalize lyY wd y ((2 : Nat) : Int) ++ [L.getD k cl0, L.getD (k + 1) cl0] = y2 at *
          generalize (lyY wd y ((2 : Nat) : Int)).length = my at *
          generalize hmx : X2.length = mx at *
          replace PU := Lib.hid PU
          clear hI hlen
          go_wp2_with (first
            | (go_at_call 113; refine (hPC.out k _ (by omega) HAr.out).mono ?_; rintro e w5 ⟨rfl, rfl⟩; rw [hn])
            | (go_at_call 152; refine PU.out.mono ?_; rintro e w6 ⟨rfl, ⟨v', vy', vs', hM6⟩, hP6⟩))
          clear PU
          have O6 := Lib.hid (show ownA w6 _ _ _ from hP6.own hO.out (by decide) (by decide) (by decide))
          have k16 := hP6.cell hK1.out (by decide) (by decide) (by decide)
          have k26 := hP6.cell hK2.out (by decide) (by decide) (by decide)
          replace hM6 := Lib.hid hM6
          have N6 := hbl.trans hP6.below
          clear hP6 hM hK1 hK2
          have hpl := heap_alloc_new w6 (.cells #[.int .i64 (mx : Int), .int .i64 (my : Int)] 99)
          have hpz : (w6.alloc (.cells #[.int .i64 (mx : Int), .int .i64 (my : Int)] 99)).heap.size = w6.heap.size + 1 := by simp
          have k17 := Lib.hid (blk_alloc k16 (.cells #[.int .i64 (mx : Int), .int .i64 (my : Int)] 99))
          have k27 := Lib.hid (blk_alloc k26 (.cells #[.int .i64 (mx : Int), .int .i64 (my : Int)] 99))
          have M7 := Lib.hid (hM6.out.alloc (.cells #[.int .i64 (mx : Int), .int .i64 (my : Int)] 99))
          have O7 := Lib.hid (show ownA _ _ _ S from World.ownsRow.alloc O6.out (.cells #[.int .i64 (mx : Int), .int .i64 (my : Int)] 99))
          have N7 := N6.alloc N6.size (.cells #[.int .i64 (mx : Int), .int .i64 (my : Int)] 99)
          have npl := fun e => Nat.lt_irrefl _ (O6.out.lt w6.heap.size e).2
          replace hpl := Lib.hid hpl
          clear hM6 O6 N6 k16 k26 hO
          generalize w6.alloc (.cells #[.int .i64 (mx : Int), .int .i64 (my : Int)] 99) = W7 at *
          generalize w6.heap.size = pl at *
          go_loopw [8, 66] (fun pv jv wj => ∃ j : Nat, j ≤ 2 ∧ jv = .int .i64 (j : Int) ∧ Hid (LayM wj w.heap.size q v' vy' vs' X2 y2) ∧ Hid (ownA wj w.heap.size pv (S ++ plN mx my j)) ∧ pv.ownBlock ≠ some pl ∧ Hid (wj.heap[pl]? = some (.cells #[.int .i64 (mx : Int), .int .i64 (my : Int)] 99 (0, 0))) ∧
            Hid (wj.heap[b1]? = some (.cells #[.pointer (some ⟨q, 0, none⟩)] 141 (0, 0))) ∧ Hid (wj.heap[b1 + 1]? = some (.cells #[.int .i64 wd] 3 (0, 0))) ∧ Below w.heap.size w wj) (fun _ jv _ => 2 - (intOf jv).toNat)
          case atStart => exact ⟨0, Nat.zero_le _, rfl, M7, Lib.hid (by unfold plN; rw [List.range_zero, List.map_nil, List.append_nil]; exact O7.out), npl, hpl, k17, k27, N7⟩
          case round =>
            obtain ⟨j, hj, rfl, hMj, hOj, hnp, hpj, k1j, k2j, hbj⟩ := hrel
            by_cases hlj : j < 2
            · have hj1 : (j : Int) < 2 := by omega
              have q0 : wr.cell? ⟨pl, 0, none⟩ = some (.int .i64 (mx : Int)) := by rw [cell_of_row _ _ _ _ _ _ hpj.out]; rfl
              have q1 : wr.cell? ⟨pl, 1, none⟩ = some (.int .i64 (my : Int)) := by rw [cell_of_row _ _ _ _ _ _ hpj.out]; rfl
              have hown := hOj.out
              unfold ownA at hown
              rw [List.length_append, plN_len, hsm.2] at hown
              have hst := plN_succ S (mx : Int) (my : Int) j
              have hpw := blk_lt hpj.out
              have hsj := hbj.size
              have Hst := Lib.hid hst
              clear hst
              go_wp2_with (at_builtin; refine wpList_append_lies _ rfl _ _ 96 rfl w.heap.size 99 i0 _ 2 16 Tryd.underlying96 hi hz0 hz1 hz2 rfl (by decide) _ _ _ rfl (hown.alloc _) ⟨wr.heap.size, 0, none⟩ 1 1 [.int .i64 (mx : Int), .int .i64 ((my : Int) + (j : Int))] rfl rfl (fun j x hj => app_cells rfl hj) ?g2 (by omega) ?g3 ?g4 ?g5 (wr.heap.size + 1) (by simp) ?_)
              case g2 => simp [Value.oneCell']
              case g3 => unfold maxLen; omega
              case g4 => omega
              case g5 => first | omega | (simp; omega)
              intro gj cj w8 hown8 hgrow8 hat8 hlt8
              have N8 := (hbj.alloc hbj.size (.cells #[.int .i64 (mx : Int), .int .i64 ((my : Int) + (j : Int))] 99)).grown hgrow8 (by simp; omega) (fun i hi => (hown.lt i hi).1)
              have M8 := Lib.hid ((hMj.out.alloc (.cells #[.int .i64 (mx : Int), .int .i64 ((my : Int) + (j : Int))] 99)).grown (hown.alloc _) hgrow8 (by decide) (by decide) (by decide))
              have P8 := Lib.hid ((hgrow8.block pl (by simp; omega) (Ne.symm hnp)).trans (blk_alloc hpj.out _))
              have k18 := Lib.hid ((hgrow8.block b1 (by have := blk_lt k1j.out; simp; omega) (fun e => own_ne_kind hown k1j.out (by decide) e.symm)).trans (blk_alloc k1j.out _))
              have k28 := Lib.hid ((hgrow8.block (b1 + 1) (by have := blk_lt k2j.out; simp; omega) (fun e => own_ne_kind hown k2j.out (by decide) e.symm)).trans (blk_alloc k2j.out _))
              have np8 : gj ≠ pl := fun e => by
                rcases hat8 with h | h
                · exact hnp (by rw [h, e])
                · omega
              have HO := Lib.hid hown8
              clear hown8 hgrow8 hown hat8 q0 q1
              go_wp2
              go_roundw
              case rel => exact ⟨j + 1, by omega, by go_num, M8, Lib.hid (by rw [Hst.out]; unfold ownA; rw [List.length_append, List.length_append, plN_len, hsm.2, sRow_snoc]; exact HO.out), (fun e => np8 (by simpa [Value.ownBlock] using e)), P8, k18, k28, N8⟩
              case measure => first | (simp [intOf]; omega) | (simp; omega)
            · have hj1 : ¬ (j : Int) < 2 := by omega
              obtain rfl : j = 2 := by omega
              go_wp2
              go_roundw
              case rel => exact ⟨k + 2, X2, y2, _, _, _, _, by omega, by go_num, Lib.hid (fun h e => (layB_at hLB h e).2 (by rw [show k + 2 - 1 = k + 1 by omega]; exact hr1)), I3, hMj, hOj, k1j, k2j, hbj⟩
              case measure => first | (simp [intOf]; omega) | (simp; omega)

        · have hwd : Hid (wd = 1) := Lib.hid (by omega)
          have hw3 : wd < 2 := by omega
          obtain ⟨x1, x2, x3, x4, x5, hq⟩ : ∃ x1 x2 x3 x4 x5, L.getD k cl0 = (x1, x2, x3, x4, x5) := ⟨_, _, _, _, _, rfl⟩
          obtain ⟨_, _, e0, _, c1, c2, c3, c4, c5⟩ := HAr.out k hlt
          obtain ⟨rfl, rfl⟩ : bb = _ ∧ off = _ := by simpa using e0
          rw [hq] at c1 c2 c3 c4 c5
          simp only at c1 c2 c3 c4 c5
          have e1 : ((wr.alloc (.cells #[.int .i64 35, .int .i64 x2, .int .i64 x3, .int .i64 x4, .int .i64 x5] 51)).alloc (.cells #[.int .i64 35, .int .i64 x2, .int .i64 x3, .int .i64 x4, .int .i64 x5] 51)).heap.size = wr.heap.size + 1 + 1 := by simp
          have e2 : (wr.alloc (.cells #[.int .i64 35, .int .i64 x2, .int .i64 x3, .int .i64 x4, .int .i64 x5] 51)).heap.size = wr.heap.size + 1 := by simp
          have hblk := heap_alloc_new (wr.alloc (.cells #[.int .i64 35, .int .i64 x2, .int .i64 x3, .int .i64 x4, .int .i64 x5] 51)) (.cells #[.int .i64 35, .int .i64 x2, .int .i64 x3, .int .i64 x4, .int .i64 x5] 51)
          rw [e2] at hblk
          have hpv2 : v.ownBlock ≠ some (wr.heap.size + 1) := fun e => by have := (hM.out.out.lt _ e).2; omega
          have hqlt := blk_lt hM.out.var
          have PU := put_any [(35, x2, x3, x4, x5)] ⟨wr.heap.size + 1, 0, none⟩ 1 wd b1 (b1 + 1) w.heap.size q v vy vs X y _ (by simp) (by simp) (by omega) (by have := hI.out.fit; omega) (cells_of_blk (L := [(35, x2, x3, x4, x5)]) hblk) hpv2 (by show wr.heap.size + 1 ≠ q; omega) ((hM.out.alloc _).alloc _) hBq (blk_alloc (blk_alloc hK1.out _) _) (blk_alloc (blk_alloc hK2.out _) _)
          have hlen : ([(35, x2, x3, x4, x5)] : List Cl).length = 1 := rfl
          rw [hlen] at PU
          have I3 : Hid (LyI L wd (k + 2) (lyX wd X y ((1 : Nat) : Int)) (lyY wd y ((1 : Nat) : Int) ++ [(35, x2, x3, x4, x5)]) (S ++ [(((lyX wd X y ((1 : Nat) : Int)).length : Int), ((lyY wd y ((1 : Nat) : Int)).length : Int)), (((lyX wd X y ((1 : Nat) : Int)).length : Int), ((lyY wd y ((1 : Nat) : Int)).length : Int))])) := Lib.hid (by
            have := hI.out.narrow hwd.out hr hv hr1
            rw [hq] at this
            exact this)
          have sX : (lyX wd X y ((1 : Nat) : Int)).length ≤ k + 1 := by
            unfold lyX; split
            · rw [List.length_append, List.length_singleton]; omega
            · omega
          have sY : (lyY wd y ((1 : Nat) : Int)).length ≤ 1000 := by
            have := hI.out.fit
            unfold lyY; split
            · show 0 ≤ 1000; omega
            · omega
          generalize lyX wd X y ((1 : Nat) : Int) = X2 at *
          generalize lyY wd y ((1 : Nat) : Int) ++ [(35, x2, x3, x4, x5)] = y2 at *
          generalize (lyY wd y ((1 : Nat) : Int)).length = my at *
          generalize hmx : X2.length = mx at *
          have N5 := (hbl.alloc hbl.size (.cells #[.int .i64 35, .int .i64 x2, .int .i64 x3, .int .i64 x4, .int .i64 x5] 51)).alloc (by rw [e2]; omega) (.cells #[.int .i64 35, .int .i64 x2, .int .i64 x3, .int .i64 x4, .int .i64 x5] 51)
          have O5 := Lib.hid (World.ownsRow.alloc (World.ownsRow.alloc hO.out (.cells #[.int .i64 35, .int .i64 x2, .int .i64 x3, .int .i64 x4, .int .i64 x5] 51)) (.cells #[.int .i64 35, .int .i64 x2, .int .i64 x3, .int .i64 x4, .int .i64 x5] 51))
          have k15 := Lib.hid (blk_alloc (blk_alloc hK1.out (.cells #[.int .i64 35, .int .i64 x2, .int .i64 x3, .int .i64 x4, .int .i64 x5] 51)) (.cells #[.int .i64 35, .int .i64 x2, .int .i64 x3, .int .i64 x4, .int .i64 x5] 51))
          have k25 := Lib.hid (blk_alloc (blk_alloc hK2.out (.cells #[.int .i64 35, .int .i64 x2, .int .i64 x3, .int .i64 x4, .int .i64 x5] 51)) (.cells #[.int .i64 35, .int .i64 x2, .int .i64 x3, .int .i64 x4, .int .i64 x5] 51))
          replace PU := Lib.hid PU
          clear hI hlen hblk hq hM hO
          go_wp2_with (first
            | (go_at_call 113; refine (hPC.out k _ (by omega) HAr.out).mono ?_; rintro e w5 ⟨rfl, rfl⟩; rw [hn])
            | (go_at_call 152; refine PU.out.mono ?_; rintro e w6 ⟨rfl, ⟨v', vy', vs', hM6⟩, hP6⟩; have O6 := (show ownA w6 w.heap.size _ S from hP6.own O5.out (by decide) (by decide) (by decide)); unfold ownA at O6; rw [hsm.2] at O6; have N6 := N5.trans hP6.below)
            | (at_builtin; refine wpList_append_own _ rfl _ _ 96 rfl w.heap.size 99 i0 _ 2 16 Tryd.underlying96 hi hz0 hz1 hz2 rfl (by decide) _ _ _ rfl ((O6.alloc _).alloc _) ⟨w6.heap.size + 1, 0, none⟩ 2 2 [.int .i64 (mx : Int), .int .i64 (my : Int), .int .i64 (mx : Int), .int .i64 (my : Int)] rfl rfl (fun j x hj => app_cells (by simp) hj) ?g2 ?g3 ?g4 ?g5 ?_))
          case g2 => simp [Value.oneCell']
          case g3 => unfold maxLen; omega
          case g4 => omega
          case g5 => first | (have := N6.size; simp; omega)
          intro v8 w8 hown8 hgrow8 _
          have hs6 := N6.size
          have k16 := blk_alloc (blk_alloc (hP6.cell k15.out (by decide) (by decide) (by decide)) (.cells #[.int .i64 (mx : Int), .int .i64 (my : Int)] 99)) (.cells #[.int .i64 (mx : Int), .int .i64 (my : Int), .int .i64 (mx : Int), .int .i64 (my : Int)] 99)
          have k26 := blk_alloc (blk_alloc (hP6.cell k25.out (by decide) (by decide) (by decide)) (.cells #[.int .i64 (mx : Int), .int .i64 (my : Int)] 99)) (.cells #[.int .i64 (mx : Int), .int .i64 (my : Int), .int .i64 (mx : Int), .int .i64 (my : Int)] 99)
          have N8 := ((N6.alloc N6.size (.cells #[.int .i64 (mx : Int), .int .i64 (my : Int)] 99)).alloc (by simp; omega) (.cells #[.int .i64 (mx : Int), .int .i64 (my : Int), .int .i64 (mx : Int), .int .i64 (my : Int)] 99)).grown hgrow8 (by simp; omega) (fun i hi => (O6.lt i hi).1)
          have M8 := Lib.hid (((hM6.alloc (.cells #[.int .i64 (mx : Int), .int .i64 (my : Int)] 99)).alloc (.cells #[.int .i64 (mx : Int), .int .i64 (my : Int), .int .i64 (mx : Int), .int .i64 (my : Int)] 99)).grown ((O6.alloc _).alloc _) hgrow8 (by decide) (by decide) (by decide))
          have k18 := Lib.hid ((hgrow8.block b1 (blk_lt k16) (fun e => own_ne_kind ((O6.alloc _).alloc _) k16 (by decide) e.symm)).trans k16)
          have k28 := Lib.hid ((hgrow8.block (b1 + 1) (blk_lt k26) (fun e => own_ne_kind ((O6.alloc _).alloc _) k26 (by decide) e.symm)).trans k26)
          have HO := Lib.hid hown8
          clear hown8 hgrow8 O6 hP6 hM6 k16 k26 PU
          go_wp2
          go_roundw
          case rel => exact ⟨k + 2, X2, y2, _, _, _, _, by omega, by go_num, Lib.hid (fun h e => (layB_at hLB h e).2 (by rw [show k + 2 - 1 = k + 1 by omega]; exact hr1)), I3, M8, Lib.hid (by unfold ownA; rw [List.length_append, hsm.2, sRow_snoc2]; exact HO.out), k18, k28, N8⟩
          case measure => first | (simp [intOf]; omega) | (simp; omega)
      · have hnw : ¬ wd < 1 := by omega
        have hkc : (k : Int) + 1 ≤ c := by omega
        have hkc2 : k + 1 ≤ c := by omega
        have PU := put_any [L.getD k cl0] ⟨bb, off + k * 5, none⟩ (c - k) wd b1 (b1 + 1) w.heap.size q v vy vs X y wr (by simp) (by simp) (by omega) (by have := hI.out.fit; omega) (HAr.out.one hlt) hpv hpq hM.out hBq hK1.out hK2.out
        have hlen : ([L.getD k cl0] : List Cl).length = 1 := rfl
        rw [hlen] at PU
        have I3 : Hid (LyI L wd (k + 1) (lyX wd X y ((1 : Nat) : Int)) (lyY wd y ((1 : Nat) : Int) ++ [L.getD k cl0]) (S ++ plN ((lyX wd X y ((1 : Nat) : Int)).length : Int) ((lyY wd y ((1 : Nat) : Int)).length : Int) 1)) := Lib.hid (by rw [plN_one]; exact hI.out.one hw hlt hv hr)
        have sX : (lyX wd X y ((1 : Nat) : Int)).length ≤ k + 1 := by
          unfold lyX; split
          · rw [List.length_append, List.length_singleton]; omega
          · omega
        have sY : (lyY wd y ((1 : Nat) : Int)).length ≤ 1000 := by
          have := hI.out.fit
          unfold lyY; split
          · show 0 ≤ 1000; omega
          · omega
        generalize lyX wd X y ((1 : Nat) : Int) = X2 at *
        generalize lyY wd y ((1 : Nat) : Int) ++ [L.getD k cl0] = y2 at *
        generalize (lyY wd y ((1 : Nat) : Int)).length = my at *
        generalize hmx : X2.length = mx at *
        replace PU := Lib.hid PU
        clear hI hlen
        go_wp2_with (first
          | (go_at_call 113; refine (hPC.out k _ (by omega) HAr.out).mono ?_; rintro e w5 ⟨rfl, rfl⟩; rw [hn])
          | (go_at_call 152; refine PU.out.mono ?_; rintro e w6 ⟨rfl, ⟨v', vy', vs', hM6⟩, hP6⟩))
        clear PU
        have O6 := Lib.hid (show ownA w6 _ _ _ from hP6.own hO.out (by decide) (by decide) (by decide))
        have k16 := hP6.cell hK1.out (by decide) (by decide) (by decide)
        have k26 := hP6.cell hK2.out (by decide) (by decide) (by decide)
        replace hM6 := Lib.hid hM6
        have N6 := hbl.trans hP6.below
        clear hP6 hM hK1 hK2
        have hpl := heap_alloc_new w6 (.cells #[.int .i64 (mx : Int), .int .i64 (my : Int)] 99)
        have hpz : (w6.alloc (.cells #[.int .i64 (mx : Int), .int .i64 (my : Int)] 99)).heap.size = w6.heap.size + 1 := by simp
        have k17 := Lib.hid (blk_alloc k16 (.cells #[.int .i64 (mx : Int), .int .i64 (my : Int)] 99))
        have k27 := Lib.hid (blk_alloc k26 (.cells #[.int .i64 (mx : Int), .int .i64 (my : Int)] 99))
        have M7 := Lib.hid (hM6.out.alloc (.cells #[.int .i64 (mx : Int), .int .i64 (my : Int)] 99))
        have O7 := Lib.hid (show ownA _ _ _ S from World.ownsRow.alloc O6.out (.cells #[.int .i64 (mx : Int), .int .i64 (my : Int)] 99))
        have N7 := N6.alloc N6.size (.cells #[.int .i64 (mx : Int), .int .i64 (my : Int)] 99)
        have npl := fun e => Nat.lt_irrefl _ (O6.out.lt w6.heap.size e).2
        replace hpl := Lib.hid hpl
        clear hM6 O6 N6 k16 k26 hO
        generalize w6.alloc (.cells #[.int .i64 (mx : Int), .int .i64 (my : Int)] 99) = W7 at *
        generalize w6.heap.size = pl at *
        go_loopw [8, 66] (fun pv jv wj => ∃ j : Nat, j ≤ 1 ∧ jv = .int .i64 (j : Int) ∧ Hid (LayM wj w.heap.size q v' vy' vs' X2 y2) ∧ Hid (ownA wj w.heap.size pv (S ++ plN mx my j)) ∧ pv.ownBlock ≠ some pl ∧ Hid (wj.heap[pl]? = some (.cells #[.int .i64 (mx : Int), .int .i64 (my : Int)] 99 (0, 0))) ∧
          Hid (wj.heap[b1]? = some (.cells #[.pointer (some ⟨q, 0, none⟩)] 141 (0, 0))) ∧ Hid (wj.heap[b1 + 1]? = some (.cells #[.int .i64 wd] 3 (0, 0))) ∧ Below w.heap.size w wj) (fun _ jv _ => 1 - (intOf jv).toNat)
        case atStart => exact ⟨0, Nat.zero_le _, rfl, M7, Lib.hid (by unfold plN; rw [List.range_zero, List.map_nil, List.append_nil]; exact O7.out), npl, hpl, k17, k27, N7⟩
        case round =>
          obtain ⟨j, hj, rfl, hMj, hOj, hnp, hpj, k1j, k2j, hbj⟩ := hrel
          by_cases hlj : j < 1
          · have hj1 : (j : Int) < 1 := by omega
            have q0 : wr.cell? ⟨pl, 0, none⟩ = some (.int .i64 (mx : Int)) := by rw [cell_of_row _ _ _ _ _ _ hpj.out]; rfl
            have q1 : wr.cell? ⟨pl, 1, none⟩ = some (.int .i64 (my : Int)) := by rw [cell_of_row _ _ _ _ _ _ hpj.out]; rfl
            have hown := hOj.out
            unfold ownA at hown
            rw [List.length_append, plN_len, hsm.2] at hown
            have hst := plN_succ S (mx : Int) (my : Int) j
            have hpw := blk_lt hpj.out
            have hsj := hbj.size
            have Hst := Lib.hid hst
            clear hst
            go_wp2_with (at_builtin; refine wpList_append_lies _ rfl _ _ 96 rfl w.heap.size 99 i0 _ 2 16 Tryd.underlying96 hi hz0 hz1 hz2 rfl (by decide) _ _ _ rfl (hown.alloc _) ⟨wr.heap.size, 0, none⟩ 1 1 [.int .i64 (mx : Int), .int .i64 ((my : Int) + (j : Int))] rfl rfl (fun j x hj => app_cells rfl hj) ?g2 (by omega) ?g3 ?g4 ?g5 (wr.heap.size + 1) (by simp) ?_)
            case g2 => simp [Value.oneCell']
            case g3 => unfold maxLen; omega
            case g4 => omega
            case g5 => first | omega | (simp; omega)
            intro gj cj w8 hown8 hgrow8 hat8 hlt8
            have N8 := (hbj.alloc hbj.size (.cells #[.int .i64 (mx : Int), .int .i64 ((my : Int) + (j : Int))] 99)).grown hgrow8 (by simp; omega) (fun i hi => (hown.lt i hi).1)
            have M8 := Lib.hid ((hMj.out.alloc (.cells #[.int .i64 (mx : Int), .int .i64 ((my : Int) + (j : Int))] 99)).grown (hown.alloc _) hgrow8 (by decide) (by decide) (by decide))
            have P8 := Lib.hid ((hgrow8.block pl (by simp; omega) (Ne.symm hnp)).trans (blk_alloc hpj.out _))
            have k18 := Lib.hid ((hgrow8.block b1 (by have := blk_lt k1j.out; simp; omega) (fun e => own_ne_kind hown k1j.out (by decide) e.symm)).trans (blk_alloc k1j.out _))
            have k28 := Lib.hid ((hgrow8.block (b1 + 1) (by have := blk_lt k2j.out; simp; omega) (fun e => own_ne_kind hown k2j.out (by decide) e.symm)).trans (blk_alloc k2j.out _))
            have np8 : gj ≠ pl := fun e => by
              rcases hat8 with h | h
              · exact hnp (by rw [h, e])
              · omega
            have HO := Lib.hid hown8
            clear hown8 hgrow8 hown hat8 q0 q1
            go_wp2
            go_roundw
            case rel => exact ⟨j + 1, by omega, by go_num, M8, Lib.hid (by rw [Hst.out]; unfold ownA; rw [List.length_append, List.length_append, plN_len, hsm.2, sRow_snoc]; exact HO.out), (fun e => np8 (by simpa [Value.ownBlock] using e)), P8, k18, k28, N8⟩
            case measure => first | (simp [intOf]; omega) | (simp; omega)
          · have hj1 : ¬ (j : Int) < 1 := by omega
            obtain rfl : j = 1 := by omega
            go_wp2
            go_roundw
            case rel => exact ⟨k + 1, X2, y2, _, _, _, _, by omega, by go_num, Lib.hid (fun h e => hr h e), I3, hMj, hOj, k1j, k2j, hbj⟩
            case measure => first | (simp [intOf]; omega) | (simp; omega)
    · obtain rfl : k = L.length := by omega
      obtain ⟨g, cap, rfl, hBg, hgl, hcl, hfr⟩ := hM.out.form
      obtain ⟨ya, yc, rfl, _⟩ := cells_of_own hM.out.last
      obtain ⟨hqc, hqf⟩ := hM.out.cells
      have hqlt := blk_lt hM.out.var
      have hsm := hI.out.small
      have hfit := hI.out.fit
      have hm1 : (X.length : Int) < ((X.length + 1 : Nat) : Int) := by omega
      have hm2 : (X.length : Int) < (X.length : Int) + 1 := by omega
      have hm0 : (0 : Int) ≤ X.length := by omega
      have hsz := hbl.size
      have hk1 : ¬ (L.length : Int) < L.length := by omega
      have HFU := Lib.hid (fun h => hI.out.full h)
      have HRE := Lib.hid (fun h => hI.out.rest h)
      clear hI hne
      generalize hxl : X.length = m at *
      generalize hyl : y.length = ly at *
      go_upto_if 92 with (fail)
      go_cut [16] from 92 to 97 (fun s16 wx => ∃ (XF : List (List Cl)) (yF : List Cl) (vF vyF : Value) (vsF : List Value), s16 = .int .i64 (XF.length : Int) ∧ XF.length ≤ 100001 ∧ Hid (LayM wx w.heap.size q vF vyF vsF XF yF) ∧ Hid (ownA wx w.heap.size u8 S) ∧ Hid (XF ++ [yF] = lyRows L wd ∧ S ++ [((XF.length : Int), (yF.length : Int))] = spAll L wd) ∧ Below w.heap.size w wx)
      case first =>
        by_cases hf : (ly : Int) = wd
        · have hfb : ((ly : Int) == wd) = true := by rw [beq_iff_eq]; exact hf
          have HF2 := Lib.hid (HFU.out hf)
          clear hf
          have hown := hM.out.out
          rw [hxl] at hown
          have n1 := own_ne_kind hown hM.out.var (by decide)
          have d3 := fun o => (World.cell?_alloc_lt wr o (⟨q, 0, none⟩ : Addr) hqlt).trans hqc
          have d3f := fun o => (World.frozen?_of_block (w := wr) (w' := wr.alloc o) (a := ⟨q, 0, none⟩) (Below.heap_alloc _ _ _ hqlt)).trans hqf
          obtain ⟨i1, hj, hy0, hy1, hy2⟩ := info_parts infoCS
          go_wp2_with (at_builtin; refine wpList_append_lies _ rfl _ _ 26 rfl w.heap.size 36 i1 _ 1 24 Tryd.underlying26 hj hy0 hy1 hy2 rfl (by decide) _ (m + 1) _ rfl (hown.alloc _) ⟨wr.heap.size, 0, none⟩ 1 1 [.slice none 0 0] rfl rfl (fun j x hj => app_cells rfl hj) ?g2 (by omega) ?g3 ?g4 ?g5 (wr.heap.size + 1) (by simp) ?_)
          case g2 => simp [Value.oneCell']
          case g3 => unfold maxLen; omega
          case g4 => omega
          case g5 => first | omega | (simp; omega)
          intro g8 c8 w8 hown8 hgrow8 hat8 hlt8
          have e3 := (hgrow8.cell_far ⟨q, 0, none⟩ (by simp; omega) (Ne.symm n1)).trans (d3 _)
          have e3f := (hgrow8.frozen_far ⟨q, 0, none⟩ (by simp; omega) (Ne.symm n1)).trans (d3f _)
          have HN := Lib.hid (LayM.fresh (hM.out.alloc (.cells #[.slice none 0 0] 36)) (by rw [hxl]; simpa using hown8) hgrow8)
          have O8 := World.ownsRow.kept (World.ownsRow.alloc hO.out (.cells #[.slice none 0 0] 36)) hgrow8 (own_ne_own (World.ownsRow.alloc hO.out (.cells #[.slice none 0 0] 36)) (hown.alloc _) (by decide))
          have hq8 := (hgrow8.block q (by simp; omega) (Ne.symm n1)).trans (blk_alloc hM.out.var (.cells #[.slice none 0 0] 36))
          have O9 := Lib.hid (show ownA _ _ _ _ from own_set O8 (a := ⟨q, 0, none⟩) (own_ne_kind O8 hq8 (by decide)) (.slice (some ⟨g8, 0, none⟩) (m + 1 + 1) c8))
          have N9 := ((hbl.alloc hbl.size (.cells #[.slice none 0 0] 36)).grown hgrow8 (by simp; omega) (fun i hi => (hown.lt i hi).1)).setCell (p := ⟨q, 0, none⟩) (by show w.heap.size ≤ q; omega) (.slice (some ⟨g8, 0, none⟩) (m + 1 + 1) c8)
          clear hown8 hgrow8 hat8 O8 hown
          go_wp2_with fail
          go_meet
          exact ⟨X ++ [y], [], _, _, _, by simp [hxl], by simp [hxl]; omega, HN, O9, Lib.hid ⟨HF2.out.1, by rw [List.length_append, hxl]; exact HF2.out.2⟩, N9⟩
        · have hfb : ((ly : Int) == wd) = false := by rw [beq_eq_false_iff_ne]; exact hf
          have HF2 := Lib.hid (HRE.out hf)
          clear hf
          go_wp2_with fail
          go_meet
          exact ⟨X, y, _, _, _, by rw [hxl], by omega, hM, hO, Lib.hid ⟨HF2.out.1, by rw [hxl, hyl]; exact HF2.out.2⟩, hbl⟩
      case rest =>
        obtain ⟨XF, yF, vF, vyF, vsF, rfl, hxb, hMF, hOF, hEQ, hbF⟩ := hcut
        clear hM hO hcl hfr hqc hqf hqlt hm1 hm2 hm0 hsz
        obtain ⟨gf, capf, rfl, hBf, hgf, hcf, _⟩ := hMF.out.form
        obtain ⟨yaf, ycf, rfl, _⟩ := cells_of_own hMF.out.last
        obtain ⟨hqf, _⟩ := hMF.out.cells
        have hqlf := blk_lt hMF.out.var
        have hcap : XF.length + 1 ≤ capf := by
          rcases hMF.out.out.2 with ⟨e, _⟩ | ⟨g', cap', cur, e, _, _, hle, _⟩
          · cases e
          · rw [(Value.slice.inj e).2.2]; exact hle
        have ng := own_ne_kind hOF.out hMF.out.var (by decide)
        have ng2 : u8.ownBlock ≠ some gf := by
          rcases own_ne_own hOF.out hMF.out.out (by decide) with e | e
          · rw [e]; simp
          · exact e
        have hof := hOF.out
        unfold ownA at hof
        rw [hsm.2] at hof
        have HOF := Lib.hid hof
        clear hof
        have hsF := hbF.size
        generalize hxlF : XF.length = mf at *
        generalize hylF : yF.length = lf at *
        have hm1 : (mf : Int) < ((mf + 1 : Nat) : Int) := by omega
        have hm2 : (mf : Int) < (mf : Int) + 1 := by omega
        have hm0 : (0 : Int) ≤ mf := by omega
        have d1 := fun o => (World.cell?_alloc_lt wc o (⟨q, 0, none⟩ : Addr) hqlf).trans hqf
        have d2 := fun o => (World.cell?_alloc_lt wc o (⟨gf, mf, none⟩ : Addr) hgf).trans hcf
        go_wp2
        go_region_held3 (fun w' => w'.cell? ⟨q, 0, none⟩ = some (.slice (some ⟨gf, 0, none⟩) (mf + 1) capf) ∧ w'.cell? ⟨gf, mf, none⟩ = some (.slice yaf lf ycf))
          (first | go_keep | exact ⟨d1 _, d2 _⟩ | exact ⟨(hgrow.cell_far _ (by simp; omega) (Ne.symm ng)).trans (d1 _), (hgrow.cell_far _ (by simp; omega) (Ne.symm ng2)).trans (d2 _)⟩)
          ((refine step_append_lies _ (by rfl) _ _ _ (by rfl) w.heap.size 99 i0 _ 2 16 Tryd.underlying96 hi hz0 hz1 hz2 rfl (by decide) _ L.length (sRow S).toList (by rfl) ((show (wc.alloc _).drew.ownsRow _ _ _ _ _ _ from HOF.out.alloc _)) ⟨wc.heap.size, 0, none⟩ 1 1 [.int .i64 (mf : Int), .int .i64 (lf : Int)] (by rfl) (by rfl) (fun j x hj => app_cells rfl hj) (by simp [Value.oneCell']) (by omega) (by unfold maxLen; omega) (by omega) (by simp; omega) (wc.heap.size + 1) (by simp) ?_; intro gg cap w1 hown1 hgrow hat hlt1))
        have hMl := (hMF.out.alloc (.cells #[.int .i64 (mf : Int), .int .i64 (lf : Int)] 99)).drew.grown (HOF.out.alloc _).drew hgrow (by decide) (by decide) (by decide)
        have hNl := (((hbF.alloc hbF.size (.cells #[.int .i64 (mf : Int), .int .i64 (lf : Int)] 99)).drew).grown hgrow (by simp; omega) (fun j hj => (HOF.out.lt j hj).1))
        obtain ⟨ra, rc, er, hRl⟩ := hMl.rows
        have hlr : (lyRows L wd).length = mf + 1 := by rw [← hEQ.out.1, List.length_append, hxlF]; rfl
        have ea := (Value.slice.inj er).1
        rw [hEQ.out.1] at hRl
        rw [← ea] at hRl
        have HRl := Lib.hid hRl
        have HOl := Lib.hid hown1
        clear hown1 hgrow hat er ea hRl hMl
        go_wp2
        refine bodyPost_ret (results_tmp3 rfl _ _ _) rfl ⟨_, _, rfl, ⟨some ⟨gf, 0, none⟩, capf, by rw [hlr]; rfl, by rw [hlr]; exact hcap, HRl.out⟩, ?_, hNl⟩
        rw [← hEQ.out.2]
        unfold ownA
        rw [List.length_append, hsm.2, sRow_snoc]
        exact HOl.out
end Go.Proofs.YtcdecnmhogmhaaaDoor
set_option linter.unusedVariables false
set_option linter.unusedSimpArgs false
namespace Go.Proofs.YtcdecnmhogmhaaaDoor
open Go.RowKit
def u8l (l : List Int) : List UInt8 := l.map fun x => x.toNat.toUInt8
theorem txt_list (l : List Int) : txt l = ⟨(u8l l).toArray⟩ := rfl
/-- The cases of a shown text, as lists. -/
theorem sh_lists (v : Int) : (cls v = 0 ∧ shT v = ⟨([] : List UInt8).toArray⟩) ∨ ((cls v = 1 ∨ cls v = 2 ∨ cls v = 3) ∧ 32 ≤ v ∧ v ≠ 127 ∧ v ≤ 1114111 ∧ (v < 55296 ∨ 57343 < v) ∧ shT v = ⟨(u8l (oneI v)).toArray⟩) ∨ (cls v = 4 ∧ 0 ≤ v ∧ v < 32 ∧ shT v = ⟨([94] ++ u8l [v + 64]).toArray⟩) ∨
    (cls v = 5 ∧ v = 127 ∧ shT v = ⟨[94, 63].toArray⟩) ∨ (cls v = 12 ∧ 1114240 ≤ v ∧ v ≤ 1114367 ∧ shT v = ⟨([92, 120] ++ hexL (v - 1114112) 2).toArray⟩) ∨
    (6 ≤ cls v ∧ cls v ≤ 11 ∧ 128 ≤ v ∧ v ≤ 1114111 ∧ (v < 55296 ∨ 57343 < v) ∧ shT v = ⟨([60, 85, 43] ++ hexL v 4 ++ [62]).toArray⟩) := by
  have hw := cls_what v
  rcases sh_cases v with ⟨h0, hs⟩ | ⟨h0, h1, h2, h3, hs⟩ | ⟨h0, h1, h2, hs⟩ | ⟨h0, hs⟩ | ⟨h0, h1, h2, hs⟩ | ⟨h0, h00, h1, h2, h3, hs⟩
  · left; exact ⟨h0, hs⟩
  · right; left
    refine ⟨h0, h1, ?_, h2, h3, hs⟩
    rcases hw with ⟨a, _⟩ | ⟨_, ⟨a, _⟩ | ⟨a, _⟩ | ⟨a, _⟩ | ⟨a, _⟩ | ⟨_, _, _, _, _, _, _, _, a, _⟩⟩ <;> omega
  · right; right; left; exact ⟨h0, h1, h2, by rw [hs, txt_list]; exact ba_app [94] _⟩
  · right; right; right; left
    refine ⟨h0, ?_, hs⟩
    rcases hw with ⟨a, _⟩ | ⟨_, ⟨a, _⟩ | ⟨a, _⟩ | ⟨a, b⟩ | ⟨a, _⟩ | ⟨_, _, _, _, _, _, _, _, a, _⟩⟩ <;> omega
  · right; right; right; right; left; exact ⟨h0, h1, h2, by rw [hs]; exact ba_app [92, 120] _⟩
  · right; right; right; right; right
    exact ⟨h0, h00, h1, h2, h3, by rw [hs]; rw [show (⟨#[60, 85, 43]⟩ : ByteArray) = ⟨([60, 85, 43] : List UInt8).toArray⟩ from rfl, show (⟨#[62]⟩ : ByteArray) = ⟨([62] : List UInt8).toArray⟩ from rfl, ba_app, ba_app]⟩
theorem dg_ok (k : Nat) : 48 ≤ (dg (k % 16)).toNat ∧ (dg (k % 16)).toNat ≤ 70 := by
  have key : ∀ j : Fin 16, 48 ≤ (dg j).toNat ∧ (dg j).toNat ≤ 70 := by decide
  exact key ⟨k % 16, Nat.mod_lt _ (by omega)⟩
theorem tell_ok : ∀ f n l, ∀ c ∈ tell 16 f n l, 48 ≤ c.toNat ∧ c.toNat ≤ 70
  | 0, _, _, c, h => by simp [tell] at h
  | f + 1, n, l, c, h => by
    rw [tell] at h
    split at h
    · simp at h
    · rw [List.mem_append] at h
      rcases h with h | h
      · exact tell_ok f _ _ c h
      · have : c = dg (n % 16) := by simpa using h
        rw [this]; exact dg_ok n
/-- How many digits there are. -/
theorem tell_len2 : ∀ f d n l, n < 16 ^ d → l ≤ d → d ≤ f → l ≤ (tell 16 f n l).length ∧ (tell 16 f n l).length ≤ d
  | 0, d, n, l, h, hl, hd => by simp [tell]; omega
  | f + 1, d, n, l, h, hl, hd => by
    rw [tell]
    split
    · rename_i h0; simp; omega
    · rename_i h0
      cases d with
      | zero => simp at h; omega
      | succ d =>
        have := tell_len2 f d (n / 16) (l - 1) (pow_step 16 d n (by omega) h) (by omega) (by omega)
        simp only [List.length_append, List.length_cons, List.length_nil]
        omega
theorem hexL_len (n l : Int) (d : Nat) (h : n.toNat < 16 ^ d) (hl : l.toNat ≤ d) (hd : d ≤ 20) : l.toNat ≤ (hexL n l).length ∧ (hexL n l).length ≤ d := tell_len2 20 d _ _ h hl hd
theorem u8l_len (l : List Int) : (u8l l).length = l.length := by simp [u8l]
theorem size_list (l : List UInt8) : (⟨l.toArray⟩ : ByteArray).size = l.length := by simp [ByteArray.size]
theorem shC_rng (v : Int) (h : cls v ≠ 0) : 1 ≤ shC v ∧ shC v ≤ 10 ∧ (3 < cls v → 2 ≤ shC v) := by
  have hw : wid v = if cls v = 2 then 2 else if cls v = 1 ∨ cls v = 3 then 1 else 0 := rfl
  rcases sh_lists v with ⟨h0, hs⟩ | ⟨h0, _, _, _, _, hs⟩ | ⟨h0, h1, h2, hs⟩ | ⟨h0, _, hs⟩ | ⟨h0, h1, h2, hs⟩ | ⟨h0, h00, h1, h2, h3, hs⟩
  · exact absurd h0 h
  · rw [shC_small (by omega), hw]
    refine ⟨?_, ?_, by omega⟩ <;> (split <;> (try split) <;> omega)
  · rw [shC_big (by omega), hs, size_list]; simp [u8l]
  · rw [shC_big (by omega), hs, size_list]; simp
  · rw [shC_big (by omega), hs, size_list]
    have := hexL_len (v - 1114112) 2 2 (by show _ < 256; omega) (by decide) (by omega)
    simp only [List.length_append, List.length_cons, List.length_nil]
    have e : (2 : Int).toNat = 2 := rfl
    omega
  · rw [shC_big (by omega), hs, size_list]
    have := hexL_len v 4 6 (by show _ < 16777216; omega) (by decide) (by omega)
    simp only [List.length_append, List.length_cons, List.length_nil]
    have e : (4 : Int).toNat = 4 := rfl
    omega
theorem shT_ne (v : Int) (h : cls v ≠ 0) : shT v ≠ ⟨#[]⟩ := by
  intro e
  have hsz : (shT v).size = 0 := by rw [e]; rfl
  rcases sh_lists v with ⟨h0, hs⟩ | ⟨h0, a, b, c, d, hs⟩ | ⟨h0, h1, h2, hs⟩ | ⟨h0, _, hs⟩ | ⟨h0, h1, h2, hs⟩ | ⟨h0, h00, h1, h2, h3, hs⟩
  · exact h h0
  · rw [hs, size_list, u8l_len] at hsz
    rw [oneI_pt ((ptB_iff v).2 (by omega))] at hsz
    rcases (by omega : v ≤ 127 ∨ (128 ≤ v ∧ v ≤ 2047) ∨ ((2048 ≤ v ∧ v < 55296) ∨ (57343 < v ∧ v ≤ 65535)) ∨ 65536 ≤ v) with k | ⟨k, k2⟩ | k | k
    · rw [Lib.encodeRuneZ_one (by omega) k] at hsz; simp at hsz
    · rw [Lib.encodeRuneZ_two k k2] at hsz; simp at hsz
    · rw [Lib.encodeRuneZ_three k] at hsz; simp at hsz
    · rw [Lib.encodeRuneZ_four k c] at hsz; simp at hsz
  · rw [hs, size_list] at hsz; simp at hsz
  · rw [hs, size_list] at hsz; simp at hsz
  · rw [hs, size_list] at hsz; simp at hsz
  · rw [hs, size_list] at hsz; simp at hsz
theorem rght_rightB (v : Int) : rightB v = rght v := by
  rw [Bool.eq_iff_iff]
  unfold rightB rght
  rw [Bool.or_eq_true, Bool.or_eq_true, ptB_iff, stB_iff]
  rcases pnt_cases v with ⟨a, b⟩ | ⟨a, b⟩ <;> rcases stry_cases v with ⟨c, d⟩ | ⟨c, d⟩ <;> rw [a, c] <;> simp <;> omega
theorem right_no {v : Int} (h : rightB v = false) : cls v = 0 ∧ shC v = 0 ∧ shT v = ⟨#[]⟩ := by
  rw [rght_rightB] at h
  have h0 : cls v = 0 := by unfold cls; rw [if_pos h]
  refine ⟨h0, ?_, ?_⟩
  · rw [shC_small (by omega)]; unfold wid; rw [h0]; rfl
  · unfold shT; rw [if_pos h0]
theorem right_yes {v : Int} (h : rightB v = true) : cls v ≠ 0 := by
  rw [rght_rightB] at h
  rcases cls_what v with ⟨_, h1⟩ | ⟨_, h1⟩
  · rw [h] at h1; cases h1
  · omega
theorem u8_val (x : Int) (h0 : 0 ≤ x) (h1 : x < 256) : ((x.toNat.toUInt8).toNat : Int) = x := by rw [u8_nat h0 h1]; omega
/-- No byte of a shown text is a control. -/
theorem sh_bytes (v : Int) : ∀ c ∈ (shT v).data.toList, 32 ≤ c.toNat ∧ c.toNat ≠ 127 := by
  intro c hc
  rcases sh_lists v with ⟨h0, hs⟩ | ⟨h0, a, b, k, d, hs⟩ | ⟨h0, h1, h2, hs⟩ | ⟨h0, _, hs⟩ | ⟨h0, h1, h2, hs⟩ | ⟨h0, h00, h1, h2, h3, hs⟩
  · rw [hs] at hc; simp at hc
  · rw [hs] at hc
    have hc' : c ∈ u8l (oneI v) := hc
    rw [u8l, List.mem_map] at hc'
    obtain ⟨x, hx, rfl⟩ := hc'
    rw [oneI_pt ((ptB_iff v).2 (by omega))] at hx
    have key : 32 ≤ x ∧ x ≠ 127 ∧ x < 256 := by
      rcases (by omega : v ≤ 127 ∨ (128 ≤ v ∧ v ≤ 2047) ∨ ((2048 ≤ v ∧ v < 55296) ∨ (57343 < v ∧ v ≤ 65535)) ∨ 65536 ≤ v) with e | ⟨e, e2⟩ | e | e
      · rw [Lib.encodeRuneZ_one (by omega) e] at hx; simp at hx; omega
      · rw [Lib.encodeRuneZ_two e e2] at hx; simp at hx; rcases hx with rfl | rfl <;> omega
      · rw [Lib.encodeRuneZ_three e] at hx; simp at hx; rcases hx with rfl | rfl | rfl <;> omega
      · rw [Lib.encodeRuneZ_four e k] at hx; simp at hx; rcases hx with rfl | rfl | rfl | rfl <;> omega
    have := u8_val x (by omega) key.2.2
    omega
  · rw [hs] at hc
    have hc' : c ∈ [94] ++ u8l [v + 64] := hc
    simp [u8l] at hc'
    rcases hc' with rfl | rfl
    · decide
    · have := u8_val (v + 64) (by omega) (by omega); simp at this ⊢; omega
  · rw [hs] at hc
    have hc' : c ∈ ([94, 63] : List UInt8) := hc
    simp at hc'
    rcases hc' with rfl | rfl <;> decide
  · rw [hs] at hc
    have hc' : c ∈ [92, 120] ++ hexL (v - 1114112) 2 := hc
    rw [List.mem_append] at hc'
    rcases hc' with hc' | hc'
    · simp at hc'; rcases hc' with rfl | rfl <;> decide
    · have := tell_ok _ _ _ c hc'; omega
  · rw [hs] at hc
    have hc' : c ∈ [60, 85, 43] ++ hexL v 4 ++ [62] := hc
    rw [List.mem_append, List.mem_append] at hc'
    rcases hc' with (hc' | hc') | hc'
    · simp at hc'; rcases hc' with rfl | rfl | rfl <;> decide
    · have := tell_ok _ _ _ c hc'; omega
    · simp at hc'; rw [hc']; decide
theorem sh_byte (v : Int) (k : Nat) (h : k < (shT v).size) : 32 ≤ (shT v)[k].toNat ∧ (shT v)[k].toNat ≠ 127 := by
  refine sh_bytes v _ ?_
  show (shT v).data[k] ∈ (shT v).data.toList
  rw [Array.mem_toList_iff]; exact Array.getElem_mem _
theorem hexL_inj {n m l : Int} (h0 : 0 ≤ n) (h1 : 0 ≤ m) (hn : n ≤ 2000000) (hm : m ≤ 2000000) (h : hexL n l = hexL m l) : n = m := by
  have a := dv_tell 16 (by omega) (by omega) 20 n.toNat l.toNat (Nat.lt_of_le_of_lt (show n.toNat ≤ 2000000 by omega) (by decide))
  have b := dv_tell 16 (by omega) (by omega) 20 m.toNat l.toNat (Nat.lt_of_le_of_lt (show m.toNat ≤ 2000000 by omega) (by decide))
  unfold hexL at h
  rw [h, b] at a
  omega
theorem u8l_inj {a b : List Int} (ha : ∀ x ∈ a, 0 ≤ x ∧ x < 256) (hb : ∀ x ∈ b, 0 ≤ x ∧ x < 256) (h : u8l a = u8l b) : a = b := by
  have e : txt a = txt b := by rw [txt_list, txt_list, h]
  rw [← bytesOf_txt a ha, ← bytesOf_txt b hb, e]
theorem oneI_inj {v w : Int} (h1 : 0 ≤ v ∧ v < 55296 ∨ 57343 < v ∧ v ≤ 1114111) (h2 : 0 ≤ w ∧ w < 55296 ∨ 57343 < w ∧ w ≤ 1114111) (h : oneI v = oneI w) : v = w := by
  rw [oneI_pt ((ptB_iff v).2 h1), oneI_pt ((ptB_iff w).2 h2)] at h
  have f : ∀ v : Int, (0 ≤ v ∧ v < 55296 ∨ 57343 < v ∧ v ≤ 1114111) → (v ≤ 127 ∧ Lib.encodeRuneZ v = [v]) ∨ (128 ≤ v ∧ v ≤ 2047 ∧ Lib.encodeRuneZ v = [192 + v / 64, 128 + v % 64]) ∨ (2048 ≤ v ∧ v ≤ 65535 ∧ Lib.encodeRuneZ v = [224 + v / 4096, 128 + v / 64 % 64, 128 + v % 64]) ∨ (65536 ≤ v ∧ Lib.encodeRuneZ v = [240 + v / 262144, 128 + v / 4096 % 64, 128 + v / 64 % 64, 128 + v % 64]) := fun v hv => by
    rcases (by omega : v ≤ 127 ∨ (128 ≤ v ∧ v ≤ 2047) ∨ ((2048 ≤ v ∧ v < 55296) ∨ (57343 < v ∧ v ≤ 65535)) ∨ 65536 ≤ v) with k | ⟨k, k2⟩ | k | k
    · left; exact ⟨k, Lib.encodeRuneZ_one (by omega) k⟩
    · right; left; exact ⟨k, k2, Lib.encodeRuneZ_two k k2⟩
    · right; right; left; exact ⟨by omega, by omega, Lib.encodeRuneZ_three k⟩
    · right; right; right; exact ⟨k, Lib.encodeRuneZ_four k (by omega)⟩
  rcases f v h1 with ⟨a, e⟩ | ⟨a, a2, e⟩ | ⟨a, a2, e⟩ | ⟨a, e⟩ <;> rcases f w h2 with ⟨b, e'⟩ | ⟨b, b2, e'⟩ | ⟨b, b2, e'⟩ | ⟨b, e'⟩ <;> rw [e, e'] at h <;> simp at h <;> omega
theorem list_of {a b : List UInt8} (h : (⟨a.toArray⟩ : ByteArray) = ⟨b.toArray⟩) : a = b := by simpa using h
/-- Unlike values are shown by unlike texts, or just one of them is dangerous. -/
theorem sh_apart {v w : Int} (hv : cls v ≠ 0) (hw : cls w ≠ 0) (hd : (3 < cls v) ↔ (3 < cls w)) (h : shT v = shT w) : v = w := by
  rcases sh_lists v with ⟨h0, hs⟩ | ⟨h0, a, b, k, d, hs⟩ | ⟨h0, h1, h2, hs⟩ | ⟨h0, h1, hs⟩ | ⟨h0, h1, h2, hs⟩ | ⟨h0, h00, h1, h2, h3, hs⟩
  · exact absurd h0 hv
  · rcases sh_lists w with ⟨h0', hs'⟩ | ⟨h0', a', b', k', d', hs'⟩ | ⟨h0', h1', h2', hs'⟩ | ⟨h0', h1', hs'⟩ | ⟨h0', h1', h2', hs'⟩ | ⟨h0', h00', h1', h2', h3', hs'⟩ <;> try omega
    rw [hs, hs'] at h
    exact oneI_inj (by omega) (by omega) (u8l_inj (oneI_byte v) (oneI_byte w) (list_of h))
  · rcases sh_lists w with ⟨h0', hs'⟩ | ⟨h0', a', b', k', d', hs'⟩ | ⟨h0', h1', h2', hs'⟩ | ⟨h0', h1', hs'⟩ | ⟨h0', h1', h2', hs'⟩ | ⟨h0', h00', h1', h2', h3', hs'⟩ <;> try omega
    all_goals
      rw [hs, hs'] at h
      have e := list_of h
      simp [u8l] at e
    · have x : ((UInt8.ofNat (v + 64).toNat).toNat : Int) = v + 64 := u8_val (v + 64) (by omega) (by omega)
      have y : ((UInt8.ofNat (w + 64).toNat).toNat : Int) = w + 64 := u8_val (w + 64) (by omega) (by omega)
      rw [e] at x
      omega
    · have x : ((UInt8.ofNat (v + 64).toNat).toNat : Int) = v + 64 := u8_val (v + 64) (by omega) (by omega)
      rw [e] at x
      have : ((63 : UInt8).toNat : Int) = 63 := rfl
      omega
  · rcases sh_lists w with ⟨h0', hs'⟩ | ⟨h0', a', b', k', d', hs'⟩ | ⟨h0', h1', h2', hs'⟩ | ⟨h0', h1', hs'⟩ | ⟨h0', h1', h2', hs'⟩ | ⟨h0', h00', h1', h2', h3', hs'⟩ <;> try omega
    all_goals
      rw [hs, hs'] at h
      have e := list_of h
      simp [u8l] at e
    have y : ((UInt8.ofNat (w + 64).toNat).toNat : Int) = w + 64 := u8_val (w + 64) (by omega) (by omega)
    rw [← e] at y
    have : ((63 : UInt8).toNat : Int) = 63 := rfl
    omega
  · rcases sh_lists w with ⟨h0', hs'⟩ | ⟨h0', a', b', k', d', hs'⟩ | ⟨h0', h1', h2', hs'⟩ | ⟨h0', h1', hs'⟩ | ⟨h0', h1', h2', hs'⟩ | ⟨h0', h00', h1', h2', h3', hs'⟩ <;> try omega
    all_goals
      rw [hs, hs'] at h
      have e := list_of h
      simp at e
    have := hexL_inj (by omega) (by omega) (by omega) (by omega) e
    omega
  · rcases sh_lists w with ⟨h0', hs'⟩ | ⟨h0', a', b', k', d', hs'⟩ | ⟨h0', h1', h2', hs'⟩ | ⟨h0', h1', hs'⟩ | ⟨h0', h1', h2', hs'⟩ | ⟨h0', h00', h1', h2', h3', hs'⟩ <;> try omega
    all_goals
      rw [hs, hs'] at h
      have e := list_of h
      simp at e
    exact hexL_inj (by omega) (by omega) (by omega) (by omega) e
end Go.Proofs.YtcdecnmhogmhaaaDoor
set_option linter.unusedVariables false
set_option linter.unusedSimpArgs false
namespace Go.Proofs.YtcdecnmhogmhaaaDoor
open Go.RowKit
attribute [local go_sem ↓] Go.wp_at_zero Go.wp_at_succ
/-- The cells of the first k signs; f tells whose they are. -/
def vwG (l : List (Int × Int)) (f : Nat → Int) (k : Nat) : List Cl := (List.range k).flatMap fun i => shK (l.getD i (0, 0)).1 (l.getD i (0, 0)).2 (f i)
theorem vwG_succ (l : List (Int × Int)) (f : Nat → Int) (k : Nat) : vwG l f (k + 1) = vwG l f k ++ shK (l.getD k (0, 0)).1 (l.getD k (0, 0)).2 (f k) := by simp [vwG, List.range_succ]
theorem vwG_le (l : List (Int × Int)) (f : Nat → Int) : ∀ k, (vwG l f k).length ≤ 30 * k
  | 0 => by simp [vwG]
  | k + 1 => by
    rw [vwG_succ, List.length_append]
    have := vwG_le l f k
    have := shK_le (l.getD k (0, 0)).1 (l.getD k (0, 0)).2 (f k)
    omega
/-- Whose a prompt's cells are; whose a line's. -/
def ofP (_ : Nat) : Int := -1
def ofL (i : Nat) : Int := i
/-- The view of a prompt and a line. -/
def vwOf (p l : List (Int × Int)) : List Cl := vwG p ofP p.length ++ vwG l ofL l.length
theorem sgC_at {l : List (Int × Int)} (h : sgC l = true) {k : Nat} (hk : k < l.length) : cls (l.getD k (0, 0)).1 ≠ 0 := by
  have h2 := (List.all_eq_true.1 h) _ (getD_mem hk)
  refine right_yes ?_
  unfold sgR at h2
  rw [Bool.and_eq_true, Bool.and_eq_true] at h2
  exact h2.2.2
theorem shK_pos {v : Int} (h : cls v ≠ 0) (l o : Int) : 0 < (shK v l o).length := by
  have h1 := shK_len v l o
  have h2 := shC_rng v h
  omega
set_option maxHeartbeats 8000000 in
theorem vof_yes (p l : List (Int × Int)) (a b : Option Addr) (c d : Nat) (w : World) (hp : p.length ≤ 1000) (hl : l.length ≤ 1000) (ha : Signs w a p) (hb : Signs w b l) (hT : Tabs w) (hP : sgC p = true) (hL : sgC l = true) :
    Calls Tryd.prog 65 #[.slice a p.length c, .slice b l.length d] w fun e w' => ∃ x, e = .returned (.tuple #[x, .int .i64 0]) ∧ ownC w' w.heap.size x (vwOf p l) ∧ Below w.heap.size w w' := by
  obtain ⟨i0, hi, hz0, hz1, hz2⟩ := info_parts infoCell
  have S1 := scheck_any p a c w (by omega) ha
  have S2 := Lib.hid fun w1 (h : Signs w1 b l) => (by have h1 := scheck_any l b d w1 (by omega) h; rw [sgE_yes hL] at h1; exact h1 : Calls Tryd.prog 109 #[.slice b l.length d] w1 fun e w' => e = .returned (.int .i64 0) ∧ Below w1.heap.size w1 w')
  rw [sgE_yes hP] at S1
  replace S1 := Lib.hid S1
  have HA := Lib.hid ha; have HB := Lib.hid hb; have HT := Lib.hid hT; have HP := Lib.hid hP; have HL := Lib.hid hL
  clear ha hb hT hP hL
  go_enter Tryd.func65, Tryd.ntmps65
  go_wp2_with (first
    | (go_at_call 109; (with_reducible refine S1.out.mono ?_); rintro e w1 ⟨rfl, hb1⟩)
    | (go_at_call 109; refine (S2.out _ (HB.out.below hb1)).mono ?_; rintro e w2 ⟨rfl, hb2⟩)
    | (at_make; refine wpList_make_own _ rfl _ _ 36 rfl w.heap.size 51 i0 _ 5 Tryd.underlying36 hi hz0 hz1 _ _ _ (p.length + l.length) rfl rfl ?b1 ?b2 ?b3 ?b4 ?_))
  case b1 => first | rfl | (push_cast; rfl) | (simp [IntKind.wrap_i64]; omega)
  case b2 => rw [hz2]; omega
  case b3 => unfold maxLen; omega
  case b4 => have := hb1.size; have := hb2.size; omega
  intro w3 hown3 hgrow3
  have N2 := seqB hb1 hb2
  have N3 := N2.grown hgrow3 N2.size (fun j hj => by cases hj)
  have H3 := Lib.hid (show ownC w3 w.heap.size (.slice (some ⟨w2.heap.size, 0, none⟩) 0 (p.length + l.length)) (vwG p ofP 0) from hown3)
  clear hown3 hgrow3 hb1 hb2 N2
  go_wp2
  go_loopw [6, 27] (fun ov iv wr => ∃ k : Nat, k ≤ p.length ∧ iv = .int .i64 (k : Int) ∧ Hid (ownC wr w.heap.size ov (vwG p ofP k)) ∧ Below w.heap.size w wr) (fun _ iv _ => p.length - (intOf iv).toNat)
  case atStart => exact ⟨0, Nat.zero_le _, rfl, H3, N3⟩
  case round =>
    obtain ⟨k, hk, rfl, hO, hbl⟩ := hrel
    clear H3 N3 S1 S2
    by_cases hlt : k < p.length
    · obtain ⟨b1, off, rfl, hblk, c1, c2⟩ := (HA.out.below hbl) k hlt
      have hk1 : (k : Int) < p.length := by omega
      have hk0 : (0 : Int) ≤ k := by omega
      have C := fun w hT => cells_any (p.getD k (0, 0)).1 (p.getD k (0, 0)).2 (-1) w hT
      have hpos := shK_pos (sgC_at HP.out hlt) (p.getD k (0, 0)).2 (-1)
      have hle := shK_le (p.getD k (0, 0)).1 (p.getD k (0, 0)).2 (-1)
      have hsucc := vwG_succ p ofP k
      have hvl := vwG_le p ofP k
      rw [show ofP k = -1 from rfl] at hsucc
      generalize (p.getD k (0, 0)).1 = v at *
      generalize (p.getD k (0, 0)).2 = u at *
      generalize shK v u (-1) = X at *
      have Hsucc := Lib.hid hsucc
      replace C := Lib.hid C
      have hown := hO.out
      unfold ownC at hown
      clear hsucc
      generalize hX : vwG p ofP k = Y at *
      clear hX
      go_wp2_with (first
        | (go_at_call 110; refine (C.out _ ((HT.out.below hbl).below (below_alloc _ _))).mono ?_; rintro e w4 ⟨x, rfl, hown4, hb4⟩; obtain ⟨g, cap, rfl⟩ := ownsRow_pos hown4 hpos; have N4 := hbl.trans ((seqB (below_alloc _ _) hb4).mono hbl.size); have hold := ownB hown ((seqB (below_alloc wr (.cells #[.int .i64 v, .int .i64 u] 53)) hb4)))
        | (at_builtin; refine wpList_append_own _ rfl _ _ 36 rfl w.heap.size 51 i0 _ 5 40 Tryd.underlying36 hi hz0 hz1 hz2 rfl (by decide) _ _ _ rfl hold ⟨g, 0, none⟩ X.length cap (cCells X) rfl (cCells_len X) (hown4.cells rfl) (cCells_one X) ?c3 ?c4 N4.size ?_))
      case c3 => unfold maxLen; omega
      case c4 => omega
      intro v' w5 hown5 hgrow5 _
      have N5 := N4.grown hgrow5 N4.size (fun j hj => (hold.lt j hj).1)
      have HO := Lib.hid (show ownC w5 w.heap.size v' (Y ++ X) by unfold ownC; rw [List.length_append, cCells_append]; exact hown5)
      clear hown5 hgrow5 hold hown4 hown
      go_wp2
      go_roundw
      case rel => exact ⟨k + 1, by omega, by go_num, Lib.hid (by rw [Hsucc.out]; exact HO.out), N5⟩
      case measure => (simp [intOf]; try omega)
    · obtain rfl : k = p.length := by omega
      have hpl := vwG_le p ofP p.length
      have HS := Lib.hid (show vwOf p l = vwG p ofP p.length ++ vwG l ofL l.length from rfl)
      generalize vwG p ofP p.length = Z at *
      go_wp2
      go_loopw [6, 38] (fun ov iv wr => ∃ k : Nat, k ≤ l.length ∧ iv = .int .i64 (k : Int) ∧ Hid (ownC wr w.heap.size ov (Z ++ vwG l ofL k)) ∧ Below w.heap.size w wr) (fun _ iv _ => l.length - (intOf iv).toNat)
      case atStart => exact ⟨0, Nat.zero_le _, rfl, Lib.hid (by rw [show vwG l ofL 0 = [] from rfl, List.append_nil]; exact hO.out), hbl⟩
      case round =>
        obtain ⟨k, hk, rfl, hO, hbl⟩ := hrel
        by_cases hlt : k < l.length
        · obtain ⟨b1, off, rfl, hblk, c1, c2⟩ := (HB.out.below hbl) k hlt
          have hk1 : (k : Int) < l.length := by omega
          have hk0 : (0 : Int) ≤ k := by omega
          have C := fun w hT => cells_any (l.getD k (0, 0)).1 (l.getD k (0, 0)).2 (k : Int) w hT
          have hpos := shK_pos (sgC_at HL.out hlt) (l.getD k (0, 0)).2 (k : Int)
          have hle := shK_le (l.getD k (0, 0)).1 (l.getD k (0, 0)).2 (k : Int)
          have hsucc := vwG_succ l ofL k
          have hvl := vwG_le l ofL k
          rw [show ofL k = (k : Int) from rfl] at hsucc
          generalize (l.getD k (0, 0)).1 = v at *
          generalize (l.getD k (0, 0)).2 = u at *
          generalize shK v u (k : Int) = X at *
          have Hsucc := Lib.hid hsucc
          replace C := Lib.hid C
          have hown := hO.out
          unfold ownC at hown
          clear hsucc
          have hZY : (Z ++ vwG l ofL k).length ≤ 60000 := by rw [List.length_append]; omega
          generalize hX : vwG l ofL k = Y at *
          clear hX
          have Happ := Lib.hid (List.append_assoc Z Y X)
          generalize Z ++ Y = V at *
          go_wp2_with (first
            | (go_at_call 110; refine (C.out _ ((HT.out.below hbl).below (below_alloc _ _))).mono ?_; rintro e w4 ⟨x, rfl, hown4, hb4⟩; obtain ⟨g, cap, rfl⟩ := ownsRow_pos hown4 hpos; have N4 := hbl.trans ((seqB (below_alloc _ _) hb4).mono hbl.size); have hold := ownB hown ((seqB (below_alloc wr (.cells #[.int .i64 v, .int .i64 u] 53)) hb4)))
            | (at_builtin; refine wpList_append_own _ rfl _ _ 36 rfl w.heap.size 51 i0 _ 5 40 Tryd.underlying36 hi hz0 hz1 hz2 rfl (by decide) _ _ _ rfl hold ⟨g, 0, none⟩ X.length cap (cCells X) rfl (cCells_len X) (hown4.cells rfl) (cCells_one X) ?c3 ?c4 N4.size ?_))
          case c3 => unfold maxLen; omega
          case c4 => omega
          intro v' w5 hown5 hgrow5 _
          have N5 := N4.grown hgrow5 N4.size (fun j hj => (hold.lt j hj).1)
          have HO := Lib.hid (show ownC w5 w.heap.size v' (V ++ X) by unfold ownC; rw [List.length_append, cCells_append]; exact hown5)
          clear hown5 hgrow5 hold hown4 hown
          go_wp2
          go_roundw
          case rel => exact ⟨k + 1, by omega, by go_num, Lib.hid (by rw [Hsucc.out, ← Happ.out]; exact HO.out), N5⟩
          case measure => (simp [intOf]; try omega)
        · obtain rfl : k = l.length := by omega
          go_wp2
          exact bodyPost_ret (results_tmp2 rfl _ _ _) rfl ⟨_, rfl, by rw [HS.out]; exact hO.out, hbl⟩
set_option maxHeartbeats 4000000 in
theorem vof_no (p l : List (Int × Int)) (a b : Option Addr) (c d : Nat) (w : World) (hp : p.length ≤ 1000) (hl : l.length ≤ 1000) (ha : Signs w a p) (hb : Signs w b l) (hR : (sgC p && sgC l) = false) :
    Calls Tryd.prog 65 #[.slice a p.length c, .slice b l.length d] w fun e w' => e = .returned (.tuple #[.slice none 0 0, .int .i64 2]) ∧ Below w.heap.size w w' := by
  have S1 := scheck_any p a c w (by omega) ha
  have S2 := fun w1 (h : Signs w1 b l) => scheck_any l b d w1 (by omega) h
  have HB := Lib.hid hb
  cases hP : sgC p
  · rw [sgE_no hP] at S1
    replace S1 := Lib.hid S1
    clear S2 ha hb hR
    go_enter Tryd.func65, Tryd.ntmps65
    go_wp2_with (go_at_call 109; (with_reducible refine S1.out.mono ?_); rintro e w1 ⟨rfl, hb1⟩)
    exact bodyPost_ret (results_tmp2 rfl _ _ _) rfl ⟨rfl, hb1⟩
  · rw [hP, Bool.true_and] at hR
    rw [sgE_yes hP] at S1
    rw [sgE_no hR] at S2
    replace S1 := Lib.hid S1; replace S2 := Lib.hid S2
    clear ha hb hR
    go_enter Tryd.func65, Tryd.ntmps65
    go_wp2_with (first
      | (go_at_call 109; (with_reducible refine S1.out.mono ?_); rintro e w1 ⟨rfl, hb1⟩)
      | (go_at_call 109; refine (S2.out _ (HB.out.below hb1)).mono ?_; rintro e w2 ⟨rfl, hb2⟩))
    exact bodyPost_ret (results_tmp2 rfl _ _ _) rfl ⟨rfl, seqB hb1 hb2⟩
end Go.Proofs.YtcdecnmhogmhaaaDoor
