/-
  Joined: Of7 Of10 Of11 Of12 Of13 Of14 Of15 Of16.
-/
import Derived.Test.YtgpcflpeddnfcaaDoorJO04
import Derived.Test.YtgpcflpeddnfcaaDoorJO05
import Derived.Test.YtgpcflpeddnfcaaDoorJO07
import Derived.Test.YtgpcflpeddnfcaaDoorJO09
import Derived.Deep.RegionHeld3
import Derived.Deep.AppendLies
import Derived.Deep.RegionLaw
import Derived.Lib.QuietBelow
import Derived.BigQuiet
set_option linter.unusedVariables false
set_option linter.unusedSimpArgs false
set_option maxRecDepth 100000
set_option linter.unusedVariables false
set_option linter.unusedSimpArgs false
namespace Go.Proofs.YtgpcflpeddnfcaaDoor
open Go.RowKit Go.Sort
/-- A line's box. -/
def LbX (w : World) (X : Nat) (a : Option Addr) (n c : Nat) (x : Int) : Prop := w.heap[X]? = some (.cells #[.slice a n c, .int .i64 x] 30 (0, 0))
theorem LbX.below {w w' : World} {X : Nat} {a : Option Addr} {n c : Nat} {x : Int} (h : LbX w X a n c x) (hb : Below w.heap.size w w') : LbX w' X a n c x := blk_below h hb
theorem LbX.cells {w : World} {X : Nat} {a : Option Addr} {n c : Nat} {x : Int} (h : LbX w X a n c x) : w.cell? ⟨X, 0, none⟩ = some (.slice a n c) ∧ w.cell? ⟨X, 1, none⟩ = some (.int .i64 x) := ⟨cell_of_row _ _ 0 _ _ _ h, cell_of_row _ _ 1 _ _ _ h⟩
/-- What is offered, of a line with the cursor at p. -/
def wdL (L : List Sg2) (p : Nat) : List Sg2 := (L.drop (wdB L p)).take (p - wdB L p)
def offL (L : List Sg2) (p : Nat) (H : List (List Sg2)) : List (List Sg2) := offK (wdL L p) H H.length
set_option maxHeartbeats 8000000 in
theorem offnew_any (L : List Sg2) (a : Option Addr) (n c p : Nat) (H : List (List Sg2)) (aC : Option Addr) (h cC : Nat) (w : World) (hn : L.length = n) (hl : n ≤ 10000) (hp : p ≤ n) (hok : sgC L = true) (hT : Tabs w) (hs : SlS (fun k => k < w.heap.size) w a L c)
    (hh : H.length = h) (hhl : h ≤ 1000) (hC : SgsK (fun k => k < w.heap.size) w aC H) (hz : ∀ t ∈ H, t.length ≤ 100000) :
    Calls Tryd.prog 30 #[.agg #[.slice a n c, .int .i64 (p : Int)], .slice aC h cC] w fun e w' => (offL L p H = [] ∧ e = .returned (.tuple #[.pointer none, .int .i64 7]) ∨ offL L p H ≠ [] ∧ ∃ O xa xc, e = .returned (.tuple #[.pointer (some ⟨O, 0, none⟩), .int .i64 0]) ∧ OfS w.heap.size O L xa n xc p (p - wdB L p) (offL L p H) (stm (offL L p H)) (-1) w') ∧ Below w.heap.size w w' := by
  obtain ⟨i1, hj, hy0, hy1, hy2⟩ := info_parts infoSl
  have B0 := below_alloc w (.cells #[.slice a n c, .int .i64 (p : Int)] 30)
  have q0 : LbX (w.alloc (.cells #[.slice a n c, .int .i64 (p : Int)] 30)) w.heap.size a n c p := heap_alloc_new w (.cells #[.slice a n c, .int .i64 (p : Int)] 30)
  have RT := Lib.hid fun w' (hb : Below w.heap.size w w') => lw_right L a n c p w' hn (by omega) hp hok (hs.s.below hb)
  have WD := Lib.hid fun w' (hb : Below w.heap.size w w') => word_any L a n c p w' hn (by omega) hp hok (hT.below hb) (hs.s.below hb)
  have hwB := wdB_le L p
  have hsub := hs.sub (wdB L p) p hwB (by omega)
  obtain ⟨f, hf⟩ : ∃ f, wdB L p = f := ⟨_, rfl⟩
  have hwl : wdL L p = (L.drop f).take (p - f) := by unfold wdL; rw [hf]
  rw [hf] at WD hwB hsub
  have hoff : offL L p H = offK ((L.drop f).take (p - f)) H h := by unfold offL; rw [hwl, hh]
  rw [hf, hoff]
  obtain ⟨W, hW⟩ : ∃ W, (L.drop f).take (p - f) = W := ⟨_, rfl⟩
  rw [hW] at hsub
  rw [hW]
  obtain ⟨aW, haW⟩ : ∃ x, (if c = f then a else a.map (·.add (f * 2))) = x := ⟨_, rfl⟩
  rw [haW] at hsub
  have PK := Lib.hid fun w' (hb : Below w.heap.size w w') => picker3_any aW (p - f) (c - f) W w' (hsub.1.s.below hb)
  have hcle := hs.le
  rw [hn] at hcle
  have hcut := fun w' => (run_cutLH w' a n c f p hwB (by omega)).trans (by rw [haW])
  have CLN := Lib.hid fun w' (hb : Below w.heap.size w w') => clone_sg L a n c _ w' hn (by omega) (hs.below hb)
  have HWs := Lib.hid hsub
  have HC := Lib.hid hC
  have HZ := Lib.hid hz
  have HHn := Lib.hid hh
  have HF := Lib.hid hf
  clear hs hsub hC hz hh hf hwl hoff haW hT hok hW hn
  go_enter Tryd.func30, Tryd.ntmps30
  go_upto_region 1 with fail
  obtain ⟨w0, hw0⟩ : ∃ v, w.alloc (.cells #[.slice a n c, .int .i64 (p : Int)] 30) = v := ⟨_, rfl⟩
  obtain ⟨X, hX⟩ : ∃ x, w.heap.size = x := ⟨_, rfl⟩
  have HX := Lib.hid hX
  rw [hw0, hX] at q0
  rw [hw0] at B0
  rw [hw0, hX]
  clear hw0 hX
  have N0 := Lib.hid B0
  have Q0 := Lib.hid q0
  have z0 := Q0.out.cells.1
  have z1 := Q0.out.cells.2
  clear B0 q0
  go_upto_region 5 with (first
    | (go_at_call 80; refine (RT.out _ N0.out).mono ?_; rintro e w1 ⟨rfl, hb⟩; clear z0 z1; have Q1 := Lib.hid (Q0.out.below hb); have N1 := Lib.hid (seqB N0.out hb); have z0 := Q1.out.cells.1; have z1 := Q1.out.cells.2; clear hb RT Q0 N0)
    | (go_at_call 31; refine (WD.out _ N1.out).mono ?_; rintro e w2 ⟨rfl, hb⟩; clear z0 z1; have Q2 := Lib.hid (Q1.out.below hb); have N2 := Lib.hid (seqB N1.out hb); have z0 := Q2.out.cells.1; have z1 := Q2.out.cells.2; clear hb WD Q1 N1)
    | (go_at_call 81; refine (PK.out _ N2.out).mono ?_; rintro e w3 ⟨Q, R, b, rfl, hpk, g1, g2, g3, hb⟩; clear z0 z1; have P3 := Lib.hid hpk; have G3 := Lib.hid (Nat.le_trans N2.out.size g3); have Q3 := Lib.hid (Q2.out.below hb); have N3 := Lib.hid (seqB N2.out hb); have z0 := Q3.out.cells.1; have z1 := Q3.out.cells.2; clear hb PK Q2 N2 hpk g1 g2 g3))
  have CL5 := Lib.hid (CLN.out w3.drew N3.out.drew)
  have hpf : (p : Int) - (f : Int) = ((p - f : Nat) : Int) := by omega
  have hXlt : Hid (X < w3.heap.size) := Lib.hid (blk_lt Q3.out)
  clear CLN
  go_region_held3 (fun w' => w'.cell? ⟨X, 0, none⟩ = some (.slice a n c) ∧ w'.cell? ⟨X, 1, none⟩ = some (.int .i64 (p : Int))) (first | exact ⟨z0, z1⟩ | exact ⟨z02, z12⟩ | go_keep)
    (first | (go_at_call 65; refine CL5.out.mono ?_; rintro e w5 ⟨xa, xc, rfl, ho, hb⟩; have O5 := Lib.hid ho; have D5 := Lib.hid ((Below.refl _ w3).drew.trans hb); have z02 := (hb.cell (p := ⟨X, 0, none⟩) hXlt.out).trans z0; have z12 := (hb.cell (p := ⟨X, 1, none⟩) hXlt.out).trans z1; clear ho hb))
  have hwr : IntKind.i64.wrap ((p - f : Nat) : Int) = ((p - f : Nat) : Int) := by rw [IntKind.wrap_i64]; omega
  simp only [hwr]
  rename_i hHeld
  clear hHeld z02 z12 z0 z1 hwr CL5
  have hsz3 : w3.drew.heap.size = w3.heap.size := rfl
  obtain ⟨B, hB⟩ : ∃ B, w3.heap.size = B := ⟨_, rfl⟩
  rw [hsz3, hB] at O5 D5
  obtain ⟨wd, hwd⟩ : ∃ wd, p - f = wd := ⟨_, rfl⟩
  rw [hwd] at P3 HWs hpf ⊢
  have BA := below_alloc w5 (.cells #[.slice xa n xc, .int .i64 (p : Int), .int .i64 (wd : Int), .slice none 0 0, .int .i64 0, .int .i64 (-1)] 115)
  have X6 := heap_alloc_new w5 (.cells #[.slice xa n xc, .int .i64 (p : Int), .int .i64 (wd : Int), .slice none 0 0, .int .i64 0, .int .i64 (-1)] 115)
  obtain ⟨w6, hw6⟩ : ∃ v, w5.alloc (.cells #[.slice xa n xc, .int .i64 (p : Int), .int .i64 (wd : Int), .slice none 0 0, .int .i64 0, .int .i64 (-1)] 115) = v := ⟨_, rfl⟩
  obtain ⟨O, hO⟩ : ∃ O, w5.heap.size = O := ⟨_, rfl⟩
  rw [hw6, hO] at X6
  rw [hw6] at BA
  rw [hw6, hO]
  have hBO : Hid (B ≤ O) := Lib.hid (by rw [← hO]; exact D5.out.size |> fun h => by rw [hB] at h; exact h)
  have D35 : Below w3.heap.size w3 w5 := by rw [hB]; exact D5.out
  have N6 := Lib.hid (seqB N3.out (seqB D35 BA))
  have F6 : Hid (OfS B O L xa n xc p wd [] 0 (-1) w6) := Lib.hid ⟨⟨.slice none 0 0, [], X6, ⟨World.ownsRow_nil _ _ _ _, rfl, fun i hi => absurd hi (Nat.not_lt_zero i)⟩⟩, ows_keep O5.out BA, hBO.out⟩
  have hws := N3.out.size
  have hG3 := G3.out
  have hPk : Hid (PkB B w6 Q R b aW wd (c - f) W []) := Lib.hid ⟨(P3.out.below D35).below BA, by rw [← hB]; exact ⟨blk_lt P3.out.q, blk_lt P3.out.r, P3.out.m.lt⟩, fun ad e hne => by
    obtain ⟨g, off, e2, hlt, _⟩ := P3.out.s 0 (List.length_pos_iff.2 hne)
    rw [e] at e2
    injection e2 with e3
    rw [e3, ← hB]; exact hlt⟩
  have hwb : Hid (w.heap.size ≤ b ∧ w.heap.size ≤ B) := Lib.hid ⟨hG3, by rw [← hB]; exact hws⟩
  have hpE : Hid (p - f = wd) := Lib.hid hwd
  clear hws hG3 G3 P3 D35 D5 O5 BA X6 hB hO hw6 hsz3 hwd Q3 N3 hXlt
  go_wp2_with fail
  go_loopw [39] (fun iv wr => ∃ k : Nat, k ≤ h ∧ iv = .int .i64 (k : Int) ∧ Hid (OfS B O L xa n xc p wd (offK W H k) (stm (offK W H k)) (-1) wr) ∧ Hid (PkB B wr Q R b aW wd (c - f) W (sawK W H k)) ∧ Hid (Below w.heap.size w wr) ∧ Hid (B ≤ wr.heap.size)) (fun iv _ => h - (intOf iv).toNat)
  case atStart => exact ⟨0, Nat.zero_le _, rfl, F6, hPk, N6, Lib.hid (by have := hBO.out; have := blk_lt (F6.out.ex.choose_spec.choose_spec.1); omega)⟩
  case round =>
    clear F6 hPk N6
    obtain ⟨k, hk, rfl, HO, HP, HN, HS⟩ := hrel
    by_cases hlt : k < h
    · have hk1 : (k : Int) < h := by omega
      have hk0 : (0 : Int) ≤ k := by omega
      have hkH : k < H.length := by rw [HHn.out]; exact hlt
      obtain ⟨bc, oc, ai, ci, rfl, _, hbc, c0, hci⟩ := HC.out k hkH
      replace c0 := (HN.out.cell (p := ⟨bc, oc + k, none⟩) hbc).trans c0
      have hzl := HZ.out _ (getD_memT hkH)
      have hnT := offK_next W H k hkH
      have hnU := sawK_next W H k hkH
      have hwas := saw_was W H k (by omega) (H.getD k [])
      obtain ⟨l, hl2⟩ : ∃ l, H.getD k [] = l := ⟨_, rfl⟩
      rw [hl2] at hci hzl c0 hnT hnU hwas
      obtain ⟨m, hm⟩ : ∃ m, l.length = m := ⟨_, rfl⟩
      rw [hm] at c0
      have HM := Lib.hid hm
      have HCI := Lib.hid hci
      clear hci hm hl2
      go_upto_region 9 with fail
      cases ho : okC W l with
      | false =>
        have hT1 : offK W H (k + 1) = offK W H k := by rw [hnT]; unfold offStep; rw [ho]; rfl
        have hU1 : sawK W H (k + 1) = sawK W H k := by rw [hnU, ho]; simp
        have PN := Lib.hid (picked3_no HP.out.p l ai m ci HM.out HWs.out.2 (by rw [← HM.out]; exact hzl) (by omega) (HCI.out.s.below HN.out) ho)
        have HT1 := Lib.hid hT1
        have HU1 := Lib.hid hU1
        clear hT1 hU1 hnT hnU hwas ho hzl
        go_wp2_with (go_at_call 125; refine PN.out.mono ?_; rintro e w9 ⟨rfl, hb⟩; have HO9 := Lib.hid (HO.out.below hb); have HP9 := Lib.hid (HP.out.below hb); have HN9 := Lib.hid (seqB HN.out hb); have HS9 := Lib.hid (Nat.le_trans HS.out hb.size); clear hb)
        go_roundw
        case rel => exact ⟨k + 1, by omega, by go_num, by rw [HT1.out]; exact HO9, by rw [HU1.out]; exact HP9, HN9, HS9⟩
        case measure => (simp [intOf]; try omega)
      | true =>
        have hU1 : sawK W H (k + 1) = sawK W H k ++ [tx3 (vsL l)] := by rw [hnU, ho]; simp
        have hwas := hwas ho
        have PY := Lib.hid (picked3_yes HP.out.p l ai m ci HM.out HWs.out.2 (by omega) (HCI.out.s.below HN.out) (by
          have : ∀ j, (sawK W H j).length ≤ j := fun j => by
            unfold sawK
            have h1 : ∀ L : List (List Sg2), (L.flatMap fun c => if okC W c = true then [tx3 (vsL c)] else []).length ≤ L.length := fun L => by
              induction L with
              | nil => simp
              | cons x xs ih =>
                rw [List.flatMap_cons, List.length_append, List.length_cons]
                split
                · rw [List.length_singleton]; omega
                · rw [List.length_nil]; omega
            have := h1 (H.take j)
            rw [List.length_take] at this
            omega
          have := this k; omega) ho)
        cases hw : was (offK W H k) l with
        | true =>
          have hT1 : offK W H (k + 1) = offK W H k := by rw [hnT]; unfold offStep; rw [ho, hw]; rfl
          have hin : tx3 (vsL l) ∈ sawK W H k := hwas.2 hw
          rw [decide_eq_false (by simpa using hin)] at PY
          have HT1 := Lib.hid hT1
          have HU1 := Lib.hid hU1
          clear hT1 hU1 hnT hnU hwas ho hzl hw hin
          go_wp2_with (go_at_call 125; refine PY.out.mono ?_; rintro e w9 ⟨rfl, hp9, hkb⟩; have HO9 := Lib.hid (HO.out.map HP.out.p.m hkb.gr); have HP9 : Hid (PkB B w9 Q R b aW wd (c - f) W (sawK W H k ++ [tx3 (vsL l)])) := Lib.hid ⟨hp9, HP.out.lt, HP.out.s⟩; have HN9 := Lib.hid (HN.out.trans (hkb.below hwb.out.1 HN.out.size)); have HS9 := Lib.hid (Nat.le_trans HS.out hkb.size); clear hkb hp9)
          go_roundw
          case rel => exact ⟨k + 1, by omega, by go_num, by rw [HT1.out]; exact HO9, by rw [HU1.out]; exact HP9, HN9, HS9⟩
          case measure => (simp [intOf]; try omega)
        | false =>
          have hT1 : offK W H (k + 1) = offK W H k ++ [w4 l] := by rw [hnT]; unfold offStep; rw [ho, hw]; rfl
          have hin : ¬ tx3 (vsL l) ∈ sawK W H k := fun h => by rw [hwas.1 h] at hw; cases hw
          rw [decide_eq_true hin] at PY
          have HT1 := Lib.hid hT1
          have HU1 := Lib.hid hU1
          have hml := (okC_out ho).2.1
          rw [HM.out] at hml
          clear hT1 hU1 hnT hnU hwas ho hzl hw hin
          go_upto_region 10 with (go_at_call 125; refine PY.out.mono ?_; rintro e w9 ⟨rfl, hp9, hkb⟩; have HO9 := Lib.hid (HO.out.map HP.out.p.m hkb.gr); have HP9 : Hid (PkB B w9 Q R b aW wd (c - f) W (sawK W H k ++ [tx3 (vsL l)])) := Lib.hid ⟨hp9, HP.out.lt, HP.out.s⟩; have HN9 := Lib.hid (HN.out.trans (hkb.below hwb.out.1 HN.out.size)); have HS9 := Lib.hid (Nat.le_trans HS.out hkb.size); clear hkb hp9)
          clear PY HO HP HN HS
          obtain ⟨T, hTT⟩ : ∃ T, offK W H k = T := ⟨_, rfl⟩
          have hTl := offK_len W H k (by omega)
          rw [hTT] at HO9 HT1 hTl
          obtain ⟨t, ht⟩ : ∃ t, T.length = t := ⟨_, rfl⟩
          have HTl := Lib.hid ht
          obtain ⟨vT, vs, h1, h2⟩ := HO9.out.ex
          obtain ⟨ta, tc, rfl⟩ := (h2.rd HS9.out).form
          rw [ht] at h1 h2 hTl
          have htb : t ≤ 1000 := by omega
          have H1 := Lib.hid h1
          have H2 := Lib.hid h2
          have HOw := Lib.hid HO9.out.own
          have WT := with_any l ai ci 4 w9.drew (by rw [HM.out]; omega) ((HCI.out.s.below HN9.out).below (Below.refl _ _).drew)
          rw [HM.out, show w9.drew.heap.size = w9.heap.size from rfl] at WT
          replace WT := Lib.hid WT
          have y3 := cell_of_row _ _ 3 _ _ _ h1
          have yf := frozen_of_row _ O 3 _ _ h1
          dsimp at y3
          have HTT := Lib.hid hTT
          have hHS := HS9.out
          clear hTT ht h1 h2 hTl
          go_cut [] from 47 to 57 (fun wx => Hid (OfS B O L xa n xc p wd (T ++ [w4 l]) (stm T) (-1) wx) ∧ Hid (PkB B wx Q R b aW wd (c - f) W (sawK W H k ++ [tx3 (vsL l)])) ∧ Hid (Below w.heap.size w wx) ∧ Hid (B ≤ wx.heap.size))
          case first =>
            go_region_law (first
              | (go_simp; go_at_call 77; refine WT.out.mono ?_; rintro e wa ⟨rfl, hbk, hb⟩; have D1 : Below w9.heap.size w9 wa := (Below.refl _ w9).drew.trans hb; have D2 := below_alloc wa (.cells #[.slice (some ⟨w9.heap.size, 0, none⟩) m m] 28); have D3 := Lib.hid (seqB D1 D2); have O3 := Lib.hid (blk_below H1.out D3.out); have y3a := cell_of_row _ _ 3 _ _ _ (blk_below H1.out D1); have y3c := cell_of_row _ _ 3 _ _ _ O3.out; dsimp at y3a y3c; have R3 := Lib.hid (H2.out.below D3.out); have OW3 := Lib.hid (ows_keep HOw.out D3.out); have S3 := Lib.hid (ows_blk (n := m) (l := w4 l) (blk_below hbk D2) hHS ((w4_len l).trans HM.out) (by unfold maxLen; omega)); have hBc := Nat.le_trans hHS D3.out.size; clear hbk hb D1 D2)
              | (refine step_append_lies _ (by rfl) _ _ _ (by rfl) B 28 i1 _ 1 24 Tryd.underlying44 hj hy0 hy1 hy2 rfl (by decide) _ t vs (by rfl) (by have := R3.out.row; rw [HTl.out] at this; exact this) ⟨wa.heap.size, 0, none⟩ 1 1 [.slice (some ⟨w9.heap.size, 0, none⟩) m m] (by rfl) (by rfl) (fun j x hj => app_cells rfl hj) (by simp [Value.oneCell']) (by omega) (by unfold maxLen; omega) (by omega) hBc (wa.heap.size + 1) (by simp) ?_; intro gg cap w5 hown hgrow hat hlt5; have FF := OfS.push O3.out R3.out OW3.out hBO.out hBc S3.out (by rw [HTl.out]; exact hown) hgrow; have y5 := cell_of_row _ _ 3 _ _ _ FF.2.1; have yf5 := frozen_of_row _ O 3 _ _ FF.2.1; dsimp at y5; have HFF := Lib.hid FF; have HG := Lib.hid (hgrow.size); clear FF hown hgrow hat hlt5))
            all_goals
              have HPx := Lib.hid ((HP9.out.below D3.out).stay HFF.out.2.2.size HFF.out.2.2.block)
              have HNx := Lib.hid ((HN9.out.trans (D3.out.mono HN9.out.size)).trans (HFF.out.2.2.mono hwb.out.2))
              have HSx := Lib.hid (Nat.le_trans hBc HFF.out.2.2.size)
              go_wp2_with fail
              go_meet
              exact ⟨Lib.hid HFF.out.1, HPx, HNx, HSx⟩
          case rest =>
            obtain ⟨HOc, HPc, HNc, HSc⟩ := hcut
            clear HO9 HP9 HN9 HS9 H1 H2 HOw WT y3 yf
            obtain ⟨q, hq⟩ : ∃ q, t + 1 = q := ⟨_, rfl⟩
            have hq0 : 0 < q := by omega
            have hq1000 : q ≤ 1001 := by omega
            have HQ : Hid ((T ++ [w4 l]).length = q) := Lib.hid (by rw [List.length_append, HTl.out, ← hq]; rfl)
            have hlens : ∀ y ∈ T ++ [w4 l], y.length ≤ 4096 := by
              rw [← HT1.out]
              exact fun y hy => (okC_out ((offK_ok W H (k + 1) (by omega)).each y hy).1).2.1
            obtain ⟨gz, capz, az, nz, cz, hbz, ygz, _, _, _⟩ := HOc.out.view (t := q) HQ.out hq0
            have z3 := cell_of_row _ _ 3 _ _ _ hbz
            have z4 := cell_of_row _ _ 4 _ _ _ hbz
            have zf := frozen_of_row _ O 4 _ _ hbz
            dsimp at z3 z4
            clear ygz
            have HBZ := Lib.hid hbz
            clear hbz
            by_cases hq1 : q = 1
            · have hT0 : T = [] := List.eq_nil_of_length_eq_zero (by rw [HTl.out]; omega)
              subst hq1
              clear hq
              go_upto_region 13 with fail
              obtain ⟨W12, hW12⟩ : ∃ v, wc.setCell ⟨O, 4, none⟩ (.int .i64 (m : Int)) = v := ⟨_, rfl⟩
              have HO12 := Lib.hid (HOc.out.stem m)
              have HP12 := Lib.hid (HPc.out.set hBO.out 4 (.int .i64 (m : Int)))
              have HN12 := Lib.hid (HNc.out.setCell (p := ⟨O, 4, none⟩) (Nat.le_trans hwb.out.2 hBO.out) (.int .i64 (m : Int)))
              have HS12 : Hid (B ≤ (wc.setCell ⟨O, 4, none⟩ (.int .i64 (m : Int))).heap.size) := Lib.hid (by have := HSc.out; simpa [World.setCell] using this)
              rw [hW12] at HO12 HP12 HN12 HS12
              rw [hW12]
              obtain ⟨q, hq⟩ : ∃ q, 1 = q := ⟨_, rfl⟩
              rw [hq] at HQ hq0
              clear hq hW12 HOc HPc HNc HSc z3 z4 zf HBZ
              obtain ⟨gg, cap, a0, n0, c0, hblk, yg, hn0, hO0, hgl⟩ := HO12.out.view (t := q) HQ.out hq0
              have hn04 : n0 ≤ 4096 := by rw [← hn0]; exact hlens _ (getD_memT (by rw [HQ.out]; exact hq0))
              have CM := common_any ((T ++ [w4 l]).getD 0 []) l a0 ai n0 c0 m ci W12.drew hn0 HM.out (by omega) (by omega) ((ows_sg hO0).below (Below.refl _ _).drew) ((HCI.out.s.below HN12.out).below (Below.refl _ _).drew)
              obtain ⟨kk, hkk⟩ : ∃ kk, cmn (vsL ((T ++ [w4 l]).getD 0 [])) (vsL l) = kk := ⟨_, rfl⟩
              rw [hkk] at CM
              have HST : Hid (min m kk = stm (T ++ [w4 l])) := Lib.hid (by rw [← hkk, hT0, List.nil_append, stm_one, w4_len, HM.out, show ([w4 l].getD 0 [] : List (Int × Int)) = w4 l from rfl, w4_vs, cmn_self, vsL_len, HM.out]; omega)
              replace CM := Lib.hid CM
              have y3 := cell_of_row _ _ 3 _ _ _ hblk
              have y4 := cell_of_row _ _ 4 _ _ _ hblk
              have yf := frozen_of_row _ O 4 _ _ hblk
              dsimp at y3 y4
              have HBK := Lib.hid hblk
              have hq0i : (0 : Int) < (q : Int) := by omega
              clear hn0 hO0 hkk hblk hT0 hlens
              go_region_law (first
                | (go_simp; go_at_call 82; refine CM.out.mono ?_; rintro e wx ⟨rfl, hb⟩; have D : Below W12.heap.size W12 wx := (Below.refl _ W12).drew.trans hb; have DD := Lib.hid D; have y3x := cell_of_row _ _ 3 _ _ _ (blk_below HBK.out D); have y4x := cell_of_row _ _ 4 _ _ _ (blk_below HBK.out D); have yfx := frozen_of_row _ O 4 _ _ (blk_below HBK.out D); have ygx := (D.cell (p := ⟨gg, 0, none⟩) hgl).trans yg; dsimp at y3x y4x; clear hb D))
              all_goals
                have hmn : min (m : Int) (kk : Int) = ((min (m) kk : Nat) : Int) := by omega
                simp only [hmn]
                have HOx := Lib.hid (Eq.mp (congrArg (fun z => OfS B O L xa n xc p wd (T ++ [w4 l]) z (-1) (wx.setCell ⟨O, 4, none⟩ (.int .i64 ((min (m) kk : Nat) : Int)))) HST.out) ((HO12.out.below DD.out).stem (min (m) kk)))
                have HPx := Lib.hid ((HP12.out.below DD.out).set hBO.out 4 (.int .i64 ((min (m) kk : Nat) : Int)))
                have HNx := Lib.hid ((seqB HN12.out DD.out).setCell (p := ⟨O, 4, none⟩) (Nat.le_trans hwb.out.2 hBO.out) (.int .i64 ((min (m) kk : Nat) : Int)))
                have HSx : Hid (B ≤ (wx.setCell ⟨O, 4, none⟩ (.int .i64 ((min (m) kk : Nat) : Int))).heap.size) := Lib.hid (by have := Nat.le_trans HS12.out DD.out.size; simpa [World.setCell] using this)
                clear hmn
                go_wp2_with fail
                go_roundw
                case rel => exact ⟨k + 1, by omega, by go_num, by rw [HT1.out]; exact HOx, by rw [HU1.out]; exact HPx, HNx, HSx⟩
                case measure => (simp [intOf]; try omega)
            · have hq1b : ((q : Int) == 1) = false := beq_eq_false_iff_ne.2 (by omega)
              have hq1i : ¬ (q : Int) = 1 := by omega
              have ht0 : 0 < t := by omega
              clear hq
              go_upto_region 13 with fail
              clear z3 z4 zf HBZ
              obtain ⟨gg, cap, a0, n0, c0, hblk, yg, hn0, hO0, hgl⟩ := HOc.out.view (t := q) HQ.out hq0
              have hn04 : n0 ≤ 4096 := by rw [← hn0]; exact hlens _ (getD_memT (by rw [HQ.out]; exact hq0))
              have CM := common_any ((T ++ [w4 l]).getD 0 []) l a0 ai n0 c0 m ci wc.drew hn0 HM.out (by omega) (by omega) ((ows_sg hO0).below (Below.refl _ _).drew) ((HCI.out.s.below HNc.out).below (Below.refl _ _).drew)
              obtain ⟨kk, hkk⟩ : ∃ kk, cmn (vsL ((T ++ [w4 l]).getD 0 [])) (vsL l) = kk := ⟨_, rfl⟩
              rw [hkk] at CM
              have HST : Hid (min (stm T) kk = stm (T ++ [w4 l])) := Lib.hid (by
                have hTne : T ≠ [] := fun e => by have := HTl.out; rw [e] at this; simp at this; omega
                rw [stm_snoc hTne, w4_vs, ← hkk]
                cases T with
                | nil => exact absurd rfl hTne
                | cons x xs => rfl)
              replace CM := Lib.hid CM
              have y3 := cell_of_row _ _ 3 _ _ _ hblk
              have y4 := cell_of_row _ _ 4 _ _ _ hblk
              have yf := frozen_of_row _ O 4 _ _ hblk
              dsimp at y3 y4
              have HBK := Lib.hid hblk
              have hq0i : (0 : Int) < (q : Int) := by omega
              clear hn0 hO0 hkk hblk
              go_region_law (first
                | (go_simp; go_at_call 82; refine CM.out.mono ?_; rintro e wx ⟨rfl, hb⟩; have D : Below wc.heap.size wc wx := (Below.refl _ wc).drew.trans hb; have DD := Lib.hid D; have y3x := cell_of_row _ _ 3 _ _ _ (blk_below HBK.out D); have y4x := cell_of_row _ _ 4 _ _ _ (blk_below HBK.out D); have yfx := frozen_of_row _ O 4 _ _ (blk_below HBK.out D); have ygx := (D.cell (p := ⟨gg, 0, none⟩) hgl).trans yg; dsimp at y3x y4x; clear hb D))
              all_goals
                have hmn : min (stm T : Int) (kk : Int) = ((min (stm T) kk : Nat) : Int) := by omega
                simp only [hmn]
                have HOx := Lib.hid (Eq.mp (congrArg (fun z => OfS B O L xa n xc p wd (T ++ [w4 l]) z (-1) (wx.setCell ⟨O, 4, none⟩ (.int .i64 ((min (stm T) kk : Nat) : Int)))) HST.out) ((HOc.out.below DD.out).stem (min (stm T) kk)))
                have HPx := Lib.hid ((HPc.out.below DD.out).set hBO.out 4 (.int .i64 ((min (stm T) kk : Nat) : Int)))
                have HNx := Lib.hid ((seqB HNc.out DD.out).setCell (p := ⟨O, 4, none⟩) (Nat.le_trans hwb.out.2 hBO.out) (.int .i64 ((min (stm T) kk : Nat) : Int)))
                have HSx : Hid (B ≤ (wx.setCell ⟨O, 4, none⟩ (.int .i64 ((min (stm T) kk : Nat) : Int))).heap.size) := Lib.hid (by have := Nat.le_trans HSc.out DD.out.size; simpa [World.setCell] using this)
                clear hmn
                go_wp2_with fail
                go_roundw
                case rel => exact ⟨k + 1, by omega, by go_num, by rw [HT1.out]; exact HOx, by rw [HU1.out]; exact HPx, HNx, HSx⟩
                case measure => (simp [intOf]; try omega)
    · obtain rfl : k = h := by omega
      have hk1 : ¬ (k : Int) < k := by omega
      obtain ⟨T, hTT⟩ : ∃ T, offK W H k = T := ⟨_, rfl⟩
      rw [hTT] at HO
      have HTT := Lib.hid hTT
      obtain ⟨vT, vs, h1, h2⟩ := HO.out.ex
      have y3 := cell_of_row _ _ 3 _ _ _ h1
      dsimp at y3
      obtain ⟨ta, tc, rfl⟩ := (h2.rd HS.out).form
      have hBX : Hid (w.heap.size ≤ B) := Lib.hid hwb.out.2
      cases T with
      | nil =>
        have y4 : wr.cell? ⟨O, 3, none⟩ = some (.slice ta 0 tc) := y3
        clear y3 h1 h2 hTT
        go_wp2_with fail
        refine bodyPost_ret (results_tmp2 rfl _ _ _) rfl ?_
        exact ⟨Or.inl ⟨HTT.out, rfl⟩, HN.out⟩
      | cons t ts =>
        have hne : ¬ (((t :: ts).length : Nat) : Int) = 0 := by simp; omega
        obtain ⟨q, hq⟩ : ∃ q, (t :: ts).length = q := ⟨_, rfl⟩
        rw [hq] at y3 hne
        have hq0 : ¬ q = 0 := by rw [← hq]; simp
        clear h1 h2 hTT hq
        go_wp2_with fail
        refine bodyPost_ret (results_tmp2 rfl _ _ _) rfl ?_
        refine ⟨Or.inr ⟨by rw [HTT.out]; simp, O, rfl, xa, xc, ?_⟩, HN.out⟩
        rw [HTT.out, hpE.out]
        exact HO.out.mono hBX.out
end Go.Proofs.YtgpcflpeddnfcaaDoor
set_option linter.unusedVariables false
set_option linter.unusedSimpArgs false
namespace Go.Proofs.YtgpcflpeddnfcaaDoor
open Go.RowKit Go.Sort
def OfT (w : World) : Prop := Tabs w ∧ UT w
theorem OfT.below {w w' : World} (h : OfT w) (hb : Below w.heap.size w w') : OfT w' := ⟨h.1.below hb, h.2.below hb⟩
def xL : List Sg2 := [(120, 0), (32, 0), (99, 0), (97, 0)]
def cL : List Sg2 := [(99, 0), (97, 0), (116, 0)]
def rL : List Sg2 := [(99, 0), (97, 0), (114, 0)]
def dL : List Sg2 := [(100, 0), (111, 0), (103, 0)]
def T2 : List (List Sg2) := [[(99, 4), (97, 4), (116, 4)], [(99, 4), (97, 4), (114, 4)]]
def yL : List Sg2 := [(120, 0), (32, 0), (99, 0), (97, 0), (116, 4)]
theorem of_facts : sOf 0 ⟨#[120, 32, 99, 97]⟩ = xL ∧ (valsS ⟨#[120, 32, 99, 97]⟩).length = 4 ∧ sOf 0 ⟨#[99, 97, 116]⟩ = cL ∧ (valsS ⟨#[99, 97, 116]⟩).length = 3 ∧ sOf 0 ⟨#[99, 97, 114]⟩ = rL ∧ (valsS ⟨#[99, 97, 114]⟩).length = 3 ∧ sOf 0 ⟨#[100, 111, 103]⟩ = dL ∧ (valsS ⟨#[100, 111, 103]⟩).length = 3 ∧ sgC xL = true := by decide +kernel
theorem of_offs : wdB xL 4 = 2 ∧ offL xL 4 [cL, rL, dL] = T2 ∧ stm T2 = 2 ∧ offL xL 4 [] = [] ∧ xL.take 4 ++ ofIns T2 2 2 0 ++ xL.drop 4 = xL ∧ xL.take 4 ++ ofIns T2 2 2 1 ++ xL.drop 4 = yL := by decide +kernel
theorem of_txts : sTxt xL = ⟨#[120, 32, 99, 97]⟩ ∧ sTxt yL = ⟨#[120, 32, 99, 97, 116]⟩ := by decide +kernel
/-- A block of signs. -/
def SgB (w : World) (g : Nat) (l : List Sg2) : Prop := w.heap[g]? = some (.cells (sRow l) 70 (0, 0))
theorem SgB.below {w w' : World} {g : Nat} {l : List Sg2} (h : SgB w g l) (hb : Below w.heap.size w w') : SgB w' g l := blk_below h hb
theorem SgB.sl {w : World} {g n : Nat} {l : List Sg2} (h : SgB w g l) (hn : l.length = n) : SlS (fun k => k < w.heap.size) w (some ⟨g, 0, none⟩) l n := ⟨signs_of_blk h, by rw [hn]; exact Nat.le_refl _, fun e => (by cases e), fun ad e _ => by cases e; exact blk_lt h⟩
theorem SgB.kp {w w' : World} {O g : Nat} {l : List Sg2} {cs : Array Value} {fr : Nat × Nat} (h : SgB w g l) (hO : w.heap[O]? = some (.cells cs 115 fr)) (k : KpB O w w') : SgB w' g l :=
  (k.block g (blk_lt h) (fun e => by unfold SgB at h; rw [e, hO] at h; simp at h)).trans h
theorem of_sg (s : ByteArray) (l : List Sg2) (n : Nat) (w : World) (hT : UT w) (hs : s.size ≤ 1000000) (hv : (valsS s).length = n) (hl : sOf 0 s = l) (hn : l.length = n) (hn2 : n ≤ 1000) :
    Calls Tryd.prog 60 #[.int .i64 0, .string s] w fun e w' => ∃ g, e = .returned (.slice (some ⟨g, 0, none⟩) n n) ∧ SgB w' g l ∧ Below w.heap.size w w' := by
  have h := sof_any 0 s w hT hs (by omega)
  rw [hl, hn] at h
  refine h.mono ?_
  rintro e w' ⟨g, rfl, hg, hb, hB⟩
  exact ⟨g, rfl, hb, hB⟩
theorem SlS.up {w w' : World} {a : Option Addr} {l : List Sg2} {c : Nat} (h : SlS (fun k => k < w.heap.size) w a l c) (hb : Below w.heap.size w w') : SlS (fun k => k < w'.heap.size) w' a l c := (h.below hb).mono (fun k hk => Nat.lt_of_lt_of_le hk hb.size)
theorem sgs3 {S : Nat → Prop} {w : World} {A : Nat} {a1 a2 a3 : Option Addr} {l1 l2 l3 : List Sg2} {t : TypeId} {f : Nat × Nat} (h : w.heap[A]? = some (.cells #[.slice a1 3 3, .slice a2 3 3, .slice a3 3 3] t f)) (hA : S A) (n1 : l1.length = 3) (n2 : l2.length = 3) (n3 : l3.length = 3) (s1 : SlS S w a1 l1 3) (s2 : SlS S w a2 l2 3) (s3 : SlS S w a3 l3 3) : SgsK S w (some ⟨A, 0, none⟩) [l1, l2, l3] := by
  intro i hi
  simp only [List.length_cons, List.length_nil] at hi
  match i, hi with
  | 0, _ => exact ⟨A, 0, a1, 3, rfl, hA, blk_lt h, by rw [cell_of_row _ _ _ _ _ _ h]; simp [n1], s1⟩
  | 1, _ => exact ⟨A, 0, a2, 3, rfl, hA, blk_lt h, by rw [cell_of_row _ _ _ _ _ _ h]; simp [n2], s2⟩
  | 2, _ => exact ⟨A, 0, a3, 3, rfl, hA, blk_lt h, by rw [cell_of_row _ _ _ _ _ _ h]; simp [n3], s3⟩
theorem aw_new (b0 aC : Option Addr) (w : World) (hT : Tabs w) (hs : SlS (fun k => k < w.heap.size) w b0 xL 4) (hC : SgsK (fun k => k < w.heap.size) w aC [cL, rL, dL]) :
    Calls Tryd.prog 30 #[.agg #[.slice b0 4 4, .int .i64 4], .slice aC 3 3] w fun e w' => ∃ O xa xc, e = .returned (.tuple #[.pointer (some ⟨O, 0, none⟩), .int .i64 0]) ∧ OfS w.heap.size O xL xa 4 xc 4 2 T2 2 (-1) w' ∧ Below w.heap.size w w' := by
  obtain ⟨f1, f2, f3, f4, _⟩ := of_offs
  have h := offnew_any xL b0 4 4 4 [cL, rL, dL] aC 3 3 w rfl (by omega) (by omega) of_facts.2.2.2.2.2.2.2.2 hT hs rfl (by omega) hC (by decide)
  rw [f1, f2, f3] at h
  refine h.mono ?_
  rintro e w' ⟨h | ⟨_, O, xa, xc, rfl, hO⟩, hb⟩
  · exact absurd h.1 (by decide)
  · exact ⟨O, xa, xc, rfl, hO, hb⟩
theorem aw_new0 (b0 : Option Addr) (w : World) (hT : Tabs w) (hs : SlS (fun k => k < w.heap.size) w b0 xL 4) :
    Calls Tryd.prog 30 #[.agg #[.slice b0 4 4, .int .i64 4], .slice none 0 0] w fun e w' => e = .returned (.tuple #[.pointer none, .int .i64 7]) ∧ Below w.heap.size w w' := by
  obtain ⟨f1, f2, f3, f4, _⟩ := of_offs
  have h := offnew_any xL b0 4 4 4 [] none 0 0 w rfl (by omega) (by omega) of_facts.2.2.2.2.2.2.2.2 hT hs rfl (by omega) (fun i hi => absurd hi (Nat.not_lt_zero i)) (by decide)
  rw [f4] at h
  refine h.mono ?_
  rintro e w' ⟨h | h, hb⟩
  · exact ⟨h.2, hb⟩
  · exact absurd rfl h.1
/-- The offer under way. -/
structure OA (w0 : World) (O : Nat) (hd : Int) (w : World) : Prop where
  ex : ∃ B xa xc, OfS B O xL xa 4 xc 4 2 T2 2 hd w ∧ w0.heap.size ≤ B ∧ B ≤ w.heap.size
  wb : Below w0.heap.size w0 w
theorem OA.below {w0 : World} {O : Nat} {hd : Int} {w w' : World} (h : OA w0 O hd w) (hb : Below w.heap.size w w') : OA w0 O hd w' := by
  obtain ⟨⟨B, xa, xc, h1, h2, h3⟩, h4⟩ := h
  exact ⟨⟨B, xa, xc, h1.below hb, h2, Nat.le_trans h3 hb.size⟩, h4.trans (hb.mono h4.size)⟩
theorem OA.blk {w0 : World} {O : Nat} {hd : Int} {w : World} (h : OA w0 O hd w) : ∃ cs, w.heap[O]? = some (.cells cs 115 (0, 0)) := by
  obtain ⟨⟨B, xa, xc, h1, h2, h3⟩, h4⟩ := h
  obtain ⟨_, _, h, _⟩ := h1.ex
  exact ⟨_, h⟩
theorem LbX.kp {w w' : World} {O X : Nat} {a : Option Addr} {n c : Nat} {x : Int} {cs : Array Value} {fr : Nat × Nat} (h : LbX w X a n c x) (hO : w.heap[O]? = some (.cells cs 115 fr)) (k : KpB O w w') : LbX w' X a n c x :=
  (k.block X (blk_lt h) (fun e => by unfold LbX at h; rw [e, hO] at h; simp at h)).trans h
theorem oa_next {w0 : World} {O : Nat} {w : World} (h : OA w0 O (-1) w) : Calls Tryd.prog 41 #[.pointer (some ⟨O, 0, none⟩)] w fun e w' => e = .returned (.bool true) ∧ OA w0 O 0 w' ∧ KpB O w w' := by
  obtain ⟨⟨B, xa, xc, h1, h2, h3⟩, h4⟩ := h
  refine (of_next (t := 2) (j := 0) h1 h3 rfl (by omega) (by omega) (by omega) (by omega)).mono ?_
  rintro e w' ⟨rfl, ⟨hd, e1, h5⟩, k⟩
  obtain rfl : hd = 0 := by have : nxJ 2 0 = 1 := rfl; omega
  exact ⟨rfl, ⟨⟨B, xa, xc, h5, h2, Nat.le_trans h3 k.size⟩, h4.trans (k.below (Nat.le_trans h2 h1.le) h4.size)⟩, k⟩
theorem oa_prev {w0 : World} {O : Nat} {w : World} (h : OA w0 O 0 w) : Calls Tryd.prog 42 #[.pointer (some ⟨O, 0, none⟩)] w fun e w' => e = .returned (.bool true) ∧ OA w0 O (-1) w' ∧ KpB O w w' := by
  obtain ⟨⟨B, xa, xc, h1, h2, h3⟩, h4⟩ := h
  refine (of_prev (t := 2) (j := 1) h1 h3 rfl (by omega) (by omega) (by omega) (by omega)).mono ?_
  rintro e w' ⟨rfl, ⟨hd, e1, h5⟩, k⟩
  obtain rfl : hd = -1 := by have : pvJ 2 1 = 0 := rfl; omega
  exact ⟨rfl, ⟨⟨B, xa, xc, h5, h2, Nat.le_trans h3 k.size⟩, h4.trans (k.below (Nat.le_trans h2 h1.le) h4.size)⟩, k⟩
theorem oa_line {w0 : World} {O : Nat} {w : World} (h : OA w0 O (-1) w) : Calls Tryd.prog 39 #[.pointer (some ⟨O, 0, none⟩)] w fun e w' => ∃ ad d, e = .returned (.agg #[.slice ad 4 d, .int .i64 4]) ∧ OwS w' w.heap.size (.slice ad 4 d) xL ∧ Below w.heap.size w w' := by
  obtain ⟨⟨B, xa, xc, h1, h2, h3⟩, h4⟩ := h
  have h := of_lineA (t := 2) h1 rfl (by decide) rfl (by omega) (by omega) (by omega) (by decide) (by decide)
  rw [of_offs.2.2.2.2.1] at h
  exact h
theorem oa_lineN {w0 : World} {O : Nat} {w : World} (h : OA w0 O 0 w) : Calls Tryd.prog 39 #[.pointer (some ⟨O, 0, none⟩)] w fun e w' => ∃ ad d, e = .returned (.agg #[.slice ad 5 d, .int .i64 5]) ∧ OwS w' w.heap.size (.slice ad 5 d) yL ∧ Below w.heap.size w w' := by
  obtain ⟨⟨B, xa, xc, h1, h2, h3⟩, h4⟩ := h
  have h := of_lineB (t := 2) (i := 0) h1 rfl (by decide) rfl (by omega) (by omega) (ln := 3) rfl (by omega) (by omega)
  rw [of_offs.2.2.2.2.2] at h
  exact h
theorem oa_len {w0 : World} {O : Nat} {hd : Int} {w : World} (h : OA w0 O hd w) : Calls Tryd.prog 37 #[.pointer (some ⟨O, 0, none⟩)] w fun e w' => e = .returned (.int .i64 2) ∧ w = w' := by
  obtain ⟨⟨B, xa, xc, h1, h2, h3⟩, h4⟩ := h
  exact of_len h1
theorem oa_hand {w0 : World} {O : Nat} {hd : Int} {w : World} (h : OA w0 O hd w) : Calls Tryd.prog 38 #[.pointer (some ⟨O, 0, none⟩)] w fun e w' => e = .returned (.int .i64 hd) ∧ w = w' := by
  obtain ⟨⟨B, xa, xc, h1, h2, h3⟩, h4⟩ := h
  exact of_hand h1
theorem oa_all {w0 : World} {O : Nat} {hd : Int} {w : World} (h : OA w0 O hd w) : Calls Tryd.prog 36 #[.pointer (some ⟨O, 0, none⟩)] w fun e w' => ∃ b, e = .returned (.slice b 2 2) ∧ Below w.heap.size w w' := by
  obtain ⟨⟨B, xa, xc, h1, h2, h3⟩, h4⟩ := h
  refine (of_all (t := 2) h1 rfl (by omega) (by omega) (by decide)).mono ?_
  rintro e w' ⟨b, rfl, _, hb⟩
  exact ⟨b, rfl, hb⟩
theorem aw_word (b0 : Option Addr) (w : World) (hT : Tabs w) (hs : Signs w b0 xL) : Calls Tryd.prog 31 #[.agg #[.slice b0 4 4, .int .i64 4]] w fun e w' => e = .returned (.tuple #[.int .i64 2, .int .i64 4]) ∧ Below w.heap.size w w' := by
  have h := word_any xL b0 4 4 4 w rfl (by omega) (by omega) of_facts.2.2.2.2.2.2.2.2 hT hs
  rw [of_offs.1] at h
  exact h
end Go.Proofs.YtgpcflpeddnfcaaDoor
set_option linter.unusedVariables false
set_option linter.unusedSimpArgs false
namespace Go.Proofs.YtgpcflpeddnfcaaDoor
open Go.RowKit Go.Sort
set_option maxHeartbeats 16000000 in
theorem oawake_any (w : World) (hT : OfT w) : Calls Tryd.prog 29 #[] w fun e w' => e = .returned (.bool true) ∧ Below w.heap.size w w' := by
  have HU := Lib.hid fun w' (hb : Below w.heap.size w w') => (hT.below hb).2
  have HB := Lib.hid fun w' (hb : Below w.heap.size w w') => (hT.below hb).1
  have F := of_facts
  have O0 := Lib.hid fun w hT => of_sg _ _ 4 w hT (by decide) F.2.1 F.1 rfl (by omega)
  have O1 := Lib.hid fun w hT => of_sg _ _ 3 w hT (by decide) F.2.2.2.1 F.2.2.1 rfl (by omega)
  have O2 := Lib.hid fun w hT => of_sg _ _ 3 w hT (by decide) F.2.2.2.2.2.1 F.2.2.2.2.1 rfl (by omega)
  have O3 := Lib.hid fun w hT => of_sg _ _ 3 w hT (by decide) F.2.2.2.2.2.2.2.1 F.2.2.2.2.2.2.1 rfl (by omega)
  have NW := Lib.hid fun b aC w hT hs hC => aw_new b aC w hT hs hC
  clear hT F
  go_enter Tryd.func29, Tryd.ntmps29
  go_upto_region 2 with (go_at_call 60; (with_reducible refine (O0.out _ (HU.out _ (Below.refl _ _))).mono ?_); rintro e w1 ⟨g0, rfl, hs, hb⟩; have S1 := Lib.hid hs; have N1 := Lib.hid hb; clear hs hb O0)
  obtain ⟨v1, hv1⟩ : ∃ v, w1.alloc (.cells #[.slice (some ⟨g0, 0, none⟩) 4 4, .int .i64 4] 30) = v := ⟨_, rfl⟩
  have lb1 : Below w1.heap.size w1 v1 := by rw [← hv1]; exact below_alloc _ _
  have lx1 : LbX v1 w1.heap.size (some ⟨g0, 0, none⟩) 4 4 4 := by rw [← hv1]; exact heap_alloc_new _ _
  rw [hv1]
  obtain ⟨X, hX⟩ : ∃ X, w1.heap.size = X := ⟨_, rfl⟩
  rw [hX] at lx1 ⊢
  have S2 := Lib.hid (S1.out.below lb1)
  have N2 := Lib.hid (seqB N1.out lb1)
  have Z2 := Lib.hid lx1
  have z0 := lx1.cells.1
  have z1 := lx1.cells.2
  have hXv : Hid (X < v1.heap.size) := Lib.hid (blk_lt lx1)
  clear S1 N1 lb1 hv1 hX lx1
  have D1 := Lib.hid ((Below.refl v1.heap.size v1).drew)
  go_region_held3 (fun w' => w'.cell? ⟨X, 0, none⟩ = some (.slice (some ⟨g0, 0, none⟩) 4 4) ∧ w'.cell? ⟨X, 1, none⟩ = some (.int .i64 4)) (first | exact ⟨z0, z1⟩ | exact ⟨z0a, z1a⟩ | exact ⟨z0b, z1b⟩ | exact ⟨z0c, z1c⟩ | exact ⟨z0d, z1d⟩ | exact ⟨z0e, z1e⟩ | go_keep)
    (first
      | (go_at_call 60; (with_reducible refine (O1.out _ (HU.out _ (seqB N2.out D1.out))).mono ?_); rintro e w3 ⟨g1, rfl, hs, hb⟩; have D3 : Below v1.heap.size v1 w3 := D1.out.trans hb; have M3 := Lib.hid D3; have A3 := Lib.hid hs; have z0a := (D3.cell (p := ⟨X, 0, none⟩) hXv.out).trans z0; have z1a := (D3.cell (p := ⟨X, 1, none⟩) hXv.out).trans z1; clear hs hb D3 O1)
      | (go_at_call 60; (with_reducible refine (O2.out _ (HU.out _ (seqB N2.out M3.out))).mono ?_); rintro e w4 ⟨g2, rfl, hs, hb⟩; have D4 : Below v1.heap.size v1 w4 := seqB M3.out hb; have M4 := Lib.hid D4; have A4 := Lib.hid (A3.out.below hb); have B4 := Lib.hid hs; have z0b := (D4.cell (p := ⟨X, 0, none⟩) hXv.out).trans z0; have z1b := (D4.cell (p := ⟨X, 1, none⟩) hXv.out).trans z1; clear hs hb D4 O2)
      | (go_at_call 60; (with_reducible refine (O3.out _ (HU.out _ (seqB N2.out M4.out))).mono ?_); rintro e w5 ⟨g3, rfl, hs, hb⟩; have D5 : Below v1.heap.size v1 w5 := seqB M4.out hb; have M5 := Lib.hid D5; have A5 := Lib.hid (A4.out.below hb); have B5 := Lib.hid (B4.out.below hb); have C5 := Lib.hid hs; have z0c := (D5.cell (p := ⟨X, 0, none⟩) hXv.out).trans z0; have z1c := (D5.cell (p := ⟨X, 1, none⟩) hXv.out).trans z1; have BA := below_alloc w5 (.cells #[.slice (some ⟨g1, 0, none⟩) 3 3, .slice (some ⟨g2, 0, none⟩) 3 3, .slice (some ⟨g3, 0, none⟩) 3 3] 28); have M6 := Lib.hid (seqB D5 BA); have z0d := (M6.out.cell (p := ⟨X, 0, none⟩) hXv.out).trans z0; have z1d := (M6.out.cell (p := ⟨X, 1, none⟩) hXv.out).trans z1; have G6 := Lib.hid (sgs3 (S := fun k => k < (w5.alloc (.cells #[.slice (some ⟨g1, 0, none⟩) 3 3, .slice (some ⟨g2, 0, none⟩) 3 3, .slice (some ⟨g3, 0, none⟩) 3 3] 28)).heap.size) (l1 := cL) (l2 := rL) (l3 := dL) (heap_alloc_new w5 (.cells #[.slice (some ⟨g1, 0, none⟩) 3 3, .slice (some ⟨g2, 0, none⟩) 3 3, .slice (some ⟨g3, 0, none⟩) 3 3] 28)) (by simp) rfl rfl rfl ((A5.out.below BA).sl rfl) ((B5.out.below BA).sl rfl) ((C5.out.below BA).sl rfl)); clear hs hb D5 BA O3)
      | (go_at_call 30; (with_reducible refine (NW.out _ _ _ (HB.out _ (seqB N2.out M6.out)) ((S2.out.below M6.out).sl rfl) G6.out).mono ?_); rintro e w7 ⟨O, xa, xc, rfl, ho, hb⟩; have D7 := seqB M6.out hb; have Q7 : Hid (OA w O (-1) w7) := Lib.hid ⟨⟨_, xa, xc, ho, (seqB N2.out M6.out).size, hb.size⟩, seqB N2.out D7⟩; have z0e := (D7.cell (p := ⟨X, 0, none⟩) hXv.out).trans z0; have z1e := (D7.cell (p := ⟨X, 1, none⟩) hXv.out).trans z1; have Z7 := Lib.hid (Z2.out.below D7); have S7 := Lib.hid (S2.out.below D7); clear ho hb D7 NW))
  rename_i hHeld
  clear hHeld z0 z1 z0a z1a z0b z1b z0c z1c z0d z1d z0e z1e M3 A3 M4 A4 B4 M5 A5 B5 C5 M6 G6 D1 S2 N2 Z2 hXv
  have LI := Lib.hid fun w' (h : OA w O (-1) w') => oa_line h
  have LN := Lib.hid fun w' (h : OA w O 0 w') => oa_lineN h
  have NX := Lib.hid fun w' (h : OA w O (-1) w') => oa_next h
  have PV := Lib.hid fun w' (h : OA w O 0 w') => oa_prev h
  have WD := Lib.hid fun w' hT hs => aw_word (some ⟨g0, 0, none⟩) w' hT hs
  have N0 := Lib.hid fun w' hT hs => aw_new0 (some ⟨g0, 0, none⟩) w' hT hs
  have LE := Lib.hid fun w' (h : OA w O (-1) w') => oa_len h
  have HA := Lib.hid fun w' (h : OA w O (-1) w') => oa_hand h
  have AL := Lib.hid fun w' (h : OA w O (-1) w') => oa_all h
  go_upto_region 6 with (go_at_call 39; (with_reducible refine (LI.out _ Q7.out).mono ?_); rintro e w8 ⟨ad, d, rfl, ho, hb⟩; have Q8 := Lib.hid (Q7.out.below hb); have Z8 := Lib.hid (Z7.out.below hb); have S8 := Lib.hid (S7.out.below hb); have A8 := Lib.hid (ho.mono (Nat.zero_le _)); clear ho hb LI Q7 Z7 S7)
  obtain ⟨v8, hv8⟩ : ∃ v, w8.alloc (.cells #[.slice ad 4 d, .int .i64 4] 30) = v := ⟨_, rfl⟩
  have lb8 : Below w8.heap.size w8 v8 := by rw [← hv8]; exact below_alloc _ _
  have lx8 : LbX v8 w8.heap.size ad 4 d 4 := by rw [← hv8]; exact heap_alloc_new _ _
  rw [hv8]
  obtain ⟨X4, hX4⟩ : ∃ X, w8.heap.size = X := ⟨_, rfl⟩
  rw [hX4] at lx8 ⊢
  have Q9 := Lib.hid (Q8.out.below lb8)
  have Z9 := Lib.hid (Z8.out.below lb8)
  have S9 := Lib.hid (S8.out.below lb8)
  have A9 := Lib.hid (ows_keep A8.out lb8)
  have U9 := Lib.hid lx8
  clear Q8 Z8 S8 A8 lb8 lx8 hv8 hX4
  go_upto_region 7 with (go_at_call 41; (with_reducible refine (NX.out _ Q9.out).mono ?_); rintro e wa ⟨rfl, hq, hk⟩; obtain ⟨cs, hO⟩ := Q9.out.blk; have Qa := Lib.hid hq; have Za := Lib.hid (Z9.out.kp hO hk); have Aa := Lib.hid (ows_kpO A9.out hO hk); have Ua := Lib.hid (U9.out.kp hO hk); have Sa := Lib.hid (S9.out.kp hO hk); clear hq hk hO cs NX Q9 Z9 A9 U9 S9)
  go_upto_region 8 with (go_at_call 39; (with_reducible refine (LN.out _ Qa.out).mono ?_); rintro e wb ⟨ad2, d2, rfl, ho, hb⟩; have Qb := Lib.hid (Qa.out.below hb); have Zb := Lib.hid (Za.out.below hb); have Sb := Lib.hid (Sa.out.below hb); have Ab := Lib.hid (ows_keep Aa.out hb); have Ub := Lib.hid (Ua.out.below hb); have Cb := Lib.hid (ho.mono (Nat.zero_le _)); clear ho hb LN Qa Za Sa Aa Ua)
  obtain ⟨vb, hvb⟩ : ∃ v, wb.alloc (.cells #[.slice ad2 5 d2, .int .i64 5] 30) = v := ⟨_, rfl⟩
  have lbb : Below wb.heap.size wb vb := by rw [← hvb]; exact below_alloc _ _
  have lxb : LbX vb wb.heap.size ad2 5 d2 5 := by rw [← hvb]; exact heap_alloc_new _ _
  rw [hvb]
  obtain ⟨X6, hX6⟩ : ∃ X, wb.heap.size = X := ⟨_, rfl⟩
  rw [hX6] at lxb ⊢
  have Qc := Lib.hid (Qb.out.below lbb)
  have Zc := Lib.hid (Zb.out.below lbb)
  have Sc := Lib.hid (Sb.out.below lbb)
  have Ac := Lib.hid (ows_keep Ab.out lbb)
  have Cc := Lib.hid (ows_keep Cb.out lbb)
  have Uc := Lib.hid (Ub.out.below lbb)
  have Vc := Lib.hid lxb
  clear Qb Zb Sb Ab Ub Cb lbb lxb hvb hX6
  go_upto_region 9 with (go_at_call 42; (with_reducible refine (PV.out _ Qc.out).mono ?_); rintro e wd ⟨rfl, hq, hk⟩; obtain ⟨cs, hO⟩ := Qc.out.blk; have Qd := Lib.hid hq; have Zd := Lib.hid (Zc.out.kp hO hk); have Ad := Lib.hid (ows_kpO Ac.out hO hk); have Cd := Lib.hid (ows_kpO Cc.out hO hk); have Ud := Lib.hid (Uc.out.kp hO hk); have Vd := Lib.hid (Vc.out.kp hO hk); have Sd := Lib.hid (Sc.out.kp hO hk); clear hq hk hO cs PV Qc Zc Ac Cc Uc Vc Sc)
  have z0 := Zd.out.cells.1
  have z1 := Zd.out.cells.2
  go_upto_region 10 with (go_at_call 31; (with_reducible refine (WD.out _ (HB.out _ Qd.out.wb) (Sd.out.sl rfl).s).mono ?_); rintro e we ⟨rfl, hb⟩; clear z0 z1; have Qe := Lib.hid (Qd.out.below hb); have Ze := Lib.hid (Zd.out.below hb); have Se := Lib.hid (Sd.out.below hb); have Ae := Lib.hid (ows_keep Ad.out hb); have Ce := Lib.hid (ows_keep Cd.out hb); have Ue := Lib.hid (Ud.out.below hb); have Ve := Lib.hid (Vd.out.below hb); clear hb WD Qd Zd Sd Ad Cd Ud Vd)
  have z0 := Ze.out.cells.1
  have z1 := Ze.out.cells.2
  go_upto_region 11 with (go_at_call 30; (with_reducible refine (N0.out _ (HB.out _ Qe.out.wb) (Se.out.sl rfl)).mono ?_); rintro e wf ⟨rfl, hb⟩; clear z0 z1; have Qf := Lib.hid (Qe.out.below hb); have Af := Lib.hid (ows_keep Ae.out hb); have Cf := Lib.hid (ows_keep Ce.out hb); have Uf := Lib.hid (Ue.out.below hb); have Vf := Lib.hid (Ve.out.below hb); clear hb N0 Qe Ze Se Ae Ce Ue Ve)
  have u0 := Uf.out.cells.1
  have TA := Lib.hid (text_n xL ad 4 d _ wf rfl (by omega) of_txts.1 (ows_slS Af.out).s)
  go_wp2_with (first
    | (go_at_call 61; (with_reducible refine TA.out.mono ?_); rintro e wg ⟨rfl, hb⟩; clear u0; have Qg := Lib.hid (Qf.out.below hb); have Cg := Lib.hid (ows_keep Cf.out hb); have Vg := Lib.hid (Vf.out.below hb); have v0 := Vg.out.cells.1; have TB := Lib.hid (text_n yL ad2 5 d2 _ wg rfl (by omega) of_txts.2 (ows_slS Cg.out).s); clear hb TA Qf Af Cf Uf Vf)
    | (go_at_call 61; (with_reducible refine TB.out.mono ?_); rintro e wh ⟨rfl, hb⟩; clear v0; have Qh := Lib.hid (Qg.out.below hb); have Vh := Lib.hid (Vg.out.below hb); have v0 := Vh.out.cells.1; have v1 := Vh.out.cells.2; obtain ⟨gy, oy, hay, _, _, y9⟩ := (ows_slS (ows_keep Cg.out hb)).s 4 (by decide); subst hay; have y9' : wh.cell? ⟨gy, oy + 9, none⟩ = some (.int .i64 4) := y9; clear y9 hb TB Qg Cg Vg)
    | (go_at_call 37; (with_reducible refine (LE.out _ Qh.out).mono ?_); rintro e wi ⟨rfl, rfl⟩; clear LE)
    | (go_at_call 38; (with_reducible refine (HA.out _ Qh.out).mono ?_); rintro e wj ⟨rfl, rfl⟩; clear HA)
    | (go_at_call 36; (with_reducible refine (AL.out _ Qh.out).mono ?_); rintro e wk ⟨bk, rfl, hb⟩; have Qk := Lib.hid (Qh.out.below hb); clear hb AL))
  go_ret
  exact ⟨rfl, Qk.out.wb⟩
end Go.Proofs.YtgpcflpeddnfcaaDoor
set_option linter.unusedVariables false
set_option linter.unusedSimpArgs false
namespace Go.Proofs.YtgpcflpeddnfcaaDoor
open Go.RowKit Go.Sort
def cdL (C : List SgArg) : List (List Sg2) := C.map (·.l)
theorem cdL_at (C : List SgArg) (i : Nat) (h : i < C.length) : (cdL C).getD i [] = (C.getD i SgArg.zero).l := by
  rw [cdL, List.getD, List.getD, List.getElem?_map, List.getElem?_eq_getElem h]; rfl
theorem HistIn.sgs {w : World} {a : Option Addr} {C : List SgArg} (h : HistIn w w.heap.size a C) : SgsK (fun k => k < w.heap.size) w a (cdL C) := fun i hi => by
  rw [cdL, List.length_map] at hi
  obtain ⟨b, off, e, hlt, h1, h2⟩ := h i hi
  rw [cdL_at C i hi]
  exact ⟨b, off, _, _, e, hlt, hlt, h1, h2.1⟩
def litB (C : List SgArg) : Bool := (C.all fun y => decide (y.l.length ≤ 40)) && decide (C.length ≤ 20)
theorem litB_out {C : List SgArg} (h : litB C = true) : (∀ x ∈ cdL C, x.length ≤ 40) ∧ C.length ≤ 20 := by
  simp only [litB, Bool.and_eq_true, decide_eq_true_eq, List.all_eq_true] at h
  exact ⟨fun x hx => by obtain ⟨y, hy, rfl⟩ := List.mem_map.1 hx; exact h.1 y hy, h.2⟩
theorem light_any (C : List SgArg) (a : Option Addr) (h c : Nat) (w : World) (hh : C.length = h) (hl : h ≤ 9223372036854775807) (hC : HistIn w w.heap.size a C) :
    Calls Tryd.prog 28 #[.slice a h c] w fun e w' => e = .returned (.bool (litB C)) ∧ w = w' := by
  have HC := Lib.hid hC
  have HH := Lib.hid hh
  clear hC hh
  go_enter Tryd.func28, Tryd.ntmps28
  go_wp2_with fail
  go_loopw [3] (fun iv wr => ∃ k : Nat, k ≤ h ∧ iv = .int .i64 (k : Int) ∧ w = wr ∧ Hid (∀ j, j < k → (C.getD j SgArg.zero).l.length ≤ 40)) (fun iv _ => h - (intOf iv).toNat)
  case atStart => exact ⟨0, Nat.zero_le _, rfl, rfl, Lib.hid (fun j hj => absurd hj (Nat.not_lt_zero j))⟩
  case round =>
    obtain ⟨k, hk, rfl, rfl, HN⟩ := hrel
    by_cases hlt : k < h
    · have hk1 : (k : Int) < h := by omega
      have hk0 : (0 : Int) ≤ k := by omega
      obtain ⟨b, off, rfl, _, c0, hin⟩ := HC.out k (by rw [HH.out]; exact hlt)
      have h9 := hin.2
      obtain ⟨y, hy⟩ : ∃ y, C.getD k SgArg.zero = y := ⟨_, rfl⟩
      rw [hy] at c0 h9
      obtain ⟨m, hm⟩ : ∃ m, y.l.length = m := ⟨_, rfl⟩
      rw [hm] at c0 h9
      have HM : Hid ((C.getD k SgArg.zero).l.length = m) := Lib.hid (by rw [hy, hm])
      generalize y.a = ya at *
      generalize y.c = yc at *
      clear hin hy hm
      by_cases h40 : m ≤ 40
      · have h40i : ¬ (40 : Int) < m := by omega
        go_wp2_with fail
        go_roundw
        case rel =>
          refine ⟨k + 1, by omega, by go_num, trivial, Lib.hid (fun j hj => ?_)⟩
          by_cases e : j = k
          · rw [e, HM.out]; exact h40
          · exact HN.out j (by omega)
        case measure => (simp [intOf]; try omega)
      · have h40i : (40 : Int) < m := by omega
        go_wp2_with fail
        go_ret
        refine ⟨?_, rfl⟩
        have : litB C = false := by
          cases hb : litB C with
          | false => rfl
          | true =>
            simp only [litB, Bool.and_eq_true, decide_eq_true_eq, List.all_eq_true] at hb
            have := hb.1 (C.getD k SgArg.zero) (by rw [List.getD, List.getElem?_eq_getElem (by rw [HH.out]; exact hlt)]; exact List.getElem_mem _)
            rw [HM.out] at this; omega
        rw [this] <;> rfl
    · obtain rfl : k = h := by omega
      have hk1 : ¬ (k : Int) < k := by omega
      have hB : Hid (litB C = decide (k ≤ 20)) := Lib.hid (by
        unfold litB
        rw [HH.out]
        have : (C.all fun y => decide (y.l.length ≤ 40)) = true := by
          rw [List.all_eq_true]
          intro y hy
          obtain ⟨j, hj, rfl⟩ := List.getElem_of_mem hy
          have := HN.out j (by rw [← HH.out]; exact hj)
          rw [List.getD, List.getElem?_eq_getElem hj] at this
          exact decide_eq_true this
        rw [this, Bool.true_and])
      by_cases h20 : k ≤ 20
      · have h20i : (k : Int) ≤ 20 := by omega
        go_wp2_with fail
        go_ret
        exact ⟨by rw [hB.out, decide_eq_true h20] <;> rfl, rfl⟩
      · have h20i : ¬ (k : Int) ≤ 20 := by omega
        go_wp2_with fail
        go_ret
        exact ⟨by rw [hB.out, decide_eq_false h20] <;> rfl, rfl⟩
theorem offnew_bad (L : List Sg2) (a : Option Addr) (n c : Nat) (x : Int) (vC : Value) (w : World) (hn : L.length = n) (hl : n ≤ 10000) (hno : mayL L x = false) (hs : Signs w a L) :
    Calls Tryd.prog 30 #[.agg #[.slice a n c, .int .i64 x], vC] w fun e w' => e = .returned (.tuple #[.pointer none, .int .i64 2]) ∧ Below w.heap.size w w' := by
  have B0 := below_alloc w (.cells #[.slice a n c, .int .i64 x] 30)
  have RT0 := lw_rt L a n c x (w.alloc (.cells #[.slice a n c, .int .i64 x] 30)) hn (by omega) (hs.below B0)
  rw [hno] at RT0
  have RT := Lib.hid RT0
  have N0 := Lib.hid B0
  clear hs RT0 B0 hno hn
  go_enter Tryd.func30, Tryd.ntmps30
  go_wp2_with (go_at_call 80; refine RT.out.mono ?_; rintro e w1 ⟨rfl, hb⟩; have N1 := Lib.hid (seqB N0.out hb); clear hb)
  refine bodyPost_ret (results_tmp2 rfl _ _ _) rfl ?_
  exact ⟨rfl, N1.out⟩
/-- What is known of an offer. -/
structure OWf (L : List Sg2) (n p t : Nat) (T : List (List Sg2)) : Prop where
  hn : L.length = n
  nl : n ≤ 10000
  hp : p ≤ n
  ht : T.length = t
  t0 : 0 < t
  tl : t ≤ 1000
  ok : OffOk (wdL L p) T
theorem wdL_len {L : List Sg2} {p : Nat} (h : p ≤ L.length) : (wdL L p).length = p - wdB L p := by
  have := wdB_le L p
  unfold wdL
  rw [List.length_take, List.length_drop]; omega
/-- The offer of a law. -/
structure OW (w0 : World) (O : Nat) (L : List Sg2) (n p : Nat) (T : List (List Sg2)) (j : Nat) (w : World) : Prop where
  ex : ∃ B xa xc hd, OfS B O L xa n xc p (p - wdB L p) T (stm T) hd w ∧ w0.heap.size ≤ B ∧ B ≤ w.heap.size ∧ hd + 1 = (j : Int)
  wb : Below w0.heap.size w0 w
section
variable {w0 : World} {O : Nat} {L : List Sg2} {n p t : Nat} {T : List (List Sg2)} {j : Nat} {w w' : World}
theorem OW.below (h : OW w0 O L n p T j w) (hb : Below w.heap.size w w') : OW w0 O L n p T j w' := by
  obtain ⟨⟨B, xa, xc, hd, h1, h2, h3, h5⟩, h4⟩ := h
  exact ⟨⟨B, xa, xc, hd, h1.below hb, h2, Nat.le_trans h3 hb.size, h5⟩, h4.trans (hb.mono h4.size)⟩
theorem OW.blk (h : OW w0 O L n p T j w) : ∃ cs, w.heap[O]? = some (.cells cs 115 (0, 0)) := by
  obtain ⟨⟨B, xa, xc, hd, h1, h2, h3, h5⟩, h4⟩ := h
  obtain ⟨_, _, h, _⟩ := h1.ex
  exact ⟨_, h⟩
theorem OW.far (h : OW w0 O L n p T j w) : w0.heap.size ≤ O := by
  obtain ⟨⟨B, xa, xc, hd, h1, h2, h3, h5⟩, h4⟩ := h
  exact Nat.le_trans h2 h1.le
theorem ow_next (h : OW w0 O L n p T j w) (f : OWf L n p t T) (hj : j ≤ t) : Calls Tryd.prog 41 #[.pointer (some ⟨O, 0, none⟩)] w fun e w' => e = .returned (.bool true) ∧ OW w0 O L n p T (nxJ t j) w' ∧ KpB O w w' := by
  obtain ⟨⟨B, xa, xc, hd, h1, h2, h3, h5⟩, h4⟩ := h
  refine (of_next h1 h3 f.ht f.t0 h5 hj f.tl).mono ?_
  rintro e w' ⟨rfl, ⟨hd', e1, h6⟩, k⟩
  exact ⟨rfl, ⟨⟨B, xa, xc, hd', h6, h2, Nat.le_trans h3 k.size, e1⟩, h4.trans (k.below (Nat.le_trans h2 h1.le) h4.size)⟩, k⟩
theorem ow_prev (h : OW w0 O L n p T j w) (f : OWf L n p t T) (hj : j ≤ t) : Calls Tryd.prog 42 #[.pointer (some ⟨O, 0, none⟩)] w fun e w' => e = .returned (.bool true) ∧ OW w0 O L n p T (pvJ t j) w' ∧ KpB O w w' := by
  obtain ⟨⟨B, xa, xc, hd, h1, h2, h3, h5⟩, h4⟩ := h
  refine (of_prev h1 h3 f.ht f.t0 h5 hj f.tl).mono ?_
  rintro e w' ⟨rfl, ⟨hd', e1, h6⟩, k⟩
  exact ⟨rfl, ⟨⟨B, xa, xc, hd', h6, h2, Nat.le_trans h3 k.size, e1⟩, h4.trans (k.below (Nat.le_trans h2 h1.le) h4.size)⟩, k⟩
theorem ow_len (h : OW w0 O L n p T j w) (f : OWf L n p t T) : Calls Tryd.prog 37 #[.pointer (some ⟨O, 0, none⟩)] w fun e w' => e = .returned (.int .i64 t) ∧ w = w' := by
  obtain ⟨⟨B, xa, xc, hd, h1, h2, h3, h5⟩, h4⟩ := h
  rw [← f.ht]; exact of_len h1
theorem ow_hand (h : OW w0 O L n p T j w) : Calls Tryd.prog 38 #[.pointer (some ⟨O, 0, none⟩)] w fun e w' => (∃ hd, e = .returned (.int .i64 hd) ∧ hd + 1 = (j : Int)) ∧ w = w' := by
  obtain ⟨⟨B, xa, xc, hd, h1, h2, h3, h5⟩, h4⟩ := h
  exact (of_hand h1).mono fun _ _ ⟨a, b⟩ => ⟨⟨hd, a, h5⟩, b⟩
theorem OWf.z (f : OWf L n p t T) : ∀ x ∈ T, x.length ≤ 4096 ∧ p - wdB L p < x.length := fun x hx => by
  have h := okC_out (f.ok.each x hx).1
  rw [wdL_len (by rw [f.hn]; exact f.hp)] at h
  exact ⟨h.2.1, h.1⟩
theorem ow_all (h : OW w0 O L n p T j w) (f : OWf L n p t T) : Calls Tryd.prog 36 #[.pointer (some ⟨O, 0, none⟩)] w fun e w' => ∃ b, e = .returned (.slice b t t) ∧ SgsK (fun k => w.heap.size ≤ k ∧ k < w'.heap.size) w' b T ∧ Below w.heap.size w w' := by
  obtain ⟨⟨B, xa, xc, hd, h1, h2, h3, h5⟩, h4⟩ := h
  exact of_all h1 f.ht f.t0 f.tl (fun x hx => (f.z x hx).1)
/-- What comes with the hand at j. -/
def insL (L : List Sg2) (p : Nat) (T : List (List Sg2)) (j : Nat) : List Sg2 := ofIns T (p - wdB L p) (stm T) j
theorem ins_4 (f : OWf L n p t T) (hj : j ≤ t) : ∀ s ∈ insL L p T j, s.2 = 4 := by
  intro s hs
  unfold insL ofIns at hs
  split at hs
  · exact (f.ok.each _ (getD_memT (T := T) (j := 0) (by rw [f.ht]; exact f.t0))).2 s (List.mem_of_mem_drop (List.mem_of_mem_take hs))
  · exact (f.ok.each _ (getD_memT (T := T) (j := j - 1) (by rw [f.ht]; omega))).2 s (List.mem_of_mem_drop hs)
theorem ow_line (h : OW w0 O L n p T j w) (f : OWf L n p t T) (hj : j ≤ t) : Calls Tryd.prog 39 #[.pointer (some ⟨O, 0, none⟩)] w fun e w' => ∃ ad d m, e = .returned (.agg #[.slice ad (p + m + (n - p)) d, .int .i64 ((p : Int) + (m : Int))]) ∧ (insL L p T j).length = m ∧ m ≤ 4096 ∧ OwS w' w.heap.size (.slice ad (p + m + (n - p)) d) (L.take p ++ insL L p T j ++ L.drop p) ∧ Below w.heap.size w w' := by
  obtain ⟨⟨B, xa, xc, hd, h1, h2, h3, h5⟩, h4⟩ := h
  have hne : T ≠ [] := fun e => by have := f.ht; have := f.t0; rw [e] at *; simp at *; omega
  have hr := stm_rng f.ok hne
  rw [wdL_len (by rw [f.hn]; exact f.hp)] at hr
  have hz0 := f.z _ (getD_memT (T := T) (j := 0) (by rw [f.ht]; exact f.t0))
  by_cases e : j = 0
  · subst e
    obtain rfl : hd = -1 := by omega
    refine (of_lineA h1 f.ht f.t0 f.hn f.hp f.nl hr.1 hr.2 hz0.1).mono ?_
    rintro e w' ⟨ad, d, rfl, ho, hb⟩
    refine ⟨ad, d, stm T - (p - wdB L p), rfl, ?_, by omega, ho, hb⟩
    unfold insL ofIns
    rw [if_pos rfl, List.length_take, List.length_drop]; omega
  · obtain ⟨i, rfl⟩ : ∃ i, j = i + 1 := ⟨j - 1, by omega⟩
    obtain rfl : hd = (i : Int) := by omega
    have hzi := f.z _ (getD_memT (T := T) (j := i) (by rw [f.ht]; omega))
    refine (of_lineB (i := i) h1 f.ht (by omega) f.hn f.hp f.nl rfl (Nat.le_of_lt hzi.2) hzi.1).mono ?_
    rintro e w' ⟨ad, d, rfl, ho, hb⟩
    refine ⟨ad, d, (T.getD i []).length - (p - wdB L p), rfl, ?_, by omega, ho, hb⟩
    unfold insL ofIns
    rw [if_neg (by omega), Nat.add_sub_cancel, List.length_drop]
end
end Go.Proofs.YtgpcflpeddnfcaaDoor
set_option linter.unusedVariables false
set_option linter.unusedSimpArgs false
namespace Go.Proofs.YtgpcflpeddnfcaaDoor
open Go.RowKit Go.Sort
section
variable {w0 : World} {O : Nat} {L : List Sg2} {n p t : Nat} {T : List (List Sg2)} {j : Nat} {w w' : World}
/-- A line that an offer tells. -/
structure OwY (L : List Sg2) (n p : Nat) (T : List (List Sg2)) (j m N q : Nat) : Prop where
  hm : (insL L p T j).length = m
  ml : m ≤ 4096
  hN : n + m = N
  hq : p + m = q
def lnY (L : List Sg2) (p : Nat) (T : List (List Sg2)) (j : Nat) : List Sg2 := L.take p ++ insL L p T j ++ L.drop p
theorem ow_line2 (h : OW w0 O L n p T j w) (f : OWf L n p t T) (hj : j ≤ t) : Calls Tryd.prog 39 #[.pointer (some ⟨O, 0, none⟩)] w fun e w' => ∃ (ad : Option Addr) (d m N q : Nat), e = .returned (.agg #[.slice ad N d, .int .i64 (q : Int)]) ∧ OwY L n p T j m N q ∧ OwS w' w.heap.size (.slice ad N d) (lnY L p T j) ∧ Below w.heap.size w w' := by
  refine (ow_line h f hj).mono ?_
  rintro e w' ⟨ad, d, m, rfl, h1, h2, h3, h4⟩
  have e1 : p + m + (n - p) = n + m := by have := f.hp; omega
  rw [e1] at h3 ⊢
  exact ⟨ad, d, m, n + m, p + m, by rw [Int.natCast_add], ⟨h1, h2, rfl, rfl⟩, h3, h4⟩
theorem lnY_len {m N q : Nat} (h : OwY L n p T j m N q) (f : OWf L n p t T) : (lnY L p T j).length = N := by
  have := f.hp; have := f.hn; have := h.hN; have := h.hm
  unfold lnY
  rw [List.length_append, List.length_append, List.length_take, List.length_drop]; omega
theorem lnY_take {m N q : Nat} (h : OwY L n p T j m N q) (f : OWf L n p t T) : (lnY L p T j).take p = L.take p := by
  have := f.hp; have := f.hn
  unfold lnY
  rw [List.append_assoc, List.take_append_of_le_length (by rw [List.length_take]; omega), List.take_of_length_le (by rw [List.length_take]; omega)]
theorem lnY_drop {m N q : Nat} (h : OwY L n p T j m N q) (f : OWf L n p t T) : (lnY L p T j).drop q = L.drop p := by
  have := f.hp; have := f.hn; have := h.hm; have := h.hq
  unfold lnY
  rw [List.drop_append_of_le_length (by rw [List.length_append, List.length_take]; omega), List.drop_of_length_le (by rw [List.length_append, List.length_take]; omega), List.nil_append]
theorem lnY_mid {m N q : Nat} (h : OwY L n p T j m N q) (f : OWf L n p t T) (hj : j ≤ t) (k : Nat) (h1 : p ≤ k) (h2 : k < q) : ((lnY L p T j).getD k (0, 0)).2 = 4 := by
  have e1 := f.hp; have e2 := f.hn; have e3 := h.hm; have e4 := h.hq
  have hl : (L.take p).length = p := by rw [List.length_take]; omega
  unfold lnY
  rw [List.append_assoc, List.getD, List.getElem?_append_right (by rw [hl]; exact h1), hl, List.getElem?_append_left (by omega), List.getElem?_eq_getElem (by omega)]
  exact ins_4 f hj _ (List.getElem_mem _)
theorem sameA (l : List Sg2) (a b : Option Addr) (m c d : Nat) (w : World) (hm : l.length = m) (hl : m ≤ 1000000) (hs : Signs w a l) (ht : Signs w b l) : Calls Tryd.prog 24 #[.slice a m c, .slice b m d] w fun e w' => e = .returned (.bool true) ∧ Below w.heap.size w w' := by
  subst hm
  have h := sgsame_ref l l a b c d w (by omega) (by omega) hs ht
  rw [decide_eq_true rfl] at h
  exact h
theorem sub_take {S : Nat → Prop} {w : World} {a : Option Addr} {l : List Sg2} {c p : Nat} (h : SlS S w a l c) (hp : p ≤ l.length) : SlS S w (if c = 0 then a else a.map (·.add (0 * 2))) (l.take p) c ∧ (l.take p).length = p := by
  have := h.sub 0 p (Nat.zero_le _) hp
  rw [List.drop_zero, Nat.sub_zero, Nat.sub_zero] at this
  exact this
theorem sub_drop {S : Nat → Prop} {w : World} {a : Option Addr} {l : List Sg2} {c p n : Nat} (h : SlS S w a l c) (hn : l.length = n) (hp : p ≤ n) : SlS S w (if c = p then a else a.map (·.add (p * 2))) (l.drop p) (c - p) ∧ (l.drop p).length = n - p := by
  have := h.sub p n hp (by omega)
  rw [List.take_of_length_le (by rw [List.length_drop]; omega)] at this
  exact this
end
theorem stays_far (L : List Sg2) (a aC : Option Addr) (n c h cC : Nat) (x : Int) (C : List SgArg) (w : World) (hT : OfT w) (hh : C.length = h) (hhl : h ≤ 9223372036854775807) (hC : HistIn w w.heap.size aC C) (hno : 60 < n ∨ litB C = false) :
    Calls Tryd.prog 7 #[.agg #[.slice a n c, .int .i64 x], .slice aC h cC] w fun e w' => e = .returned (.bool true) ∧ Below w.heap.size w w' := by
  have B0 := below_alloc w (.cells #[.slice a n c, .int .i64 x] 30)
  have AW := Lib.hid (oawake_any _ (hT.below B0))
  have LT := light_any C aC h cC (w.alloc (.cells #[.slice a n c, .int .i64 x] 30)) hh hhl (fun i hi => by
    obtain ⟨b, off, e, hlt, h1, h2⟩ := hC.below B0 i hi
    exact ⟨b, off, e, Nat.lt_of_lt_of_le hlt B0.size, h1, h2.1.mono (fun k hk => Nat.lt_of_lt_of_le hk B0.size), h2.2⟩)
  have N0 := Lib.hid B0
  by_cases h60 : 60 < n
  · have h60i : (60 : Int) < n := by omega
    clear LT hC hT B0 hh
    go_enter Tryd.func7, Tryd.ntmps7
    go_wp2_with (go_at_call 29; refine AW.out.mono ?_; rintro e w1 ⟨rfl, hb⟩; have N1 := Lib.hid (seqB N0.out hb); clear hb)
    go_ret
    exact ⟨rfl, N1.out⟩
  · have h60i : ¬ (60 : Int) < n := by omega
    rw [hno.resolve_left h60] at LT
    replace LT := Lib.hid LT
    clear hC hT B0 hh hno
    go_enter Tryd.func7, Tryd.ntmps7
    go_wp2_with (first
      | (go_at_call 28; refine LT.out.mono ?_; rintro e w1 ⟨rfl, rfl⟩)
      | (go_at_call 29; refine AW.out.mono ?_; rintro e w1 ⟨rfl, hb⟩; have N1 := Lib.hid (seqB N0.out hb); clear hb))
    go_ret
    exact ⟨rfl, N1.out⟩
theorem stays_no (L : List Sg2) (a aC : Option Addr) (n c h cC : Nat) (x er : Int) (C : List SgArg) (w : World) (hT : OfT w) (hh : C.length = h) (hhl : h ≤ 9223372036854775807) (hC : HistIn w w.heap.size aC C) (h60 : n ≤ 60) (hlit : litB C = true) (her : er = 2 ∨ er = 7)
    (NW : Hid (∀ w', Below w.heap.size w w' → Calls Tryd.prog 30 #[.agg #[.slice a n c, .int .i64 x], .slice aC h cC] w' fun e w'' => e = .returned (.tuple #[.pointer none, .int .i64 er]) ∧ Below w'.heap.size w' w'')) :
    Calls Tryd.prog 7 #[.agg #[.slice a n c, .int .i64 x], .slice aC h cC] w fun e w' => e = .returned (.bool true) ∧ Below w.heap.size w w' := by
  have B0 := below_alloc w (.cells #[.slice a n c, .int .i64 x] 30)
  have X0 : LbX (w.alloc (.cells #[.slice a n c, .int .i64 x] 30)) w.heap.size a n c x := heap_alloc_new _ _
  have AW := Lib.hid (oawake_any _ (hT.below B0))
  have LT := light_any C aC h cC (w.alloc (.cells #[.slice a n c, .int .i64 x] 30)) hh hhl (fun i hi => by
    obtain ⟨b, off, e, hlt, h1, h2⟩ := hC.below B0 i hi
    exact ⟨b, off, e, Nat.lt_of_lt_of_le hlt B0.size, h1, h2.1.mono (fun k hk => Nat.lt_of_lt_of_le hk B0.size), h2.2⟩)
  have N0 := Lib.hid B0
  have Z0 := Lib.hid X0
  have h60i : ¬ (60 : Int) < n := by omega
  rw [hlit] at LT
  replace LT := Lib.hid LT
  have NX0 := Lib.hid fun w => of_next0 w
  have PV0 := Lib.hid fun w => of_prev0 w
  have HA0 := Lib.hid fun w => of_hand0 w
  have LE0 := Lib.hid fun w => of_len0 w
  have AL0 := Lib.hid fun w => of_all0 w
  have LI0 := Lib.hid fun w => of_line0 w
  have hfld : ∀ (w : World) (b : Option Addr) (n d : Nat) (x : Int), (Instr.field 30 (.agg #[.slice b n d, .int .i64 x]) 0).run Tryd.prog w = .ok (.slice b n d) w := fun _ _ _ _ _ => by kernel_rfl
  have hz := hT.below B0
  obtain ⟨X, hX⟩ : ∃ X, w.heap.size = X := ⟨_, rfl⟩
  clear hC hT B0 hh hlit X0 hz hX
  rcases her with rfl | rfl
  all_goals
    go_enter Tryd.func7, Tryd.ntmps7
    go_upto_region 3 with (first
      | (go_at_call 28; refine LT.out.mono ?_; rintro e w1 ⟨rfl, rfl⟩)
      | (go_at_call 29; refine AW.out.mono ?_; rintro e w1 ⟨rfl, hb⟩; have N1 := Lib.hid (seqB N0.out hb); have z0 := (Z0.out.below hb).cells.1; have z1 := (Z0.out.below hb).cells.2; clear hb AW LT N0))
    go_wp2_with (first
      | (go_at_call 30; refine (NW.out _ N1.out).mono ?_; rintro e w2 ⟨rfl, hb⟩; have N2 := Lib.hid (seqB N1.out hb); clear hb NW N1)
      | (go_at_call 41; refine (NX0.out _).mono ?_; rintro e wq ⟨rfl, rfl⟩)
      | (go_at_call 42; refine (PV0.out _).mono ?_; rintro e wq ⟨rfl, rfl⟩)
      | (go_at_call 38; refine (HA0.out _).mono ?_; rintro e wq ⟨rfl, rfl⟩)
      | (go_at_call 37; refine (LE0.out _).mono ?_; rintro e wq ⟨rfl, rfl⟩)
      | (go_at_call 36; refine (AL0.out _).mono ?_; rintro e wq ⟨rfl, rfl⟩)
      | (go_at_call 39; refine (LI0.out _).mono ?_; rintro e wq ⟨rfl, hb⟩; have N3 := Lib.hid (seqB N2.out hb); clear hb))
    go_ret
    exact ⟨rfl, N3.out⟩
end Go.Proofs.YtgpcflpeddnfcaaDoor
set_option linter.unusedVariables false
set_option linter.unusedSimpArgs false
namespace Go.Proofs.YtgpcflpeddnfcaaDoor
open Go.RowKit Go.Sort
theorem LbX.far {w w' : World} {O X : Nat} {a : Option Addr} {n c : Nat} {x : Int} (h : LbX w X a n c x) (k : KpB O w w') (hne : X ≠ O) : LbX w' X a n c x := (k.block X (blk_lt h) hne).trans h
set_option maxHeartbeats 16000000 in
theorem stays_yes (L : List Sg2) (a aC : Option Addr) (n c h cC p t : Nat) (T : List (List Sg2)) (C : List SgArg) (w : World) (hT : OfT w) (hh : C.length = h) (hhl : h ≤ 9223372036854775807) (hC : HistIn w w.heap.size aC C) (h60 : n ≤ 60) (hlit : litB C = true) (f : OWf L n p t T) (hok : sgC L = true) (hs : SlS (fun k => k < w.heap.size) w a L c)
    (NW : Hid (∀ w', Below w.heap.size w w' → Calls Tryd.prog 30 #[.agg #[.slice a n c, .int .i64 (p : Int)], .slice aC h cC] w' fun e w'' => (∃ O, e = .returned (.tuple #[.pointer (some ⟨O, 0, none⟩), .int .i64 0]) ∧ OW w O L n p T 0 w'') ∧ Below w'.heap.size w' w'')) :
    Calls Tryd.prog 7 #[.agg #[.slice a n c, .int .i64 (p : Int)], .slice aC h cC] w fun e w' => e = .returned (.bool true) ∧ Below w.heap.size w w' := by
  have B0 := below_alloc w (.cells #[.slice a n c, .int .i64 (p : Int)] 30)
  have X0 : LbX (w.alloc (.cells #[.slice a n c, .int .i64 (p : Int)] 30)) w.heap.size a n c p := heap_alloc_new _ _
  have AW := Lib.hid (oawake_any _ (hT.below B0))
  have LT := light_any C aC h cC (w.alloc (.cells #[.slice a n c, .int .i64 (p : Int)] 30)) hh hhl (fun i hi => by
    obtain ⟨b, off, e, hlt, h1, h2⟩ := hC.below B0 i hi
    exact ⟨b, off, e, Nat.lt_of_lt_of_le hlt B0.size, h1, h2.1.mono (fun k hk => Nat.lt_of_lt_of_le hk B0.size), h2.2⟩)
  have N0 := Lib.hid B0
  have Z0 := Lib.hid X0
  have h60i : ¬ (60 : Int) < n := by omega
  rw [hlit] at LT
  replace LT := Lib.hid LT
  have NX0 := Lib.hid fun w => of_next0 w
  have PV0 := Lib.hid fun w => of_prev0 w
  have HA0 := Lib.hid fun w => of_hand0 w
  have LE0 := Lib.hid fun w => of_len0 w
  have AL0 := Lib.hid fun w => of_all0 w
  have LI0 := Lib.hid fun w => of_line0 w
  have MY := Lib.hid fun w' (hb : Below w.heap.size w w') => r17_may L a n c p w' f.hn (by omega) (hs.s.below hb)
  have hfld : ∀ (w : World) (b : Option Addr) (n d : Nat) (x : Int), (Instr.field 30 (.agg #[.slice b n d, .int .i64 x]) 0).run Tryd.prog w = .ok (.slice b n d) w := fun _ _ _ _ _ => by kernel_rfl
  have hpn := f.hp
  have hmay : (decide ((0 : Int) ≤ (p : Int)) && decide ((p : Int) ≤ (n : Int)) && sgC L) = true := by
    rw [hok, decide_eq_true (by omega), decide_eq_true (by omega)]; rfl
  rw [hmay] at MY
  have F := Lib.hid f
  have HS := Lib.hid hs
  have ht1000 := f.tl
  have ht0 := f.t0
  have hcle : n ≤ c := by have := hs.le; rw [f.hn] at this; exact this
  clear hC hT B0 hh hlit X0 f hs hok hmay
  go_enter Tryd.func7, Tryd.ntmps7
  go_upto_region 3 with (first
    | (go_at_call 28; refine LT.out.mono ?_; rintro e w1 ⟨rfl, rfl⟩)
    | (go_at_call 29; refine AW.out.mono ?_; rintro e w1 ⟨rfl, hb⟩; have N1 := Lib.hid (seqB N0.out hb); have Z1 := Lib.hid (Z0.out.below hb); have z0 := Z1.out.cells.1; have z1 := Z1.out.cells.2; clear hb AW LT N0 Z0))
  obtain ⟨X, hX⟩ : ∃ X, w.heap.size = X := ⟨_, rfl⟩
  have HX := Lib.hid hX
  rw [hX] at Z1 z0 z1
  rw [hX]
  clear hX
  go_upto_region 9 with (first
    | (go_at_call 30; refine (NW.out _ N1.out).mono ?_; rintro e w2 ⟨⟨O, rfl, hO⟩, hb⟩; clear z0 z1; have Q2 := Lib.hid hO; have Z2 := Lib.hid (Z1.out.below hb); have N2 := Lib.hid (seqB N1.out hb); have z0 := Z2.out.cells.1; have z1 := Z2.out.cells.2; clear hb hO NW N1 Z1)
    | (go_at_call 41; refine (NX0.out _).mono ?_; rintro e wq ⟨rfl, rfl⟩)
    | (go_at_call 42; refine (PV0.out _).mono ?_; rintro e wq ⟨rfl, rfl⟩)
    | (go_at_call 38; refine (HA0.out _).mono ?_; rintro e wq ⟨rfl, rfl⟩)
    | (go_at_call 37; refine (LE0.out _).mono ?_; rintro e wq ⟨rfl, rfl⟩)
    | (go_at_call 36; refine (AL0.out _).mono ?_; rintro e wq ⟨rfl, rfl⟩)
    | (go_at_call 39; refine (LI0.out _).mono ?_; rintro e w3 ⟨rfl, hb⟩; clear z0 z1; have Q3 := Lib.hid (Q2.out.below hb); have Z3 := Lib.hid (Z2.out.below hb); have N3 := Lib.hid (seqB N2.out hb); have z0 := Z3.out.cells.1; have z1 := Z3.out.cells.2; clear hb Q2 Z2 N2)
    | (go_at_call 32; refine (MY.out _ N3.out).mono ?_; rintro e w4 ⟨rfl, hb⟩; clear z0 z1; have Q4 := Lib.hid (Q3.out.below hb); have Z4 := Lib.hid (Z3.out.below hb); have z0 := Z4.out.cells.1; have z1 := Z4.out.cells.2; clear hb Q3 Z3 N3 MY))
  clear NX0 PV0 HA0 LE0 AL0 LI0
  have LI := Lib.hid fun (w' : World) (j : Nat) (hj : j ≤ t) (h : OW w O L n p T j w') => ow_line2 h F.out hj
  have NX := Lib.hid fun (w' : World) (j : Nat) (hj : j ≤ t) (h : OW w O L n p T j w') => ow_next h F.out hj
  have LE := Lib.hid fun (w' : World) (j : Nat) (h : OW w O L n p T j w') => ow_len h F.out
  go_upto_region 10 with (go_at_call 39; refine (LI.out _ 0 (Nat.zero_le _) Q4.out).mono ?_; rintro e w5 ⟨ad8, d8, m8, N8, q8, rfl, hy8, ho, hb⟩; clear z0 z1; have Y8 := Lib.hid hy8; have Q5 := Lib.hid (Q4.out.below hb); have Z5 := Lib.hid (Z4.out.below hb); have O5 := Lib.hid (ho.mono (Nat.zero_le _)); clear hb ho hy8 Q4 Z4)
  obtain ⟨v6, hv6⟩ : ∃ v, w5.alloc (.cells #[.slice ad8 N8 d8, .int .i64 (q8 : Int)] 30) = v := ⟨_, rfl⟩
  have lb6 : Below w5.heap.size w5 v6 := by rw [← hv6]; exact below_alloc _ _
  have lx6 : LbX v6 w5.heap.size ad8 N8 d8 q8 := by rw [← hv6]; exact heap_alloc_new _ _
  rw [hv6]
  obtain ⟨X8, hX8⟩ : ∃ X, w5.heap.size = X := ⟨_, rfl⟩
  rw [hX8] at lx6 ⊢
  have Q6 := Lib.hid (Q5.out.below lb6)
  have Z6 := Lib.hid (Z5.out.below lb6)
  have O6 := Lib.hid (ows_keep O5.out lb6)
  have U6 := Lib.hid lx6
  clear Q5 Z5 O5 lb6 lx6 hv6 hX8
  go_wp2_with fail
  go_loopw [9] (fun iv wr => ∃ i : Nat, i ≤ t + 1 ∧ iv = .int .i64 (i : Int) ∧ Hid (OW w O L n p T (if i = t + 1 then 0 else i) wr) ∧ Hid (LbX wr X8 ad8 N8 d8 q8) ∧ Hid (OwS wr 0 (.slice ad8 N8 d8) (lnY L p T 0)) ∧ Hid (LbX wr X a n c p)) (fun iv _ => t + 1 - (intOf iv).toNat)
  case atStart => exact ⟨0, Nat.zero_le _, rfl, Lib.hid (by rw [if_neg (by omega)]; exact Q6.out), U6, O6, Z6⟩
  case round =>
    clear Q6 Z6 O6 U6
    obtain ⟨i, hi, rfl, HQ, HU, HO, HZ⟩ := hrel
    by_cases hit : i ≤ t
    · have hiti : (i : Int) ≤ t := by omega
      have hi0 : (0 : Int) ≤ i := by omega
      rw [if_neg (by omega)] at HQ
      go_upto_region 14 with (first
        | (go_at_call 37; refine (LE.out _ _ HQ.out).mono ?_; rintro e w7 ⟨rfl, rfl⟩)
        | (go_at_call 39; refine (LI.out _ _ hit HQ.out).mono ?_; rintro e w7 ⟨ad, d, m, N, q, rfl, hy, ho, hb⟩; have HY := Lib.hid hy; have Q7 := Lib.hid (HQ.out.below hb); have Z7 := Lib.hid (HZ.out.below hb); have O7 := Lib.hid (ows_keep HO.out hb); have U7 := Lib.hid (HU.out.below hb); have P7 := Lib.hid (ho.mono (Nat.zero_le _)); clear hb ho hy HQ HU HO HZ))
      obtain ⟨v9, hv9⟩ : ∃ v, w7.alloc (.cells #[.slice ad N d, .int .i64 (q : Int)] 30) = v := ⟨_, rfl⟩
      have lb9 : Below w7.heap.size w7 v9 := by rw [← hv9]; exact below_alloc _ _
      have lx9 : LbX v9 w7.heap.size ad N d q := by rw [← hv9]; exact heap_alloc_new _ _
      rw [hv9]
      obtain ⟨X9, hX9⟩ : ∃ X, w7.heap.size = X := ⟨_, rfl⟩
      rw [hX9] at lx9 ⊢
      have Q9 := Lib.hid (Q7.out.below lb9)
      have Z9 := Lib.hid (Z7.out.below lb9)
      have O9 := Lib.hid (ows_keep O7.out lb9)
      have P9 := Lib.hid (ows_keep P7.out lb9)
      have U9 := Lib.hid (U7.out.below lb9)
      have V9 := Lib.hid lx9
      clear Q7 Z7 O7 P7 U7 lb9 lx9 hv9 hX9
      have z0 := Z9.out.cells.1; have z1 := Z9.out.cells.2; have v0 := V9.out.cells.1; have v1 := V9.out.cells.2
      have eN := HY.out.hN; have eq := HY.out.hq; have eml := HY.out.ml
      have hNm : (N : Int) - (n : Int) = (m : Int) := by omega
      have hqm : (p : Int) + (m : Int) = (q : Int) := by omega
      have hmz : ¬ (m : Int) < 0 := by omega
      have hNb : N ≤ 5000 := by omega
      have hP := ows_slS P9.out
      have hPl := lnY_len HY.out F.out
      have hNd : N ≤ d := by have := hP.le; rw [hPl] at this; exact this
      have s1 := sub_take hP (p := p) (by omega)
      rw [lnY_take HY.out F.out] at s1
      have s2 := sub_drop hP hPl (show q ≤ N by omega)
      rw [lnY_drop HY.out F.out] at s2
      have hxs := HS.out.below Q9.out.wb
      have s3 := sub_take hxs (p := p) (by rw [F.out.hn]; omega)
      have s4 := sub_drop hxs F.out.hn hpn
      have eqq : N - q = n - p := by omega
      rw [eqq] at s2
      obtain ⟨b1, hb1⟩ : ∃ x, (if d = 0 then ad else ad.map (·.add (0 * 2))) = x := ⟨_, rfl⟩
      obtain ⟨b2, hb2⟩ : ∃ x, (if d = q then ad else ad.map (·.add (q * 2))) = x := ⟨_, rfl⟩
      obtain ⟨b3, hb3⟩ : ∃ x, (if c = 0 then a else a.map (·.add (0 * 2))) = x := ⟨_, rfl⟩
      obtain ⟨b4, hb4⟩ : ∃ x, (if c = p then a else a.map (·.add (p * 2))) = x := ⟨_, rfl⟩
      rw [hb1] at s1; rw [hb2] at s2; rw [hb3] at s3; rw [hb4] at s4
      have k1 := fun w' => (run_cutH w' ad N d p (by omega)).trans (by rw [hb1])
      have k2 := fun w' => (run_cutL w' ad N d q (by omega)).trans (by rw [hb2, eqq])
      have k3 := fun w' => (run_cutH w' a n c p (by omega)).trans (by rw [hb3])
      have k4 := fun w' => (run_cutL w' a n c p hpn).trans (by rw [hb4])
      have SA := Lib.hid fun dd os => (sameA (L.take p) b1 b3 p d c (grow (redrawn v9 dd) os) s1.2 (by omega) (s1.1.s.below (below_regrown v9 dd os)) (s3.1.s.below (below_regrown v9 dd os))).regrown_of
      have SB := Lib.hid fun dd os => (sameA (L.drop p) b2 b4 (n - p) (d - q) (c - p) (grow (redrawn v9 dd) os) s2.2 (by omega) (s2.1.s.below (below_regrown v9 dd os)) (s4.1.s.below (below_regrown v9 dd os))).regrown_of
      have hmid : Hid (∀ k, p ≤ k → k < q → ∃ b off, ad = some ⟨b, off, none⟩ ∧ b < v9.heap.size ∧ v9.cell? ⟨b, off + k * 2 + 1, none⟩ = some (.int .i64 4)) := Lib.hid (fun k h1 h2 => by
        obtain ⟨b, off, e, hb, _, c2⟩ := hP.s k (by rw [hPl]; omega)
        rw [lnY_mid HY.out F.out hit k h1 h2] at c2
        exact ⟨b, off, e, hb, c2⟩)
      clear s1 s2 s3 s4 hb1 hb2 hb3 hb4 hP hPl hxs eN eq eqq
      go_upto_region 15 with fail
      have G1 := fun d os => cell_regrown z0 d os
      have G2 := fun d os => cell_regrown z1 d os
      have G3 := fun d os => cell_regrown v0 d os
      have G4 := fun d os => cell_regrown v1 d os
      refine wp_region_quiet_below (by kernel_rfl) (by kernel_rfl) ?_
      repeat (any_goals (go_big_quiet_step (first | (go_at_call 24; with_reducible exact SA.out _ _) | (go_at_call 24; with_reducible exact SB.out _ _))))
      refine wpQuiet_nil ?_
      intro _ hw'
      obtain ⟨⟨dq, osq⟩, hw''⟩ := hw'
      subst hw''
      have BR := below_regrown v9 dq osq
      have Qa := Lib.hid (Q9.out.below BR)
      have Za := Lib.hid (Z9.out.below BR)
      have Oa := Lib.hid (ows_keep O9.out BR)
      have Ua := Lib.hid (U9.out.below BR)
      have Va := Lib.hid (V9.out.below BR)
      have hmidA : Hid (∀ k, p ≤ k → k < q → ∃ b off, ad = some ⟨b, off, none⟩ ∧ (grow (redrawn v9 dq) osq).cell? ⟨b, off + k * 2 + 1, none⟩ = some (.int .i64 4)) := Lib.hid (fun k h1 h2 => by
        obtain ⟨b, off, e, hb, c2⟩ := hmid.out k h1 h2
        exact ⟨b, off, e, (BR.cell (p := ⟨b, off + k * 2 + 1, none⟩) hb).trans c2⟩)
      have hpq : Hid (p ≤ q ∧ q ≤ N) := Lib.hid (by have := HY.out.hq; have := HY.out.hN; omega)
      clear G1 G2 G3 G4 SA SB k1 k2 k3 k4 z0 z1 v0 v1 hmid BR Q9 Z9 O9 P9 U9 V9 hNm hqm hmz hNd HY eml
      obtain ⟨va, hva⟩ : ∃ v, grow (redrawn v9 dq) osq = v := ⟨_, rfl⟩
      rw [hva] at Qa Za Oa Ua Va hmidA ⊢
      clear hva
      have z0 := Za.out.cells.1; have z1 := Za.out.cells.2; have v0 := Va.out.cells.1; have v1 := Va.out.cells.2
      go_wp2_with fail
      go_loopw [12] (fun kv ws => ∃ k : Nat, p ≤ k ∧ k ≤ q ∧ kv = .int .i64 (k : Int) ∧ va = ws) (fun kv _ => q - (intOf kv).toNat)
      case atStart => exact ⟨p, Nat.le_refl _, hpq.out.1, rfl, rfl⟩
      case round =>
        obtain ⟨k, hk1, hk2, rfl, rfl⟩ := hrel
        by_cases hkq : k < q
        · have hkqi : (k : Int) < q := by omega
          have hk0 : (0 : Int) ≤ k := by omega
          obtain ⟨b, off, rfl, c2⟩ := hmidA.out k hk1 hkq
          have hkN : (k : Int) < N := by have := hpq.out.2; omega
          go_wp2_with fail
          go_roundw
          case rel => exact ⟨k + 1, by omega, by omega, by go_num, trivial⟩
          case measure => (simp [intOf]; try omega)
        · obtain rfl : k = q := by omega
          have hkqi : ¬ (k : Int) < k := by omega
          have hXO : Hid (X ≠ O ∧ X8 ≠ O) := Lib.hid (by
            obtain ⟨cs, hcs⟩ := Qa.out.blk
            exact ⟨fun e => by have := Za.out; unfold LbX at this; rw [e, hcs] at this; simp at this, fun e => by have := Ua.out; unfold LbX at this; rw [e, hcs] at this; simp at this⟩)
          go_wp2_with (go_at_call 41; refine (NX.out _ _ hit Qa.out).mono ?_; rintro e wb ⟨rfl, hq, hk⟩; obtain ⟨cs, hO⟩ := Qa.out.blk; have Qb := Lib.hid hq; have Zb := Lib.hid (Za.out.kp hO hk); have Ob := Lib.hid (ows_kpO Oa.out hO hk); have Ub := Lib.hid (Ua.out.kp hO hk); clear hq hk hO cs z0 z1 v0 v1)
          go_roundw
          case rel =>
            refine ⟨i + 1, by omega, by go_num, Lib.hid ?_, Ub, Ob, Zb⟩
            have e1 : nxJ t i = (if i + 1 = t + 1 then 0 else i + 1) := by
              unfold nxJ
              by_cases e : i = t
              · rw [if_pos e, if_pos (by omega)]
              · rw [if_neg e, if_neg (by omega)]
            rw [← e1]; exact Qb.out
          case measure => (simp [intOf]; try omega)
    · obtain rfl : i = t + 1 := by omega
      have hiti : ¬ ((t + 1 : Nat) : Int) ≤ t := by omega
      rw [if_pos rfl] at HQ
      have hHX := Lib.hid (blk_lt HU.out)
      go_upto_region 23 with (go_at_call 37; refine (LE.out _ _ HQ.out).mono ?_; rintro e w7 ⟨rfl, rfl⟩)
      have u0 := HU.out.cells.1; have u1 := HU.out.cells.2
      have HQd := Lib.hid (HQ.out.below (Below.refl _ wr).drew)
      go_region_held3 (fun w' => w'.cell? ⟨X8, 0, none⟩ = some (.slice ad8 N8 d8) ∧ w'.cell? ⟨X8, 1, none⟩ = some (.int .i64 q8)) (first | exact ⟨u0, u1⟩ | exact ⟨u0a, u1a⟩ | exact ⟨u0b, u1b⟩ | go_keep)
        (first
          | (go_at_call 39; refine (LI.out _ _ (Nat.zero_le _) HQd.out).mono ?_; rintro e wc ⟨ad, d, m, N, q, rfl, hy, ho, hb⟩; have HY := Lib.hid hy; have D : Below wr.heap.size wr wc := (Below.refl _ wr).drew.trans hb; have Qc := Lib.hid (HQ.out.below D); have Uc := Lib.hid (HU.out.below D); have Oc := Lib.hid (ows_keep HO.out D); have Pc := Lib.hid ho; have u0a := (D.cell (p := ⟨X8, 0, none⟩) hHX.out).trans u0; have u1a := (D.cell (p := ⟨X8, 1, none⟩) hHX.out).trans u1; clear hb ho hy D)
          | (go_at_call 16; refine (r16_same (lnY L p T 0) (lnY L p T 0) ad ad8 N N8 d d8 (q : Int) (q8 : Int) wc (lnY_len HY.out F.out) (lnY_len Y8.out F.out) (by have := HY.out.hN; have := HY.out.ml; omega) (by have := Y8.out.hN; have := Y8.out.ml; omega) (ows_slS Pc.out).s (ows_slS Oc.out).s (by have := HY.out.hm; have := Y8.out.hm; have := HY.out.hq; have := Y8.out.hq; omega) rfl).mono ?_; rintro e wd ⟨rfl, hb⟩; have Qd := Lib.hid (Qc.out.below hb); have u0b := (Uc.out.below hb).cells.1; have u1b := (Uc.out.below hb).cells.2; clear hb))
      go_wp2_with fail
      go_ret
      exact ⟨rfl, Qd.out.wb⟩
end Go.Proofs.YtgpcflpeddnfcaaDoor
set_option linter.unusedVariables false
set_option linter.unusedSimpArgs false
namespace Go.Proofs.YtgpcflpeddnfcaaDoor
open Go.RowKit Go.Sort
/-- What New answers in a law: nothing, or an offer. -/
theorem new_law (y : SgArg) (x : Int) (C : List SgArg) (aC : Option Addr) (cC : Nat) (w : World) (hT : OfT w) (hy : y.In w w.heap.size) (hC : HistIn w w.heap.size aC C) (h60 : y.l.length ≤ 60) (hlit : litB C = true) :
    (∃ er, (er = 2 ∨ er = 7) ∧ ∀ w', Below w.heap.size w w' → Calls Tryd.prog 30 #[.agg #[.slice y.a y.l.length y.c, .int .i64 x], .slice aC C.length cC] w' fun e w'' => e = .returned (.tuple #[.pointer none, .int .i64 er]) ∧ Below w'.heap.size w' w'') ∨
    (∃ (p t : Nat), x = (p : Int) ∧ sgC y.l = true ∧ OWf y.l y.l.length p t (offL y.l p (cdL C)) ∧ ∀ w', Below w.heap.size w w' → Calls Tryd.prog 30 #[.agg #[.slice y.a y.l.length y.c, .int .i64 x], .slice aC C.length cC] w' fun e w'' => (∃ O, e = .returned (.tuple #[.pointer (some ⟨O, 0, none⟩), .int .i64 0]) ∧ OW w O y.l y.l.length p (offL y.l p (cdL C)) 0 w'') ∧ Below w'.heap.size w' w'') := by
  obtain ⟨l1, l2⟩ := litB_out hlit
  cases hm : mayL y.l x with
  | false => exact Or.inl ⟨2, Or.inl rfl, fun w' hb => offnew_bad y.l y.a _ y.c x _ w' rfl (by omega) hm (hy.1.s.below hb)⟩
  | true =>
    obtain ⟨m1, m2, m3⟩ := mayL_out hm
    obtain ⟨p, rfl⟩ := Int.eq_ofNat_of_zero_le m1
    have hp : p ≤ y.l.length := by omega
    have hcl : (cdL C).length = C.length := by simp [cdL]
    have hN := fun w' (hb : Below w.heap.size w w') => offnew_any y.l y.a y.l.length y.c p (cdL C) aC C.length cC w' rfl (by omega) hp m3 (hT.1.below hb) (hy.1.up hb) hcl (by omega) ((hC.sgs.below hb).mono (fun k hk => Nat.lt_of_lt_of_le hk hb.size)) (fun t ht => by have := l1 t ht; omega)
    have hok := offK_ok (wdL y.l p) (cdL C) (cdL C).length (Nat.le_refl _)
    have hlen := offK_len (wdL y.l p) (cdL C) (cdL C).length (Nat.le_refl _)
    by_cases h0 : offL y.l p (cdL C) = []
    · refine Or.inl ⟨7, Or.inr rfl, fun w' hb => (hN w' hb).mono ?_⟩
      rintro e w'' ⟨h | h, hb2⟩
      · exact ⟨h.2, hb2⟩
      · exact absurd h0 h.1
    · refine Or.inr ⟨p, (offL y.l p (cdL C)).length, rfl, m3, ⟨rfl, by omega, hp, rfl, List.length_pos_iff.2 h0, by unfold offL; omega, hok⟩, fun w' hb => (hN w' hb).mono ?_⟩
      rintro e w'' ⟨h | ⟨_, O, xa, xc, rfl, hO⟩, hb2⟩
      · exact absurd h.1 h0
      · exact ⟨⟨O, rfl, ⟨⟨_, xa, xc, -1, hO, hb.size, hb2.size, by omega⟩, hb.trans (hb2.mono hb.size)⟩⟩, hb2⟩
theorem offerstays_any (y : SgArg) (x : Int) (C : List SgArg) (aC : Option Addr) (cC : Nat) (w : World) (hT : OfT w) (hy : y.In w w.heap.size) (hC : HistIn w w.heap.size aC C) (hlC : C.length ≤ 9223372036854775807) :
    Calls Tryd.prog 7 #[.agg #[.slice y.a y.l.length y.c, .int .i64 x], .slice aC C.length cC] w fun e w' => e = .returned (.bool true) ∧ Below w.heap.size w w' := by
  by_cases h60 : y.l.length ≤ 60
  · cases hlit : litB C with
    | false => exact stays_far y.l y.a aC _ y.c _ cC x C w hT rfl hlC hC (Or.inr hlit)
    | true =>
      rcases new_law y x C aC cC w hT hy hC h60 hlit with ⟨er, her, hN⟩ | ⟨p, t, rfl, hok, f, hN⟩
      · exact stays_no y.l y.a aC _ y.c _ cC x er C w hT rfl hlC hC h60 hlit her (Lib.hid hN)
      · exact stays_yes y.l y.a aC _ y.c _ cC p t _ C w hT rfl hlC hC h60 hlit f hok hy.1 (Lib.hid hN)
  · exact stays_far y.l y.a aC _ y.c _ cC x C w hT rfl hlC hC (Or.inl (by omega))
end Go.Proofs.YtgpcflpeddnfcaaDoor
set_option linter.unusedVariables false
set_option linter.unusedSimpArgs false
namespace Go.Proofs.YtgpcflpeddnfcaaDoor
open Go.RowKit Go.Sort
set_option maxHeartbeats 4000000 in
theorem at04_t (l m : List Sg2) (a b : Option Addr) (n k c d : Nat) (w : World) (hn : l.length = n) (hk : m.length = k) (hl : n ≤ 1000000) (hkn : k ≤ n) (hv : ∀ i, i < k → (l.getD i (0, 0)).1 = (m.getD i (0, 0)).1) (hs : Signs w a l) (ht : Signs w b m) :
    Calls Tryd.prog 43 #[.slice a n c, .slice b k d, .int .i64 0] w fun e w' => e = .returned (.bool true) ∧ Below w.heap.size w w' := by
  have HS := Lib.hid hs; have HT := Lib.hid ht; have HN := Lib.hid hn; have HK := Lib.hid hk; have HV := Lib.hid hv
  have h0 : ¬ (n : Int) < k := by omega
  clear hs ht hn hk hv
  go_enter Tryd.func43, Tryd.ntmps43
  go_wp2_with fail
  go_loopw [7] (fun iv wr => ∃ j : Nat, j ≤ k ∧ iv = .int .i64 (j : Int) ∧ Hid (Below w.heap.size w wr)) (fun iv _ => k - (intOf iv).toNat)
  case atStart => exact ⟨0, Nat.zero_le _, rfl, Lib.hid (Below.refl _ _)⟩
  case round =>
    obtain ⟨j, hj, rfl, HB⟩ := hrel
    by_cases hlt : j < k
    · have hj1 : (j : Int) < k := by omega
      have hj0 : (0 : Int) ≤ j := by omega
      have hjn : (j : Int) < n := by omega
      obtain ⟨ba, oa, rfl, _, c1, _⟩ := (HS.out.below HB.out) j (by rw [HN.out]; omega)
      obtain ⟨bb, ob, rfl, _, d1, _⟩ := (HT.out.below HB.out) j (by rw [HK.out]; exact hlt)
      rw [HV.out j hlt] at c1
      generalize (m.getD j (0, 0)).1 = v at *
      go_wp2_with fail
      go_quiet (fail)
      go_wp2_with fail
      go_roundw
      case rel => exact ⟨j + 1, by omega, by go_num, Lib.hid (drewN_below HB.out _)⟩
      case measure => (simp [intOf]; try omega)
    · obtain rfl : j = k := by omega
      have hj1 : ¬ (j : Int) < j := by omega
      go_wp2_with fail
      go_ret
      exact ⟨rfl, HB.out⟩
theorem vs_getD {l m : List Sg2} {k : Nat} (hl : k ≤ l.length) (hm : k ≤ m.length) (h : (vsL l).take k = (vsL m).take k) : ∀ i, i < k → (l.getD i (0, 0)).1 = (m.getD i (0, 0)).1 := fun i hi => by
  rw [← vsL_at l i (by omega), ← vsL_at m i (by omega)]
  have e := congrArg (fun z => z.getD i 0) h
  simp only [List.getD, List.getElem?_take, hi, if_true] at e
  simpa [List.getD] using e
section
variable {L : List Sg2} {n p t : Nat} {T : List (List Sg2)}
theorem OWf.hd (f : OWf L n p t T) {x : List Sg2} (hx : x ∈ T) : (vsL (wdL L p)).take (p - wdB L p) = (vsL x).take (p - wdB L p) := by
  have h := okC_out (f.ok.each x hx).1
  have e := wdL_len (L := L) (p := p) (by rw [f.hn]; exact f.hp)
  exact cmn_take _ _ _ (by rw [e] at h; exact h.2.2.1)
/-- What the stem says. -/
def stemL (L : List Sg2) (p : Nat) (T : List (List Sg2)) : List Sg2 := wdL L p ++ insL L p T 0
theorem stem_cut {m N q : Nat} (h : OwY L n p T 0 m N q) (f : OWf L n p t T) : ((lnY L p T 0).drop (wdB L p)).take (q - wdB L p) = stemL L p T := by
  have hB := wdB_le L p
  have e1 := f.hp; have e2 := f.hn; have e3 := h.hm; have e4 := h.hq
  have hl : (L.take p).length = p := by rw [List.length_take]; omega
  unfold lnY stemL wdL
  rw [List.append_assoc, List.drop_append_of_le_length (by rw [hl]; exact hB), List.drop_take, ← List.append_assoc]
  rw [List.take_append_of_le_length (by rw [List.length_append, List.length_take, List.length_drop]; omega)]
  rw [List.take_of_length_le (by rw [List.length_append, List.length_take, List.length_drop]; omega)]
theorem stem_len (f : OWf L n p t T) : (stemL L p T).length = stm T ∧ p - wdB L p ≤ stm T := by
  have hne : T ≠ [] := fun e => by have := f.ht; have := f.t0; rw [e] at *; simp at *; omega
  have hr := stm_rng f.ok hne
  have ew := wdL_len (L := L) (p := p) (by rw [f.hn]; exact f.hp)
  rw [ew] at hr
  refine ⟨?_, hr.1⟩
  unfold stemL insL ofIns
  rw [if_pos rfl, List.length_append, ew, List.length_take, List.length_drop]; omega
theorem stem_vs (f : OWf L n p t T) {x : List Sg2} (hx : x ∈ T) : stm T ≤ x.length ∧ (vsL x).take (stm T) = (vsL (stemL L p T)).take (stm T) := by
  have hne : T ≠ [] := fun e => by have := f.ht; have := f.t0; rw [e] at *; simp at *; omega
  have hr := stm_rng f.ok hne
  have ew := wdL_len (L := L) (p := p) (by rw [f.hn]; exact f.hp)
  rw [ew] at hr
  have h0m := getD_memT (T := T) (j := 0) (by rw [f.ht]; exact f.t0)
  have hst := stm_take hx
  have hlen : stm T ≤ x.length := by
    cases T with
    | nil => exact absurd rfl hne
    | cons y ys =>
      have h1 := (stm_le_iff y ys (stm (y :: ys))).1 (Nat.le_refl _) x hx
      have h2 := (cmn_le (vsL y) (vsL x)).2
      rw [vsL_len] at h2; omega
  refine ⟨hlen, ?_⟩
  have e1 : vsL (stemL L p T) = (vsL (T.getD 0 [])).take (stm T) := by
    unfold stemL insL ofIns
    rw [if_pos rfl]
    have e2 : vsL (wdL L p) = (vsL (T.getD 0 [])).take (p - wdB L p) := by
      rw [← f.hd h0m, List.take_of_length_le (by rw [vsL_len, ew]; exact Nat.le_refl _)]
    have e3 : vsL (((T.getD 0 []).drop (p - wdB L p)).take (stm T - (p - wdB L p))) = ((vsL (T.getD 0 [])).drop (p - wdB L p)).take (stm T - (p - wdB L p)) := by
      unfold vsL; rw [List.map_take, List.map_drop]
    rw [show vsL (wdL L p ++ ((T.getD 0 []).drop (p - wdB L p)).take (stm T - (p - wdB L p))) = vsL (wdL L p) ++ vsL (((T.getD 0 []).drop (p - wdB L p)).take (stm T - (p - wdB L p))) by unfold vsL; rw [List.map_append], e2, e3]
    rw [← List.take_add, show p - wdB L p + (stm T - (p - wdB L p)) = stm T by omega]
  rw [e1, List.take_take, Nat.min_self]
  exact hst
end
end Go.Proofs.YtgpcflpeddnfcaaDoor
