/-
  vfs: what a crash keeps.
-/
import Derived.Test.YtlkocmnnchgdeaaVf8
import Derived.Test.YtlkocmnnchgdeaaShelf
import Derived.Shelf.SlMaps.Clone
set_option linter.unusedVariables false
set_option linter.unusedSimpArgs false
namespace Go.Proofs.Ytlkocmnnchgdeaa
set_option maxRecDepth 100000
open Go.RowKit
/-- The files after one change is cut by byte k. -/
def cutS (k : Nat) (q : ChR) (s : Fls × Nat) : Fls × Nat :=
  if q.1 = 0 ∧ 0 < k then (fput s.1 q.2.1.data.toList (vpre k q.2.2.2), vcnt s.1 s.2 q.2.1.data.toList) else s
/-- The files after the first i changes are cut. -/
def cutF (k : Nat) (W : List ChR) (s : Fls × Nat) : Nat → Fls × Nat
  | 0 => s
  | i + 1 => cutS k (W.getD i c0) (cutF k W s i)
theorem cutS_le (k : Nat) (q : ChR) (s : Fls × Nat) : (cutS k q s).2 ≤ s.2 + 1 := by
  unfold cutS
  split
  · exact vcnt_le _ _ _
  · exact Nat.le_succ _
theorem cutF_le (k : Nat) (W : List ChR) (s : Fls × Nat) : ∀ i, (cutF k W s i).2 ≤ s.2 + i
  | 0 => Nat.le_refl _
  | i + 1 => by have := cutF_le k W s i; have := cutS_le k (W.getD i c0) (cutF k W s i); unfold cutF; omega
/-- Each change is a write, or a rename that byte k does not keep. -/
def CutOk (k : Nat) (W : List ChR) : Prop := ∀ i, i < W.length → (W.getD i c0).2.1.size ≤ maxLen ∧ (W.getD i c0).2.2.2.size ≤ 1000000 ∧ ((W.getD i c0).1 = 0 ∨ ((W.getD i c0).1 = 1 ∧ k < 128))
section
variable {B P : Nat} {D : VD} {ops : Int} {down : Bool} {g2 g3 : Value} {w w' : World}
theorem ks_cell (h : w.ownsRow B 5 1 (.slice D.ka D.kn D.kc) D.kn (kR D.K)) (hl : D.K.length = D.kn) (hp : 0 < D.kn) : ∃ g, D.ka = some ⟨g, 0, none⟩ ∧ w.cell? ⟨g, 0, none⟩ = some (.int .u8 (D.K.getD 0 0)) := by
  rcases h.2 with ⟨e, h0⟩ | ⟨g, cap, cur, e, _, hg, _⟩
  · omega
  · injection e with e1 e2 e3
    subst e3
    have := World.ownsRow.cellAt (e1 ▸ h) 0 (by omega)
    refine ⟨g, e1, this.trans ?_⟩
    unfold kR
    rw [List.getElem?_map, List.getElem?_eq_getElem (by omega), List.getD, List.getElem?_eq_getElem (by omega)]
    rfl
theorem vclone_map {b n : Nat} {f : Fls} (h : FlM w b f n) : Calls Try.prog 33 #[.map (some b)] w fun e w' => e = .returned (.map (some w.heap.size)) ∧ FlM w' w.heap.size f n ∧ Below w.heap.size w w' := by
  obtain ⟨D0, h1, h2⟩ := h.ex
  refine (AnyW.maps_Clone_owns Try.clone33 9 fR b n D0 w h1).mono ?_
  rintro e w' ⟨he, h3, _, hb⟩
  exact ⟨he, ⟨D0, h3, h2⟩, hb⟩
/-- The disk, the first i changes cut. -/
def VD.cut (D : VD) (k i : Nat) : VD := { D with f1 := (cutF k D.W (D.f1, D.n1) i).1, n1 := (cutF k D.W (D.f1, D.n1) i).2 }
theorem VD.cut_no {k i : Nat} {q : ChR} (hq : D.W.getD i c0 = q) (hn : ¬ (q.1 = 0 ∧ 0 < k)) : D.cut k (i + 1) = D.cut k i := by
  unfold VD.cut
  show ({ D with f1 := (cutS k (D.W.getD i c0) _).1, n1 := (cutS k (D.W.getD i c0) _).2 } : VD) = _
  unfold cutS
  rw [hq, if_neg hn]
theorem VD.cut_yes {k i : Nat} {nm tn tx : ByteArray} (hq : D.W.getD i c0 = (0, nm, tn, tx)) (hk : 0 < k) : D.cut k (i + 1) = { D.cut k i with f1 := fput (D.cut k i).f1 nm.data.toList (vpre k tx), n1 := vcnt (D.cut k i).f1 (D.cut k i).n1 nm.data.toList } := by
  unfold VD.cut
  show ({ D with f1 := (cutS k (D.W.getD i c0) _).1, n1 := (cutS k (D.W.getD i c0) _).2 } : VD) = _
  unfold cutS
  rw [hq, if_pos ⟨rfl, hk⟩]
theorem vkept_yes (nm tn tx : ByteArray) (k : Nat) (hk : k < 256) (htx : tx.size ≤ 1000000) (h0 : 0 < k) :
    Calls Try.prog 32 #[.agg #[.int .i64 0, .string nm, .string tn, .string tx], .int .u8 k] w fun e w' => e = .returned (.tuple #[.agg #[.int .i64 0, .string nm, .string tn, .string (vpre k tx)], .bool true]) ∧ Below w.heap.size w w' := by
  refine (vkept_write nm tn tx k hk htx).mono ?_
  rintro e w' ⟨he, hb⟩
  rw [decide_eq_true h0] at he
  exact ⟨he, hb⟩
theorem vkept_not {kd : Int} (nm tn tx : ByteArray) (k : Nat) (hk : k < 256) (htx : tx.size ≤ 1000000) (h0 : (kd = 0 ∧ k = 0) ∨ (kd = 1 ∧ k < 128)) :
    Calls Try.prog 32 #[.agg #[.int .i64 kd, .string nm, .string tn, .string tx], .int .u8 k] w fun e w' => (∃ ty : ByteArray, e = .returned (.tuple #[.agg #[.int .i64 kd, .string nm, .string tn, .string ty], .bool false])) ∧ Below w.heap.size w w' := by
  rcases h0 with ⟨rfl, rfl⟩ | ⟨rfl, h⟩
  · refine (vkept_write nm tn tx 0 hk htx).mono ?_
    rintro e w' ⟨he, hb⟩
    exact ⟨⟨_, he⟩, hb⟩
  · refine (vkept_rename nm tn tx k h).mono ?_
    rintro e w' ⟨he, hb⟩
    exact ⟨⟨tx, he⟩, hb⟩
set_option maxHeartbeats 8000000 in
theorem vcut_any {k : Nat} (h : DkS B P D ops false w) (hne : D.W ≠ []) (hl : D.W.length ≤ 10) (hn : D.n1 ≤ 100) (hmod : ∀ i, i < D.W.length → 0 < D.kn → i % D.kn = 0) (hk : (k : Int) = if D.kn = 0 then 0 else D.K.getD 0 0) (hkr : k < 256) (hok : CutOk k D.W) :
    Calls Try.prog 28 #[.pointer (some ⟨P, 0, none⟩), .slice D.ka D.kn D.kc] w fun e w' => e = .returned (.tuple #[]) ∧ (∃ b v, DkS B P { D.cut k D.W.length with b2 := b, f2 := (D.cut k D.W.length).f1, n2 := (D.cut k D.W.length).n1, wv := v, W := [] } ops true w') ∧ Below B w w' := by
  obtain ⟨n, hn0⟩ : ∃ n, D.W.length = n := ⟨_, rfl⟩
  obtain ⟨a, c, hv⟩ := h.wr.form hn0
  obtain ⟨y0, _, y2, _⟩ := h.cells
  rw [hv] at y2
  have H := Lib.hid h
  have HV := Lib.hid hv; have HN := Lib.hid hn0; have HM := Lib.hid hmod; have HOK := Lib.hid hok; have HNE := Lib.hid hne
  have HL := Lib.hid hl; have HN1 := Lib.hid hn
  clear h hv hmod hok hne hl hn
  go_enter Try.func28, Try.ntmps28
  go_upto_region 1 with fail
  go_loopw [14] (fun iv wr => ∃ i : Nat, iv = .int .i64 (i : Int) ∧ i ≤ n ∧ Hid (DkS B P (D.cut k i) ops false wr) ∧ Hid (Below B w wr)) (fun iv _ => n - (intOf iv).toNat)
  case atStart => exact ⟨0, rfl, Nat.zero_le _, H, Lib.hid (Below.refl _ _)⟩
  case round =>
    obtain ⟨i, rfl, hin, HD, HBl⟩ := hrel
    by_cases hlt : i < n
    · obtain ⟨g, ha, hg, x0, x1, x2, x3⟩ := OwW.cell (n := n) (a := a) (c := c) (L := D.W) (by have := HD.out.wr; rw [show (D.cut k i).wv = .slice a n c from HV.out] at this; exact this) HN.out i hlt
      subst ha
      obtain ⟨hs1, hs2, hkind⟩ := HOK.out i (by rw [HN.out]; exact hlt)
      obtain ⟨⟨kd, nm, tn, tx⟩, hq⟩ : ∃ q, D.W.getD i c0 = q := ⟨_, rfl⟩
      rw [hq] at x0 x1 x2 x3 hs1 hs2 hkind
      dsimp at x0 x1 x2 x3 hs1 hs2 hkind
      obtain ⟨Y0, _⟩ := HD.out.cells
      have hi10 : i < 10 := by have := HL.out; have := HN.out; omega
      have hi1 : (i : Int) < n := by omega
      have hi2 : (0 : Int) ≤ i := by omega
      have bX := below_alloc wr (.cells #[.int .i64 kd, .string nm, .string tn, .string tx] 47)
      have HX := Lib.hid (HD.out.below bX)
      have BX := Lib.hid bX
      by_cases hyes : kd = 0 ∧ 0 < k
      · obtain ⟨rfl, hk0⟩ := hyes
        have KW := Lib.hid (vkept_yes (w := wr.alloc (.cells #[.int .i64 0, .string nm, .string tn, .string tx] 47)) nm tn tx k hkr hs2 hk0)
        have hkn : D.kn ≠ 0 := fun e => by rw [if_pos e] at hk; omega
        rw [if_neg hkn] at hk
        obtain ⟨gk, hka, z0⟩ := ks_cell (D := D) (show wr.ownsRow B 5 1 (.slice D.ka D.kn D.kc) D.kn (kR D.K) from HD.out.ks) HD.out.kl (by omega)
        rw [← hk] at z0
        have zz := fun o => ((below_alloc wr o).cell (p := ⟨gk, 0, none⟩) (block_lt_of_cell z0)).trans z0
        have hkn1 : (0 : Int) < D.kn := by omega
        have hrem : (i : Int) % (D.kn : Int) = 0 := by have := HM.out i (by rw [HN.out]; exact hlt) (by omega); omega
        rw [hka]
        clear bX hkind hkn hk
        go_upto_region 8 with (go_at_call 32; refine KW.out.mono ?_; rintro e w4 ⟨rfl, hb4⟩; have B4 := Lib.hid (seqB BX.out hb4); have b5 := below_alloc w4 (.cells #[.int .i64 0, .string nm, .string tn, .string (vpre k tx)] 47); have H5 := Lib.hid ((HX.out.below hb4).below b5).drew; have B5 := Lib.hid (seqB B4.out b5).drew; have Z0 := H5.out.cells.1; clear hb4 b5)
        have DO := Lib.hid (vdo_write H5.out.m1 nm tn (vpre k tx) hs1 (by have := cutF_le k D.W (D.f1, D.n1) i; have := HN1.out; show (cutF k D.W (D.f1, D.n1) i).2 ≤ 1000; try dsimp only at *; omega))
        go_region_law (go_simp; go_at_call 21; refine DO.out.mono ?_; rintro e w6 ⟨rfl, hM, hG⟩; have R := Lib.hid (H5.out.put1 hM hG); clear hM hG)
        all_goals
          go_wp2
          go_roundw
          case rel => exact ⟨i + 1, by go_num, by omega, by rw [VD.cut_yes hq hk0]; exact Lib.hid R.out.1, Lib.hid (HBl.out.trans ((B5.out.mono HD.out.hB).trans R.out.2))⟩
          case measure => (simp [intOf]; try omega)
      · have KN := Lib.hid (vkept_not (w := wr.alloc (.cells #[.int .i64 kd, .string nm, .string tn, .string tx] 47)) nm tn tx k hkr hs2 (by rcases hkind with h | h; exact Or.inl ⟨h, by omega⟩; exact Or.inr h))
        have hcut := Lib.hid (VD.cut_no (D := D) (k := k) (i := i) hq hyes)
        by_cases hkn : D.kn = 0
        · rw [if_pos hkn] at hk
          obtain rfl : k = 0 := by omega
          rw [hkn]
          clear bX hkind hkn hk hyes
          go_upto_region 9 with (go_at_call 32; refine KN.out.mono ?_; rintro e w4 ⟨⟨ty, rfl⟩, hb4⟩; have B4 := Lib.hid (seqB BX.out hb4); have b5 := below_alloc w4 (.cells #[.int .i64 kd, .string nm, .string tn, .string ty] 47); have H5 := Lib.hid ((HX.out.below hb4).below b5); have B5 := Lib.hid (seqB B4.out b5); clear hb4 b5)
          go_wp2
          go_roundw
          case rel => exact ⟨i + 1, by go_num, by omega, by rw [hcut.out]; exact H5, Lib.hid (HBl.out.trans (B5.out.mono HD.out.hB))⟩
          case measure => (simp [intOf]; try omega)
        · rw [if_neg hkn] at hk
          obtain ⟨gk, hka, z0⟩ := ks_cell (D := D) (show wr.ownsRow B 5 1 (.slice D.ka D.kn D.kc) D.kn (kR D.K) from HD.out.ks) HD.out.kl (by omega)
          rw [← hk] at z0
          have zz := fun o => ((below_alloc wr o).cell (p := ⟨gk, 0, none⟩) (block_lt_of_cell z0)).trans z0
          have hkn1 : (0 : Int) < D.kn := by omega
          have hrem : (i : Int) % (D.kn : Int) = 0 := by have := HM.out i (by rw [HN.out]; exact hlt) (by omega); omega
          rw [hka]
          clear bX hkind hkn hk hyes
          go_upto_region 9 with (go_at_call 32; refine KN.out.mono ?_; rintro e w4 ⟨⟨ty, rfl⟩, hb4⟩; have B4 := Lib.hid (seqB BX.out hb4); have b5 := below_alloc w4 (.cells #[.int .i64 kd, .string nm, .string tn, .string ty] 47); have H5 := Lib.hid ((HX.out.below hb4).below b5); have B5 := Lib.hid (seqB B4.out b5); clear hb4 b5)
          go_wp2
          go_roundw
          case rel => exact ⟨i + 1, by go_num, by omega, by rw [hcut.out]; exact H5, Lib.hid (HBl.out.trans (B5.out.mono HD.out.hB))⟩
          case measure => (simp [intOf]; try omega)
    · obtain rfl : i = n := by omega
      have CC := Lib.hid (vclone_map HD.out.m1)
      obtain ⟨Y0, _, _, _, _, _, Yf⟩ := HD.out.cells
      go_wp2_with (first
        | (go_at_call 33; refine CC.out.mono ?_; rintro e w4 ⟨rfl, hm4, hb4⟩
           have S1 := Lib.hid ((HD.out.below hb4).seen hm4 HD.out.hB (by have := HD.out.m1.lt; omega))
           have P1 := Lib.hid (S1.out.put 1 (.map (some wr.heap.size)) (ops' := ops) (down' := false) (g2' := .map (some wr.heap.size)) (g3' := D.wv) rfl)
           have P2 := Lib.hid (P1.out.1.put 5 (.bool true) (ops' := ops) (down' := true) (g2' := .map (some wr.heap.size)) (g3' := D.wv) rfl)
           have CL := Lib.hid (vclear_any P2.out.1 HNE.out)
           have B4 := Lib.hid (hb4.mono HD.out.hB)
           obtain ⟨_, z1, _, _, _, z5, zf⟩ := S1.out.cells
           clear hm4 hb4)
        | (go_at_call 22; refine CL.out.mono ?_; rintro e w5 ⟨rfl, ⟨v, hv5⟩, hb5⟩; have H5 := Lib.hid hv5; have B5 := Lib.hid hb5; clear hv5 hb5))
      first | refine bodyPost_end (results_none rfl _ _ _) rfl ?_ | refine bodyPost_ret (results_none rfl _ _ _) rfl ?_
      refine ⟨rfl, ⟨wr.heap.size, v, ?_⟩, (((HBl.out.trans B4.out).trans P1.out.2).trans P2.out.2).trans B5.out⟩
      rw [HN.out]
      exact H5.out
end
end Go.Proofs.Ytlkocmnnchgdeaa
