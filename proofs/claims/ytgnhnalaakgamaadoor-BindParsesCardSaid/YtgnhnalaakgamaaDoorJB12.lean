/-
  Joined: Es3 Bd7 Bd8 Bd9 Bd12 Es4 Es5 Es6 Es7 Spb.
-/
import Derived.Test.YtgnhnalaakgamaaDoorJB07
import Derived.Test.YtgnhnalaakgamaaDoorJB09
import Derived.Test.YtgnhnalaakgamaaDoorJB11
import Derived.Lib.AppendZerosOnto
import Derived.Deep.RegionHeld3
import Derived.BigQuiet
import Derived.Deep.Onto
set_option linter.unusedVariables false
set_option linter.unusedSimpArgs false
set_option maxRecDepth 100000
set_option linter.unusedVariables false
set_option linter.unusedSimpArgs false
namespace Go.Proofs.YtgnhnalaakgamaaDoor
open Go.RowKit
/-- Bytes below 128. -/
def Asc (l : List UInt8) : Prop := ∀ c ∈ l, c.toNat < 128
theorem mkL_ext (l : List UInt8) (a b : Nat) : (mkL l).extract a b = mkL ((l.drop a).take (b - a)) := by
  apply ByteArray.ext
  rw [ByteArray.data_extract]
  apply Array.ext'
  simp [mkL, List.extract_eq_take_drop]
theorem mkL_size (l : List UInt8) : (mkL l).size = l.length := size_list l
theorem mkL_txt (l : List UInt8) : mkL l = txt (l.map fun c => (c.toNat : Int)) := by
  unfold mkL txt
  congr 2
  rw [List.map_map]
  conv => lhs; rw [← List.map_id l]
  exact List.map_congr_left fun c _ => (u8_back c).symm
/-- Among such bytes each stands for itself. -/
theorem asc_at {l : List UInt8} (h : Asc l) {i : Nat} (hi : i < l.length) : vAt (mkL l) i = ((l.getD i 0).toNat, 1) := by
  have hs : i < (mkL l).size := by rw [mkL_size]; exact hi
  have hc := h (l.getD i 0) (by rw [List.getD, List.getElem?_eq_getElem hi]; exact List.getElem_mem hi)
  have e1 : vAt (mkL l) i = vAt ((mkL l).extract i (mkL l).size) 0 := by rw [vAt_tail _ i 0 (by omega)]; rfl
  have e2 : (mkL l).extract i (mkL l).size = txt (oneI ((l.getD i 0).toNat : Int) ++ ((l.drop (i + 1)).map fun c => (c.toNat : Int))) := by
    rw [mkL_ext, mkL_size, mkL_txt, List.take_of_length_le (by rw [List.length_drop]; exact Nat.le_refl _), ascii_one (by omega) (by omega), List.drop_eq_getElem_cons hi, List.map_cons, List.getD, List.getElem?_eq_getElem hi]; rfl
  rw [e1, e2, vAt_enc _ _ ((ptB_iff _).2 (by omega)), ascii_one (by omega) (by omega)]
  rfl
theorem asc_drop {l : List UInt8} (h : Asc l) (n : Nat) : Asc (l.drop n) := fun c hc => h c (List.mem_of_mem_drop hc)
theorem asc_one {l : List UInt8} (h : Asc l) (hl : l ≠ []) : oneS (mkL l) = ((l.headD 0).toNat, 1) := by
  have hp := List.length_pos_iff.2 hl
  unfold oneS
  rw [if_neg (by rw [mkL_size]; omega), asc_at h hp]
  cases l with
  | nil => exact absurd rfl hl
  | cons c l => rfl
theorem pre2 (x y : UInt8) (l : List UInt8) : Lib.hasPrefix l [x, y] = decide (l.take 2 = [x, y]) := by
  unfold Lib.hasPrefix
  rw [Bool.eq_iff_iff, decide_eq_true_eq]
  match l with
  | [] => simp
  | [a] => simp [List.isPrefixOf]
  | a :: b :: r => simp [List.isPrefixOf]; constructor <;> (rintro ⟨h1, h2⟩; exact ⟨h1.symm, h2.symm⟩)
theorem pre_any (l : List UInt8) (x y : UInt8) (w : World) : Calls Tryd.prog 12 #[.string (mkL l), .string ⟨#[x, y]⟩] w fun e w' => e = .returned (.bool (decide (l.take 2 = [x, y]))) ∧ w = w' := by
  refine (Tryd.strings_HasPrefix (mkL l) ⟨#[x, y]⟩ w).mono ?_
  rintro e w' ⟨rfl, rfl⟩
  exact ⟨by rw [show (mkL l).data.toList = l from rfl, show (⟨#[x, y]⟩ : ByteArray).data.toList = [x, y] from rfl, pre2], rfl⟩
end Go.Proofs.YtgnhnalaakgamaaDoor
set_option linter.unusedVariables false
set_option linter.unusedSimpArgs false
namespace Go.Proofs.YtgnhnalaakgamaaDoor
open Go.RowKit
theorem bC_take (L : List BRow) (k : Nat) : (bC L).take (k * 2) = bC (L.take k) := by
  induction L generalizing k with
  | nil => simp [bC]
  | cons x L ih =>
    cases k with
    | zero => simp [bC]
    | succ k =>
      have h := ih k
      rw [show (k + 1) * 2 = k * 2 + 1 + 1 by omega]
      show Value.string x.1 :: Value.int .i64 x.2 :: (bC L).take (k * 2) = _
      rw [h]; rfl
theorem bC_drop (L : List BRow) (k : Nat) : (bC L).drop (k * 2) = bC (L.drop k) := by
  induction L generalizing k with
  | nil => simp [bC]
  | cons x L ih =>
    cases k with
    | zero => simp [bC]
    | succ k =>
      have h := ih k
      rw [show (k + 1) * 2 = k * 2 + 1 + 1 by omega]
      show (bC L).drop (k * 2) = _
      rw [h]; rfl
theorem elemBr : Tryd.prog.elem 23 = 47 := by kernel_rfl
theorem sizeBr (w : World) : (sizeOf 47).run Tryd.prog w = .ok 2 w := by kernel_rfl
theorem infoBz : (Tryd.prog.info? 47).map (·.size) = some 2 := by kernel_rfl
theorem bcutH (w : World) (g n c t : Nat) (h : t ≤ c) : (Instr.slice 23 (.slice (some ⟨g, 0, none⟩) n c) none (some (.int .i64 (t : Int))) none).run Tryd.prog w = .ok (.slice (some ⟨g, 0, none⟩) t c) w := by
  rw [run_slice_h (P := Tryd.prog) w 23 _ n c (by kernel_rfl) .i64 (t : Int) (by omega) (by omega), elemBr, sizeBr]
  show Result.ok (Value.slice (if c = 0 then _ else _) t c) w = _
  split
  · rfl
  · simp only [Option.map_some, addG, Nat.zero_mul, Nat.add_zero]
theorem bcutL_ex (w : World) (a : Option Addr) (n c f : Nat) (h : f ≤ n) : (Instr.slice 23 (.slice a n c) (some (.int .i64 (f : Int))) none none).run Tryd.prog w = .ok (.slice (if c = f then a else a.map (·.add (f * 2))) (n - f) (c - f)) w := by
  rw [run_slice_l (P := Tryd.prog) w 23 a n c (by kernel_rfl) .i64 (f : Int) (by omega) (by omega), elemBr, sizeBr]
  rfl
theorem bcutL (w : World) (g n c f : Nat) (h : f ≤ n) (hc : f < c) : (Instr.slice 23 (.slice (some ⟨g, 0, none⟩) n c) (some (.int .i64 (f : Int))) none none).run Tryd.prog w = .ok (.slice (some ⟨g, f * 2, none⟩) (n - f) (c - f)) w := by
  rw [bcutL_ex w _ n c f h, if_neg (by omega)]
  simp only [Option.map_some, addG, Nat.zero_add]
/-- Cells of a part of a block. -/
theorem bnews {w : World} {g off : Nat} {cur : Array Value} {t : TypeId} {f : Nat × Nat} {cs : List Value} (h : w.heap[g]? = some (.cells cur t f)) (hc : ∀ j, j < cs.length → cur[off + j]? = cs[j]?) : ∀ j v, cs[j]? = some v → w.cell? ((⟨g, off, none⟩ : Addr).add j) = some v := fun j v hv => by
  have hj : j < cs.length := (List.getElem?_eq_some_iff.1 hv).1
  rw [addG, cell_of_row _ _ _ _ _ _ h, hc j hj]; exact hv
theorem bhead {cur : Array Value} {k : Nat} {xs : List Value} (h : cur.toList.take k = xs) {i : Nat} {cs : List Value} (hcs : xs.drop i = cs) : ∀ j, j < cs.length → cur[i + j]? = cs[j]? := fun j hj => by
  subst hcs; subst h
  rw [List.getElem?_drop, List.getElem?_take_of_lt (by rw [List.length_drop, List.length_take] at hj; omega), Array.getElem?_toList]
/-- The cells of a row into whose middle some are laid. -/
theorem mid_cells {cur : List Value} {A R X : List Value} (h : cur.take (A.length + R.length) = A ++ R) (hc : A.length + R.length + X.length ≤ cur.length) :
    (((cur.take (A.length + X.length) ++ R ++ cur.drop (A.length + X.length + R.length)).take A.length ++ X ++ (cur.take (A.length + X.length) ++ R ++ cur.drop (A.length + X.length + R.length)).drop (A.length + X.length)).take (A.length + X.length + R.length) = A ++ X ++ R) := by
  have h1 : (cur.take (A.length + X.length)).length = A.length + X.length := by rw [List.length_take]; omega
  have h2 : cur.take A.length = A := by
    have := congrArg (List.take A.length) h
    rw [List.take_take, Nat.min_eq_left (by omega), List.take_left' rfl] at this
    exact this
  have h3 : (cur.take (A.length + X.length) ++ R ++ cur.drop (A.length + X.length + R.length)).take A.length = A := by
    rw [List.append_assoc, List.take_append_of_le_length (by omega), List.take_take, Nat.min_eq_left (by omega), h2]
  have h4 : (cur.take (A.length + X.length) ++ R ++ cur.drop (A.length + X.length + R.length)).drop (A.length + X.length) = R ++ cur.drop (A.length + X.length + R.length) := by
    rw [List.append_assoc, List.drop_left' h1]
  rw [h3, h4, ← List.append_assoc, List.take_left' (by simp only [List.length_append])]
/-- The cells of a new row that is filled piece by piece. -/
theorem new_cells {cur : List Value} {A R X : List Value} (h : cur.take A.length = A) (hc : A.length + X.length + R.length ≤ cur.length) :
    (((cur.take A.length ++ X ++ cur.drop (A.length + X.length)).take (A.length + X.length) ++ R ++ (cur.take A.length ++ X ++ cur.drop (A.length + X.length)).drop (A.length + X.length + R.length)).take (A.length + X.length + R.length) = A ++ X ++ R) := by
  have h1 : (cur.take A.length ++ X ++ cur.drop (A.length + X.length)).take (A.length + X.length) = A ++ X := by
    rw [h, List.take_left' (by simp only [List.length_append])]
  rw [h1, List.take_left' (by simp only [List.length_append])]
end Go.Proofs.YtgnhnalaakgamaaDoor
set_option linter.unusedVariables false
set_option linter.unusedSimpArgs false
namespace Go.Proofs.YtgnhnalaakgamaaDoor
open Go.RowKit
/-- The slice of one row that is inserted. -/
def InB (w : World) (r : Nat) (x : BRow) : Prop := ∃ t, w.heap[r]? = some (.cells #[.string x.1, .int .i64 x.2] t (0, 0))
theorem InB.news {w : World} {r : Nat} {x : BRow} (h : InB w r x) : ∀ j v, (bC [x])[j]? = some v → w.cell? ((⟨r, 0, none⟩ : Addr).add j) = some v := h.elim fun t h => bnews h (fun j hj => by
  have hj2 : j < 2 := hj
  rw [Nat.zero_add]
  match j, hj2 with
  | 0, _ => rfl
  | 1, _ => rfl)
def IbP (w : World) (B : Nat) (a : Option Addr) (n : Nat) (R : List BRow) (e : Ending) (w' : World) : Prop := ∃ a' c', e = .returned (.slice a' (n + 1) c') ∧ OwB w' B (.slice a' (n + 1) c') R ∧ w.grownBy w' (a.map (·.block))
/-- An append of one row to a row of the call's own. -/
theorem wpList_app_bs {w : World} {ops : Array Oper} {rest : List Oper} {o : Oper} {a : Act} {Q : Exit → Act → World → Prop} (hgd : Region.wanted o (yielded ops a.tmps) = true) (s x : Operand)
    (ho : o.op = .call { callee := .builtin .append, args := #[s, x], argTypes := #[23, 23] }) (base : Nat)
    (ad : Option Addr) (n c : Nat) (L : List BRow) (hs : a.eval s = .slice ad n c) (hown : OwB w base (.slice ad n c) L) (hn : L.length = n) (r : Nat) (y : BRow) (hx : a.eval x = .slice (some ⟨r, 0, none⟩) 1 1) (hr : InB w r y)
    (hlen : n ≤ 1000) (hbase : base ≤ w.heap.size)
    (h : ∀ ad' c' w', OwB w' base (.slice ad' (n + 1) c') (L ++ [y]) → w.grownBy w' (ad.map (·.block)) → wpList Tryd.prog ops Q rest (a.put o.dst (.slice ad' (n + 1) c')) w') : wpList Tryd.prog ops Q (o :: rest) a w := by
  obtain ⟨bb, hbb, hb1, hb2⟩ := bytesBr
  obtain ⟨i0, hi, hz0, hz1, hz2⟩ := info_parts hbb
  subst hn
  refine wpList_step fun K hK => ?_
  rw [if_pos hgd]
  refine wp_append_own w s x 23 ho base 47 i0 _ 2 bb Tryd.underlying23 hi hz0 hz1 hz2 rfl (by decide) _ L.length _ hs hown ⟨r, 0, none⟩ 1 1 (bC [y]) hx rfl hr.news (bC_one _) (by unfold maxLen; omega) (Nat.le_trans (Nat.mul_le_mul (show L.length + 1 ≤ 1000000 by omega) hb2) (by decide)) hbase (fun v' w' a1 a2 _ => ?_)
  rw [← bC_app] at a1
  have hO : OwB w' base v' (L ++ [y]) := by unfold OwB; rw [List.length_append]; exact a1
  obtain ⟨ad', c', rfl⟩ := hO.form (n := L.length + 1) (by rw [List.length_append]; rfl)
  refine hK _ _ (h ad' c' w' hO ?_)
  cases ad <;> exact a2
set_option maxRecDepth 100000 in
set_option maxHeartbeats 4000000 in
theorem bins_end (L : List BRow) (x : BRow) (a : Option Addr) (n c B r : Nat) (w : World) (h : OwB w B (.slice a n c) L) (hn : L.length = n) (hl : n ≤ 1000) (hx : InB w r x) (hB : B ≤ w.heap.size) :
    Calls Tryd.prog 21 #[.slice a n c, .int .i64 (n : Int), .slice (some ⟨r, 0, none⟩) 1 1] w (IbP w B a n (L ++ [x])) := by
  have SL := fun w => bcutL_ex w a n c n (Nat.le_refl _)
  generalize (if c = n then a else a.map (·.add (n * 2))) = y at *
  have HO := Lib.hid h; have HN := Lib.hid hn; have HL := Lib.hid hl; have HX := Lib.hid hx; have HB := Lib.hid hB
  clear h hn hl hx hB
  go_enter Tryd.func21, Tryd.ntmps21
  go_wp2_with (at_builtin; refine wpList_app_bs rfl _ _ rfl B a n c L rfl HO.out HN.out r x rfl HX.out HL.out HB.out ?_)
  intro ad5 c5 w5 o5 g5
  have HS := Lib.hid o5; have HG := Lib.hid g5
  clear o5 g5
  go_wp2
  go_ret
  exact ⟨ad5, c5, rfl, HS.out, HG.out⟩
theorem over_nob (w : World) (a b : Addr) (la ca lb cb : Nat) (hne : a.block ≠ b.block) {tA tB : TypeId} {csA csB : Array Value} {lo hi : Nat} {fB : Nat × Nat} (hA : w.heap[a.block]? = some (.cells csA tA (lo, hi))) (hlo : hi ≤ lo) (hB : w.heap[b.block]? = some (.cells csB tB fB)) (h0 : csB.size ≠ 0) :
    (callFunc 34 #[.slice (some a) la ca, .slice (some b) lb cb]).run Tryd.prog w = .ok (.value (.bool false)) w := by
  rw [run_callFunc_extern (P := Tryd.prog) Tryd.func34 (by kernel_rfl) (by kernel_rfl) (by kernel_rfl) (e := Extern.SlicesOverlaps.overlaps #[23, 23] #[4]) (by kernel_rfl),
    Lib.run_overlaps_apart w 23 4 47 Tryd.underlying23 2 sizeBr a b la ca lb cb hne tA tB csA.size csB.size (by simp [World.shape?, hA]) (by simp [World.shape?, hB]) h0 (by simp [World.frozen?, hA]; omega) (by simp [World.frozen?, hA]; omega)]
  rfl
set_option maxRecDepth 100000 in
set_option maxHeartbeats 4000000 in
/-- Behind some, where there is room. -/
theorem bins_room (L : List BRow) (x : BRow) (g n c i r B : Nat) (cur : Array Value) (w : World) (hg : w.heap[g]? = some (.cells cur 47 (0, 0))) (hcs : cur.size = c * 2) (hcur : cur.toList.take (n * 2) = bC L) (hn : L.length = n) (hi : i < n) (hfit : n + 1 ≤ c) (hmx : c ≤ maxLen) (hx : InB w r x) (hne : r ≠ g) (hBg : B ≤ g) :
    Calls Tryd.prog 21 #[.slice (some ⟨g, 0, none⟩) n c, .int .i64 (i : Int), .slice (some ⟨r, 0, none⟩) 1 1] w (IbP w B (some ⟨g, 0, none⟩) n (L.take i ++ [x] ++ L.drop i)) := by
  have hmx' : c ≤ 9223372036854775807 := hmx
  have S0 := fun w => bcutL w g n c i (by omega) (by omega)
  have S1 : ∀ w, (Instr.slice 23 (.slice (some ⟨g, 0, none⟩) n c) none (some (.int .i64 ((n : Int) + 1))) none).run Tryd.prog w = .ok (.slice (some ⟨g, 0, none⟩) (n + 1) c) w := fun w => bcutH w g n c (n + 1) (by omega)
  have S2 : ∀ w, (Instr.slice 23 (.slice (some ⟨g, 0, none⟩) (n + 1) c) (some (.int .i64 ((i : Int) + 1))) none none).run Tryd.prog w = .ok (.slice (some ⟨g, (i + 1) * 2, none⟩) (n - i) (c - (i + 1))) w := fun w => by
    have := bcutL w g (n + 1) c (i + 1) (by omega) (by omega)
    rwa [show n + 1 - (i + 1) = n - i by omega] at this
  have S3 : ∀ w, (Instr.slice 23 (.slice (some ⟨g, 0, none⟩) (n + 1) c) (some (.int .i64 (i : Int))) none none).run Tryd.prog w = .ok (.slice (some ⟨g, i * 2, none⟩) (n + 1 - i) (c - i)) w := fun w => bcutL w g (n + 1) c i (by omega) (by omega)
  have hsz0 : cur.size ≠ 0 := by omega
  obtain ⟨tx, hxc⟩ := hx
  have hx : InB w r x := ⟨tx, hxc⟩
  have hov := over_nob w ⟨r, 0, none⟩ ⟨g, (i + 1) * 2, none⟩ 1 1 (n - i) (c - (i + 1)) hne hxc (Nat.le_refl 0) hg hsz0
  have hAl : (bC (L.take i)).length = i * 2 := by rw [bC_len, List.length_take]; omega
  have hRl : (bC (L.drop i)).length = (n - i) * 2 := by rw [bC_len, List.length_drop]; omega
  have hcl : cur.toList.length = c * 2 := by rw [Array.length_toList, hcs]
  have cp1 := run_copy_w (P := Tryd.prog) w.drew 23 23 3 47 g ((i + 1) * 2) (n - i) (c - (i + 1)) ⟨g, i * 2, none⟩ (n + 1 - i) (c - i) cur 47 (bC (L.drop i)) 2 (n - i) Tryd.underlying23 infoBz hg (by simp only [Nat.min_def]; split <;> omega) hRl (bnews hg (bhead hcur (bC_drop L i))) (by omega) (bC_one _)
  have hmid := mid_cells (cur := cur.toList) (A := bC (L.take i)) (R := bC (L.drop i)) (X := bC [x]) (by
    rw [hAl, hRl, show i * 2 + (n - i) * 2 = n * 2 by omega, hcur, ← bC_app, List.take_append_drop]) (by rw [hAl, hRl, hcl]; show _ + 2 ≤ _; omega)
  rw [hAl, hRl, show (bC [x]).length = 2 from rfl, show i * 2 + 2 = (i + 1) * 2 by omega] at hmid
  rw [hRl] at cp1
  obtain ⟨D1, hD1⟩ : ∃ D1, (cur.toList.take ((i + 1) * 2) ++ bC (L.drop i) ++ cur.toList.drop ((i + 1) * 2 + (n - i) * 2)) = D1 := ⟨_, rfl⟩
  rw [hD1] at cp1 hmid
  have hD1l : D1.length = c * 2 := by
    rw [← hD1]; simp only [List.length_append, List.length_take, List.length_drop, hRl, hcl]; omega
  have b1 := setRow_heap w.drew g _ D1.toArray 47 (0, 0) hg
  have hx1 : InB (w.drew.setRow g D1.toArray) r x := by
    refine ⟨tx, ?_⟩; rw [setRow_other w.drew g r _ hne]; exact hxc
  obtain ⟨W1, hW1⟩ : ∃ W1, w.drew.setRow g D1.toArray = W1 := ⟨_, rfl⟩
  rw [hW1] at cp1 b1 hx1
  have cp2 := run_copy_w (P := Tryd.prog) W1 23 23 3 47 g (i * 2) (n + 1 - i) (c - i) ⟨r, 0, none⟩ 1 1 D1.toArray 47 (bC [x]) 2 1 Tryd.underlying23 infoBz b1 (by simp only [Nat.min_def]; split <;> omega) rfl hx1.news (by show _ + 2 ≤ _; rw [List.size_toArray]; omega) (bC_one _)
  rw [show (bC [x]).length = 2 from rfl, show i * 2 + 2 = (i + 1) * 2 by omega, List.toList_toArray] at cp2
  obtain ⟨D2, hD2⟩ : ∃ D2, (D1.take (i * 2) ++ bC [x] ++ D1.drop ((i + 1) * 2)) = D2 := ⟨_, rfl⟩
  rw [hD2] at cp2 hmid
  have hD2l : D2.length = c * 2 := by
    rw [← hD2]; simp only [List.length_append, List.length_take, List.length_drop, hD1l, show (bC [x]).length = 2 from rfl]; omega
  have b2 := setRow_heap W1 g _ D2.toArray 47 (0, 0) b1
  have HF : Hid (OwB (W1.setRow g D2.toArray) B (.slice (some ⟨g, 0, none⟩) (n + 1) c) (L.take i ++ [x] ++ L.drop i)) := Lib.hid (by
    have hR : (L.take i ++ [x] ++ L.drop i).length = n + 1 := by simp only [List.length_append, List.length_take, List.length_drop, List.length_cons, List.length_nil]; omega
    unfold OwB
    rw [hR]
    refine ⟨by rw [bC_len, hR], .inr ⟨g, c, D2.toArray, rfl, hBg, b2, hfit, hmx, by rw [List.size_toArray, hD2l], ?_⟩⟩
    rw [List.toList_toArray, show (n + 1) * 2 = (i + 1) * 2 + (n - i) * 2 by omega, hmid, bC_app, bC_app])
  have HG : Hid (w.grownBy (W1.setRow g D2.toArray) (some g)) := Lib.hid ⟨by rw [← hW1]; rfl, by rw [← hW1]; rfl, by rw [← hW1]; rfl, by rw [← hW1]; simp [World.setRow], fun k hk hkg => by
    have hkg2 : k ≠ g := fun e => hkg (by rw [e])
    rw [setRow_other _ g k _ hkg2, ← hW1, setRow_other _ g k _ hkg2]; rfl⟩
  have g3 : ¬ (i : Int) = (n : Int) := by omega
  have g4 : ((i : Int) == (n : Int)) = false := by rw [beq_eq_false_iff_ne]; exact g3
  have g5 : (n : Int) + 1 ≤ (c : Int) := by omega
  have g6 : (i : Int) + 1 < (c : Int) := by omega
  have g7 : (i : Int) < (n : Int) := by omega
  have HC1 := Lib.hid cp1; have HC2 := Lib.hid cp2
  clear hsz0 hcs hcur hxc hn hi hfit hmx hx hx1 hne hBg hAl hRl hcl hmid hD1 hD1l b1 hD2 hD2l b2 hW1 hg cp1 cp2
  go_enter Tryd.func21, Tryd.ntmps21
  go_wp2_with (simp only [hov])
  have cp1 := HC1.out
  have cp2 := HC2.out
  go_region
  go_wp2
  go_ret
  exact ⟨_, c, rfl, HF.out, HG.out⟩
end Go.Proofs.YtgnhnalaakgamaaDoor
set_option linter.unusedVariables false
set_option linter.unusedSimpArgs false
namespace Go.Proofs.YtgnhnalaakgamaaDoor
open Go.RowKit
theorem cmp_self : ∀ a : List UInt8, Lib.compareBytes a a = 0
  | [] => rfl
  | x :: a => by
    unfold Lib.compareBytes
    rw [if_neg (UInt8.lt_irrefl x), if_neg (UInt8.lt_irrefl x)]
    exact cmp_self a
theorem cmp_zero : ∀ a b : List UInt8, Lib.compareBytes a b = 0 → a = b
  | [], [], _ => rfl
  | [], _ :: _, h => by unfold Lib.compareBytes at h; omega
  | _ :: _, [], h => by unfold Lib.compareBytes at h; omega
  | x :: a, y :: b, h => by
    unfold Lib.compareBytes at h
    split at h
    · omega
    · split at h
      · omega
      · rename_i h1 h2
        have e : x = y := UInt8.le_antisymm (UInt8.not_lt.1 h2) (UInt8.not_lt.1 h1)
        rw [e, cmp_zero a b h]
theorem cmp_flip : ∀ a b : List UInt8, Lib.compareBytes a b < 0 → 0 < Lib.compareBytes b a
  | [], [], h => by unfold Lib.compareBytes at h; omega
  | [], _ :: _, h => by unfold Lib.compareBytes; omega
  | _ :: _, [], h => by unfold Lib.compareBytes at h; omega
  | x :: a, y :: b, h => by
    unfold Lib.compareBytes at h ⊢
    split at h
    · rename_i h1
      rw [if_neg (UInt8.lt_asymm h1), if_pos h1]; omega
    · split at h
      · omega
      · rename_i h1 h2
        rw [if_neg h2, if_neg h1]
        exact cmp_flip a b h
theorem cmp_trans : ∀ a b c : List UInt8, Lib.compareBytes a b < 0 → Lib.compareBytes b c < 0 → Lib.compareBytes a c < 0
  | [], [], _, h, _ => by unfold Lib.compareBytes at h; omega
  | [], _ :: _, [], _, h => by unfold Lib.compareBytes at h; omega
  | [], _ :: _, _ :: _, _, _ => by unfold Lib.compareBytes; omega
  | _ :: _, [], _, h, _ => by unfold Lib.compareBytes at h; omega
  | _ :: _, _ :: _, [], _, h => by unfold Lib.compareBytes at h; omega
  | x :: a, y :: b, z :: c, h, h2 => by
    unfold Lib.compareBytes at h h2 ⊢
    split at h
    · rename_i h1
      have h3 : x < z := by
        split at h2
        · rename_i h4; exact UInt8.lt_trans h1 h4
        · split at h2
          · omega
          · rename_i h4 h5
            have e : y = z := UInt8.le_antisymm (UInt8.not_lt.1 h5) (UInt8.not_lt.1 h4)
            rw [← e]; exact h1
      rw [if_pos h3]; omega
    · split at h
      · omega
      · rename_i h1 h1'
        have e : x = y := UInt8.le_antisymm (UInt8.not_lt.1 h1') (UInt8.not_lt.1 h1)
        subst e
        split at h2
        · rename_i h4; rw [if_pos h4]; omega
        · split at h2
          · omega
          · rename_i h4 h5
            rw [if_neg h4, if_neg h5]
            exact cmp_trans a b c h h2
/-- What two names compare as. -/
def cmpR (p q : ByteArray) : Int := Lib.compareBytes p.data.toList q.data.toList
theorem cmpR_zero {p q : ByteArray} (h : cmpR p q = 0) : p = q := by
  have := cmp_zero _ _ h
  cases p; cases q; simp only at this; exact congrArg ByteArray.mk (Array.toList_inj.1 this)
theorem cmpR_self (p : ByteArray) : cmpR p p = 0 := cmp_self _
theorem cmp_neg : ∀ a b : List UInt8, 0 < Lib.compareBytes a b → Lib.compareBytes b a < 0
  | [], [], h => by unfold Lib.compareBytes at h; omega
  | [], _ :: _, h => by unfold Lib.compareBytes at h; omega
  | _ :: _, [], h => by unfold Lib.compareBytes; omega
  | x :: a, y :: b, h => by
    unfold Lib.compareBytes at h ⊢
    split at h
    · omega
    · split at h
      · rename_i h1 h2
        rw [if_pos h2]; omega
      · rename_i h1 h2
        rw [if_neg h2, if_neg h1]
        exact cmp_neg a b h
theorem cmpR_neg {p q : ByteArray} (h : 0 < cmpR p q) : cmpR q p < 0 := cmp_neg _ _ h
/-- Rows rise by their names. -/
def Srt (L : List BRow) : Prop := L.Pairwise fun x y => cmpR x.1 y.1 < 0
theorem bcm_cmp (L : List BRow) (s : ByteArray) (i : Nat) : bcm L s i = cmpR (L.getD i b0).1 s := rfl
theorem srt_mono {L : List BRow} (h : Srt L) (s : ByteArray) {n : Nat} (hn : L.length = n) : ∀ i j, i ≤ j → j < n → bcm L s j < 0 → bcm L s i < 0 := by
  intro i j hij hj hs
  rcases Nat.lt_or_eq_of_le hij with hlt | rfl
  · rw [bcm_cmp] at hs ⊢
    have hi : i < L.length := by omega
    have hj' : j < L.length := by omega
    have := List.pairwise_iff_getElem.1 h i j hi hj' hlt
    refine cmp_trans _ (L.getD j b0).1.data.toList _ ?_ hs
    rw [List.getD, List.getD, List.getElem?_eq_getElem hi, List.getElem?_eq_getElem hj']
    exact this
  · exact hs
/-- A name is bound. -/
def bput : List BRow → ByteArray → Int → List BRow
  | [], s, c => [(s, c)]
  | x :: L, s, c => if cmpR x.1 s < 0 then x :: bput L s c else if cmpR x.1 s = 0 then (s, c) :: L else (s, c) :: x :: L
theorem bput_ins : ∀ (L : List BRow) (s : ByteArray) (c : Int) (k : Nat), k ≤ L.length → (∀ i, i < k → bcm L s i < 0) → (∀ i, k ≤ i → i < L.length → 0 ≤ bcm L s i) → ¬ (k < L.length ∧ bcm L s k = 0) → bput L s c = L.take k ++ [(s, c)] ++ L.drop k
  | [], s, c, k, hk, _, _, _ => by
    obtain rfl : k = 0 := by simpa using hk
    rfl
  | x :: L, s, c, 0, hk, h1, h2, h3 => by
    have e := h2 0 (Nat.le_refl _) (Nat.zero_lt_succ _)
    have e3 : ¬ cmpR x.1 s = 0 := fun e => h3 ⟨Nat.zero_lt_succ _, e⟩
    have e2 : ¬ cmpR x.1 s < 0 := Int.not_lt.2 e
    unfold bput
    rw [if_neg e2, if_neg e3]; rfl
  | x :: L, s, c, k + 1, hk, h1, h2, h3 => by
    have e : cmpR x.1 s < 0 := h1 0 (Nat.zero_lt_succ _)
    unfold bput
    rw [if_pos e, bput_ins L s c k (Nat.le_of_succ_le_succ hk) (fun i hi => h1 (i + 1) (Nat.succ_lt_succ hi)) (fun i hi hl => h2 (i + 1) (Nat.succ_le_succ hi) (Nat.succ_lt_succ hl)) (fun h => h3 ⟨Nat.succ_lt_succ h.1, h.2⟩)]
    rfl
theorem bput_set : ∀ (L : List BRow) (s : ByteArray) (c : Int) (k : Nat), (∀ i, i < k → bcm L s i < 0) → k < L.length → bcm L s k = 0 → bput L s c = L.set k (s, c)
  | [], s, c, k, _, hk, _ => by simp at hk
  | x :: L, s, c, 0, h1, hk, h2 => by
    have e : cmpR x.1 s = 0 := h2
    unfold bput
    rw [if_neg (by omega), if_pos e]; rfl
  | x :: L, s, c, k + 1, h1, hk, h2 => by
    have e : cmpR x.1 s < 0 := h1 0 (Nat.zero_lt_succ _)
    unfold bput
    rw [if_pos e, bput_set L s c k (fun i hi => h1 (i + 1) (Nat.succ_lt_succ hi)) (Nat.lt_of_succ_lt_succ hk) h2]
    rfl
theorem bput_mem : ∀ (L : List BRow) (s : ByteArray) (c : Int) (y : BRow), y ∈ bput L s c → y = (s, c) ∨ y ∈ L
  | [], s, c, y, h => by
    unfold bput at h; left; simpa using h
  | x :: L, s, c, y, h => by
    unfold bput at h
    split at h
    · rcases List.mem_cons.1 h with h | h
      · right; rw [h]; exact List.mem_cons_self
      · rcases bput_mem L s c y h with h | h
        · left; exact h
        · right; exact List.mem_cons_of_mem _ h
    · split at h
      · rcases List.mem_cons.1 h with h | h
        · left; exact h
        · right; exact List.mem_cons_of_mem _ h
      · rcases List.mem_cons.1 h with h | h
        · left; exact h
        · right; exact h
theorem bput_len : ∀ (L : List BRow) (s : ByteArray) (c : Int), (bput L s c).length ≤ L.length + 1
  | [], s, c => Nat.le_refl _
  | x :: L, s, c => by
    unfold bput
    split
    · have := bput_len L s c; simp only [List.length_cons]; omega
    · split <;> simp only [List.length_cons] <;> omega
theorem bput_srt : ∀ (L : List BRow) (s : ByteArray) (c : Int), Srt L → Srt (bput L s c)
  | [], s, c, _ => List.pairwise_singleton _ _
  | x :: L, s, c, h => by
    have h' := List.pairwise_cons.1 h
    unfold bput
    split
    · rename_i hx
      refine List.pairwise_cons.2 ⟨fun y hy => ?_, bput_srt L s c h'.2⟩
      rcases bput_mem L s c y hy with rfl | hy
      · exact hx
      · exact h'.1 y hy
    · split
      · rename_i hx
        have e := cmpR_zero hx
        refine List.pairwise_cons.2 ⟨fun y hy => ?_, h'.2⟩
        rw [← e]; exact h'.1 y hy
      · rename_i h1 h2
        have h3 : cmpR s x.1 < 0 := cmpR_neg (by omega)
        refine List.pairwise_cons.2 ⟨fun y hy => ?_, h⟩
        rcases List.mem_cons.1 hy with rfl | hy
        · exact h3
        · exact cmp_trans _ _ _ h3 (h'.1 y hy)
/-- A name behind all goes to the end. -/
theorem bput_end : ∀ (L : List BRow) (s : ByteArray) (c : Int), (∀ x ∈ L, cmpR x.1 s < 0) → bput L s c = L ++ [(s, c)]
  | [], s, c, _ => rfl
  | x :: L, s, c, h => by
    unfold bput
    rw [if_pos (h x List.mem_cons_self), bput_end L s c (fun y hy => h y (List.mem_cons_of_mem _ hy))]; rfl
end Go.Proofs.YtgnhnalaakgamaaDoor
set_option linter.unusedVariables false
set_option linter.unusedSimpArgs false
namespace Go.Proofs.YtgnhnalaakgamaaDoor
open Go.RowKit
theorem infoBr24 : (Tryd.prog.info? 47).map (fun i => (i.zero, i.size, i.bytes)) = some (some (.agg #[.string ⟨#[]⟩, .int .i64 0]), 2, 24) := by kernel_rfl
theorem zc_size (n : Nat) : (Builtin.zeroCells (Value.agg #[.string ⟨#[]⟩, .int .i64 0]).cells n).size = n * 2 := by
  have e : (Value.agg #[.string ⟨#[]⟩, .int .i64 0]).cells = #[.string ⟨#[]⟩, .int .i64 0] := rfl
  rw [e]; simp [Builtin.zeroCells]
set_option maxRecDepth 100000 in
set_option maxHeartbeats 4000000 in
/-- Behind some, where there is no room. -/
theorem bins_grow (L : List BRow) (x : BRow) (g n c i r B : Nat) (cur : Array Value) (w : World) (hg : w.heap[g]? = some (.cells cur 47 (0, 0))) (hcs : cur.size = c * 2) (hcur : cur.toList.take (n * 2) = bC L) (hn : L.length = n) (hl : n ≤ 1000) (hi : i < n) (hno : c < n + 1) (hc : n ≤ c) (hx : InB w r x) (hB : B ≤ w.heap.size) :
    Calls Tryd.prog 21 #[.slice (some ⟨g, 0, none⟩) n c, .int .i64 (i : Int), .slice (some ⟨r, 0, none⟩) 1 1] w (IbP w B (some ⟨g, 0, none⟩) n (L.take i ++ [x] ++ L.drop i)) := by
  obtain ⟨i0, hi0, hz0, hz1, hz2⟩ := info_parts infoBr24
  obtain rfl : c = n := by omega
  obtain ⟨k, hk⟩ : ∃ k, i + k = c + 1 := ⟨c + 1 - i, by omega⟩
  have hAl : (bC (L.take i)).length = i * 2 := by rw [bC_len, List.length_take]; omega
  have hRl : (bC (L.drop i)).length = (c - i) * 2 := by rw [bC_len, List.length_drop]; omega
  have hnews : ∀ j v, (bC (L.take i))[j]? = some v → w.drew.cell? ((⟨g, 0, none⟩ : Addr).add j) = some v := bnews (w := w.drew) hg (fun j hj => by
    rw [hAl] at hj
    have h1 := bhead hcur (List.drop_zero (l := bC L)) j (by rw [bC_len]; omega)
    rw [h1, ← bC_take, List.getElem?_take_of_lt (by omega)])
  have hold := run_firstCells_some (P := Tryd.prog) w.drew i0.size i ⟨g, 0, none⟩ i c (bC (L.take i)) (by rw [hz1, hAl]) hnews
  have AP := Lib.run_append_grow_zeros (P := Tryd.prog) w 23 3 23 47 i0 _ .i64 .i64 Tryd.underlying23 Tryd.underlying3 hi0 hz0 (some ⟨g, 0, none⟩) i c (bC (L.take i)) hold k (by omega) (by omega) (by omega) (by omega) (by rw [hz2]; omega) (growslice_fits (by omega) (by rw [hz2]; omega))
  have hge := grownCap_ge w (i + k) c 47
  have hle := grownCap_le_maxLen w (i + k) c 47 (by unfold maxLen; omega)
  obtain ⟨q, hq⟩ : ∃ q, grownCap w (i + k) c 47 = q := ⟨_, rfl⟩
  rw [hq] at AP hge hle
  obtain ⟨D1, hD1⟩ : ∃ D1, ((bC (L.take i)).toArray ++ Builtin.zeroCells (Value.agg #[.string ⟨#[]⟩, .int .i64 0]).cells k ++ Builtin.zeroCells (Value.agg #[.string ⟨#[]⟩, .int .i64 0]).cells (q - (i + k))) = D1 := ⟨_, rfl⟩
  have hD1s : D1.size = q * 2 := by
    rw [← hD1, Array.size_append, Array.size_append, List.size_toArray, hAl, zc_size, zc_size]; omega
  have hD1t : D1.toList.take (i * 2) = bC (L.take i) := by
    rw [← hD1, Array.toList_append, Array.toList_append, List.append_assoc, List.take_left' (by rw [List.toList_toArray, hAl])]
  rw [hD1] at AP
  have b1 := heap_alloc_new w.drew (.cells D1 47)
  have N1 := (Below.refl w.heap.size w).drew.alloc (Nat.le_refl _) (.cells D1 47)
  rw [show w.drew.heap.size = w.heap.size from rfl] at b1
  obtain ⟨W1, hW1⟩ : ∃ W1, w.drew.alloc (.cells D1 47) = W1 := ⟨_, rfl⟩
  rw [hW1] at AP b1 N1
  obtain ⟨h, hh⟩ : ∃ h, w.heap.size = h := ⟨_, rfl⟩
  rw [hh] at AP b1 N1 hB
  have hgh : g < h := by rw [← hh]; exact blk_lt hg
  have hg1 : W1.heap[g]? = some (.cells cur 47 (0, 0)) := (N1.block g hgh).trans hg
  have hx1 : InB W1 r x := by
    obtain ⟨tx, hxc⟩ := hx
    exact ⟨tx, (N1.block r (by rw [← hh]; exact blk_lt hxc)).trans hxc⟩
  have cp1 := run_copy_w (P := Tryd.prog) W1 23 23 3 47 h (i * 2) k (q - i) ⟨r, 0, none⟩ 1 1 D1 47 (bC [x]) 2 1 Tryd.underlying23 infoBz b1 (by simp only [Nat.min_def]; split <;> omega) rfl hx1.news (by show _ + 2 ≤ _; omega) (bC_one _)
  rw [show (bC [x]).length = 2 from rfl] at cp1
  have hD1l : D1.toList.length = q * 2 := by rw [Array.length_toList, hD1s]
  have hfin := new_cells (cur := D1.toList) (A := bC (L.take i)) (R := bC (L.drop i)) (X := bC [x]) (by rw [hAl]; exact hD1t) (by rw [hAl, hRl, hD1l]; show _ + 2 + _ ≤ _; omega)
  rw [hAl, hRl, show (bC [x]).length = 2 from rfl] at hfin
  obtain ⟨D2, hD2⟩ : ∃ D2, (D1.toList.take (i * 2) ++ bC [x] ++ D1.toList.drop (i * 2 + 2)) = D2 := ⟨_, rfl⟩
  rw [hD2] at cp1 hfin
  have hD2l : D2.length = q * 2 := by
    rw [← hD2]; simp only [List.length_append, List.length_take, List.length_drop, hD1l, show (bC [x]).length = 2 from rfl]; omega
  have b2 := setRow_heap W1 h _ D2.toArray 47 (0, 0) b1
  have N2 := Go.below_setRow N1 (Nat.le_refl h) D2.toArray
  have hg2 : (W1.setRow h D2.toArray).heap[g]? = some (.cells cur 47 (0, 0)) := (setRow_other W1 h g _ (by omega)).trans hg1
  obtain ⟨W2, hW2⟩ : ∃ W2, W1.setRow h D2.toArray = W2 := ⟨_, rfl⟩
  rw [hW2] at cp1 b2 N2 hg2
  have cp2 := run_copy_w (P := Tryd.prog) W2.drew 23 23 3 47 h ((i + 1) * 2) (c - i) (q - (i + 1)) ⟨g, i * 2, none⟩ (c - i) (c - i) D2.toArray 47 (bC (L.drop i)) 2 (c - i) Tryd.underlying23 infoBz b2 (Nat.min_self _).symm hRl (bnews (w := W2.drew) hg2 (bhead hcur (bC_drop L i))) (by rw [hRl, List.size_toArray, hD2l]; omega) (bC_one _)
  rw [hRl, List.toList_toArray, show (i + 1) * 2 = i * 2 + 2 by omega] at cp2
  obtain ⟨D3, hD3⟩ : ∃ D3, (D2.take (i * 2 + 2) ++ bC (L.drop i) ++ D2.drop (i * 2 + 2 + (c - i) * 2)) = D3 := ⟨_, rfl⟩
  rw [hD3] at cp2 hfin
  have hD3l : D3.length = q * 2 := by
    rw [← hD3]; simp only [List.length_append, List.length_take, List.length_drop, hD2l, hRl]; omega
  have b3 := setRow_heap W2.drew h _ D3.toArray 47 (0, 0) b2
  have N3 := Go.below_setRow N2.drew (Nat.le_refl h) D3.toArray
  have HF : Hid (OwB (W2.drew.setRow h D3.toArray) B (.slice (some ⟨h, 0, none⟩) (c + 1) q) (L.take i ++ [x] ++ L.drop i)) := Lib.hid (by
    have hR : (L.take i ++ [x] ++ L.drop i).length = c + 1 := by simp only [List.length_append, List.length_take, List.length_drop, List.length_cons, List.length_nil]; omega
    unfold OwB
    rw [hR]
    refine ⟨by rw [bC_len, hR], .inr ⟨h, q, D3.toArray, rfl, hB, b3, by omega, hle, by rw [List.size_toArray, hD3l], ?_⟩⟩
    rw [List.toList_toArray, show (c + 1) * 2 = i * 2 + 2 + (c - i) * 2 by omega, hfin, bC_app, bC_app])
  have HG : Hid (w.grownBy (W2.drew.setRow h D3.toArray) (some g)) := Lib.hid (ud_grown_below (by rw [hh]; exact N3))
  have S0 := fun w => bcutL w g c c i (by omega) (by omega)
  have S1 := fun w => bcutH w g c c i (by omega)
  have S2 : ∀ w, (Instr.slice 23 (.slice (some ⟨h, 0, none⟩) (i + k) q) (some (.int .i64 (i : Int))) none none).run Tryd.prog w = .ok (.slice (some ⟨h, i * 2, none⟩) k (q - i)) w := fun w => by
    have := bcutL w h (i + k) q i (by omega) (by omega)
    rwa [show i + k - i = k by omega] at this
  have S3 : ∀ w, (Instr.slice 23 (.slice (some ⟨h, 0, none⟩) (i + k) q) (some (.int .i64 ((i : Int) + 1))) none none).run Tryd.prog w = .ok (.slice (some ⟨h, i * 2 + 2, none⟩) (c - i) (q - (i + 1))) w := fun w => by
    have := bcutL w h (i + k) q (i + 1) (by omega) (by omega)
    rwa [show i + k - (i + 1) = c - i by omega, show (i + 1) * 2 = i * 2 + 2 by omega] at this
  have g3 : ¬ (i : Int) = (c : Int) := by omega
  have g4 : ((i : Int) == (c : Int)) = false := by rw [beq_eq_false_iff_ne]; exact g3
  have g5 : (c : Int) < (c : Int) + 1 := by omega
  have g6 : (c : Int) + 1 ≤ 1000000 := by omega
  have g7 : (i : Int) < (c : Int) := by omega
  have hkI : (c : Int) + 1 - (i : Int) = (k : Int) := by omega
  have HK := Lib.hid hk; have HAP := Lib.hid AP; have HC1 := Lib.hid cp1; have HC2 := Lib.hid cp2
  clear AP cp1 cp2 hcs hcur hn hl hi hc hno hx hx1 hAl hRl hnews hold hD1 hD1s hD1t hD1l hD2 hD2l hD3 hD3l hfin b1 N1 b2 N2 b3 N3 hg hg1 hg2 hgh hW1 hW2 hh hge hle hq hB hi0 hz0 hz1 hz2 hk
  go_enter Tryd.func21, Tryd.ntmps21
  go_wp2_with (at_builtin; refine Lib.wpList_append_run _ rfl _ _ _ _ rfl _ _ rfl rfl _ _ HAP.out ?_; have cp1 := HC1.out)
  have cp2 := HC2.out
  go_region
  go_wp2
  go_ret
  refine ⟨_, q, ?_, HF.out, HG.out⟩
  rw [HK.out]; rfl
/-- One binding is inserted. -/
theorem binsert_any (L : List BRow) (x : BRow) (a : Option Addr) (n c i B r : Nat) (w : World) (h : OwB w B (.slice a n c) L) (hn : L.length = n) (hl : n ≤ 1000) (hi : i ≤ n) (hx : InB w r x) (hB : B ≤ w.heap.size) (hne : ∀ ad, a = some ad → r ≠ ad.block) :
    Calls Tryd.prog 21 #[.slice a n c, .int .i64 (i : Int), .slice (some ⟨r, 0, none⟩) 1 1] w (IbP w B a n (L.take i ++ [x] ++ L.drop i)) := by
  by_cases hin : i = n
  · subst hin
    rw [List.take_of_length_le (by omega), List.drop_of_length_le (by omega), List.append_nil]
    exact bins_end L x a i c B r w h hn hl hx hB
  · have h' := h.2
    rw [hn] at h'
    rcases h' with ⟨_, h0⟩ | ⟨g, cap, cur, hv, hBg, hg, hle, hmx, hcs, hcur⟩
    · omega
    · injection hv with e1 e2 e3
      subst e1; subst e3
      by_cases hroom : n + 1 ≤ c
      · exact bins_room L x g n c i r B cur w hg hcs hcur hn (by omega) hroom hmx hx (hne _ rfl) hBg
      · exact bins_grow L x g n c i r B cur w hg hcs hcur hn hl (by omega) (by omega) hle hx hB
end Go.Proofs.YtgnhnalaakgamaaDoor
set_option linter.unusedVariables false
set_option linter.unusedSimpArgs false
namespace Go.Proofs.YtgnhnalaakgamaaDoor
open Go.RowKit
/-- All blocks below B stay, but p. -/
structure KeepB (B p : Nat) (w w' : World) : Prop where
  os : w'.os = w.os
  tape : w'.tape = w.tape
  output : w'.output = w.output
  size : w.heap.size ≤ w'.heap.size
  block : ∀ k, k < B → k ≠ p → w'.heap[k]? = w.heap[k]?
theorem KeepB.refl (B p : Nat) (w : World) : KeepB B p w w := ⟨rfl, rfl, rfl, Nat.le_refl _, fun _ _ _ => rfl⟩
theorem KeepB.trans {B p : Nat} {w w' w'' : World} (h : KeepB B p w w') (h2 : KeepB B p w' w'') : KeepB B p w w'' :=
  ⟨h2.os.trans h.os, h2.tape.trans h.tape, h2.output.trans h.output, Nat.le_trans h.size h2.size, fun k hk hp => (h2.block k hk hp).trans (h.block k hk hp)⟩
theorem KeepB.below {B p : Nat} {w w' : World} (h : Below w.heap.size w w') (hB : B ≤ w.heap.size) : KeepB B p w w' := ⟨h.os, h.tape, h.output, h.size, fun k hk _ => h.block k (by omega)⟩
theorem cell_blk {w w' : World} {b : Nat} (h : w'.heap[b]? = w.heap[b]?) (i : Nat) : w'.cell? ⟨b, i, none⟩ = w.cell? ⟨b, i, none⟩ := by
  unfold World.cell?; rw [h]
end Go.Proofs.YtgnhnalaakgamaaDoor
set_option linter.unusedVariables false
set_option linter.unusedSimpArgs false
namespace Go.Proofs.YtgnhnalaakgamaaDoor
open Go.RowKit
theorem nx_size {l : List UInt8} (h : l ≠ []) : (nxF l).2 ≤ l.length := by
  have hp := List.length_pos_iff.2 h
  unfold nxF; split
  · rename_i h1
    have := congrArg List.length h1
    rw [List.length_take] at this
    simp at this
    show 2 ≤ _; omega
  · split
    · rename_i h2; exact h2.2.1
    · exact hp
theorem un_fuel : ∀ (f g : Nat) (l : List UInt8) (k : Nat), l.length ≤ f → l.length ≤ g → unF f l k = unF g l k := by
  intro f
  induction f with
  | zero =>
    intro g l k hf hg
    obtain rfl := List.length_eq_zero_iff.1 (Nat.le_zero.1 hf)
    cases g with
    | zero => rfl
    | succ g => unfold unF; rfl
  | succ f ih =>
    intro g l k hf hg
    cases g with
    | zero =>
      obtain rfl := List.length_eq_zero_iff.1 (Nat.le_zero.1 hg)
      unfold unF; rfl
    | succ g =>
      unfold unF
      by_cases hl : l = []
      · rw [if_pos hl, if_pos hl]
      · rw [if_neg hl, if_neg hl]
        cases k with
        | zero => rfl
        | succ k =>
          have := nx_pos l
          show _ :: unF f _ k = _ :: unF g _ k
          rw [ih g _ k (by rw [List.length_drop]; omega) (by rw [List.length_drop]; omega)]
/-- The values of a line, at most so many. -/
def unS (l : List UInt8) (k : Nat) : List Int := unF l.length l k
theorem unS_nil (k : Nat) : unS [] k = [] := rfl
theorem unS_zero (l : List UInt8) : unS l 0 = [] := by
  unfold unS
  cases h : l.length with
  | zero => rfl
  | succ n => unfold unF; split <;> rfl
theorem unS_step {l : List UInt8} (h : l ≠ []) (k : Nat) : unS l (k + 1) = (nxF l).1 :: unS (l.drop (nxF l).2) k := by
  unfold unS
  have hp := List.length_pos_iff.2 h
  obtain ⟨n, hn⟩ : ∃ n, l.length = n + 1 := ⟨l.length - 1, by omega⟩
  rw [hn]
  conv => lhs; unfold unF
  rw [if_neg h]
  show _ :: unF n _ k = _
  have := nx_pos l
  rw [un_fuel n _ _ k (by rw [List.length_drop]; omega) (Nat.le_refl _)]
theorem unS_len (l : List UInt8) (k : Nat) : (unS l k).length ≤ k := by
  have key : ∀ f l k, (unF f l k).length ≤ k := by
    intro f
    induction f with
    | zero => intro l k; exact Nat.zero_le _
    | succ f ih =>
      intro l k
      unfold unF
      split
      · exact Nat.zero_le _
      · cases k with
        | zero => exact Nat.le_refl _
        | succ k => exact Nat.succ_le_succ (ih _ k)
  exact key _ l k
theorem unS_ln {l : List (Int × Int)} (h : ∀ p ∈ l, rightB p.1 = true) (k : Nat) (hk : l.length ≤ k) : unS (lnL l) k = l.map (·.1) := un_ln h _ k (Nat.le_refl _) hk
/-- Signs of a history. -/
def hsL (l : List Int) : List (Int × Int) := l.map fun v => (v, 3)
theorem hsL_len (l : List Int) : (hsL l).length = l.length := by simp [hsL]
theorem hsL_app (l : List Int) (v : Int) : hsL (l ++ [v]) = hsL l ++ [(v, 3)] := by simp [hsL]
theorem asc_dec {l : List UInt8} (h : Asc l) {i : Nat} (hi : i < l.length) : (Utf8.decode (mkL l) i).2 = 1 := by
  rw [← vAt_size _ _ (by rw [mkL_size]; exact hi), asc_at h hi]
theorem below_keepB {n B p : Nat} {w w1 w2 : World} (h : Below n w w1) (k : KeepB B p w1 w2) (hB : n ≤ B) (hp : n ≤ p) : Below n w w2 :=
  ⟨k.os.trans h.os, k.tape.trans h.tape, k.output.trans h.output, Nat.le_trans h.size k.size, fun j hj => (k.block j (by omega) (by omega)).trans (h.block j hj)⟩
end Go.Proofs.YtgnhnalaakgamaaDoor
set_option linter.unusedVariables false
set_option linter.unusedSimpArgs false
namespace Go.Proofs.YtgnhnalaakgamaaDoor
open Go.RowKit
/-- Lists of signs lie in memory. -/
def SgsIn (w : World) (a : Option Addr) (h : List (List (Int × Int))) : Prop :=
  ∀ i, i < h.length → ∃ b off ai ci, a = some ⟨b, off, none⟩ ∧ b < w.heap.size ∧ w.cell? ⟨b, off + i, none⟩ = some (.slice ai (h.getD i []).length ci) ∧ Signs w ai (h.getD i [])
theorem SgsIn.below {w w' : World} {a : Option Addr} {h : List (List (Int × Int))} (s : SgsIn w a h) (hb : Below w.heap.size w w') : SgsIn w' a h := fun i hi => by
  obtain ⟨b, off, ai, ci, e, hlt, h1, h2⟩ := s i hi
  exact ⟨b, off, ai, ci, e, Nat.lt_of_lt_of_le hlt hb.size, (hb.cell (p := ⟨b, off + i, none⟩) hlt).trans h1, h2.below hb⟩
/-- A history's text. -/
def txL (h : List (List (Int × Int))) : List UInt8 := h.flatMap fun l => lnL l ++ [10]
theorem tx_take (h : List (List (Int × Int))) (k : Nat) (hk : k < h.length) : txL (h.take (k + 1)) = txL (h.take k) ++ lnL (h.getD k []) ++ [10] := by
  unfold txL
  rw [List.take_succ_eq_append_getElem hk, List.flatMap_append, List.getD, List.getElem?_eq_getElem hk, List.flatMap_cons, List.flatMap_nil, List.append_nil, List.append_assoc]; rfl
theorem tx_len {h : List (List (Int × Int))} (hs : ∀ l ∈ h, l.length ≤ 100 ∧ sgC l = true) : (txL h).length ≤ 801 * h.length := by
  induction h with
  | nil => exact Nat.zero_le _
  | cons l h ih =>
    have h1 := hs l (List.mem_cons_self ..)
    have h2 := lnL_len (sg_right h1.2)
    have h3 := ih (fun m hm => hs m (List.mem_cons_of_mem _ hm))
    unfold txL at h3 ⊢
    rw [List.flatMap_cons, List.length_append, List.length_append, List.length_singleton, List.length_cons]
    omega
theorem getD_memL {h : List (List (Int × Int))} {k : Nat} (hk : k < h.length) : h.getD k [] ∈ h := by
  rw [List.getD, List.getElem?_eq_getElem hk]; exact List.getElem_mem hk
end Go.Proofs.YtgnhnalaakgamaaDoor
set_option linter.unusedVariables false
set_option linter.unusedSimpArgs false
namespace Go.Proofs.YtgnhnalaakgamaaDoor
open Go.RowKit
/-- The line's end. -/
def nlB : ByteArray := ⟨#[10]⟩
theorem split_nl (s : ByteArray) (w : World) (hs : s.size < 4294967281) : Calls Tryd.prog 11 #[.string s, .string ⟨#[10]⟩] w fun e w' => e = .returned (.slice (some ⟨w.heap.size, 0, none⟩) (Lib.countB s nlB + 1) (Lib.countB s nlB + 1)) ∧ w.alloc (.cells ((Lib.splitB nlB 0 (Lib.countB s nlB) s).map Value.string).toArray 9) = w' := by
  have hle := Lib.countB_le nlB (by decide) s.size s (Nat.le_refl _)
  have hlen := Lib.splitB_all nlB (by decide) 0 _ s rfl
  have c := Any.strings_genSplit_core Tryd.lays221 (by kernel_rfl) s nlB 0 (-1) (Lib.countB s nlB + 1) w hs (by decide) (Nat.zero_le _)
    (fun x c hx => by
      have h := Tryd.strings_Index_one x 10 (w.alloc (.cells c 9))
      refine Calls.mono h ?_
      rintro e w' ⟨rfl, rfl⟩
      refine ⟨?_, rfl⟩
      show _ = Ending.returned (Value.int .i64 (Lib.index x.data.toList [10]))
      rw [Lib.index_one])
    (by
      have h := Tryd.strings_Count_one s 10 w
      refine Calls.mono h ?_
      rintro e w' ⟨rfl, rfl⟩
      refine ⟨?_, rfl⟩
      show _ = Ending.returned (Value.int .i64 ((Lib.count s.data.toList [10] : Nat) : Int))
      rw [Lib.count_one]
      rfl)
    (by decide) (by decide) (by rw [if_pos (by decide)]; omega)
  rw [Nat.add_sub_cancel, hlen] at c
  have e2 : Lib.cellsOf (Lib.splitB nlB 0 (Lib.countB s nlB) s) (Lib.countB s nlB + 1) = ((Lib.splitB nlB 0 (Lib.countB s nlB) s).map Value.string).toArray := by rw [← hlen]; exact Lib.cellsOf_full _
  rw [e2] at c
  have c' : Calls Tryd.prog 23 #[.string s, .string ⟨#[10]⟩, .int .i64 0, .int .i64 (-1)] w _ := c
  go_enter Tryd.func11, Tryd.ntmps11
  go_wp2_with (go_at_call 23; refine c'.mono ?_; rintro e w' ⟨rfl, hw⟩)
  go_ret
  exact ⟨rfl, rfl⟩
/-- A text is pieces. -/
def PiOf (l : List UInt8) (ps : List (List UInt8)) : Prop := Lib.splitB nlB 0 (Lib.countB (mkL l) nlB) (mkL l) = ps.map mkL
theorem PiOf.len {l : List UInt8} {ps : List (List UInt8)} (h : PiOf l ps) : ps.length = Lib.countB (mkL l) nlB + 1 := by
  have := Lib.splitB_all nlB (by decide) 0 _ (mkL l) rfl
  rw [show Lib.splitB nlB 0 (Lib.countB (mkL l) nlB) (mkL l) = ps.map mkL from h, List.length_map] at this
  exact this
theorem PiOf.read {l : List UInt8} {ps : List (List UInt8)} (h : PiOf l ps) (w : World) (hs : l.length < 4294967281) : Calls Tryd.prog 11 #[.string (mkL l), .string ⟨#[10]⟩] w fun e w' => e = .returned (.slice (some ⟨w.heap.size, 0, none⟩) ps.length ps.length) ∧ (∀ i, i < ps.length → w'.cell? ⟨w.heap.size, i, none⟩ = some (.string (mkL (ps.getD i [])))) ∧ w.heap.size < w'.heap.size ∧ Below w.heap.size w w' := by
  have := split_nl (mkL l) w (by rw [mkL_size]; exact hs)
  rw [show Lib.splitB nlB 0 (Lib.countB (mkL l) nlB) (mkL l) = ps.map mkL from h, ← h.len] at this
  refine this.mono ?_
  rintro e w' ⟨rfl, rfl⟩
  refine ⟨rfl, fun i hi => ?_, by simp, below_alloc _ _⟩
  rw [cell_of_row _ _ _ _ _ _ (heap_alloc_new _ _)]
  rw [List.getElem?_toArray, List.getElem?_map, List.getElem?_map, List.getD, List.getElem?_eq_getElem hi]
  rfl
/-- The entries of pieces. -/
def rdE (ps : List (List UInt8)) (k : Nat) : List (List (Int × Int)) := (ps.map fun p => hsL (unS p k)).filter fun l => !l.isEmpty
theorem rdE_len (ps : List (List UInt8)) (k : Nat) : (rdE ps k).length ≤ ps.length := by
  unfold rdE
  refine Nat.le_trans (List.length_filter_le _ _) ?_
  rw [List.length_map]; exact Nat.le_refl _
theorem rdE_take (ps : List (List UInt8)) (k i : Nat) (h : i < ps.length) : rdE (ps.take (i + 1)) k = rdE (ps.take i) k ++ (if hsL (unS (ps.getD i []) k) = [] then [] else [hsL (unS (ps.getD i []) k)]) := by
  unfold rdE
  rw [List.take_succ_eq_append_getElem h, List.map_append, List.filter_append, List.getD, List.getElem?_eq_getElem h]
  congr 1
  simp only [List.map_cons, List.map_nil, Option.getD_some]
  cases hx : hsL (unS ps[i] k) with
  | nil => simp
  | cons a b => simp
/-- The last entries. -/
theorem SgsIn.cut {w : World} {a : Option Addr} {E : List (List (Int × Int))} {c f : Nat} (h : SgsIn w a E) (hc : E.length ≤ c) : SgsIn w (if c = f then a else a.map (·.add (f * 1))) (E.drop f) := by
  intro i hi
  rw [List.length_drop] at hi
  obtain ⟨b, off, ai, ci, e, hlt, h1, h2⟩ := h (f + i) (by omega)
  have hg : (E.drop f).getD i [] = E.getD (f + i) [] := by rw [List.getD, List.getElem?_drop, List.getD]
  rw [if_neg (by omega), e, hg]
  refine ⟨b, off + f, ai, ci, ?_, hlt, ?_, h2⟩
  · have hadd : (⟨b, off, none⟩ : Addr).add (f * 1) = ⟨b, off + f, none⟩ := by rw [Nat.mul_one]; unfold Addr.add; split <;> simp_all
    simp only [Option.map_some, hadd]
  · rw [show off + f + i = off + (f + i) by omega]; exact h1
end Go.Proofs.YtgnhnalaakgamaaDoor
set_option linter.unusedVariables false
set_option linter.unusedSimpArgs false
namespace Go.Proofs.YtgnhnalaakgamaaDoor
open Go.RowKit
/-- Pieces, a byte between. -/
def joB (b : UInt8) (p : List UInt8) (ps : List (List UInt8)) : List UInt8 := p ++ ps.flatMap fun q => b :: q
theorem joB_nil (b : UInt8) (p : List UInt8) : joB b p [] = p := by unfold joB; simp
theorem joB_cons (b : UInt8) (p q : List UInt8) (ps : List (List UInt8)) : joB b p (q :: ps) = p ++ b :: joB b q ps := by unfold joB; rw [List.flatMap_cons]; rfl
/-- A text's pieces. -/
def spB (b : UInt8) : List UInt8 → List UInt8 × List (List UInt8)
  | [] => ([], [])
  | c :: r => if c = b then ([], (spB b r).1 :: (spB b r).2) else (c :: (spB b r).1, (spB b r).2)
theorem spB_jo (b : UInt8) : ∀ l, joB b (spB b l).1 (spB b l).2 = l
  | [] => rfl
  | c :: r => by
    have ih := spB_jo b r
    unfold spB
    by_cases h : c = b
    · rw [if_pos h]
      show joB b [] ((spB b r).1 :: (spB b r).2) = _
      rw [joB_cons, ih, h]; rfl
    · rw [if_neg h]
      show joB b (c :: (spB b r).1) (spB b r).2 = _
      conv => rhs; rw [← ih]
      rfl
theorem spB_no (b : UInt8) : ∀ l, (∀ c ∈ (spB b l).1, c ≠ b) ∧ ∀ q ∈ (spB b l).2, ∀ c ∈ q, c ≠ b
  | [] => ⟨fun c h => (by cases h), fun q h => (by cases h)⟩
  | c :: r => by
    have ih := spB_no b r
    unfold spB
    by_cases h : c = b
    · rw [if_pos h]
      refine ⟨fun x hx => (by cases hx), fun q hq => ?_⟩
      rcases List.mem_cons.1 hq with rfl | hq
      · exact ih.1
      · exact ih.2 q hq
    · rw [if_neg h]
      refine ⟨fun x hx => ?_, ih.2⟩
      rcases List.mem_cons.1 hx with rfl | hx
      · exact h
      · exact ih.1 x hx
theorem spB_of (b : UInt8) (p : List UInt8) (ps : List (List UInt8)) (h : ∀ c ∈ p, c ≠ b) (h2 : ∀ q ∈ ps, ∀ c ∈ q, c ≠ b) : spB b (joB b p ps) = (p, ps) := by
  induction ps generalizing p with
  | nil =>
    rw [joB_nil]
    induction p with
    | nil => rfl
    | cons c p ih =>
      unfold spB
      rw [if_neg (h c (List.mem_cons_self ..)), ih (fun x hx => h x (List.mem_cons_of_mem _ hx))]
  | cons q ps ihp =>
    rw [joB_cons]
    induction p with
    | nil =>
      rw [List.nil_append]
      unfold spB
      rw [if_pos rfl, ihp q (h2 q (List.mem_cons_self ..)) (fun x hx => h2 x (List.mem_cons_of_mem _ hx))]
    | cons c p ih =>
      rw [List.cons_append]
      unfold spB
      rw [if_neg (h c (List.mem_cons_self ..)), ih (fun x hx => h x (List.mem_cons_of_mem _ hx))]
theorem ixb_at (b : UInt8) (a r : List UInt8) (h : ∀ c ∈ a, c ≠ b) : Lib.indexByte (a ++ b :: r) b = (a.length : Int) := by
  induction a with
  | nil => rw [List.nil_append]; unfold Lib.indexByte; rw [if_pos (by simp)]; rfl
  | cons c a ih =>
    have h1 := h c (List.mem_cons_self ..)
    have h2 := ih (fun x hx => h x (List.mem_cons_of_mem _ hx))
    rw [List.cons_append]
    unfold Lib.indexByte
    rw [if_neg (by simpa using h1), h2, if_neg (by simp), List.length_cons]
    omega
theorem spb_k (b : UInt8) (p : List UInt8) (ps : List (List UInt8)) (h : ∀ c ∈ p, c ≠ b) (h2 : ∀ q ∈ ps, ∀ c ∈ q, c ≠ b) : Lib.splitK [b] 0 ps.length (joB b p ps) = p :: ps := by
  induction ps generalizing p with
  | nil => rw [joB_nil]; rfl
  | cons q ps ih =>
    have ix : Lib.index (p ++ b :: joB b q ps) [b] = (p.length : Int) := by rw [Lib.index_one, ixb_at _ _ _ h]
    rw [joB_cons, List.length_cons]
    unfold Lib.splitK
    rw [ix, if_neg (by simp), Int.toNat_natCast, Nat.add_zero, List.take_left, List.length_singleton]
    congr 1
    rw [show (p ++ b :: joB b q ps).drop (p.length + 1) = joB b q ps by
      rw [List.drop_append, List.drop_of_length_le (by omega), show p.length + 1 - p.length = 1 by omega]; rfl]
    exact ih q (h2 q (List.mem_cons_self ..)) (fun m hm => h2 m (List.mem_cons_of_mem _ hm))
theorem spb_count (b : UInt8) (p : List UInt8) (ps : List (List UInt8)) (h : ∀ c ∈ p, c ≠ b) (h2 : ∀ q ∈ ps, ∀ c ∈ q, c ≠ b) : Lib.countB (mkL (joB b p ps)) ⟨#[b]⟩ = ps.length := by
  show Lib.count (joB b p ps) [b] = ps.length
  rw [Lib.count_one]
  induction ps generalizing p with
  | nil => rw [joB_nil]; exact List.count_eq_zero_of_not_mem (fun e => h b e rfl)
  | cons q ps ih =>
    rw [joB_cons, List.count_append, List.count_cons_self, ih q (h2 q (List.mem_cons_self ..)) (fun m hm => h2 m (List.mem_cons_of_mem _ hm)), List.count_eq_zero_of_not_mem (fun e => h b e rfl), List.length_cons]
    omega
theorem spb_splitB (b : UInt8) (l : List UInt8) : Lib.countB (mkL l) ⟨#[b]⟩ = (spB b l).2.length ∧ Lib.splitB ⟨#[b]⟩ 0 (Lib.countB (mkL l) ⟨#[b]⟩) (mkL l) = ((spB b l).1 :: (spB b l).2).map mkL := by
  have hn := spB_no b l
  have hc := spb_count b _ _ hn.1 hn.2
  have hk := spb_k b _ _ hn.1 hn.2
  rw [spB_jo] at hc hk
  refine ⟨hc, ?_⟩
  rw [hc]
  have hd := Lib.splitB_data ⟨#[b]⟩ 0 (spB b l).2.length (mkL l)
  have hm : ∀ L : List ByteArray, L = (L.map (·.data.toList)).map mkL := fun L => by
    rw [List.map_map]
    conv => lhs; rw [← List.map_id L]
    exact List.map_congr_left fun b _ => by
      show b = mkL b.data.toList
      unfold mkL
      rw [Array.toArray_toList]
  rw [hm (Lib.splitB ⟨#[b]⟩ 0 (spB b l).2.length (mkL l)), hd]
  congr 1
theorem split_b (b : UInt8) (s : ByteArray) (w : World) (hs : s.size < 4294967281) : Calls Tryd.prog 11 #[.string s, .string ⟨#[b]⟩] w fun e w' => e = .returned (.slice (some ⟨w.heap.size, 0, none⟩) (Lib.countB s ⟨#[b]⟩ + 1) (Lib.countB s ⟨#[b]⟩ + 1)) ∧ w.alloc (.cells ((Lib.splitB ⟨#[b]⟩ 0 (Lib.countB s ⟨#[b]⟩) s).map Value.string).toArray 9) = w' := by
  have hb1 : 1 ≤ (⟨#[b]⟩ : ByteArray).size := Nat.le_refl 1
  have hle := Lib.countB_le ⟨#[b]⟩ hb1 s.size s (Nat.le_refl _)
  have hlen := Lib.splitB_all ⟨#[b]⟩ hb1 0 _ s rfl
  have c := Any.strings_genSplit_core Tryd.lays221 (by kernel_rfl) s ⟨#[b]⟩ 0 (-1) (Lib.countB s ⟨#[b]⟩ + 1) w hs hb1 (Nat.zero_le _)
    (fun x c hx => by
      have h := Tryd.strings_Index_one x b (w.alloc (.cells c 9))
      refine Calls.mono h ?_
      rintro e w' ⟨rfl, rfl⟩
      refine ⟨?_, rfl⟩
      show _ = Ending.returned (Value.int .i64 (Lib.index x.data.toList [b]))
      rw [Lib.index_one])
    (by
      have h := Tryd.strings_Count_one s b w
      refine Calls.mono h ?_
      rintro e w' ⟨rfl, rfl⟩
      refine ⟨?_, rfl⟩
      show _ = Ending.returned (Value.int .i64 ((Lib.count s.data.toList [b] : Nat) : Int))
      rw [Lib.count_one]
      rfl)
    (by decide) (by decide) (by rw [if_pos (by decide)]; omega)
  rw [Nat.add_sub_cancel, hlen] at c
  have e2 : Lib.cellsOf (Lib.splitB ⟨#[b]⟩ 0 (Lib.countB s ⟨#[b]⟩) s) (Lib.countB s ⟨#[b]⟩ + 1) = ((Lib.splitB ⟨#[b]⟩ 0 (Lib.countB s ⟨#[b]⟩) s).map Value.string).toArray := by rw [← hlen]; exact Lib.cellsOf_full _
  rw [e2] at c
  have c' : Calls Tryd.prog 23 #[.string s, .string ⟨#[b]⟩, .int .i64 0, .int .i64 (-1)] w _ := c
  go_enter Tryd.func11, Tryd.ntmps11
  go_wp2_with (go_at_call 23; refine c'.mono ?_; rintro e w' ⟨rfl, hw⟩)
  go_ret
  exact ⟨rfl, rfl⟩
/-- Texts lie in memory. -/
def PcI (w : World) (g : Nat) (P : List (List UInt8)) : Prop := g < w.heap.size ∧ ∀ i, i < P.length → w.cell? ⟨g, i, none⟩ = some (.string (mkL (P.getD i [])))
theorem PcI.below {w w' : World} {g : Nat} {P : List (List UInt8)} (h : PcI w g P) (hb : Below w.heap.size w w') : PcI w' g P :=
  ⟨Nat.lt_of_lt_of_le h.1 hb.size, fun i hi => (hb.cell (p := ⟨g, i, none⟩) h.1).trans (h.2 i hi)⟩
def pcB (b : UInt8) (l : List UInt8) : List (List UInt8) := (spB b l).1 :: (spB b l).2
theorem splitb_any (b : UInt8) (l : List UInt8) (w : World) (hs : l.length < 4294967281) : Calls Tryd.prog 11 #[.string (mkL l), .string ⟨#[b]⟩] w fun e w' => e = .returned (.slice (some ⟨w.heap.size, 0, none⟩) (pcB b l).length (pcB b l).length) ∧ PcI w' w.heap.size (pcB b l) ∧ Below w.heap.size w w' := by
  have h0 := split_b b (mkL l) w (by rw [mkL_size]; exact hs)
  obtain ⟨h1, h2⟩ := spb_splitB b l
  rw [h2, h1] at h0
  refine h0.mono ?_
  rintro e w' ⟨rfl, rfl⟩
  refine ⟨rfl, ⟨by simp, fun i hi => ?_⟩, below_alloc _ _⟩
  rw [cell_of_row _ _ _ _ _ _ (heap_alloc_new _ _)]
  rw [List.getElem?_toArray, List.getElem?_map, List.getElem?_map]
  show Option.map Value.string (Option.map mkL (pcB b l)[i]?) = _
  rw [List.getD, List.getElem?_eq_getElem hi]
  rfl
theorem pcB_len (b : UInt8) (l : List UInt8) : (pcB b l).length ≤ l.length + 1 := by
  unfold pcB
  induction l with
  | nil => simp [spB]
  | cons c r ih =>
    unfold spB
    split
    · simp only [List.length_cons] at ih ⊢; omega
    · simp only [List.length_cons] at ih ⊢; omega
theorem joB_mem (b : UInt8) (p : List UInt8) (ps : List (List UInt8)) : p.length ≤ (joB b p ps).length ∧ ∀ q ∈ ps, q.length ≤ (joB b p ps).length := by
  refine ⟨by unfold joB; rw [List.length_append]; omega, fun q hq => ?_⟩
  induction ps generalizing p with
  | nil => cases hq
  | cons x ps ih =>
    rw [joB_cons, List.length_append, List.length_cons]
    rcases List.mem_cons.1 hq with rfl | hq
    · have : q.length ≤ (joB b q ps).length := by unfold joB; rw [List.length_append]; omega
      omega
    · have := ih x hq; omega
theorem pcB_mem (b : UInt8) (l : List UInt8) : ∀ q ∈ pcB b l, q.length ≤ l.length := by
  have h := joB_mem b (spB b l).1 (spB b l).2
  rw [spB_jo] at h
  intro q hq
  rcases List.mem_cons.1 hq with rfl | hq
  · exact h.1
  · exact h.2 q hq
end Go.Proofs.YtgnhnalaakgamaaDoor
