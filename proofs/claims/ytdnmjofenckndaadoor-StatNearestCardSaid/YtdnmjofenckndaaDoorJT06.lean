/-
  Joined: St4 St5 St12 St13.
-/
import Derived.Test.YtdnmjofenckndaaDoorJT02
import Derived.Test.YtdnmjofenckndaaDoorJT03
import Derived.Test.YtdnmjofenckndaaDoorJT04
import Derived.Test.YtdnmjofenckndaaDoorJT05
set_option linter.unusedVariables false
set_option linter.unusedSimpArgs false
set_option maxRecDepth 100000
set_option linter.unusedVariables false
set_option linter.unusedSimpArgs false
namespace Go.Proofs.YtdnmjofenckndaaDoor
open Go.RowKit
theorem lsyS {P : Program} {f : FuncId} {args : Array Value} {w : World} {a n : Nat} {v : Value}
    (h : Calls P f args (w.drewN (a + n)) fun e w' => e = .returned v ∧ w.drewN (a + n) = w') :
    Calls P f args (w.drewN (a + n)) fun e w'' => e = .returned v ∧ ∃ m, w'' = w.drewN (a + m) :=
  h.mono fun _ _ h => ⟨h.1, n, h.2.symm⟩
theorem lsyS0 {P : Program} {f : FuncId} {args : Array Value} {w : World} {n : Nat} {v : Value}
    (h : Calls P f args (w.drewN n) fun e w' => e = .returned v ∧ w.drewN n = w') :
    Calls P f args (w.drewN n) fun e w'' => e = .returned v ∧ ∃ m, w'' = w.drewN m :=
  h.mono fun _ _ h => ⟨h.1, n, h.2.symm⟩
theorem least_ref (a b c r : Int) (h : min a (min b c) = r) (w : World) : Calls Tryd.prog 153 #[.int .i64 a, .int .i64 b, .int .i64 c] w fun x w' => x = .returned (.int .i64 r) ∧ w = w' := by
  have L1 := fun w => lo_ref b c w
  obtain ⟨q, hq⟩ : ∃ q : Int, (if b < c then b else c) = q := ⟨_, rfl⟩
  have hq2 : min b c = q := by rw [← hq]; split <;> omega
  rw [hq] at L1
  have L2 := fun w => lo_ref a q w
  rw [show (if a < q then a else q) = r by rw [← h, hq2]; split <;> omega] at L2
  replace L1 := Lib.hid L1; replace L2 := Lib.hid L2
  clear hq hq2 h
  go_enter Tryd.func153, Tryd.ntmps153
  go_wp2_with (first
    | (go_at_call 24; (with_reducible refine (L1.out _).mono ?_); rintro x w1 ⟨rfl, h1⟩; subst h1)
    | (go_at_call 24; (with_reducible refine (L2.out _).mono ?_); rintro x w2 ⟨rfl, h2⟩; subst h2))
  go_ret
  exact ⟨rfl, rfl⟩
theorem esi_keep {w w' : World} {B : Nat} {v : Value} {L : List Int} (h : esI w B v L) (hb : Below w.heap.size w w') : esI w' B v L := by
  refine World.ownsRow.kept h (row := none) ⟨hb.os, hb.tape, hb.output, hb.size, fun k hk _ => hb.block k hk⟩ ?_
  cases v.ownBlock <;> simp
theorem esI.mono {w : World} {B B' : Nat} {v : Value} {L : List Int} (h : esI w B v L) (hB : B' ≤ B) : esI w B' v L := World.ownsRow.mono h hB
theorem esI.row {w : World} {B n : Nat} {v : Value} {L : List Int} (h : esI w B v L) (hn : L.length = n) : ∃ a c, v = .slice a n c ∧ Row w a L := by
  subst hn; exact row_ofI h
/-- Lists under way: a row of slices, each of the call's own. -/
structure RdI (B : Nat) (v : Value) (E : List (List Int)) (w : World) : Prop where
  ex : ∃ vs : List Value, w.ownsRow B 59 1 v E.length vs ∧ ∀ i, i < E.length → ∃ x, vs[i]? = some x ∧ esI w B x (E.getD i [])
  le : B ≤ w.heap.size
theorem RdI.below {B : Nat} {v : Value} {E : List (List Int)} {w w' : World} (h : RdI B v E w) (hb : Below w.heap.size w w') : RdI B v E w' := by
  obtain ⟨vs, h1, h2⟩ := h.ex
  refine ⟨⟨vs, World.ownsRow.kept h1 (row := none) ⟨hb.os, hb.tape, hb.output, hb.size, fun k hk _ => hb.block k hk⟩ (by cases v.ownBlock <;> simp), fun i hi => by obtain ⟨x, e, hx⟩ := h2 i hi; exact ⟨x, e, esi_keep hx hb⟩⟩, Nat.le_trans h.le hb.size⟩
theorem infoIl : (Tryd.prog.info? 59).map (fun i => (i.zero, i.size, i.bytes)) = some (some (.slice none 0 0), 1, 24) := by kernel_rfl
theorem RdI.form {B : Nat} {v : Value} {E : List (List Int)} {w : World} (h : RdI B v E w) : ∃ a c, v = .slice a E.length c := by
  obtain ⟨vs, h1, _⟩ := h.ex
  rcases h1.2 with ⟨rfl, h0⟩ | ⟨g, cap, cur, rfl, _⟩
  · exact ⟨none, 0, by rw [h0]⟩
  · exact ⟨_, cap, rfl⟩
theorem RdI.next {B : Nat} {v x : Value} {E : List (List Int)} {L : List Int} {w w1 : World} {v' : Value} {vs : List Value} (h2 : ∀ i, i < E.length → ∃ x, vs[i]? = some x ∧ esI w B x (E.getD i [])) (hvl : vs.length = E.length) (hw : w.ownsRow B 59 1 v E.length vs) (hx : esI w B x L)
    (ho : w1.ownsRow B 59 1 v' (E.length + 1) (vs ++ [x])) (hg : w.grownBy w1 v.ownBlock) (hle : B ≤ w.heap.size) : RdI B v' (E ++ [L]) w1 := by
  have hk : ∀ y M, esI w B y M → esI w1 B y M := fun y M hy => World.ownsRow.kept hy hg (own_ne_own hy hw (by decide))
  refine ⟨⟨vs ++ [x], by rw [List.length_append]; exact ho, fun i hi => ?_⟩, Nat.le_trans hle hg.size⟩
  rw [List.length_append, List.length_singleton] at hi
  by_cases hlt : i < E.length
  · obtain ⟨y, e, hy⟩ := h2 i hlt
    refine ⟨y, by rw [List.getElem?_append_left (by omega)]; exact e, ?_⟩
    rw [show (E ++ [L]).getD i [] = E.getD i [] by rw [List.getD, List.getElem?_append_left hlt, List.getD]]
    exact hk _ _ hy
  · obtain rfl : i = E.length := by omega
    refine ⟨x, by rw [List.getElem?_append_right (by omega), hvl, Nat.sub_self]; rfl, ?_⟩
    rw [show (E ++ [L]).getD E.length [] = L by rw [List.getD, List.getElem?_append_right (Nat.le_refl _), Nat.sub_self]; rfl]
    exact hk _ _ hx
end Go.Proofs.YtdnmjofenckndaaDoor
set_option linter.unusedVariables false
set_option linter.unusedSimpArgs false
namespace Go.Proofs.YtdnmjofenckndaaDoor
open Go.RowKit
/-- The rows of the table. -/
def tbL (A B : List Int) (i m : Nat) : List (List Int) := (List.range i).map fun r => rwL A B r 0 m
theorem tb_len (A B : List Int) (i m : Nat) : (tbL A B i m).length = i := by unfold tbL; simp
theorem tb_next (A B : List Int) (i m : Nat) : tbL A B (i + 1) m = tbL A B i m ++ [rwL A B i 0 m] := by unfold tbL; rw [List.range_succ, List.map_append]; rfl
theorem tb_at (A B : List Int) (i m r : Nat) (h : r < i) : (tbL A B i m).getD r [] = rwL A B r 0 m := by
  unfold tbL; rw [List.getD, List.getElem?_map, List.getElem?_range h]; rfl
theorem rt_next (A B : List Int) (i k m : Nat) (hk : k ≤ m) : (rwL A B i 0 m).take (k + 1) = (rwL A B i 0 m).take k ++ [((dpL A B i k : Nat) : Int)] := by
  have hl : k < (rwL A B i 0 m).length := by rw [rw_len]; omega
  rw [List.take_succ_eq_append_getElem hl]
  have h := rw_at A B i 0 m k hk
  rw [if_neg (Nat.not_lt_zero k), List.getD, List.getElem?_eq_getElem hl] at h
  rw [show (rwL A B i 0 m)[k] = ((dpL A B i k : Nat) : Int) from h]
theorem rt_len (A B : List Int) (i k m : Nat) (hk : k ≤ m + 1) : ((rwL A B i 0 m).take k).length = k := by rw [List.length_take, rw_len]; omega
theorem rt_at (A B : List Int) (i k m j : Nat) (hk : k ≤ m + 1) (hj : j < k) : ((rwL A B i 0 m).take k).getD j 0 = ((dpL A B i j : Nat) : Int) := by
  have h := rw_at A B i 0 m j (by omega)
  rw [if_neg (Nat.not_lt_zero j)] at h
  rw [← h, List.getD, List.getD, List.getElem?_take, if_pos hj]
theorem infoIntL : (Tryd.prog.info? 3).map (fun i => (i.zero, i.size, i.bytes)) = some (some (.int .i64 0), 1, 8) := by kernel_rfl
/-- A row that is read, of the rows under way. -/
theorem RdI.at {B : Nat} {v : Value} {E : List (List Int)} {w : World} (h : RdI B v E w) (i n : Nat) (hi : i < E.length) (hn : (E.getD i []).length = n) : ∃ g cap ai ci, v = .slice (some ⟨g, 0, none⟩) E.length cap ∧ w.cell? ⟨g, i, none⟩ = some (.slice ai n ci) ∧ Row w ai (E.getD i []) := by
  obtain ⟨vs, h1, h2⟩ := h.ex
  rcases h1.2 with ⟨rfl, h0⟩ | ⟨g, cap, cur, rfl, hB, hg, hle, _⟩
  · omega
  · obtain ⟨x, e, hx⟩ := h2 i hi
    obtain ⟨ai, ci, rfl, hr⟩ := hx.row hn
    exact ⟨g, cap, ai, ci, rfl, by rw [h1.cellAt i (by omega)]; exact e, hr⟩
set_option maxHeartbeats 8000000 in
theorem rdist_any (S : Nat → Prop) (L M : List (Int × Int)) (a b : Option Addr) (n m c d : Nat) (w : World) (hn : L.length = n) (hm : M.length = m) (hl : n ≤ 100) (hl2 : m ≤ 100) (ha : Signs w a L) (hb : Signs w b M) :
    Calls Tryd.prog 69 #[.slice a n c, .slice b m d] w fun e w' => e = .returned (.int .i64 ((lev (vL L) (vL M) : Nat) : Int)) ∧ Below w.heap.size w w' := by
  obtain ⟨i0, hi, hz0, hz1, hz2⟩ := info_parts infoIntL
  obtain ⟨i1, hj, hy0, hy1, hy2⟩ := info_parts infoIl
  obtain ⟨A, hA⟩ : ∃ A, vL L = A := ⟨_, rfl⟩
  obtain ⟨B, hB⟩ : ∃ B, vL M = B := ⟨_, rfl⟩
  have hAn : A.length = n := by rw [← hA]; unfold vL; rw [List.length_map]; exact hn
  have hBn : B.length = m := by rw [← hB]; unfold vL; rw [List.length_map]; exact hm
  rw [hA, hB]
  have HLn := Lib.hid (And.intro hAn hBn)
  have HAB := Lib.hid (And.intro hA hB)
  have HNM := Lib.hid (And.intro hn hm)
  have HS := Lib.hid ha
  have HT := Lib.hid hb
  have LS := Lib.hid fun a b c r h w => least_ref a b c r h w
  have B0 := below_alloc w (.cells #[] 59)
  obtain ⟨W, hW⟩ : ∃ W, w.alloc (.cells #[] 59) = W := ⟨_, rfl⟩
  have R0 : Hid (RdI w.heap.size (.slice (some ⟨w.heap.size, 0, none⟩) 0 0) (tbL A B 0 m) W) := Lib.hid (by
    rw [← hW]
    exact ⟨⟨[], ⟨rfl, .inr ⟨w.heap.size, 0, #[], rfl, Nat.le_refl _, heap_alloc_new _ _, Nat.le_refl _, by decide, rfl, rfl⟩⟩, fun i hi => absurd hi (Nat.not_lt_zero i)⟩, B0.size⟩)
  rw [hW] at B0
  have HB0 := Lib.hid B0
  clear ha hb hn hm hA hB hAn hBn B0
  go_enter Tryd.func69, Tryd.ntmps69
  go_upto_region 2 with fail
  clear hW
  go_wp2_with fail
  go_loopw [5, 6] (fun rv iv wr => ∃ (i : Nat) (ra : Option Addr) (rc : Nat), i ≤ n + 1 ∧ rv = .slice ra i rc ∧ iv = .int .i64 (i : Int) ∧ Hid (RdI w.heap.size (.slice ra i rc) (tbL A B i m) wr) ∧ Hid (Below w.heap.size w wr)) (fun _ iv _ => n + 1 - (intOf iv).toNat)
  case atStart => exact ⟨0, _, _, Nat.zero_le _, rfl, rfl, R0, HB0⟩
  case round =>
    clear R0 HB0
    obtain ⟨i, ra, rc, hi', rfl, rfl, HR, HB⟩ := hrel
    by_cases hlt : i ≤ n
    rotate_left
    · obtain rfl : i = n + 1 := by omega
      have hk1 : ¬ ((n + 1 : Nat) : Int) ≤ n := by omega
      obtain ⟨g, cap, ai, ci, e, c0, hrow⟩ := HR.out.at n (m + 1) (by rw [tb_len]; omega) (by rw [tb_at _ _ _ _ _ (by omega), rw_len])
      rw [tb_len] at e
      injection e with e1 e2 e3
      subst e1; subst e3
      rw [tb_at _ _ _ _ _ (by omega)] at hrow
      obtain ⟨b2, o2, rfl, c1, _⟩ := hrow m (by rw [rw_len]; omega)
      rw [rw_at _ _ _ _ _ _ (Nat.le_refl _), if_neg (Nat.not_lt_zero _)] at c1
      have he : dpL A B n m = lev A B := by
        have := dp_all A B
        rw [HLn.out.1, HLn.out.2] at this
        exact this
      rw [he] at c1
      have hn0 : (0 : Int) ≤ n := by omega
      have hn1 : (n : Int) < ((n + 1 : Nat) : Int) := by omega
      have hm0 : (0 : Int) ≤ m := by omega
      have hm1 : (m : Int) < ((m + 1 : Nat) : Int) := by omega
      obtain ⟨D, hD⟩ : ∃ D, lev A B = D := ⟨_, rfl⟩
      rw [hD] at c1
      have HDe := Lib.hid hD
      clear he hD
      go_wp2_with fail
      go_ret
      exact ⟨by rw [HDe.out]; rfl, HB.out⟩
    have hi1 : (i : Int) ≤ n := by omega
    have Bs := below_alloc wr (.cells #[] 3)
    have s0 : Hid (esI (wr.alloc (.cells #[] 3)) wr.heap.size (.slice (some ⟨wr.heap.size, 0, none⟩) 0 0) ((rwL A B i 0 m).take 0)) := Lib.hid ⟨rfl, .inr ⟨wr.heap.size, 0, #[], rfl, Nat.le_refl _, heap_alloc_new _ _, Nat.le_refl _, by decide, rfl, rfl⟩⟩
    obtain ⟨ws, hws⟩ : ∃ ws, wr = ws := ⟨_, rfl⟩
    rw [hws] at HR HB Bs s0 ⊢
    have HBs := Lib.hid Bs
    clear Bs hws
    go_wp2_with fail
    go_loopw [7, 8] (fun cv kv wr => ∃ (k : Nat) (ca : Option Addr) (cc : Nat), k ≤ m + 1 ∧ cv = .slice ca k cc ∧ kv = .int .i64 (k : Int) ∧ Hid (esI wr ws.heap.size (.slice ca k cc) ((rwL A B i 0 m).take k)) ∧ Hid (Below ws.heap.size ws wr)) (fun _ kv _ => m + 1 - (intOf kv).toNat)
    case atStart => exact ⟨0, _, _, Nat.zero_le _, rfl, rfl, s0, HBs⟩
    case round =>
      clear s0 HBs
      obtain ⟨k, ca, cc, hk, rfl, rfl, HC, HB2⟩ := hrel
      by_cases hlt2 : k ≤ m
      · have hk1 : (k : Int) ≤ m := by omega
        have hk0 : (0 : Int) ≤ k := by omega
        obtain ⟨r, hr⟩ : ∃ r, dpL A B i k = r := ⟨_, rfl⟩
        have HRr := Lib.hid hr
        have HO : Hid (wr.ownsRow ws.heap.size 3 1 (.slice ca k cc) k (((rwL A B i 0 m).take k).map (Value.int .i64))) := Lib.hid (by
          have h := HC.out
          unfold esI at h
          rw [rt_len A B i k m hk] at h
          exact h)
        have HZ := Lib.hid HB2.out.size
        have HZB := Lib.hid HB2.out
        by_cases h0 : i = 0 ∨ k = 0
        · have hs : (i : Int) + (k : Int) = (r : Int) := by
            rcases h0 with rfl | rfl
            · rw [dp_0 _ _ _ (by rw [HLn.out.2]; omega)] at hr; omega
            · rw [dp_c _ _ _ (by rw [HLn.out.1]; omega)] at hr; omega
          have hsw : IntKind.i64.wrap ((i : Int) + (k : Int)) = (r : Int) := by rw [hs, IntKind.wrap_i64]; omega
          have hrw : IntKind.i64.wrap (r : Int) = (r : Int) := by rw [IntKind.wrap_i64]; omega
          have hcond : ((i : Int) == 0 || (k : Int) == 0) = true := by simpa using (by omega : (i : Int) = 0 ∨ (k : Int) = 0)
          clear hr
          by_cases hi0 : (i : Int) = 0
          · have hi0b : ((i : Int) == 0) = true := by simpa using hi0
            clear hi0
            go_wp2_with (at_builtin; refine wpList_append_own _ rfl _ _ 59 rfl ws.heap.size 3 i0 (.int .i64 0) 1 8 Tryd.underlying59 hi hz0 hz1 hz2 rfl (by decide) _ _ _ rfl (World.ownsRow.alloc HO.out _) ⟨wr.heap.size, 0, none⟩ 1 1 [.int .i64 (r : Int)] rfl rfl ?g1 ?g2 ?g3 ?g4 ?g5 ?_)
            case g1 => intro j x hj; exact app_cells rfl hj
            case g2 => simp [Value.oneCell']
            case g3 => unfold maxLen; omega
            case g4 => omega
            case g5 => have := HZ.out; simp; omega
            intro v' w5 hown5 hgrow5 _
            have N5 := Lib.hid ((HZB.out.alloc HZ.out (.cells #[.int .i64 (r : Int)] 3)).grown hgrow5 (by have := HZ.out; simp; omega) (fun j hj => (HO.out.lt j hj).1))
            obtain ⟨c5, d5, e5⟩ : ∃ c5 d5, v' = .slice c5 (k + 1) d5 := by
              rcases hown5.2 with ⟨rfl, h0⟩ | ⟨g, cap, cur, rfl, _⟩
              · omega
              · exact ⟨_, cap, rfl⟩
            subst e5
            have HO5 : Hid (esI w5 ws.heap.size (.slice c5 (k + 1) d5) ((rwL A B i 0 m).take (k + 1))) := Lib.hid (by
              unfold esI
              rw [rt_len A B i (k + 1) m (by omega), rt_next A B i k m (by omega), HRr.out, List.map_append]
              first | exact hown5 | (have h := hown5; rw [← List.map_take] at h; exact h))
            clear hown5 hgrow5 HO HZB HC HB2
            go_wp2_with fail
            go_roundw
            case rel => exact ⟨k + 1, c5, d5, by omega, by first | rfl | simp, by go_num, HO5, N5⟩
            case measure => (simp [intOf]; try omega)
          · have hk00 : (k : Int) = 0 := by omega
            have hi0b : ((i : Int) == 0) = false := by simpa using hi0
            have hk0b : ((k : Int) == 0) = true := by simpa using hk00
            clear hk00
            go_wp2_with (at_builtin; refine wpList_append_own _ rfl _ _ 59 rfl ws.heap.size 3 i0 (.int .i64 0) 1 8 Tryd.underlying59 hi hz0 hz1 hz2 rfl (by decide) _ _ _ rfl (World.ownsRow.alloc HO.out _) ⟨wr.heap.size, 0, none⟩ 1 1 [.int .i64 (r : Int)] rfl rfl ?g1 ?g2 ?g3 ?g4 ?g5 ?_)
            case g1 => intro j x hj; exact app_cells rfl hj
            case g2 => simp [Value.oneCell']
            case g3 => unfold maxLen; omega
            case g4 => omega
            case g5 => have := HZ.out; simp; omega
            intro v' w5 hown5 hgrow5 _
            have N5 := Lib.hid ((HZB.out.alloc HZ.out (.cells #[.int .i64 (r : Int)] 3)).grown hgrow5 (by have := HZ.out; simp; omega) (fun j hj => (HO.out.lt j hj).1))
            obtain ⟨c5, d5, e5⟩ : ∃ c5 d5, v' = .slice c5 (k + 1) d5 := by
              rcases hown5.2 with ⟨rfl, h0⟩ | ⟨g, cap, cur, rfl, _⟩
              · omega
              · exact ⟨_, cap, rfl⟩
            subst e5
            have HO5 : Hid (esI w5 ws.heap.size (.slice c5 (k + 1) d5) ((rwL A B i 0 m).take (k + 1))) := Lib.hid (by
              unfold esI
              rw [rt_len A B i (k + 1) m (by omega), rt_next A B i k m (by omega), HRr.out, List.map_append]
              first | exact hown5 | (have h := hown5; rw [← List.map_take] at h; exact h))
            clear hown5 hgrow5 HO HZB HC HB2
            go_wp2_with fail
            go_roundw
            case rel => exact ⟨k + 1, c5, d5, by omega, by first | rfl | simp, by go_num, HO5, N5⟩
            case measure => (simp [intOf]; try omega)
        obtain ⟨p, hp⟩ : ∃ p, i = p + 1 := ⟨i - 1, by omega⟩
        obtain ⟨q, hq⟩ : ∃ q, k = q + 1 := ⟨k - 1, by omega⟩
        have eA : p < A.length := by rw [HLn.out.1]; omega
        have eB : q < B.length := by rw [HLn.out.2]; omega
        have HRb := HR.out.below HB2.out
        obtain ⟨g, cap, ai, ci, e, c0, hrow⟩ := HRb.at p (m + 1) (by rw [tb_len]; omega) (by rw [tb_at _ _ _ _ _ (by omega), rw_len])
        rw [tb_len] at e
        injection e with e1 e2 e3
        subst e1; subst e3
        clear e2
        rw [tb_at _ _ _ _ _ (by omega)] at hrow
        obtain ⟨b2, o2, rfl, c1, _⟩ := hrow q (by rw [rw_len]; omega)
        obtain ⟨b2', o2', e', c2, _⟩ := hrow k (by rw [rw_len]; omega)
        obtain ⟨rfl, rfl⟩ : b2 = b2' ∧ o2 = o2' := by simpa using e'
        rw [rw_at _ _ _ _ _ _ (by omega), if_neg (Nat.not_lt_zero _)] at c1
        rw [rw_at _ _ _ _ _ _ (by omega), if_neg (Nat.not_lt_zero _)] at c2
        obtain ⟨ga, gc, ge, hgr⟩ := HC.out.row (rt_len A B i k m hk)
        obtain ⟨rfl, rfl⟩ : ca = ga ∧ cc = gc := by injection ge with e1 e2 e3; exact ⟨e1, e3⟩
        obtain ⟨b3, o3, rfl, c3, _⟩ := hgr q (by rw [rt_len A B i k m hk]; omega)
        rw [rt_at A B i k m q hk (by omega)] at c3
        obtain ⟨b4, o4, rfl, _, c4, _⟩ := (HS.out.below (seqB HB.out HB2.out)) p (by have := HNM.out.1; omega)
        obtain ⟨b5, o5, rfl, _, c5, _⟩ := (HT.out.below (seqB HB.out HB2.out)) q (by have := HNM.out.2; omega)
        have hva := vL_at L p (by have := HNM.out.1; omega)
        have hvb := vL_at M q (by have := HNM.out.2; omega)
        rw [HAB.out.1] at hva
        rw [HAB.out.2] at hvb
        rw [← hva] at c4
        rw [← hvb] at c5
        have hE := dp_eq A B p q eA eB
        have hN := dp_ne A B p q eA eB
        rw [← hp, ← hq, hr] at hE hN
        have hb1 := dp_le A B p q
        have hb2 := dp_le A B p k
        have hb3 := dp_le A B i q
        generalize A.getD p 0 = v at *
        generalize B.getD q 0 = u at *
        generalize dpL A B p q = x at *
        generalize dpL A B p k = y at *
        generalize dpL A B i q = z at *
        have hz0i : ((i : Int) == 0) = false := by simp; omega
        have hz0k : ((k : Int) == 0) = false := by simp; omega
        have hpw : IntKind.i64.wrap ((i : Int) - 1) = (p : Int) := by rw [IntKind.wrap_i64]; omega
        have hqw : IntKind.i64.wrap ((k : Int) - 1) = (q : Int) := by rw [IntKind.wrap_i64]; omega
        have hp1 : (i : Int) - 1 = (p : Int) := by omega
        have hq1 : (k : Int) - 1 = (q : Int) := by omega
        have hpw2 : IntKind.i64.wrap (p : Int) = (p : Int) := by rw [IntKind.wrap_i64]; omega
        have hqw2 : IntKind.i64.wrap (q : Int) = (q : Int) := by rw [IntKind.wrap_i64]; omega
        have e1 : (0 : Int) ≤ p := by omega
        have e2 : (p : Int) < i := by omega
        have e3 : (p : Int) < n := by omega
        have e4 : (0 : Int) ≤ q := by omega
        have e5 : (q : Int) < k := by omega
        have e6 : (q : Int) < m := by omega
        have e7 : (q : Int) < ((m + 1 : Nat) : Int) := by omega
        have e8 : (k : Int) < ((m + 1 : Nat) : Int) := by omega
        clear e' hva hvb hrow hgr ge hr HRb hp hq eA eB h0
        by_cases hvu : v = u
        · have hxr : x = r := (hE hvu).symm
          have hne : (v != u) = false := by simp [hvu]
          subst hxr
          clear hE hN hvu
          go_upto_region 12 with fail
          go_quiet (fail)
          generalize hwq : World.drewN wr _ = wq
          have BQ : Below wr.heap.size wr wq := by rw [← hwq]; exact drewN_below (Below.refl _ _) _
          have HOq : Hid (wq.ownsRow ws.heap.size 3 1 (.slice (some ⟨b3, o3, none⟩) k cc) k (((rwL A B i 0 m).take k).map (Value.int .i64))) := Lib.hid (by exact World.ownsRow.kept HO.out (row := none) ⟨BQ.os, BQ.tape, BQ.output, BQ.size, fun k hk _ => BQ.block k hk⟩ (by cases (Value.slice (some ⟨b3, o3, none⟩) k cc).ownBlock <;> simp))
          have HZq : Hid (ws.heap.size ≤ wq.heap.size) := Lib.hid (Nat.le_trans HZ.out BQ.size)
          have HZBq := Lib.hid (seqB HZB.out BQ)
          clear hwq BQ HO HZ HZB HC HB2 c0 c1 c2 c3 c4 c5
          go_wp2_with (at_builtin; refine wpList_append_own _ rfl _ _ 59 rfl ws.heap.size 3 i0 (.int .i64 0) 1 8 Tryd.underlying59 hi hz0 hz1 hz2 rfl (by decide) _ _ _ rfl (World.ownsRow.alloc HOq.out _) ⟨wq.heap.size, 0, none⟩ 1 1 [.int .i64 (x : Int)] rfl rfl ?g1 ?g2 ?g3 ?g4 ?g5 ?_)
          case g1 => intro j x hj; exact app_cells rfl hj
          case g2 => simp [Value.oneCell']
          case g3 => unfold maxLen; omega
          case g4 => omega
          case g5 => have := HZq.out; simp; omega
          intro v' w5 hown5 hgrow5 _
          have N5 := Lib.hid ((HZBq.out.alloc HZq.out (.cells #[.int .i64 (x : Int)] 3)).grown hgrow5 (by have := HZq.out; simp; omega) (fun j hj => (HOq.out.lt j hj).1))
          obtain ⟨c5, d5, e5⟩ : ∃ c5 d5, v' = .slice c5 (k + 1) d5 := by
            rcases hown5.2 with ⟨rfl, h0⟩ | ⟨g, cap, cur, rfl, _⟩
            · omega
            · exact ⟨_, cap, rfl⟩
          subst e5
          have HO5 : Hid (esI w5 ws.heap.size (.slice c5 (k + 1) d5) ((rwL A B i 0 m).take (k + 1))) := Lib.hid (by
            unfold esI
            rw [rt_len A B i (k + 1) m (by omega), rt_next A B i k m (by omega), HRr.out, List.map_append]
            first | exact hown5 | (have h := hown5; rw [← List.map_take] at h; exact h))
          clear hown5 hgrow5 HOq HZBq
          go_wp2_with fail
          go_roundw
          case rel => exact ⟨k + 1, c5, d5, by omega, by first | rfl | simp, by go_num, HO5, N5⟩
          case measure => (simp [intOf]; try omega)
        · have hxr := hN hvu
          have hne : (v != u) = true := by simp [hvu]
          have LE := Lib.hid fun w => LS.out (x : Int) (y : Int) (z : Int) ((r : Int) - 1) (by omega) w
          have hrw1 : IntKind.i64.wrap (1 + ((r : Int) - 1)) = (r : Int) := by rw [IntKind.wrap_i64]; omega
          have hrw2 : 1 + ((r : Int) - 1) = (r : Int) := by omega
          have hrw3 : IntKind.i64.wrap (r : Int) = (r : Int) := by rw [IntKind.wrap_i64]; omega
          have hrw4 : wrap64 (r : Int) = (r : Int) := by unfold wrap64; omega
          clear hE hN hvu hxr
          go_upto_region 12 with fail
          go_quiet (fail)
          go_upto_region 13 with fail
          go_quiet ((first | (go_at_call 153; with_reducible exact lsyS0 (LE.out _)) | (go_at_call 153; exact lsyS (LE.out _))))
          generalize hwq : World.drewN (World.drewN wr _) _ = wq
          have BQ : Below wr.heap.size wr wq := by rw [← hwq]; exact drewN_below (drewN_below (Below.refl _ _) _) _
          have HOq : Hid (wq.ownsRow ws.heap.size 3 1 (.slice (some ⟨b3, o3, none⟩) k cc) k (((rwL A B i 0 m).take k).map (Value.int .i64))) := Lib.hid (by exact World.ownsRow.kept HO.out (row := none) ⟨BQ.os, BQ.tape, BQ.output, BQ.size, fun k hk _ => BQ.block k hk⟩ (by cases (Value.slice (some ⟨b3, o3, none⟩) k cc).ownBlock <;> simp))
          have HZq : Hid (ws.heap.size ≤ wq.heap.size) := Lib.hid (Nat.le_trans HZ.out BQ.size)
          have HZBq := Lib.hid (seqB HZB.out BQ)
          clear hwq BQ HO HZ HZB HC HB2 c0 c1 c2 c3 c4 c5
          go_wp2_with (at_builtin; refine wpList_append_own _ rfl _ _ 59 rfl ws.heap.size 3 i0 (.int .i64 0) 1 8 Tryd.underlying59 hi hz0 hz1 hz2 rfl (by decide) _ _ _ rfl (World.ownsRow.alloc HOq.out _) ⟨wq.heap.size, 0, none⟩ 1 1 [.int .i64 (r : Int)] rfl rfl ?g1 ?g2 ?g3 ?g4 ?g5 ?_)
          case g1 => intro j x hj; exact app_cells rfl hj
          case g2 => simp [Value.oneCell']
          case g3 => unfold maxLen; omega
          case g4 => omega
          case g5 => have := HZq.out; simp; omega
          intro v' w5 hown5 hgrow5 _
          have N5 := Lib.hid ((HZBq.out.alloc HZq.out (.cells #[.int .i64 (r : Int)] 3)).grown hgrow5 (by have := HZq.out; simp; omega) (fun j hj => (HOq.out.lt j hj).1))
          obtain ⟨c5, d5, e5⟩ : ∃ c5 d5, v' = .slice c5 (k + 1) d5 := by
            rcases hown5.2 with ⟨rfl, h0⟩ | ⟨g, cap, cur, rfl, _⟩
            · omega
            · exact ⟨_, cap, rfl⟩
          subst e5
          have HO5 : Hid (esI w5 ws.heap.size (.slice c5 (k + 1) d5) ((rwL A B i 0 m).take (k + 1))) := Lib.hid (by
            unfold esI
            rw [rt_len A B i (k + 1) m (by omega), rt_next A B i k m (by omega), HRr.out, List.map_append]
            first | exact hown5 | (have h := hown5; rw [← List.map_take] at h; exact h))
          clear hown5 hgrow5 HOq HZBq
          go_wp2_with fail
          go_roundw
          case rel => exact ⟨k + 1, c5, d5, by omega, by first | rfl | simp, by go_num, HO5, N5⟩
          case measure => (simp [intOf]; try omega)
      · obtain rfl : k = m + 1 := by omega
        have hk1 : ¬ ((m + 1 : Nat) : Int) ≤ m := by omega
        have hfull : (rwL A B i 0 m).take (m + 1) = rwL A B i 0 m := List.take_of_length_le (by rw [rw_len]; exact Nat.le_refl _)
        have HCf : Hid (esI wr w.heap.size (.slice ca (m + 1) cc) (rwL A B i 0 m)) := Lib.hid (by
          have h := HC.out
          rw [hfull] at h
          exact h.mono HB.out.size)
        have HRr := Lib.hid (HR.out.below HB2.out)
        have HBr := Lib.hid (seqB HB.out HB2.out)
        have BA := below_alloc wr (.cells #[.slice ca (m + 1) cc] 59)
        have HR5 := Lib.hid (HRr.out.below BA)
        have HC5 := Lib.hid (esi_keep HCf.out BA)
        have HB5 := Lib.hid (seqB HBr.out BA)
        have hnew : ∀ j x, ([Value.slice ca (m + 1) cc] : List Value)[j]? = some x → (wr.alloc (.cells #[.slice ca (m + 1) cc] 59)).cell? ((⟨wr.heap.size, 0, none⟩ : Addr).add j) = some x := (fun j x hj => app_cells rfl hj)
        obtain ⟨vs, hwv, hvs⟩ := HR5.out.ex
        rw [tb_len] at hwv
        clear BA HC hfull HCf HRr HBr HR
        go_wp2_with (at_builtin; refine wpList_append_own _ rfl _ _ 191 rfl w.heap.size 59 i1 _ 1 24 Tryd.underlying191 hj hy0 hy1 hy2 rfl (by decide) _ _ _ rfl hwv ⟨_, 0, none⟩ 1 1 [.slice ca (m + 1) cc] rfl rfl hnew (by simp [Value.oneCell']) ?g3 ?g4 HR5.out.le ?_)
        case g3 => unfold maxLen; omega
        case g4 => omega
        intro v' w6 hown hgrow _
        have hvl : vs.length = (tbL A B i m).length := by have := hwv.1; rw [tb_len]; omega
        have hwv' := hwv
        rw [← tb_len A B i m] at hwv' hown
        have D6 := RdI.next hvs hvl (by rw [tb_len] at hwv' ⊢; exact hwv') HC5.out hown (by exact hgrow) HR5.out.le
        rw [← tb_next] at D6
        have N6 := Lib.hid (HB5.out.grown hgrow HR5.out.le (fun k hk => (hwv.lt k hk).1))
        obtain ⟨ra', rc', e⟩ := D6.form
        rw [tb_len] at e
        subst e
        have HD6 := Lib.hid D6
        clear hown hgrow hwv hvs hwv' hvl D6 HR5 HC5 HB5
        go_wp2
        go_roundw
        case rel => exact ⟨i + 1, ra', rc', by omega, by first | rfl | simp, by go_num, HD6, N6⟩
        case measure => (simp [intOf]; try omega)
end Go.Proofs.YtdnmjofenckndaaDoor
set_option linter.unusedVariables false
set_option linter.unusedSimpArgs false
namespace Go.Proofs.YtdnmjofenckndaaDoor
open Go.RowKit
def flOk (n d : Nat) : Bool :=
  match floatBits .quo .f64 (floatOfInt .f64 (d : Int)) (floatOfInt .f64 (n : Int)) with
  | some q => match floatBits .sub .f64 4607182418800017408 q with
    | some r => FloatKind.f64.format.order r r == some .eq && (FloatKind.f64.format.order r 0 == some .gt || FloatKind.f64.format.order r 0 == some .eq) && (FloatKind.f64.format.order r 4607182418800017408 == some .lt || FloatKind.f64.format.order r 4607182418800017408 == some .eq)
    | none => false
  | none => false
theorem fl_all : ((List.range 41).all fun n => (List.range (n + 1)).all fun d => n == 0 || flOk n d) = true := by decide +kernel
theorem fl_ok {n d : Nat} (hn : n ≤ 40) (h0 : 0 < n) (hd : d ≤ n) : ∃ q r, floatBits .quo .f64 (floatOfInt .f64 (d : Int)) (floatOfInt .f64 (n : Int)) = some q ∧ floatBits .sub .f64 4607182418800017408 q = some r ∧ FloatKind.f64.format.order r r = some .eq ∧ (FloatKind.f64.format.order r 0 = some .gt ∨ FloatKind.f64.format.order r 0 = some .eq) ∧ (FloatKind.f64.format.order r 4607182418800017408 = some .lt ∨ FloatKind.f64.format.order r 4607182418800017408 = some .eq) := by
  have h := List.all_eq_true.1 (List.all_eq_true.1 fl_all n (List.mem_range.2 (by omega))) d (List.mem_range.2 (by omega))
  have h1 : flOk n d = true := by
    simp only [Bool.or_eq_true, beq_iff_eq] at h
    rcases h with h | h
    · omega
    · exact h
  unfold flOk at h1
  cases hq : floatBits .quo .f64 (floatOfInt .f64 (d : Int)) (floatOfInt .f64 (n : Int)) with
  | none => rw [hq] at h1; cases h1
  | some q =>
    rw [hq] at h1
    dsimp only at h1
    cases hr : floatBits .sub .f64 4607182418800017408 q with
    | none => rw [hr] at h1; cases h1
    | some r =>
      rw [hr] at h1
      dsimp only at h1
      simp only [Bool.and_eq_true, Bool.or_eq_true, beq_iff_eq] at h1
      exact ⟨q, r, rfl, hr, h1.1.1, h1.1.2, h1.2⟩
end Go.Proofs.YtdnmjofenckndaaDoor
set_option linter.unusedVariables false
set_option linter.unusedSimpArgs false
namespace Go.Proofs.YtdnmjofenckndaaDoor
open Go.RowKit
theorem statdist_far (a b c : Option Addr) (n m k d e f : Nat) (w : World) (hT : UT w) (hl : ¬ (n ≤ 40 ∧ m ≤ 40 ∧ k ≤ 40)) :
    Calls Tryd.prog 11 #[.slice a n d, .slice b m e, .slice c k f] w fun x w' => x = .returned (.bool true) ∧ Below w.heap.size w w' := by
  have AW := Lib.hid (stawake_any w hT)
  clear hT
  by_cases h1 : (40 : Int) < n
  · go_enter Tryd.func11, Tryd.ntmps11
    go_wp2_with (go_at_call 65; refine AW.out.mono ?_; rintro x w1 ⟨rfl, hb⟩; have N1 := Lib.hid hb; clear hb)
    go_ret
    exact ⟨rfl, N1.out⟩
  by_cases h2 : (40 : Int) < m
  · go_enter Tryd.func11, Tryd.ntmps11
    go_wp2_with (go_at_call 65; refine AW.out.mono ?_; rintro x w1 ⟨rfl, hb⟩; have N1 := Lib.hid hb; clear hb)
    go_ret
    exact ⟨rfl, N1.out⟩
  have h3 : (40 : Int) < k := by omega
  go_enter Tryd.func11, Tryd.ntmps11
  go_wp2_with (go_at_call 65; refine AW.out.mono ?_; rintro x w1 ⟨rfl, hb⟩; have N1 := Lib.hid hb; clear hb)
  go_ret
  exact ⟨rfl, N1.out⟩
theorem vals_n (L : List (Int × Int)) (n : Nat) (a : Option Addr) (d : Nat) (w : World) (hn : L.length = n) (hl : n ≤ 100) (hs : Signs w a L) :
    Calls Tryd.prog 41 #[.slice a n d] w fun x w' => ∃ p c, x = .returned (.slice p n c) ∧ Row w' p (vL L) ∧ Below w.heap.size w w' := by
  subst hn
  refine (esvals_ref L a d w (by omega) hs).mono ?_
  rintro x w' ⟨v, rfl, h1, h2⟩
  obtain ⟨p, c, rfl, hr⟩ := esI.row h1 (show (L.map (·.1)).length = L.length by simp)
  exact ⟨p, c, rfl, hr, h2⟩
theorem ints_n (l m : List Int) (n k : Nat) (a b : Option Addr) (c d : Nat) (q : Bool) (w : World) (hn : l.length = n) (hm : m.length = k) (hl : n ≤ 100) (hl2 : k ≤ 100) (hq : decide (l = m) = q) (ha : Row w a l) (hb : Row w b m) :
    Calls Tryd.prog 40 #[.slice a n c, .slice b k d] w fun x w' => x = .returned (.bool q) ∧ Below w.heap.size w w' := by
  subst hn hm hq
  refine (ints_ref l m a b c d w ha hb (by omega) (by omega)).mono ?_
  rintro x w' ⟨rfl, t, rfl⟩
  exact ⟨rfl, ⟨rfl, rfl, rfl, Nat.le_refl _, fun _ _ => rfl⟩⟩
theorem lev_len (A B : List (Int × Int)) (n m : Nat) (hn : A.length = n) (hm : B.length = m) : lev (vL A) (vL B) ≤ max n m := by
  have h := lev_max (vL A) (vL B)
  unfold vL at h ⊢
  rw [List.length_map, List.length_map, hn, hm] at h
  exact h
set_option maxHeartbeats 16000000 in
theorem statdist_num (A B C : List (Int × Int)) (a b c : Option Addr) (n m k d e f D N q r : Nat) (w : World) (hT : UT w) (hn : A.length = n) (hm : B.length = m) (hk : C.length = k) (hl : n ≤ 40) (hl2 : m ≤ 40) (hl3 : k ≤ 40)
    (ha : SlS (fun _ => True) w a A d) (hb : SlS (fun _ => True) w b B e) (hc : SlS (fun _ => True) w c C f) (hD : lev (vL A) (vL B) = D) (hN : max n m = N) (hN0 : 0 < N)
    (h1 : floatBits .quo .f64 (floatOfInt .f64 (D : Int)) (floatOfInt .f64 (N : Int)) = some q) (h2 : floatBits .sub .f64 4607182418800017408 q = some r) (h3 : FloatKind.f64.format.order r r = some .eq)
    (h4 : FloatKind.f64.format.order r 0 = some .gt ∨ FloatKind.f64.format.order r 0 = some .eq) (h5 : FloatKind.f64.format.order r 4607182418800017408 = some .lt ∨ FloatKind.f64.format.order r 4607182418800017408 = some .eq) :
    Calls Tryd.prog 11 #[.slice a n d, .slice b m e, .slice c k f] w fun x w' => x = .returned (.bool true) ∧ Below w.heap.size w w' := by
  have HT := Lib.hid hT
  have DI := Lib.hid fun (w' : World) (hw : Below w.heap.size w w') => (by
    have h := dist_any (fun _ => True) A B a b n m d e w' hn hm (by omega) (by omega) (ha.below hw) (hb.below hw)
    rw [hD] at h
    exact h : Calls Tryd.prog 66 #[.slice a n d, .slice b m e] w' fun x w'' => x = .returned (.int .i64 (D : Int)) ∧ Below w'.heap.size w' w'')
  have DB := Lib.hid fun (w' : World) (hw : Below w.heap.size w w') => (by
    have h := dist_any (fun _ => True) B A b a m n e d w' hm hn (by omega) (by omega) (hb.below hw) (ha.below hw)
    rw [lev_symm, hD] at h
    exact h : Calls Tryd.prog 66 #[.slice b m e, .slice a n d] w' fun x w'' => x = .returned (.int .i64 (D : Int)) ∧ Below w'.heap.size w' w'')
  have DR := Lib.hid fun (w' : World) (hw : Below w.heap.size w w') => (by
    have h := rdist_any (fun _ => True) A B a b n m d e w' hn hm (by omega) (by omega) (ha.below hw).s (hb.below hw).s
    rw [hD] at h
    exact h : Calls Tryd.prog 69 #[.slice a n d, .slice b m e] w' fun x w'' => x = .returned (.int .i64 (D : Int)) ∧ Below w'.heap.size w' w'')
  obtain ⟨E, hE⟩ : ∃ E, lev (vL A) (vL C) = E := ⟨_, rfl⟩
  obtain ⟨G, hG⟩ : ∃ G, lev (vL C) (vL B) = G := ⟨_, rfl⟩
  have DE := Lib.hid fun (w' : World) (hw : Below w.heap.size w w') => (by
    have h := dist_any (fun _ => True) A C a c n k d f w' hn hk (by omega) (by omega) (ha.below hw) (hc.below hw)
    rw [hE] at h
    exact h : Calls Tryd.prog 66 #[.slice a n d, .slice c k f] w' fun x w'' => x = .returned (.int .i64 (E : Int)) ∧ Below w'.heap.size w' w'')
  have DG := Lib.hid fun (w' : World) (hw : Below w.heap.size w w') => (by
    have h := dist_any (fun _ => True) C B c b k m f e w' hk hm (by omega) (by omega) (hc.below hw) (hb.below hw)
    rw [hG] at h
    exact h : Calls Tryd.prog 66 #[.slice c k f, .slice b m e] w' fun x w'' => x = .returned (.int .i64 (G : Int)) ∧ Below w'.heap.size w' w'')
  have htri : ¬ (E : Int) + (G : Int) < (D : Int) := by have := lev_tri (vL A) (vL B) (vL C); rw [hD, hE, hG] at this; omega
  have hE40 : (E : Int) ≤ 40 := by have := lev_len A C n k hn hk; omega
  have hG40 : (G : Int) ≤ 40 := by have := lev_len C B k m hk hm; omega
  have LK := Lib.hid fun (w' : World) (hw : Below w.heap.size w w') => like_any (fun _ => True) A B a b n m d e N q r w' hn hm (by omega) (by omega) (ha.below hw) (hb.below hw) hN (by rw [hD]; exact h1) h2
  have HI := Lib.hid fun (w' : World) => (by
    have h := hi_ref (n : Int) (m : Int) w'
    rw [show (if (m : Int) < (n : Int) then (n : Int) else (m : Int)) = (N : Int) by split <;> omega] at h
    exact h : Calls Tryd.prog 68 #[.int .i64 (n : Int), .int .i64 (m : Int)] w' fun x w'' => x = .returned (.int .i64 (N : Int)) ∧ w' = w'')
  have VA := Lib.hid fun (w' : World) (hw : Below w.heap.size w w') => vals_n A n a d w' hn (by omega) (ha.below hw).s
  have VB := Lib.hid fun (w' : World) (hw : Below w.heap.size w w') => vals_n B m b e w' hm (by omega) (hb.below hw).s
  obtain ⟨u, hu⟩ : ∃ u, decide (vL A = vL B) = u := ⟨_, rfl⟩
  have IN := Lib.hid fun (w' : World) (p1 p2 : Option Addr) (c1 c2 : Nat) (r1 : Row w' p1 (vL A)) (r2 : Row w' p2 (vL B)) => ints_n (vL A) (vL B) n m p1 p2 c1 c2 u w' (by unfold vL; rw [List.length_map]; exact hn) (by unfold vL; rw [List.length_map]; exact hm) (by omega) (by omega) hu r1 r2
  have AW := Lib.hid fun (w' : World) (hw : Below w.heap.size w w') => stawake_any w' (hT.below hw)
  have SH := Lib.hid fun (w' : World) => rshare_any (D : Int) (N : Int) q h1 w'
  have SM := Lib.hid fun (w' : World) => rsame_eq r r h3 w'
  have hop : ∀ t w, (Go.binOp .sub t (.float .f64 4607182418800017408) (.float .f64 q)).run Tryd.prog w = .ok (.float .f64 r) w := fun t w => run_float_arith w .sub t .f64 _ _ r h2
  have hN1 : ¬ (N : Int) = 0 := by omega
  have hN2 : ¬ N = 0 := by omega
  have hun : u = decide (D = 0) := by rw [← hu]; have := lev_zero (vL A) (vL B); rw [hD] at this; exact decide_eq_decide.2 this.symm
  have hl1 : ¬ (40 : Int) < n := by omega
  have hl2' : ¬ (40 : Int) < m := by omega
  have hl3' : ¬ (40 : Int) < k := by omega
  have W0 := Lib.hid (Below.refl w.heap.size w)
  clear hT ha hb hc hD hE hG hN h1 h2 hu hn hm hk hN0 hl hl2 hl3
  by_cases hD0 : D = 0
  · subst hD0
    have hu1 : u = true := by rw [hun]; rfl
    subst hu1
    replace SH := Lib.hid (show ∀ w' : World, Calls Tryd.prog 71 #[.int .i64 0, .int .i64 (N : Int)] w' fun x w'' => x = .returned (.float .f64 q) ∧ w' = w'' from fun w' => SH.out w')
    clear hun
    rcases h4 with h4 | h4 <;> rcases h5 with h5 | h5
    all_goals
      go_enter Tryd.func11, Tryd.ntmps11
      go_wp2_with (first
        | (go_at_call 66; (with_reducible refine (DI.out _ W0.out).mono ?_); rintro x w1 ⟨rfl, hb⟩; have W1 := Lib.hid (seqB W0.out hb); clear hb W0)
        | (go_at_call 67; (with_reducible refine (LK.out _ W1.out).mono ?_); rintro x w2 ⟨rfl, hb⟩; have W2 := Lib.hid (seqB W1.out hb); clear hb W1 LK)
        | (go_at_call 68; (with_reducible refine (HI.out _).mono ?_); rintro x w3 ⟨rfl, hb⟩; subst hb)
        | (go_at_call 41; (with_reducible refine (VA.out _ W2.out).mono ?_); rintro x w4 ⟨p1, c1, rfl, hr, hb⟩; have R1 := Lib.hid hr; have W4 := Lib.hid (seqB W2.out hb); clear hr hb W2 VA)
        | (go_at_call 41; (with_reducible refine (VB.out _ W4.out).mono ?_); rintro x w5 ⟨p2, c2, rfl, hr, hb⟩; have R2 := Lib.hid hr; have R1b := Lib.hid (R1.out.below hb); have W5 := Lib.hid (seqB W4.out hb); clear hr hb W4 R1 VB)
        | (go_at_call 40; (with_reducible refine (IN.out _ _ _ _ _ R1b.out R2.out).mono ?_); rintro x w6 ⟨rfl, hb⟩; have W6 := Lib.hid (seqB W5.out hb); clear hb W5 R1b R2 IN)
        | (go_at_call 69; (with_reducible refine (DR.out _ W6.out).mono ?_); rintro x w7 ⟨rfl, hb⟩; have W7 := Lib.hid (seqB W6.out hb); clear hb W6 DR)
        | (go_at_call 66; (with_reducible refine (DB.out _ W7.out).mono ?_); rintro x w8 ⟨rfl, hb⟩; have W8 := Lib.hid (seqB W7.out hb); clear hb W7)
        | (go_at_call 66; (with_reducible refine (DE.out _ W8.out).mono ?_); rintro x w9 ⟨rfl, hb⟩; have W9 := Lib.hid (seqB W8.out hb); clear hb W8)
        | (go_at_call 66; (with_reducible refine (DG.out _ W9.out).mono ?_); rintro x wa ⟨rfl, hb⟩; have WA := Lib.hid (seqB W9.out hb); clear hb W9)
        | (go_at_call 65; (with_reducible refine (AW.out _ WA.out).mono ?_); rintro x wb ⟨rfl, hb⟩; have WF := Lib.hid (seqB WA.out hb); clear hb WA)
        | (go_at_call 71; (with_reducible refine (SH.out _).mono ?_); rintro x wc ⟨rfl, hb⟩; subst hb)
        | (go_at_call 70; (with_reducible refine (SM.out _).mono ?_); rintro x wd ⟨rfl, hb⟩; subst hb))
      go_ret
      exact ⟨rfl, WF.out⟩
  · have hu1 : u = false := by rw [hun]; exact decide_eq_false hD0
    subst hu1
    have hD1 : ¬ (D : Int) = 0 := by omega
    have hDb : ((D : Int) == 0) = false := beq_eq_false_iff_ne.2 hD1
    clear hun
    rcases h4 with h4 | h4 <;> rcases h5 with h5 | h5
    all_goals
      go_enter Tryd.func11, Tryd.ntmps11
      go_wp2_with (first
        | (go_at_call 66; (with_reducible refine (DI.out _ W0.out).mono ?_); rintro x w1 ⟨rfl, hb⟩; have W1 := Lib.hid (seqB W0.out hb); clear hb W0)
        | (go_at_call 67; (with_reducible refine (LK.out _ W1.out).mono ?_); rintro x w2 ⟨rfl, hb⟩; have W2 := Lib.hid (seqB W1.out hb); clear hb W1 LK)
        | (go_at_call 68; (with_reducible refine (HI.out _).mono ?_); rintro x w3 ⟨rfl, hb⟩; subst hb)
        | (go_at_call 41; (with_reducible refine (VA.out _ W2.out).mono ?_); rintro x w4 ⟨p1, c1, rfl, hr, hb⟩; have R1 := Lib.hid hr; have W4 := Lib.hid (seqB W2.out hb); clear hr hb W2 VA)
        | (go_at_call 41; (with_reducible refine (VB.out _ W4.out).mono ?_); rintro x w5 ⟨p2, c2, rfl, hr, hb⟩; have R2 := Lib.hid hr; have R1b := Lib.hid (R1.out.below hb); have W5 := Lib.hid (seqB W4.out hb); clear hr hb W4 R1 VB)
        | (go_at_call 40; (with_reducible refine (IN.out _ _ _ _ _ R1b.out R2.out).mono ?_); rintro x w6 ⟨rfl, hb⟩; have W6 := Lib.hid (seqB W5.out hb); clear hb W5 R1b R2 IN)
        | (go_at_call 69; (with_reducible refine (DR.out _ W6.out).mono ?_); rintro x w7 ⟨rfl, hb⟩; have W7 := Lib.hid (seqB W6.out hb); clear hb W6 DR)
        | (go_at_call 66; (with_reducible refine (DB.out _ W7.out).mono ?_); rintro x w8 ⟨rfl, hb⟩; have W8 := Lib.hid (seqB W7.out hb); clear hb W7)
        | (go_at_call 66; (with_reducible refine (DE.out _ W8.out).mono ?_); rintro x w9 ⟨rfl, hb⟩; have W9 := Lib.hid (seqB W8.out hb); clear hb W8)
        | (go_at_call 66; (with_reducible refine (DG.out _ W9.out).mono ?_); rintro x wa ⟨rfl, hb⟩; have WA := Lib.hid (seqB W9.out hb); clear hb W9)
        | (go_at_call 65; (with_reducible refine (AW.out _ WA.out).mono ?_); rintro x wb ⟨rfl, hb⟩; have WF := Lib.hid (seqB WA.out hb); clear hb WA)
        | (go_at_call 71; (with_reducible refine (SH.out _).mono ?_); rintro x wc ⟨rfl, hb⟩; subst hb)
        | (go_at_call 70; (with_reducible refine (SM.out _).mono ?_); rintro x wd ⟨rfl, hb⟩; subst hb))
      go_ret
      exact ⟨rfl, WF.out⟩
end Go.Proofs.YtdnmjofenckndaaDoor
