/-
  Joined: Fr7 Fr8 Fr9 Fr10 Fr11 Fr12.
-/
import Derived.Test.YtdafcjjlkjngmaaDoorJI19
import Derived.BigQuiet
set_option linter.unusedVariables false
set_option linter.unusedSimpArgs false
set_option maxRecDepth 100000
set_option linter.unusedVariables false
set_option linter.unusedSimpArgs false
namespace Go.Proofs.YtdafcjjlkjngmaaDoor
open Go.RowKit
/-- Do items, the last one first, end with a text, its last byte first? -/
def eB (tk : Bool) : List It → List UInt8 → Bool
  | _, [] => true
  | [], _ :: _ => false
  | x :: r, c :: s => if (x.1 && tk) = true then eB tk r (c :: s) else if x.1 = true ∨ x.2 ≠ c then false else eB tk r s
theorem eB_nil (tk : Bool) (r : List It) : eB tk r [] = true := by cases r <;> rfl
def sgL (l : List It) (f j : Nat) : List It := ((l.drop f).take j).reverse
theorem sgL_succ (l : List It) (f j : Nat) (h : f + j < l.length) : sgL l f (j + 1) = l.getD (f + j) (false, 0) :: sgL l f j := by
  unfold sgL
  rw [List.take_succ_eq_append_getElem (by rw [List.length_drop]; omega), List.reverse_append, List.getElem_drop, List.getD, List.getElem?_eq_getElem h]
  rfl
def stL (S : List UInt8) (m : Nat) : List UInt8 := (S.take m).reverse
theorem stL_succ (S : List UInt8) (m : Nat) (h : m < S.length) : stL S (m + 1) = S.getD m 0 :: stL S m := by
  unfold stL
  rw [List.take_succ_eq_append_getElem h, List.reverse_append, List.getD, List.getElem?_eq_getElem h]
  rfl
set_option maxHeartbeats 4000000 in
theorem ends_any (l : List It) (S : List UInt8) (tk : Bool) (a : Option Addr) (n c f t : Nat) (w : World) (hn : l.length = n) (hl : n ≤ 400) (hS : S.length = 6) (hI : ItsIn w a l) (ht : t < n) (hf : f ≤ t) :
    Calls Tryd.prog 47 #[.slice a n c, .int .i64 (f : Int), .int .i64 (t : Int), .string (mkL S), .bool tk] w fun e w' => e = .returned (.bool (eB tk (sgL l f (t + 1 - f)) (stL S 6))) ∧ ∃ q, w' = w.drewN q := by
  have hsz : (mkL S).size = 6 := by rw [mkL_size, hS]
  obtain ⟨E, hE⟩ : ∃ E, eB tk (sgL l f (t + 1 - f)) (stL S 6) = E := ⟨_, rfl⟩
  rw [hE]
  have HE := Lib.hid hE
  have HI := Lib.hid hI
  have HN := Lib.hid hn
  have HS := Lib.hid hS
  clear hI hn hS hE
  go_enter Tryd.func47, Tryd.ntmps47
  go_upto_region 3 with fail
  go_loopw [11, 12] (fun mv iv wr => ∃ (j m : Nat) (z : Int), mv = .int .i64 (m : Int) ∧ iv = .int .i64 z ∧ z = (f : Int) + j - 1 ∧ Hid (m ≤ 6 ∧ j ≤ t + 1 - f ∧ eB tk (sgL l f j) (stL S m) = E) ∧ ∃ q, wr = w.drewN q) (fun _ iv _ => ((intOf iv) + 1 - f).toNat)
  case atStart => exact ⟨t + 1 - f, 6, t, by go_num, rfl, by omega, Lib.hid ⟨Nat.le_refl _, Nat.le_refl _, HE.out⟩, 0, rfl⟩
  case round =>
    obtain ⟨j, m, z, rfl, rfl, hz, HR, q, rfl⟩ := hrel
    have hr := HR.out
    obtain ⟨hm, hj, he⟩ := hr
    clear HR
    cases j with
    | zero =>
      have hzf : ¬ (f : Int) ≤ z := by omega
      have hE : E = decide ((m : Int) = 0) := by
        rw [← he]
        cases m with
        | zero => exact eB_nil _ _
        | succ m => rw [stL_succ _ _ (by rw [HS.out]; omega)]; unfold sgL; rw [List.take_zero]; rw [decide_eq_false (by omega)]; rfl
      clear he hz
      cases hM : decide ((m : Int) = 0)
      all_goals
        rw [hM] at hE
        have hM' : ((m : Int) == 0) = decide ((m : Int) = 0) := rfl
        rw [hM] at hM'
        subst hE
        clear hM
        go_wp2
        go_ret
        exact ⟨rfl, _, rfl⟩
    | succ j =>
      have htn : f + j < l.length := by rw [HN.out]; omega
      obtain ⟨i, hi⟩ : ∃ i, f + j = i := ⟨_, rfl⟩
      have hzi : z = (i : Int) := by omega
      subst hzi
      clear hz
      have hfi : (f : Int) ≤ (i : Int) := by omega
      cases m with
      | zero =>
        have hE : E = true := by rw [← he]; exact eB_nil _ _
        subst hE
        clear he
        go_wp2
        go_ret
        exact ⟨rfl, _, rfl⟩
      | succ m =>
        have hst := stL_succ S m (by rw [HS.out]; omega)
        rw [sgL_succ l f j htn, hst, hi] at he
        rw [hi] at htn
        obtain ⟨b, off, rfl, hb, i0, i1⟩ := HI.out i htn
        have hin : (i : Int) < (n : Int) := by have := HN.out; omega
        have hi0 : (0 : Int) ≤ (i : Int) := by omega
        have ix := fun w => idx_run S m (by rw [HS.out]; omega) w
        obtain ⟨M, hM⟩ : ∃ M, m + 1 = M := ⟨_, rfl⟩
        rw [show (m : Int) = (M : Int) - 1 from by omega] at ix
        rw [hM]
        have hM0 : (0 : Int) < (M : Int) := by omega
        have hM1 : (M : Int) ≤ 6 := by omega
        generalize l.getD i (false, 0) = x at *
        generalize S.getD m 0 = cc at *
        obtain ⟨tt, u⟩ := x
        unfold eB at he
        dsimp only at he i0 i1
        rw [hM] at hst
        clear htn
        have HX := Lib.hid (And.intro hm (And.intro hj hi))
        have ixq := fun r => ix (w.drewN r)
        cases tt
        · by_cases hu : u = cc
          · subst hu
            rw [if_neg (by simp), if_neg (by simp)] at he
            have H2 := Lib.hid he
            have HM := Lib.hid hM
            clear he hm hj hi hM hst
            go_upto_region 6 with fail
            go_quiet (fail)
            go_wp2
            go_roundw
            case rel => exact ⟨j, m, (i : Int) - 1, by have := HM.out; go_num, by go_num, by have := HX.out; omega, Lib.hid ⟨by have := HX.out; omega, by have := HX.out; omega, H2.out⟩, _, rfl⟩
            case measure => (simp [intOf]; try omega)
          · rw [if_neg (by simp), if_pos (Or.inr hu)] at he
            subst he
            have hne : ((u.toNat : Int) == (cc.toNat : Int)) = false := by
              have : u.toNat ≠ cc.toNat := fun e => hu (UInt8.toNat_inj.1 e)
              rw [beq_eq_false_iff_ne]; omega
            clear hu hm hj hi hM hst HX
            generalize u.toNat = u' at *
            generalize cc.toNat = c' at *
            go_upto_region 6 with fail
            go_quiet (fail)
            go_wp2
            go_ret
            exact ⟨rfl, _, World.drewN_drewN ..⟩
        · cases tk
          · rw [if_neg (by simp), if_pos (Or.inl rfl)] at he
            subst he
            clear hm hj hi hM hst HX
            go_upto_region 6 with fail
            go_quiet (fail)
            go_wp2
            go_ret
            exact ⟨rfl, _, World.drewN_drewN ..⟩
          · rw [if_pos (by rfl), ← hst] at he
            have H2 := Lib.hid he
            clear he hm hj hi hst
            go_wp2
            go_roundw
            case rel => exact ⟨j, M, (i : Int) - 1, rfl, by go_num, by have := HX.out; omega, Lib.hid ⟨by have := HX.out; omega, by have := HX.out; omega, H2.out⟩, _, rfl⟩
            case measure => (simp [intOf]; try omega)
end Go.Proofs.YtdafcjjlkjngmaaDoor
set_option linter.unusedVariables false
set_option linter.unusedSimpArgs false
namespace Go.Proofs.YtdafcjjlkjngmaaDoor
open Go.RowKit
/-- Of what begins a mark, only so much stands behind the items. -/
def IV (tk : Bool) (L : List UInt8) (m : Nat) (r : List It) : Prop := ∀ k, k ≤ 6 → eB tk r (stL L k) = decide (k = 0 ∨ k = m)
theorem IV_nil (tk : Bool) (L : List UInt8) (hL : L.length = 6) : IV tk L 0 [] := fun k hk => by
  cases k with
  | zero => exact eB_nil _ _
  | succ k => rw [stL_succ L k (by omega), decide_eq_false (by omega)]; rfl
theorem mkM_len (b : Bool) : (mkM b).length = 6 := by cases b <;> rfl
theorem mkM_own (b : Bool) : ∀ k, k < 6 → (mkM b).getD k 0 = (mkM b).getD 0 0 → k = 0 := by
  cases b <;> decide
theorem fit_fu (b : Bool) (m k : Nat) (hm : m < 6) (hk : k < 6) (u : UInt8) : (u = (mkM b).getD k 0 ∧ (k = 0 ∨ k = m)) ↔ k + 1 = fuR (mkM b) m u := by
  have o := mkM_own b
  unfold fuR
  by_cases h1 : u = (mkM b).getD m 0
  · rw [if_pos h1]
    constructor
    · rintro ⟨h2, h3 | h3⟩
      · subst h3
        have := o m hm (h1.symm.trans h2)
        omega
      · omega
    · intro h
      have : k = m := by omega
      subst this
      exact ⟨h1, Or.inr rfl⟩
  · rw [if_neg h1]
    by_cases h2 : u = (mkM b).getD 0 0
    · rw [if_pos h2]
      constructor
      · rintro ⟨h3, h4 | h4⟩
        · omega
        · subst h4; exact absurd h3 h1
      · intro h
        have : k = 0 := by omega
        subst this
        exact ⟨h2, Or.inl rfl⟩
    · rw [if_neg h2]
      constructor
      · rintro ⟨h3, h4 | h4⟩
        · subst h4; exact absurd h3 h2
        · subst h4; exact absurd h3 h1
      · intro h; omega
theorem IV_byte {tk b : Bool} {m : Nat} {r : List It} (h : IV tk (mkM b) m r) (hm : m < 6) (u : UInt8) : IV tk (mkM b) (fuR (mkM b) m u) ((false, u) :: r) := fun k hk => by
  cases k with
  | zero => exact (eB_nil _ _).trans (by simp)
  | succ k =>
    rw [stL_succ _ k (by rw [mkM_len]; omega)]
    unfold eB
    have f := fit_fu b m k hm (by omega) u
    by_cases h1 : u = (mkM b).getD k 0
    · rw [if_neg (by simp), if_neg (by simpa using h1), h k (by omega)]
      apply decide_eq_decide.2
      constructor
      · intro h2; exact Or.inr (f.1 ⟨h1, h2⟩)
      · rintro (h2 | h2)
        · omega
        · exact (f.2 h2).2
    · rw [if_neg (by simp), if_pos (by simpa using h1)]
      symm
      apply decide_eq_false
      rintro (h2 | h2)
      · omega
      · exact h1 (f.2 h2).1
theorem IV_tick0 {L : List UInt8} (hL : L.length = 6) {m : Nat} {r : List It} (u : UInt8) : IV false L 0 ((true, u) :: r) := fun k hk => by
  cases k with
  | zero => exact (eB_nil _ _).trans (by simp)
  | succ k =>
    rw [stL_succ _ k (by omega)]
    unfold eB
    rw [if_neg (by simp), if_pos (Or.inl rfl)]
    symm; apply decide_eq_false; omega
theorem IV_tick1 {L : List UInt8} (hL : L.length = 6) {m : Nat} {r : List It} (h : IV true L m r) (u : UInt8) : IV true L m ((true, u) :: r) := fun k hk => by
  rw [← h k hk]
  cases k with
  | zero => rw [show stL L 0 = [] from rfl, eB_nil, eB_nil]
  | succ k =>
    rw [stL_succ _ k (by omega)]
    conv => lhs; unfold eB
    rw [if_pos (by rfl)]
theorem its_on {W w : World} {a : Option Addr} {l : List It} (h : ItsIn W a l) (hb : Below W.heap.size W w) : ItsIn w a l := fun i hi => by
  obtain ⟨b, off, e, hb', h1, h2⟩ := its_below h hb i hi
  exact ⟨b, off, e, Nat.lt_of_lt_of_le hb' hb.size, h1, h2⟩
def opA (l : List It) (i : Nat) : Bool := (wkA (false, 0) (l.take i)).1
def opC (l : List It) (n : Nat) : List Value := (List.range n).map fun i => Value.bool (opA l i)
theorem opC_succ (l : List It) (n : Nat) : opC l (n + 1) = opC l n ++ [.bool (opA l n)] := by unfold opC; rw [List.range_succ, List.map_append]; rfl
def opW (w : World) (B : Nat) (v : Value) (l : List It) (n : Nat) : Prop := w.ownsRow B 4 1 v n (opC l n)
set_option maxHeartbeats 8000000 in
theorem inside_ref (l : List It) (a : Option Addr) (n c : Nat) (w : World) (hn : l.length = n) (hl : n ≤ 400) (hI : ItsIn w a l) :
    Calls Tryd.prog 23 #[.slice a n c] w fun e w' => ∃ v, e = .returned v ∧ opW w' w.heap.size v l (n + 1) ∧ Below w.heap.size w w' := by
  obtain ⟨i0, hi, hz0, hz1, hz2⟩ := info_parts infoBl
  have HI := Lib.hid hI
  have HN := Lib.hid hn
  clear hI hn
  go_enter Tryd.func23, Tryd.ntmps23
  go_upto_region 5 with fail
  go_loopw [3, 4, 5, 6] (fun ov bv fv iv wr => ∃ (i f m : Nat) (op : Bool), i ≤ n ∧ f ≤ i ∧ bv = .bool op ∧ fv = .int .i64 (f : Int) ∧ iv = .int .i64 (i : Int) ∧ Hid (wkA (false, 0) (l.take i) = (op, m)) ∧ Hid (IV op (mkM op) m (sgL l f (i - f))) ∧ Hid (opW wr w.heap.size ov l i) ∧ Hid (Below w.heap.size w wr)) (fun _ _ _ iv _ => n - (intOf iv).toNat)
  case atStart => exact ⟨0, 0, 0, false, Nat.zero_le _, Nat.le_refl _, rfl, rfl, rfl, Lib.hid rfl, Lib.hid (IV_nil _ _ rfl), Lib.hid (World.ownsRow_nil _ _ _ _), Lib.hid (Below.refl _ _)⟩
  case round =>
    obtain ⟨i, f, m, op, hin, hfi, rfl, rfl, rfl, HA, HV, HO, HB⟩ := hrel
    have hown := HO.out
    unfold opW at hown
    have hb := HB.out
    have hsz := hb.size
    have hop : opA l i = op := by unfold opA; rw [HA.out]
    have hocs := opC_succ l i
    rw [hop] at hocs
    have HOC := Lib.hid hocs
    clear hocs hop
    by_cases hlt : i < n
    · have hk1 : (i : Int) < (n : Int) := by omega
      have hk0 : (0 : Int) ≤ (i : Int) := by omega
      have hil : i < l.length := by rw [HN.out]; exact hlt
      have hst := wkA_lt (s := (false, 0)) (by decide) (l.take i)
      rw [HA.out] at hst
      dsimp only at hst
      have htk : wkA (false, 0) (l.take (i + 1)) = wkN (op, m) (l.getD i (false, 0)) := by
        rw [List.take_succ_eq_append_getElem hil, wkA_snoc, HA.out, List.getD, List.getElem?_eq_getElem hil]; rfl
      have hsg : sgL l f (i + 1 - f) = l.getD i (false, 0) :: sgL l f (i - f) := by
        rw [show i + 1 - f = (i - f) + 1 from by omega, sgL_succ l f _ (by omega), show f + (i - f) = i from by omega]
      have EN := Lib.hid (fun W h => ends_any l (mkM op) op a n c f i W HN.out hl (mkM_len op) h hlt hfi)
      go_upto_region 8 with (at_builtin; refine wpList_append_own _ rfl _ _ 52 rfl w.heap.size 4 i0 (.bool false) 1 1 Tryd.underlying52 hi hz0 hz1 hz2 rfl (by decide) _ _ _ rfl (hown.alloc _) ⟨wr.heap.size, 0, none⟩ 1 1 [.bool op] rfl rfl ?g1 ?g2 ?g3 ?g4 ?g5 ?_)
      case g1 => intro j x hj; exact app_cells rfl hj
      case g2 => simp [Value.oneCell']
      case g3 => unfold maxLen; omega
      case g4 => omega
      case g5 => simp; omega
      intro v' w5 hown5 hgrow5 _
      have N5 := Lib.hid ((hb.alloc hb.size (.cells #[.bool op] 4)).grown hgrow5 (by simp; omega) (fun j hj => (hown.lt j hj).1))
      have O5 := Lib.hid (show opW w5 w.heap.size v' l (i + 1) by unfold opW; rw [HOC.out]; exact hown5)
      have I5 := Lib.hid (its_on HI.out N5.out)
      clear hown5 hgrow5 hown HOC hb hsz HO
      obtain ⟨b, off, rfl, hblk, c0, c1⟩ := I5.out i hil
      clear hil c1
      rw [hsg] at EN
      generalize l.getD i (false, 0) = x at *
      obtain ⟨tt, u⟩ := x
      dsimp only at c0
      cases tt
      · have hv := IV_byte HV.out hst u
        have h6 := hv 6 (by omega)
        rw [h6] at EN
        rw [← hsg] at hv
        have hwk : wkS (op, m) (false, u) = fuR (mkM op) m u := rfl
        by_cases he : fuR (mkM op) m u = 6
        · have hd : decide (6 = 0 ∨ 6 = fuR (mkM op) m u) = true := decide_eq_true (Or.inr he.symm)
          rw [hd] at EN
          have hnx : wkA (false, 0) (l.take (i + 1)) = (!op, 0) := by rw [htk]; unfold wkN; rw [hwk, if_pos he]
          have HX := Lib.hid hnx
          have HV' := Lib.hid (IV_nil (!op) (mkM (!op)) (mkM_len _))
          clear hnx htk hwk he hd h6 hv hst hsg HV HA
          cases op
          all_goals
            first | rw [show mkL (mkM true) = ⟨#[27, 91, 50, 48, 49, 126]⟩ from rfl] at EN | rw [show mkL (mkM false) = ⟨#[27, 91, 50, 48, 48, 126]⟩ from rfl] at EN
            go_wp2_with (go_at_call 47; refine (EN.out _ I5.out).mono ?_; rintro e w6 ⟨rfl, q, rfl⟩)
            go_roundw
            case rel => exact ⟨i + 1, i + 1, 0, _, by omega, Nat.le_refl _, rfl, by go_num, by go_num, HX, Lib.hid (by rw [Nat.sub_self]; exact HV'.out), Lib.hid (show opW (w5.drewN q) _ _ _ _ from O5.out), Lib.hid (drewN_below N5.out q)⟩
            case measure => (simp [intOf]; try omega)
        · have hd : decide (6 = 0 ∨ 6 = fuR (mkM op) m u) = false := decide_eq_false (by omega)
          rw [hd] at EN
          have hnx : wkA (false, 0) (l.take (i + 1)) = (op, fuR (mkM op) m u) := by rw [htk]; unfold wkN; rw [hwk, if_neg he]
          have HX := Lib.hid hnx
          have HV' := Lib.hid hv
          clear hnx htk hwk he hd h6 hv hst hsg HV HA
          cases op
          all_goals
            first | rw [show mkL (mkM true) = ⟨#[27, 91, 50, 48, 49, 126]⟩ from rfl] at EN | rw [show mkL (mkM false) = ⟨#[27, 91, 50, 48, 48, 126]⟩ from rfl] at EN
            go_wp2_with (go_at_call 47; refine (EN.out _ I5.out).mono ?_; rintro e w6 ⟨rfl, q, rfl⟩)
            go_roundw
            case rel => exact ⟨i + 1, f, _, _, by omega, by omega, rfl, rfl, by go_num, HX, HV', Lib.hid (show opW (w5.drewN q) _ _ _ _ from O5.out), Lib.hid (drewN_below N5.out q)⟩
            case measure => (simp [intOf]; try omega)
      · have hnv : Hid (∃ m', wkA (false, 0) (l.take (i + 1)) = (op, m') ∧ IV op (mkM op) m' (sgL l f (i + 1 - f))) := Lib.hid (by
          rw [htk, hsg]
          cases op
          · exact ⟨0, rfl, IV_tick0 rfl (m := m) u⟩
          · refine ⟨m, ?_, IV_tick1 rfl HV.out u⟩
            unfold wkN
            have : wkS (true, m) (true, u) = m := rfl
            rw [this, if_neg (by omega)])
        clear htk hst hsg HV HA EN
        obtain ⟨m', hm1, hm2⟩ := hnv.out
        have HX := Lib.hid hm1
        have HV' := Lib.hid hm2
        clear hm1 hm2 hnv
        go_wp2
        go_roundw
        case rel => exact ⟨i + 1, f, m', op, by omega, by omega, rfl, rfl, by go_num, HX, HV', O5, N5⟩
        case measure => (simp [intOf]; try omega)
    · obtain rfl : i = n := by omega
      go_wp2_with (at_builtin; refine wpList_append_own _ rfl _ _ 52 rfl w.heap.size 4 i0 (.bool false) 1 1 Tryd.underlying52 hi hz0 hz1 hz2 rfl (by decide) _ _ _ rfl (hown.alloc _) ⟨wr.heap.size, 0, none⟩ 1 1 [.bool op] rfl rfl ?g1 ?g2 ?g3 ?g4 ?g5 ?_)
      case g1 => intro j x hj; exact app_cells rfl hj
      case g2 => simp [Value.oneCell']
      case g3 => unfold maxLen; omega
      case g4 => omega
      case g5 => simp; omega
      intro v' w5 hown5 hgrow5 _
      have N5 := Lib.hid ((hb.alloc hb.size (.cells #[.bool op] 4)).grown hgrow5 (by simp; omega) (fun j hj => (hown.lt j hj).1))
      have O5 := Lib.hid (show opW w5 w.heap.size v' l (i + 1) by unfold opW; rw [HOC.out]; exact hown5)
      clear hown5 hgrow5 hown HOC hb hsz HO
      go_wp2
      go_ret
      exact ⟨_, rfl, O5.out, N5.out⟩
end Go.Proofs.YtdafcjjlkjngmaaDoor
set_option linter.unusedVariables false
set_option linter.unusedSimpArgs false
namespace Go.Proofs.YtdafcjjlkjngmaaDoor
open Go.RowKit
/-- The bytes of items from a place on. -/
def fbL (l : List It) (f j : Nat) : List UInt8 := (((l.drop f).take j).filter fun x => !x.1).map (·.2)
theorem fbL_succ (l : List It) (f j : Nat) (h : f + j < l.length) : fbL l f (j + 1) = if (l.getD (f + j) (false, 0)).1 = true then fbL l f j else fbL l f j ++ [(l.getD (f + j) (false, 0)).2] := by
  unfold fbL
  rw [List.take_succ_eq_append_getElem (by rw [List.length_drop]; omega), List.filter_append, List.map_append, List.getElem_drop, List.getD, List.getElem?_eq_getElem h]
  cases hx : l[f + j] with
  | mk t u => cases t <;> simp
theorem fbL_len (l : List It) (f j : Nat) : (fbL l f j).length ≤ j := by
  unfold fbL
  rw [List.length_map]
  refine Nat.le_trans (List.length_filter_le _ _) ?_
  rw [List.length_take]; omega
theorem high0 (n : Nat) : highI ((n : Int) - 6) 0 = ((n - 6 : Nat) : Int) := by
  unfold highI
  split <;> omega
set_option maxHeartbeats 8000000 in
theorem between_ref (l : List It) (a : Option Addr) (n c f t : Nat) (w : World) (hn : l.length = n) (hl : n ≤ 400) (hI : ItsIn w a l) (ht : t < n) (hf : f ≤ t) :
    Calls Tryd.prog 24 #[.slice a n c, .agg #[.int .i64 (f : Int), .int .i64 (t : Int)]] w fun e w' => e = .returned (.string (mkL ((fbL l f (t + 1 - f)).take ((fbL l f (t + 1 - f)).length - 6)))) ∧ Below w.heap.size w w' := by
  obtain ⟨RR, hRR⟩ : ∃ RR, mkL ((fbL l f (t + 1 - f)).take ((fbL l f (t + 1 - f)).length - 6)) = RR := ⟨_, rfl⟩
  rw [hRR]
  have b0 := below_alloc w (.cells #[.int .i64 (f : Int), .int .i64 (t : Int)] 54)
  have r0 := heap_alloc_new w (.cells #[.int .i64 (f : Int), .int .i64 (t : Int)] 54)
  have I1 := Lib.hid (its_on hI b0)
  obtain ⟨W, hW⟩ : ∃ W, w.alloc (.cells #[.int .i64 (f : Int), .int .i64 (t : Int)] 54) = W := ⟨_, rfl⟩
  rw [hW] at b0 r0 I1
  have B0 := Lib.hid b0
  have R0 := Lib.hid r0
  have HN := Lib.hid hn
  have HRR := Lib.hid hRR
  clear hRR
  generalize hX : w.heap.size = X at *
  have zz := fun i => cell_of_row _ _ i _ _ _ R0.out
  have f0 := zz 0
  have f1 := zz 1
  dsimp at f0 f1
  have hXW : X < W.heap.size := blk_lt R0.out
  clear hI b0 r0 hn zz
  go_enter Tryd.func24, Tryd.ntmps24
  go_upto_region 3 with fail
  clear hW
  go_loopw [5, 6] (fun sv iv wr => ∃ (k j : Nat) (L : List UInt8), f + j = k ∧ k ≤ t + 1 ∧ iv = .int .i64 (k : Int) ∧ sv = .string (mkL L) ∧ Hid (fbL l f j = L) ∧ Hid (Below W.heap.size W wr)) (fun _ iv _ => t + 1 - (intOf iv).toNat)
  case atStart => exact ⟨f, 0, [], rfl, by omega, rfl, rfl, Lib.hid rfl, Lib.hid (Below.refl _ _)⟩
  case round =>
    obtain ⟨k, j, L, hjk, hk, rfl, rfl, HL, HB⟩ := hrel
    have g0 := (HB.out.cell (p := ⟨X, 0, none⟩) hXW).trans f0
    have g1 := (HB.out.cell (p := ⟨X, 1, none⟩) hXW).trans f1
    have hL4 : L.length ≤ 400 := by rw [← HL.out]; have := fbL_len l f j; omega
    by_cases hlt : k ≤ t
    · have hkl : k < l.length := by rw [HN.out]; omega
      have hs := fbL_succ l f j (by rw [hjk]; exact hkl)
      rw [hjk, HL.out] at hs
      obtain ⟨b, off, rfl, hb, i0, i1⟩ := (its_on I1.out HB.out) k hkl
      have hk1 : (k : Int) < (n : Int) := by omega
      have hk0 : (0 : Int) ≤ (k : Int) := by omega
      have hkt : (k : Int) ≤ (t : Int) := by omega
      generalize l.getD k (false, 0) = x at *
      obtain ⟨tt, u⟩ := x
      dsimp only at i0 i1 hs
      have HS := Lib.hid hs
      have HJ := Lib.hid hjk
      clear hkl hjk hs
      cases tt
      · have hcv := convB u wr
        have z1 : (mkL L).size = L.length := mkL_size L
        have z2 : (mkL [u]).size = 1 := mkL_size _
        have zc := mkL_cat L [u]
        have hs9 : ¬ 9223372036854775807 < L.length + 1 := by omega
        generalize u.toNat = u' at *
        go_wp2
        go_roundw
        case rel => exact ⟨k + 1, j + 1, L ++ [u], by have := HJ.out; omega, by omega, by go_num, by first | rfl | rw [zc], Lib.hid HS.out, Lib.hid (HB.out.alloc HB.out.size _)⟩
        case measure => (simp [intOf]; try omega)
      · go_wp2
        go_roundw
        case rel => exact ⟨k + 1, j + 1, L, by have := HJ.out; omega, by omega, by go_num, rfl, Lib.hid HS.out, HB⟩
        case measure => (simp [intOf]; try omega)
    · have hj : t + 1 - f = j := by omega
      have hrr := HRR.out
      rw [hj, HL.out] at hrr
      have hkt : ¬ (k : Int) ≤ (t : Int) := by omega
      have z1 : (mkL L).size = L.length := mkL_size L
      have HI := Lib.hid (fun w => high_any ((L.length : Int) - 6) 0 w)
      rw [high0] at HI
      have hx := mkL_ext L 0 (L.length - 6)
      rw [List.drop_zero, Nat.sub_zero] at hx
      obtain ⟨r, hr⟩ : ∃ r, L.length - 6 = r := ⟨_, rfl⟩
      rw [hr] at HI hx hrr
      rw [hrr] at hx
      obtain ⟨m, hm⟩ : ∃ m, L.length = m := ⟨_, rfl⟩
      rw [hm] at HI z1
      have hrm : (r : Int) ≤ (m : Int) := by omega
      have hr0 : (0 : Int) ≤ (r : Int) := by omega
      have hrm' : r ≤ m := by omega
      have BB := Lib.hid (B0.out.trans (HB.out.mono (Nat.le_of_lt hXW)))
      clear hj hlt hk hjk HL HB hr hrr HRR
      go_wp2_with (go_at_call 48; refine (HI.out _).mono ?_; rintro e w3 ⟨rfl, rfl⟩)
      go_ret
      exact ⟨rfl, BB.out⟩
end Go.Proofs.YtdafcjjlkjngmaaDoor
set_option linter.unusedVariables false
set_option linter.unusedSimpArgs false
namespace Go.Proofs.YtdafcjjlkjngmaaDoor
open Go.RowKit
def awF : List UInt8 := [13, 27, 91, 50, 48, 48, 126, 13, 27, 91, 50, 48, 49, 126, 10, 27, 91, 50, 48, 48, 126]
theorem awF_e : enL (biL awF) (List.finRange 21) = [0, 14] := by kernel_rfl
theorem awF_p : (psF (biL awF) (List.finRange 21)).2 = [(7, 13)] := by kernel_rfl
theorem awF_o : opF (biL awF) (List.finRange 21) = true := by kernel_rfl
theorem awF_n : opF [] (List.finRange 0) = false := by kernel_rfl
theorem awF_7 : (((List.range 21).map fun i => Value.bool (plA (biL awF) i).1).toArray)[7]? = some (.bool true) := by kernel_rfl
theorem awF_6 : (((List.range 21).map fun i => Value.bool (plA (biL awF) i).1).toArray)[6]? = some (.bool false) := by kernel_rfl
theorem awF_l : (biL awF).length = 21 := by kernel_rfl
theorem aw_enters (a : Option Addr) (c : Nat) (w : World) (h : ItsIn w a (biL awF)) : Calls Tryd.prog 21 #[.slice a 21 c] w fun e w' => ∃ g k, e = .returned (.slice (some ⟨g, 0, none⟩) 2 k) ∧ w'.ownsRow w.heap.size 3 1 (.slice (some ⟨g, 0, none⟩) 2 k) 2 [.int .i64 0, .int .i64 14] ∧ Below w.heap.size w w' := by
  refine (fenters_any (biL awF) a 21 c _ awF_l (by decide) h).mono ?_
  rw [awF_e]
  rintro e w2 ⟨v2, rfl, o2, b2⟩
  have o2' : World.ownsRow w2 w.heap.size 3 1 v2 2 [.int .i64 0, .int .i64 14] := o2
  obtain ⟨g, k, rfl⟩ := ownsRow_succ (k := 1) o2'
  exact ⟨g, k, rfl, o2', b2⟩
theorem aw_pastes (a : Option Addr) (c : Nat) (w : World) (h : ItsIn w a (biL awF)) : Calls Tryd.prog 22 #[.slice a 21 c] w fun e w' => ∃ g k, e = .returned (.slice (some ⟨g, 0, none⟩) 1 k) ∧ w'.ownsRow w.heap.size 54 2 (.slice (some ⟨g, 0, none⟩) 1 k) 1 [.int .i64 7, .int .i64 13] ∧ Below w.heap.size w w' := by
  refine (fpastes_any (biL awF) a 21 c _ awF_l (by decide) h).mono ?_
  rw [awF_p]
  rintro e w2 ⟨v2, rfl, o2, b2⟩
  have o2' : World.ownsRow w2 w.heap.size 54 2 v2 1 [.int .i64 7, .int .i64 13] := o2
  obtain ⟨g, k, rfl⟩ := ownsRow_succ (k := 0) o2'
  exact ⟨g, k, rfl, o2', b2⟩
set_option maxHeartbeats 8000000 in
theorem fawake_any (W : World) : Calls Tryd.prog 20 #[] W fun e w' => e = .returned (.bool true) ∧ Below W.heap.size W w' := by
  have RA := Lib.hid (fun w => rof_ref awF w (by decide))
  rw [show mkL awF = ⟨#[13, 27, 91, 50, 48, 48, 126, 13, 27, 91, 50, 48, 49, 126, 10, 27, 91, 50, 48, 48, 126]⟩ from rfl] at RA
  have hbl : Hid ((biL awF).length = 21) := Lib.hid (by kernel_rfl)
  go_enter Tryd.func20, Tryd.ntmps20
  go_upto_region 2 with (go_at_call 34
                         refine (RA.out _).mono ?_
                         rintro e w1 ⟨v1, rfl, o1, b1⟩
                         obtain ⟨a, c, e1, _, i1, _⟩ := o1.at
                         subst e1
                         rw [hbl.out]
                         have I1 := Lib.hid i1
                         have B1 := Lib.hid b1
                         clear o1 b1 i1)
  go_upto_region 3 with (first
    | (go_at_call 21
       refine (aw_enters a c _ I1.out).mono ?_
       rintro e w2 ⟨ge, ce, rfl, o2, b2⟩
       have I2 := Lib.hid (its_on I1.out b2)
       have B2 := Lib.hid (seqB B1.out b2)
       have E2 := Lib.hid o2
       clear o2 b2)
    | (go_at_call 22
       refine (aw_pastes a c _ I2.out).mono ?_
       rintro e w3 ⟨gp, cp, rfl, o3, b3⟩
       have I3 := Lib.hid (its_on I2.out b3)
       have B3 := Lib.hid (seqB B2.out b3)
       have E3 := Lib.hid (World.ownsRow.kept E2.out (row := none) ⟨b3.os, b3.tape, b3.output, b3.size, fun k hk _ => b3.block k hk⟩ (Or.inr (by simp [Value.ownBlock])))
       have P3 := Lib.hid o3
       clear o3 b3))
  go_upto_region 4 with (go_at_call 44
                         refine (finside_any (biL awF) a 21 c _ hbl.out (by decide) I3.out).mono ?_
                         rintro e w4 ⟨R, rfl, r4, b4⟩
                         have q7 := (cell_of_row _ _ 7 _ _ _ r4).trans awF_7
                         have q6 := (cell_of_row _ _ 6 _ _ _ r4).trans awF_6
                         have hR := blk_lt r4
                         have I4 := Lib.hid (its_on I3.out b4)
                         have B4 := Lib.hid (seqB B3.out b4)
                         have E4 := Lib.hid (World.ownsRow.kept E3.out (row := none) ⟨b4.os, b4.tape, b4.output, b4.size, fun k hk _ => b4.block k hk⟩ (Or.inr (by simp [Value.ownBlock])))
                         have P4 := Lib.hid (World.ownsRow.kept P3.out (row := none) ⟨b4.os, b4.tape, b4.output, b4.size, fun k hk _ => b4.block k hk⟩ (Or.inr (by simp [Value.ownBlock])))
                         clear b4 r4)
  have e0 := World.ownsRow.cellAt E4.out 0 (by decide)
  have e1 := World.ownsRow.cellAt E4.out 1 (by decide)
  have p0 := World.ownsRow.cellAt P4.out 0 (by decide)
  have p1 := World.ownsRow.cellAt P4.out 1 (by decide)
  simp at e0 e1 p0 p1
  clear RA E2 E3 P3 I1 I2 I3
  have OP := Lib.hid (fopen_any (biL awF) a 21 c w4 hbl.out (by decide) I4.out)
  rw [awF_o] at OP
  have hag : ∀ w, Sem.run Tryd.prog (Op.equalIn 10000 54 (.agg #[.int .i64 7, .int .i64 13]) (.agg #[.int .i64 7, .int .i64 13])) w = .ok true w := fun _ => by kernel_rfl
  go_wp2_with (first
    | (go_at_call 45; refine OP.out.mono ?_; rintro e w5 ⟨rfl, b5⟩; have B5 := Lib.hid (seqB B4.out b5); have ON := Lib.hid (fopen_any [] none 0 0 w5 rfl (by decide) (fun i hi => absurd hi (Nat.not_lt_zero i))); rw [awF_n] at ON; clear b5 OP)
    | (go_at_call 45; refine ON.out.mono ?_; rintro e w6 ⟨rfl, b6⟩; have B6 := Lib.hid (seqB B5.out b6)))
  go_ret
  exact ⟨rfl, B6.out⟩
end Go.Proofs.YtdafcjjlkjngmaaDoor
set_option linter.unusedVariables false
set_option linter.unusedSimpArgs false
namespace Go.Proofs.YtdafcjjlkjngmaaDoor
open Go.RowKit
/-- No Enter, and no paste. -/
def noE (K : List Ky) : Prop := ∀ k, k ∈ K → k.1 ≠ 4 ∧ k.1 ≠ 15
theorem noE_nil : noE [] := fun k h => by cases h
theorem noE_app {A B : List Ky} (h : noE A) (g : noE B) : noE (A ++ B) := fun k hk => by
  rcases List.mem_append.1 hk with hk | hk
  · exact h k hk
  · exact g k hk
theorem noE_one (a v : Int) (h : a ≠ 4 ∧ a ≠ 15) : noE [kv0 a v] := fun k hk => by
  obtain rfl := List.mem_singleton.1 hk
  exact h
theorem noE_fr (b : UInt8) : noE (frK b) := by
  unfold frK
  repeat' split
  all_goals first
    | exact noE_nil
    | exact noE_one _ _ (by decide)
theorem noE_map (P : List UInt8) : noE (P.map fun b => kv0 1 (1114112 + (b.toNat : Int))) := fun k hk => by
  obtain ⟨b, _, rfl⟩ := List.mem_map.1 hk
  exact ⟨show (1 : Int) ≠ 4 by decide, show (1 : Int) ≠ 15 by decide⟩
theorem noE_rs (P : List UInt8) : noE (rsK P) := by
  unfold rsK
  repeat' split
  all_goals first
    | exact noE_nil
    | exact noE_one _ _ (by decide)
    | exact noE_map _
theorem kd_ne (i : Nat) : kdL.getD i 0 ≠ 4 ∧ kdL.getD i 0 ≠ 15 := by
  by_cases h : i < 13
  · have : ∀ i : Fin 13, kdL.getD i.val 0 ≠ 4 ∧ kdL.getD i.val 0 ≠ 15 := by decide
    exact this ⟨i, h⟩
  · rw [List.getD, List.getElem?_eq_none (by show 13 ≤ i; omega)]
    exact ⟨by decide, by decide⟩
theorem kn_ne (g : List UInt8) : ∀ n, (knF g n).1 ≠ 4 ∧ (knF g n).1 ≠ 15
  | 0 => ⟨by show (0 : Int) ≠ 4; decide, by show (0 : Int) ≠ 15; decide⟩
  | n + 1 => by
    unfold knF
    split
    · exact kd_ne _
    · exact kn_ne g n
theorem noE_kn (g : List UInt8) : noE (keK (knK g)) := by
  unfold keK
  split
  · exact noE_nil
  · intro k hk
    obtain rfl := List.mem_singleton.1 hk
    exact kn_ne g 13
theorem noE_rbA {b : UInt8} (h : ¬ (b.toNat = 13 ∨ b.toNat = 10)) : noE (rbA b).2 := by
  unfold rbA
  rw [if_neg h]
  split
  · exact noE_nil
  · exact noE_fr b
theorem noE_rbN (P : List UInt8) {b : UInt8} (h : ¬ (b.toNat = 13 ∨ b.toNat = 10)) : noE (rbN P b).2 := noE_app (noE_rs P) (noE_rbA h)
theorem noE_rbE (P : List UInt8) {b : UInt8} (h : ¬ (b.toNat = 13 ∨ b.toNat = 10)) : noE (rbE P b).2 := by
  unfold rbE
  repeat' split
  all_goals first
    | exact noE_nil
    | exact noE_one _ _ (by decide)
    | exact noE_rbN P h
    | exact noE_kn _
theorem noE_rbU (P : List UInt8) {b : UInt8} (h : ¬ (b.toNat = 13 ∨ b.toNat = 10)) : noE (rbU P b).2 := by
  unfold rbU
  repeat' split
  all_goals first
    | exact noE_nil
    | exact noE_one _ _ (by decide)
    | exact noE_rbN P h
/-- The keys of a byte outside. -/
theorem rb_keys (P : List UInt8) (b : UInt8) : ((b.toNat = 13 ∨ b.toNat = 10) ∧ ∃ K, (rbR P b).2 = K ++ [kv0 4 b.toNat] ∧ noE K) ∨ (¬ (b.toNat = 13 ∨ b.toNat = 10) ∧ noE (rbR P b).2) := by
  by_cases h : b.toNat = 13 ∨ b.toNat = 10
  · refine Or.inl ⟨h, ?_⟩
    unfold rbR
    split
    · exact ⟨[], by unfold rbA; rw [if_pos h]; rfl, noE_nil⟩
    · exact ⟨_, rfl, noE_rs P⟩
  · refine Or.inr ⟨h, ?_⟩
    unfold rbR
    split
    · exact noE_rbA h
    · split
      · exact noE_rs P
      · split
        · exact noE_rbE P h
        · exact noE_rbU P h
theorem beL_take (k : Nat) (h : k < 6) : beL.take (k + 1) = beL.take k ++ [beL.getD k 0] := by
  rcases (by omega : k = 0 ∨ k = 1 ∨ k = 2 ∨ k = 3 ∨ k = 4 ∨ k = 5) with rfl | rfl | rfl | rfl | rfl | rfl <;> rfl
theorem beL_snoc {P : List UInt8} {b : UInt8} {k : Nat} (hk : k ≤ 6) (h : P ++ [b] = beL.take k) : ∃ j, k = j + 1 ∧ P = beL.take j ∧ b = beL.getD j 0 := by
  cases k with
  | zero => exact absurd h (by simp)
  | succ j =>
    rw [beL_take j (by omega)] at h
    obtain ⟨h1, h2⟩ := List.append_inj' h rfl
    exact ⟨j, rfl, h1, by simpa using h2⟩
/-- So much of a paste's beginning waits. -/
def FR (P : List UInt8) (m : Nat) : Prop := (1 ≤ m ∧ m ≤ 5 ∧ P = beL.take m) ∨ (m = 0 ∧ ∀ k, 1 ≤ k → k ≤ 5 → P ≠ beL.take k)
theorem FR_nil : FR [] 0 := Or.inr ⟨rfl, fun k h1 h2 e => by
  rcases (by omega : k = 1 ∨ k = 2 ∨ k = 3 ∨ k = 4 ∨ k = 5) with rfl | rfl | rfl | rfl | rfl <;> cases e⟩
theorem rbA_form {b : UInt8} (h : b.toNat ≠ 27) : ∃ P', (rbA b).1 = (P', false) ∧ (P' = [] ∨ P' = [b]) := by
  unfold rbA
  split
  · exact ⟨_, rfl, Or.inl rfl⟩
  · refine ⟨_, rfl, ?_⟩
    unfold frW
    split
    · exact Or.inr rfl
    · exact Or.inl rfl
/-- What a byte leaves, which is not 27. -/
theorem rb_form (P : List UInt8) {b : UInt8} (h : b.toNat ≠ 27) : ((rbR P b).1 = ([], true) ∧ (P ++ [b]).drop 2 = [50, 48, 48, 126] ∧ P ≠ [] ∧ P.getD 0 0 = 27 ∧ P ≠ [27] ∧ P ≠ [27, 79]) ∨ ∃ P', (rbR P b).1 = (P', false) ∧ (P' = [] ∨ P' = [b] ∨ P' = P ++ [b]) := by
  have hA : ∃ P', (rbA b).1 = (P', false) ∧ (P' = [] ∨ P' = [b] ∨ P' = P ++ [b]) := by
    obtain ⟨P', e, h1 | h1⟩ := rbA_form h
    · exact ⟨P', e, Or.inl h1⟩
    · exact ⟨P', e, Or.inr (Or.inl h1)⟩
  have hN : ∃ P', (rbN P b).1 = (P', false) ∧ (P' = [] ∨ P' = [b] ∨ P' = P ++ [b]) := hA
  unfold rbR
  by_cases h0 : P = []
  · rw [if_pos h0]; exact Or.inr hA
  · rw [if_neg h0]
    split
    · exact Or.inr ⟨_, rfl, Or.inl rfl⟩
    · split
      · rename_i h27
        unfold rbE
        split
        · right
          repeat' split
          · exact ⟨_, rfl, Or.inr (Or.inr rfl)⟩
          · exact ⟨_, rfl, Or.inl rfl⟩
          · exact hN
        · rename_i n27
          split
          · right
            repeat' split
            · exact ⟨_, rfl, Or.inl rfl⟩
            · exact ⟨_, rfl, Or.inl rfl⟩
            · exact hN
          · rename_i n79
            split
            · exact Or.inr ⟨_, rfl, Or.inr (Or.inr rfl)⟩
            · split
              · split
                · rename_i hd
                  exact Or.inl ⟨rfl, hd, h0, h27, n27, n79⟩
                · exact Or.inr ⟨_, rfl, Or.inl rfl⟩
              · exact Or.inr hN
      · right
        unfold rbU
        repeat' split
        · exact ⟨_, rfl, Or.inr (Or.inr rfl)⟩
        · exact hN
        · exact ⟨_, rfl, Or.inl rfl⟩
theorem rb_27 (P : List UInt8) : (rbR P 27).1 = ([27], false) := by
  unfold rbR
  split
  · rfl
  · rw [if_neg (by decide), if_pos (by decide)]
theorem be_go (m : Nat) (h1 : 1 ≤ m) (h : m ≤ 4) : (rbR (beL.take m) (beL.getD m 0)).1 = (beL.take (m + 1), false) := by
  rcases (by omega : m = 1 ∨ m = 2 ∨ m = 3 ∨ m = 4) with rfl | rfl | rfl | rfl <;> decide
theorem be_end : (rbR (beL.take 5) (beL.getD 5 0)).1 = ([], true) := by decide
theorem FR_no {P P' : List UInt8} {b : UInt8} (hb : b.toNat ≠ 27) (hP : ∀ j, j ≤ 5 → P = beL.take j → b ≠ beL.getD j 0) (h : P' = [] ∨ P' = [b] ∨ P' = P ++ [b]) : FR P' 0 := by
  rcases h with rfl | rfl | rfl
  · exact FR_nil
  · refine Or.inr ⟨rfl, fun k h1 h2 e => ?_⟩
    obtain ⟨j, rfl, e1, e2⟩ := beL_snoc (P := []) (by omega) e
    have hj : j = 0 := by
      have := congrArg List.length e1
      rw [List.length_take, show beL.length = 6 from rfl, List.length_nil] at this
      omega
    subst hj
    exact hb (by rw [e2]; rfl)
  · refine Or.inr ⟨rfl, fun k h1 h2 e => ?_⟩
    obtain ⟨j, rfl, e1, e2⟩ := beL_snoc (by omega) e
    exact hP j (by omega) e1 e2
theorem rb_state {P : List UInt8} {m : Nat} (b : UInt8) (h : FR P m) (hw : P.getD 0 0 = 27 → P = [27] ∨ P = [27, 79] ∨ ∃ g, P = 27 :: 91 :: g) :
    (fuR beL m b = 6 ∧ (rbR P b).1 = ([], true)) ∨ (fuR beL m b ≠ 6 ∧ ∃ P', (rbR P b).1 = (P', false) ∧ FR P' (fuR beL m b)) := by
  have hm5 : m ≤ 5 := by rcases h with h | h <;> omega
  have ho : ∀ k, k < 6 → beL.getD k 0 = 27 → k = 0 := fun k hk => mkM_own false k hk
  by_cases h27 : b = 27
  · subst h27
    have hf : fuR beL m 27 = 1 := by
      unfold fuR
      split
      · rename_i e
        have := ho m (by omega) e.symm
        omega
      · rw [if_pos (by decide)]
    rw [hf]
    exact Or.inr ⟨by decide, _, rb_27 P, Or.inl ⟨by decide, by decide, rfl⟩⟩
  · have hb : b.toNat ≠ 27 := fun e => h27 (UInt8.toNat_inj.1 e)
    by_cases hg : 1 ≤ m ∧ b = beL.getD m 0
    · obtain ⟨h1, rfl⟩ := hg
      have hP : P = beL.take m := by
        rcases h with ⟨_, _, e⟩ | ⟨e, _⟩
        · exact e
        · omega
      subst hP
      have hf : fuR beL m (beL.getD m 0) = m + 1 := by unfold fuR; rw [if_pos rfl]
      rw [hf]
      by_cases h5 : m = 5
      · subst h5; exact Or.inl ⟨rfl, be_end⟩
      · exact Or.inr ⟨by omega, _, be_go m h1 (by omega), Or.inl ⟨by omega, by omega, rfl⟩⟩
    · have hf : fuR beL m b = 0 := by
        unfold fuR
        split
        · rename_i e
          by_cases h1 : 1 ≤ m
          · exact absurd ⟨h1, e⟩ hg
          · have : m = 0 := by omega
            subst this
            exact absurd e h27
        · exact if_neg (fun e => h27 e)
      have hP : ∀ j, j ≤ 5 → P = beL.take j → b ≠ beL.getD j 0 := fun j hj e e2 => by
        have hj1 : 1 ≤ j := by
          rcases Nat.eq_zero_or_pos j with h0 | h0
          · subst h0; exact absurd e2 h27
          · exact h0
        rcases h with ⟨h1, h2, h3⟩ | ⟨h1, h2⟩
        · have hl := congrArg List.length (h3.symm.trans e)
          rw [List.length_take, List.length_take, show beL.length = 6 from rfl] at hl
          have : j = m := by omega
          subst this
          exact hg ⟨h1, e2⟩
        · exact h2 j hj1 hj e
      rw [hf]
      rcases rb_form P hb with ⟨_, hd, h0, g0, n1, n2⟩ | ⟨P', e, hf'⟩
      · rcases hw g0 with e | e | ⟨g, rfl⟩
        · exact absurd e n1
        · exact absurd e n2
        · have e1 : 27 :: 91 :: g ++ [b] = beL.take 6 := by
            have hd' : g ++ [b] = [50, 48, 48, 126] := hd
            show 27 :: 91 :: (g ++ [b]) = _
            rw [hd']; rfl
          obtain ⟨j, hj, e2, e3⟩ := beL_snoc (Nat.le_refl _) e1
          exact absurd e3 (hP j (by omega) e2)
      · exact Or.inr ⟨by decide, P', e, FR_no hb hP hf'⟩
end Go.Proofs.YtdafcjjlkjngmaaDoor
set_option linter.unusedVariables false
set_option linter.unusedSimpArgs false
namespace Go.Proofs.YtdafcjjlkjngmaaDoor
open Go.RowKit
theorem upN_split (n i : Nat) : List.finRange n = upN n i ++ (List.finRange n).drop i := (List.take_append_drop i _).symm
theorem enL_app (l : List It) {n : Nat} (a b : List (Fin n)) : enL l (a ++ b) = enL l a ++ enL l b := by
  unfold enL; rw [List.filter_append, List.map_append]
theorem en_next (l : List It) {n i : Nat} (h : i < n) : enL l (upN n (i + 1)) = if enB l i = true then enL l (upN n i) ++ [(i : Int)] else enL l (upN n i) := by
  rw [upN_succ h, enL_snoc]
theorem en_hit (l : List It) {n i : Nat} (h : i < n) (hb : enB l i = true) : (enL l (List.finRange n))[(enL l (upN n i)).length]? = some (i : Int) := by
  have e := en_next l h
  rw [if_pos hb] at e
  rw [upN_split n (i + 1), enL_app, e, List.append_assoc, List.getElem?_append_right (Nat.le_refl _), Nat.sub_self]
  rfl
theorem ps_ext (l : List It) {n : Nat} (L : List (Fin n)) : ∀ s : Int × List (Int × Int), ∃ r, (L.foldl (fun s i => psS l s i.val) s).2 = s.2 ++ r := by
  induction L with
  | nil => exact fun s => ⟨[], by simp⟩
  | cons x L ih =>
    intro s
    obtain ⟨r, hr⟩ := ih (psS l s x.val)
    rw [List.foldl_cons, hr]
    unfold psS
    split
    · exact ⟨_, rfl⟩
    · split
      · exact ⟨_, List.append_assoc ..⟩
      · exact ⟨_, rfl⟩
theorem ps_next (l : List It) {n i : Nat} (h : i < n) : psF l (upN n (i + 1)) = psS l (psF l (upN n i)) i := by
  rw [upN_succ h, psF_snoc]
theorem ps_hit (l : List It) {n i : Nat} (h : i < n) (h1 : (plA l i).2.1 = false) (h2 : (plA l i).2.2 = true) : (psF l (List.finRange n)).2[(psF l (upN n i)).2.length]? = some ((psF l (upN n i)).1, (i : Int)) := by
  have e := ps_next l h
  unfold psS at e
  rw [if_neg (by rw [h1]; decide), if_pos h2] at e
  obtain ⟨r, hr⟩ := ps_ext l ((List.finRange n).drop (i + 1)) (psF l (upN n (i + 1)))
  have e2 : psF l (List.finRange n) = ((List.finRange n).drop (i + 1)).foldl (fun s i => psS l s i.val) (psF l (upN n (i + 1))) := by
    conv => lhs; rw [upN_split n (i + 1)]
    unfold psF; rw [List.foldl_append]
  rw [e2, hr, e]
  dsimp only
  rw [List.append_assoc, List.getElem?_append_right (Nat.le_refl _), Nat.sub_self]
  rfl
/-- What an input holds, and what is told. -/
structure FS (l : List It) (n i : Nat) (s : IS) (P : List UInt8) (pas : Bool) (m : Nat) : Prop where
  rl : Rl s (P, pas)
  mo : s.most = 500
  gs : GS i s
  wk : wkA (false, 0) (l.take i) = (pas, m)
  out : pas = false → FR P m
  inn : pas = true → JM P m ∧ ∃ f : Nat, f ≤ i ∧ (psF l (upN n i)).1 = (f : Int) ∧ P = fbL l f (i - f)
/-- The keys of an item. -/
def KP (l : List It) (n i : Nat) (K : List Ky) : Prop :=
  (noE K ∧ enB l i = false ∧ (plA l i).2.2 = false) ∨
  (∃ K', K = K' ++ [kv0 4 ((l.getD i (false, 0)).2.toNat : Int)] ∧ noE K' ∧ enB l i = true ∧ (plA l i).2.2 = false) ∨
  (∃ (f : Nat) (c : Bool), K = [(15, 0, mkL ((fbL l f (i + 1 - f)).take ((fbL l f (i + 1 - f)).length - 6)), c)] ∧ enB l i = false ∧ (plA l i).2.1 = false ∧ (plA l i).2.2 = true ∧ (psF l (upN n i)).1 = (f : Int) ∧ f ≤ i)
theorem fs_0 (l : List It) (n : Nat) : FS l n 0 (in0 500) [] false 0 := ⟨rl_0 500, rfl, gs_in0 (by omega), rfl, fun _ => FR_nil, fun e => (by cases e)⟩
theorem ip_fu (m : Nat) (b : UInt8) : ipM m b = fuR peL m b := rfl
theorem fs_step {l : List It} {n i : Nat} {s : IS} {P : List UInt8} {pas : Bool} {m : Nat} (h : FS l n i s P pas m) (hn : l.length = n) (hl : n ≤ 400) (hi : i < n) :
    (∃ P' pas' m', FS l n (i + 1) (itR s (l.getD i (false, 0))).1 P' pas' m') ∧ KP l n i (itR s (l.getD i (false, 0))).2 := by
  have hil : i < l.length := by omega
  have hpl : plA l i = wkP (pas, m) (l.getD i (false, 0)) := by unfold plA; rw [h.wk]
  have htk : wkA (false, 0) (l.take (i + 1)) = wkN (pas, m) (l.getD i (false, 0)) := by
    rw [List.take_succ_eq_append_getElem hil, wkA_snoc, h.wk, List.getD, List.getElem?_eq_getElem hil]; rfl
  have hps := ps_next l hi
  unfold psS at hps
  obtain ⟨e1, e2, e3⟩ := rl_it h.rl (by rw [h.mo]; decide) (l.getD i (false, 0))
  rw [h.mo] at e1 e2 e3
  have hgs := gs_it h.gs (l.getD i (false, 0))
  have hfb : ∀ f, f ≤ i → fbL l f (i + 1 - f) = if (l.getD i (false, 0)).1 = true then fbL l f (i - f) else fbL l f (i - f) ++ [(l.getD i (false, 0)).2] := fun f hf => by
    rw [show i + 1 - f = (i - f) + 1 from by omega, fbL_succ l f (i - f) (by omega), show f + (i - f) = i from by omega]
  have hen : enB l i = (!(plA l i).1 && (!(l.getD i (false, 0)).1 && (decide ((l.getD i (false, 0)).2.toNat = 13) || decide ((l.getD i (false, 0)).2.toNat = 10)))) := rfl
  have hm6 := wkA_lt (s := (false, 0)) (by decide) (l.take i)
  rw [h.wk] at hm6
  dsimp only at hm6
  unfold KP
  rw [e1]
  generalize (itR s (l.getD i (false, 0))).1 = s' at *
  generalize l.getD i (false, 0) = x at *
  obtain ⟨t, b⟩ := x
  dsimp only at hfb hen
  cases pas
  · cases t
    · have hr : riR 500 (P, false) (false, b) = rbR P b := rfl
      rw [hr] at e1 e2 ⊢
      have hS : wkS (false, m) (false, b) = fuR beL m b := rfl
      have hw : P.getD 0 0 = 27 → P = [27] ∨ P = [27, 79] ∨ ∃ g, P = 27 :: 91 :: g := fun h27 => by
        rcases h.rl.w rfl with ⟨h1, _⟩ | ⟨h1, _⟩ | ⟨h1, _⟩ | ⟨g, h1, _⟩ | ⟨_, h1, _⟩
        · have : P = [] := h1
          rw [this] at h27; exact absurd h27 (by decide)
        · exact Or.inl h1
        · exact Or.inr (Or.inl h1)
        · exact Or.inr (Or.inr ⟨g, h1⟩)
        · exact absurd h27 h1
      have hp1 : (plA l i).1 = false := by rw [hpl]; rfl
      have hp3 : (plA l i).2.2 = false := by rw [hpl]; unfold wkP; simp
      constructor
      · rcases rb_state b (h.out rfl) hw with ⟨hf, hs⟩ | ⟨hf, P', hs, hF⟩
        · rw [hs] at e2
          have hp2 : (plA l i).2.1 = true := by rw [hpl]; unfold wkP; rw [decide_eq_true (hS.trans hf)]; rfl
          rw [if_pos hp2] at hps
          refine ⟨[], true, 0, e2, e3, hgs, ?_, fun e => (by cases e), fun _ => ⟨jm_nil, i + 1, Nat.le_refl _, ?_, ?_⟩⟩
          · rw [htk]; unfold wkN; rw [if_pos (hS.trans hf)]; rfl
          · rw [hps]; rfl
          · rw [Nat.sub_self]; rfl
        · rw [hs] at e2
          refine ⟨P', false, _, e2, e3, hgs, ?_, fun _ => hF, fun e => (by cases e)⟩
          rw [htk]; unfold wkN; rw [if_neg (by rw [hS]; exact hf), hS]
      · rw [hp1] at hen
        rcases rb_keys P b with ⟨h13, K, hK, hE⟩ | ⟨h13, hE⟩
        · right; left
          refine ⟨K, hK, hE, ?_, hp3⟩
          rw [hen]
          rcases h13 with h13 | h13
          · rw [decide_eq_true h13]; rfl
          · rw [decide_eq_true h13, Bool.or_true]; rfl
        · left
          refine ⟨hE, ?_, hp3⟩
          rw [hen, decide_eq_false (fun e => h13 (Or.inl e)), decide_eq_false (fun e => h13 (Or.inr e))]
          rfl
    · have hr : riR 500 (P, false) (true, b) = (([], false), rsK P) := rfl
      rw [hr] at e1 e2 ⊢
      constructor
      · refine ⟨[], false, 0, e2, e3, hgs, ?_, fun _ => FR_nil, fun e => (by cases e)⟩
        rw [htk]; rfl
      · left
        refine ⟨noE_rs P, ?_, ?_⟩
        · rw [hen]; simp
        · rw [hpl]; unfold wkP; simp
  · obtain ⟨hJ, f, hfi, hfs, hP⟩ := h.inn rfl
    have hp1 : (plA l i).1 = true := by rw [hpl]; rfl
    have hp2 : (plA l i).2.1 = false := by rw [hpl]; unfold wkP; simp
    have hE : enB l i = false := by rw [hen, hp1]; rfl
    have hff := hfb f hfi
    cases t
    · have hr : riR 500 (P, true) (false, b) = rbP 500 P b := rfl
      rw [hr] at e1 e2 ⊢
      have hS : wkS (true, m) (false, b) = fuR peL m b := rfl
      have hj6 := jm_step hJ b 6 (Nat.le_refl _)
      rw [show peL.take 6 = peL from rfl, ip_fu] at hj6
      rw [if_neg (by decide), ← hP] at hff
      have hPl : P.length ≤ 400 := by rw [hP]; have := fbL_len l f (i - f); omega
      by_cases hs : peL <:+ P ++ [b]
      · have hf : fuR peL m b = 6 := by rcases hj6.1 hs with e | e <;> omega
        have hp3 : (plA l i).2.2 = true := by rw [hpl]; unfold wkP; rw [decide_eq_true (hS.trans hf)]; rfl
        unfold rbP at e1 e2 ⊢
        rw [if_pos hs] at e1 e2 ⊢
        constructor
        · refine ⟨[], false, 0, e2, e3, hgs, ?_, fun _ => FR_nil, fun e => (by cases e)⟩
          rw [htk]; unfold wkN; rw [if_pos (hS.trans hf)]; rfl
        · right; right
          refine ⟨f, decide (min ((P.length : Int) + 1 - 6) 500 < (P.length : Int) + 1 - 6), ?_, hE, hp2, hp3, hfs, hfi⟩
          rw [hff]
          rw [show (min ((P.length : Int) + 1 - 6) 500).toNat = (P ++ [b]).length - 6 from by rw [List.length_append, List.length_singleton]; omega]
      · have hf : ¬ fuR peL m b = 6 := fun e => hs (hj6.2 (Or.inr e.symm))
        have hp3 : (plA l i).2.2 = false := by rw [hpl]; unfold wkP; rw [decide_eq_false (by rw [hS]; exact hf)]; rfl
        unfold rbP at e1 e2 ⊢
        rw [if_neg hs] at e1 e2 ⊢
        rw [if_neg (by rw [hp2]; decide), if_neg (by rw [hp3]; decide)] at hps
        constructor
        · refine ⟨P ++ [b], true, fuR peL m b, e2, e3, hgs, ?_, fun e => (by cases e), fun _ => ⟨⟨?_, fun k hk => ?_⟩, f, by omega, ?_, hff.symm⟩⟩
          · rw [htk]; unfold wkN; rw [if_neg (by rw [hS]; exact hf), hS]
          · have := fuR_le (L := peL) hm6 b; omega
          · exact jm_step hJ b k (by omega)
          · rw [hps]; exact hfs
        · left
          exact ⟨noE_nil, hE, hp3⟩
    · have hr : riR 500 (P, true) (true, b) = ((P, true), []) := rfl
      rw [hr] at e1 e2 ⊢
      have hS : wkS (true, m) (true, b) = m := rfl
      have hp3 : (plA l i).2.2 = false := by rw [hpl]; unfold wkP; rw [decide_eq_false (by rw [hS]; omega)]; rfl
      rw [if_neg (by rw [hp2]; decide), if_neg (by rw [hp3]; decide)] at hps
      rw [if_pos rfl, ← hP] at hff
      constructor
      · refine ⟨P, true, m, e2, e3, hgs, ?_, fun e => (by cases e), fun _ => ⟨hJ, f, by omega, by rw [hps]; exact hfs, hff.symm⟩⟩
        rw [htk]; unfold wkN; rw [hS, if_neg (by omega)]
      · left
        exact ⟨noE_nil, hE, hp3⟩
end Go.Proofs.YtdafcjjlkjngmaaDoor
