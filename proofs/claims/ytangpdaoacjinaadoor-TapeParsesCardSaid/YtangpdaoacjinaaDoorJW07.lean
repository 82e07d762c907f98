/-
  Joined: Ky4 Sp1 Sp2 Sp3 Ky5 Ky6 Ky7 Ky8 Ky9.
-/
import Derived.Test.YtangpdaoacjinaaDoorJW02
import Derived.Test.YtangpdaoacjinaaDoorJW03
import Derived.Test.YtangpdaoacjinaaDoorJW04
import Derived.Test.YtangpdaoacjinaaDoorJW05
import Derived.Test.YtangpdaoacjinaaDoorJW06
import Derived.Test.YtangpdaoacjinaaDoorShelf
import Derived.Lib.UnsafeStr
import Derived.Deep.Cut
import Derived.Deep.RegionHeld3
import Derived.Laws.Strings2
set_option linter.unusedVariables false
set_option linter.unusedSimpArgs false
set_option maxRecDepth 100000
set_option linter.unusedVariables false
set_option linter.unusedSimpArgs false
namespace Go.Proofs.YtangpdaoacjinaaDoor
open Go.RowKit
theorem kcell (w : World) (v : Value) (t : TypeId) : (w.alloc (.cells #[v] t)).cell? ⟨w.heap.size, 0, none⟩ = some v := by rw [World.cell?_alloc_new]; rfl
theorem may_sign (v : Int) : kmB 1 v = (decide (32 ≤ v) && decide (v ≠ 127) && rightB v) := by unfold kmB; rw [if_pos rfl]
theorem may_ctrl (v : Int) : kmB 2 v = ctB v := by unfold kmB; rw [if_neg (by decide), if_pos rfl]
theorem may_meta (v : Int) : kmB 3 v = (decide (0 ≤ v ∧ v < 128) && !lnB v) := by unfold kmB; rw [if_neg (by decide), if_neg (by decide), if_pos rfl]
theorem may_other (kind v : Int) (h1 : kind ≠ 1) (h2 : kind ≠ 2) (h3 : kind ≠ 3) : kmB kind v = (kFind kind v).isSome := by unfold kmB; rw [if_neg h1, if_neg h2, if_neg h3]
set_option maxHeartbeats 2000000 in
set_option maxRecDepth 100000 in
theorem kmay_any (kind v : Int) (w : World) (hK : KT w) : Calls Tryd.prog 288 #[.int .i64 kind, .int .i64 v] w fun e w' => e = .returned (.bool (kmB kind v)) ∧ Below w.heap.size w w' := by
  by_cases h1 : kind = 1
  · subst h1
    rw [may_sign]
    have R := Lib.hid fun w => right_any v w
    clear hK
    by_cases h32 : 32 ≤ v
    · by_cases h127 : v = 127
      · subst h127
        go_enter Tryd.func288, Tryd.ntmps288
        go_wp2_with fail
        go_ret
        exact ⟨rfl, Below.refl _ _⟩
      · rw [decide_eq_true h32, decide_eq_true h127]
        go_enter Tryd.func288, Tryd.ntmps288
        go_wp2_with (go_at_call 204; refine (R.out _).mono ?_; rintro e w1 ⟨rfl, rfl⟩)
        go_ret
        refine ⟨?_, Below.refl _ _⟩
        show Ending.returned (.bool (v != 127 && rightB v)) = _
        rw [show (v != 127) = true by simp [h127]]
        rfl
    · rw [decide_eq_false h32]
      go_enter Tryd.func288, Tryd.ntmps288
      go_wp2_with fail
      go_ret
      exact ⟨rfl, Below.refl _ _⟩
  by_cases h2 : kind = 2
  · subst h2
    rw [may_ctrl]
    have L := Lib.hid fun w => lineByte_any v w
    clear hK h1
    by_cases h0 : 0 ≤ v
    · by_cases h32 : v < 32
      · have e : ctB v = !lnB v := by unfold ctB; rw [decide_eq_true (by omega)]; rfl
        rw [e]
        go_enter Tryd.func288, Tryd.ntmps288
        go_wp2_with (go_at_call 315; refine (L.out _).mono ?_; rintro e w1 ⟨rfl, hb1⟩)
        go_ret
        exact ⟨rfl, hb1⟩
      · have e : ctB v = false := by unfold ctB; rw [decide_eq_false (by omega)]; rfl
        rw [e]
        go_enter Tryd.func288, Tryd.ntmps288
        go_wp2_with fail
        go_ret
        exact ⟨rfl, Below.refl _ _⟩
    · have e : ctB v = false := by unfold ctB; rw [decide_eq_false (by omega)]; rfl
      rw [e]
      go_enter Tryd.func288, Tryd.ntmps288
      go_wp2_with fail
      go_ret
      exact ⟨rfl, Below.refl _ _⟩
  by_cases h3 : kind = 3
  · subst h3
    rw [may_meta]
    have L := Lib.hid fun w => lineByte_any v w
    clear hK h1 h2
    by_cases h0 : 0 ≤ v
    · by_cases h32 : v < 128
      · rw [decide_eq_true ⟨h0, h32⟩]
        go_enter Tryd.func288, Tryd.ntmps288
        go_wp2_with (go_at_call 315; refine (L.out _).mono ?_; rintro e w1 ⟨rfl, hb1⟩)
        go_ret
        exact ⟨rfl, hb1⟩
      · rw [decide_eq_false (by omega)]
        go_enter Tryd.func288, Tryd.ntmps288
        go_wp2_with fail
        go_ret
        exact ⟨rfl, Below.refl _ _⟩
    · rw [decide_eq_false (by omega)]
      go_enter Tryd.func288, Tryd.ntmps288
      go_wp2_with fail
      go_ret
      exact ⟨rfl, Below.refl _ _⟩
  · rw [may_other kind v h1 h2 h3]
    have B0 := below_alloc w (.cells #[.int .i64 kind] 3)
    have F := kfind_any v kind w.heap.size (w.alloc (.cells #[.int .i64 kind] 3)) (hK.below B0) (kcell _ _ _)
    obtain ⟨r, hr⟩ : ∃ r, kRowOf kind v = r := ⟨_, rfl⟩
    rw [hr] at F
    obtain ⟨a, b, c, d⟩ := r
    rw [rowV_eq] at F
    generalize (kFind kind v).isSome = q at *
    replace F := Lib.hid F
    clear hK hr
    go_enter Tryd.func288, Tryd.ntmps288
    go_wp2_with (first
      | (go_at_call 285; refine (kfinder_any _ _).mono ?_; rintro e w1 ⟨rfl, rfl⟩)
      | (go_at_call 312; refine F.out.mono ?_; rintro e w1 ⟨rfl, hb1⟩))
    go_ret
    exact ⟨rfl, seqB (seqB B0 hb1) (below_alloc _ _)⟩
/-- A key as a value. -/
def kyV (k : Ky) : Value := .agg #[.int .i64 k.1, .int .i64 k.2.1, .string k.2.2.1, .bool k.2.2.2]
theorem key_paste (v : Int) (t : ByteArray) (c : Bool) : keyB (15, v, t, c) = (decide (v = 0) && decide (t.size ≤ 65536)) := by unfold keyB; rw [if_pos rfl]
theorem key_other (kind v : Int) (t : ByteArray) (c : Bool) (h : kind ≠ 15) : keyB (kind, v, t, c) = (decide (t.size = 0) && !c && kmB kind v) := by unfold keyB; rw [if_neg h]
theorem kstr_ne {s t : ByteArray} (h : ¬ s = t) : (s.toList == t.toList) = false ∧ (s.toList != t.toList) = true ∧ ¬ s.toList = t.toList := by
  have h1 : ¬ s.toList = t.toList := by rw [ByteArray.toList_eq, ByteArray.toList_eq]; intro e; exact h (ByteArray.ext (Array.ext' e))
  exact ⟨by simpa using h1, by simpa using h1, h1⟩
theorem kstr_nil {t : ByteArray} (h : ¬ t = ⟨#[]⟩) : ¬ t.toList = [] := by
  have h1 := (kstr_ne h).2.2
  rwa [show (⟨#[]⟩ : ByteArray).toList = [] by rw [ByteArray.toList_eq]] at h1
def ckE (k : Ky) : Int := if keyB k then 0 else 2
theorem ckE_yes {k : Ky} (h : keyB k = true) : ckE k = 0 := by unfold ckE; rw [h]; rfl
theorem ckE_no {k : Ky} (h : keyB k = false) : ckE k = 2 := by unfold ckE; rw [h]; rfl
set_option maxHeartbeats 2000000 in
set_option maxRecDepth 100000 in
theorem kcheck_any (k : Ky) (w : World) (hK : KT w) : Calls Tryd.prog 238 #[kyV k] w fun e w' => e = .returned (.int .i64 (ckE k)) ∧ Below w.heap.size w w' := by
  obtain ⟨kind, v, t, c⟩ := k
  show Calls _ _ #[.agg #[.int .i64 kind, .int .i64 v, .string t, .bool c]] _ _
  have B0 := below_alloc w (.cells #[.int .i64 kind, .int .i64 v, .string t, .bool c] 171)
  by_cases h15 : kind = 15
  · subst h15
    clear hK
    by_cases hv : v = 0
    · subst hv
      by_cases ht : t.size ≤ 65536
      · have e : Hid (ckE (15, 0, t, c) = 0) := Lib.hid (ckE_yes (by rw [key_paste, decide_eq_true rfl, decide_eq_true ht]; rfl))
        have ht' : (t.size : Int) ≤ 65536 := by omega
        go_enter Tryd.func238, Tryd.ntmps238
        go_wp2_with fail
        go_ret
        rw [e.out]; exact ⟨rfl, B0⟩
      · have e : Hid (ckE (15, 0, t, c) = 2) := Lib.hid (ckE_no (by rw [key_paste, decide_eq_false ht]; simp))
        have ht' : ¬ (t.size : Int) ≤ 65536 := by omega
        go_enter Tryd.func238, Tryd.ntmps238
        go_wp2_with fail
        go_ret
        rw [e.out]; exact ⟨rfl, B0⟩
    · have e : Hid (ckE (15, v, t, c) = 2) := Lib.hid (ckE_no (by rw [key_paste, decide_eq_false hv]; rfl))
      go_enter Tryd.func238, Tryd.ntmps238
      go_wp2_with fail
      go_ret
      rw [e.out]; exact ⟨rfl, B0⟩
  · by_cases ht : t = ⟨#[]⟩
    · subst ht
      cases c with
      | true =>
        have e : Hid (ckE (kind, v, ⟨#[]⟩, true) = 2) := Lib.hid (ckE_no (by rw [key_other _ _ _ _ h15]; simp))
        clear hK
        go_enter Tryd.func238, Tryd.ntmps238
        go_wp2_with fail
        go_ret
        rw [e.out]; exact ⟨rfl, B0⟩
      | false =>
        have M := kmay_any kind v (w.alloc (.cells #[.int .i64 kind, .int .i64 v, .string ⟨#[]⟩, .bool false] 171)) (hK.below B0)
        have e : keyB (kind, v, ⟨#[]⟩, false) = kmB kind v := by rw [key_other _ _ _ _ h15]; show (decide (0 = 0) && !false && kmB kind v) = _; simp
        have e2 : ckE (kind, v, ⟨#[]⟩, false) = if kmB kind v then 0 else 2 := by unfold ckE; rw [e]
        rw [e2]
        clear e e2 hK
        cases hm : kmB kind v with
        | true =>
          rw [hm] at M
          replace M := Lib.hid M
          clear hm
          go_enter Tryd.func238, Tryd.ntmps238
          go_wp2_with (go_at_call 288; refine M.out.mono ?_; rintro e w1 ⟨rfl, hb1⟩)
          go_ret
          exact ⟨rfl, seqB B0 hb1⟩
        | false =>
          rw [hm] at M
          replace M := Lib.hid M
          clear hm
          go_enter Tryd.func238, Tryd.ntmps238
          go_wp2_with (go_at_call 288; refine M.out.mono ?_; rintro e w1 ⟨rfl, hb1⟩)
          go_ret
          exact ⟨rfl, seqB B0 hb1⟩
    · have e : Hid (ckE (kind, v, t, c) = 2) := Lib.hid (ckE_no (by rw [key_other _ _ _ _ h15, decide_eq_false (fun h => ht (kzero h))]; rfl))
      have s3 : ¬ t.toList = [] := kstr_nil ht
      clear hK
      go_enter Tryd.func238, Tryd.ntmps238
      go_wp2_with fail
      go_ret
      rw [e.out]; exact ⟨rfl, B0⟩
end Go.Proofs.YtangpdaoacjinaaDoor
set_option linter.unusedVariables false
set_option linter.unusedSimpArgs false
namespace Go.Proofs.YtangpdaoacjinaaDoor
open Go.RowKit
/-- A text told value by value. -/
def tellL (f : Int → List UInt8) (l : List Int) : List UInt8 := l.flatMap f
def tellS (f : Int → List UInt8) (s : ByteArray) : ByteArray := ⟨(tellL f (valsS s)).toArray⟩
/-- What each value becomes: nothing, if it is dangerous; what it looks like; how it is shown. -/
def stF (v : Int) : List UInt8 := if 3 < cls v then [] else u8l (oneI v)
def foF (v : Int) : List UInt8 := u8l (oneI (skel v))
def shF (v : Int) : List UInt8 := (shT v).data.toList
theorem u8l_app (a b : List Int) : u8l (a ++ b) = u8l a ++ u8l b := by unfold u8l; rw [List.map_append]
theorem tellF_app (f : Int → List UInt8) (a b : List Int) : tellL f (a ++ b) = tellL f a ++ tellL f b := by unfold tellL; rw [List.flatMap_append]
theorem tellF_len (f : Int → List UInt8) (n : Nat) (h : ∀ v, (f v).length ≤ n) (l : List Int) : (tellL f l).length ≤ n * l.length := by
  induction l with
  | nil => exact Nat.zero_le _
  | cons v l ih =>
    have : tellL f (v :: l) = f v ++ tellL f l := rfl
    rw [this, List.length_append, List.length_cons, Nat.mul_add]
    have := h v
    omega
theorem tellF_size (f : Int → List UInt8) (n : Nat) (h : ∀ v, (f v).length ≤ n) (s : ByteArray) : (tellS f s).size ≤ n * s.size := by
  have h1 := tellF_len f n h (valsS s)
  have h2 := valsS_len s
  have h3 : n * (valsS s).length ≤ n * s.size := Nat.mul_le_mul_left _ h2
  have h4 : (tellS f s).size = (tellL f (valsS s)).length := by unfold tellS; exact size_list _
  omega
theorem u8l_one (v : Int) : (u8l (oneI v)).length ≤ 4 := by rw [u8l_len]; exact oneI_len v
theorem stF_len (v : Int) : (stF v).length ≤ 4 := by
  unfold stF; split
  · exact Nat.zero_le _
  · exact u8l_one v
theorem foF_len (v : Int) : (foF v).length ≤ 4 := u8l_one _
theorem shF_len (v : Int) : (shF v).length ≤ 30 := by
  have h : (shF v).length = (shT v).size := by
    unfold shF
    exact Array.length_toList
  rw [h]; exact shT_size v
/-- Values that may stand in a text. -/
theorem in_vals {s : ByteArray} {v : Int} (h : v ∈ valsS s) : ptB v = true ∨ stB v = true := vals_right s _ _ v h
theorem cls_st {v : Int} (h : stB v = true) : cls v = 12 := by
  have hv := (stB_iff v).1 h
  have hr : rght v = true := by
    rw [← rght_rightB]; unfold rightB; rw [h, Bool.or_true]
  unfold cls
  rw [hr, if_neg (by simp), if_pos (by omega)]
theorem pt_small {v : Int} (h : ptB v = true ∨ stB v = true) (hc : ¬ 3 < cls v) : ptB v = true := by
  rcases h with h | h
  · exact h
  · rw [cls_st h] at hc; omega
/-- The values of a text told so: those that are harmless. -/
def stV (l : List Int) : List Int := l.filter fun v => !decide (3 < cls v)
theorem stV_mem {l : List Int} {v : Int} (h : v ∈ stV l) : v ∈ l ∧ ¬ 3 < cls v := by
  unfold stV at h
  rw [List.mem_filter] at h
  exact ⟨h.1, by simpa using h.2⟩
theorem tell_st (l : List Int) : tellL stF l = u8l (encI (stV l)) := by
  induction l with
  | nil => rfl
  | cons v l ih =>
    have h1 : tellL stF (v :: l) = stF v ++ tellL stF l := rfl
    rw [h1, ih]
    unfold stF stV
    by_cases h : 3 < cls v
    · rw [if_pos h, List.filter_cons_of_neg (by simp [h])]; rfl
    · rw [if_neg h, List.filter_cons_of_pos (by simp [h]), encI_cons, u8l_app]
theorem tellS_st (s : ByteArray) : tellS stF s = encS (stV (valsS s)) := by
  unfold tellS; rw [tell_st]; rfl
theorem stV_pt (s : ByteArray) : ∀ v ∈ stV (valsS s), ptB v = true := fun v hv => pt_small (in_vals (stV_mem hv).1) (stV_mem hv).2
theorem vals_st (s : ByteArray) : valsS (tellS stF s) = stV (valsS s) := by rw [tellS_st, valsS_enc _ (stV_pt s)]
/-- How a value is shown: as values. -/
def shV (v : Int) : List Int := if 3 < cls v then (shF v).map (fun c => (c.toNat : Int)) else if cls v = 0 then [] else [v]
theorem hexL_ascii (n l : Int) : ∀ c ∈ hexL n l, 48 ≤ c.toNat ∧ c.toNat ≤ 70 := tell_ok 20 n.toNat l.toNat
theorem sh_ascii (v : Int) (h : 3 < cls v) : ∀ c ∈ shF v, 32 ≤ c.toNat ∧ c.toNat < 127 := by
  unfold shF
  rcases sh_lists v with ⟨h0, hs⟩ | ⟨h0, _⟩ | ⟨h0, h1, h2, hs⟩ | ⟨h0, h1, hs⟩ | ⟨h0, h1, h2, hs⟩ | ⟨h0, h00, h1, h2, h3, hs⟩
  · omega
  · omega
  · rw [hs]
    intro c hc
    simp only [List.cons_append, List.nil_append, u8l, List.map_cons, List.map_nil, List.mem_cons, List.not_mem_nil, or_false] at hc
    rcases hc with rfl | rfl
    · decide
    · have := u8_nat (x := v + 64) (by omega) (by omega)
      omega
  · rw [hs]
    intro c hc
    simp only [List.mem_cons, List.not_mem_nil, or_false] at hc
    rcases hc with rfl | rfl <;> decide
  · rw [hs]
    intro c hc
    simp only [List.cons_append, List.nil_append, List.mem_cons] at hc
    rcases hc with rfl | rfl | hc
    · decide
    · decide
    · have := hexL_ascii _ _ c hc; omega
  · rw [hs]
    intro c hc
    simp only [List.cons_append, List.nil_append, List.mem_cons, List.mem_append, List.not_mem_nil, or_false] at hc
    rcases hc with rfl | rfl | rfl | hc | rfl
    · decide
    · decide
    · decide
    · have := hexL_ascii _ _ c hc; omega
    · decide
theorem ascii_one {x : Int} (h0 : 0 ≤ x) (h1 : x < 128) : oneI x = [x] := by
  have hp : ptB x = true := (ptB_iff x).2 (by omega)
  rw [oneI_pt hp]
  unfold Lib.encodeRuneZ
  rw [if_pos (by omega)]
theorem ascii_cls {x : Int} (h0 : 32 ≤ x) (h1 : x < 127) : cls x = 1 ∧ ptB x = true := by
  have hp : ptB x = true := (ptB_iff x).2 (by omega)
  have hr : rght x = true := by rw [← rght_rightB]; unfold rightB; rw [hp]; rfl
  refine ⟨?_, hp⟩
  unfold cls
  rw [hr, if_neg (by simp), if_neg (by omega), if_neg (by omega), if_neg (by omega), if_neg (by omega), if_pos (by omega)]
theorem enc_ascii (l : List Int) (h : ∀ x ∈ l, 0 ≤ x ∧ x < 128) : encI l = l := by
  induction l with
  | nil => rfl
  | cons x l ih =>
    rw [encI_cons, ascii_one (h x (List.mem_cons_self ..)).1 (h x (List.mem_cons_self ..)).2, ih (fun y hy => h y (List.mem_cons_of_mem _ hy))]; rfl
theorem u8_back (c : UInt8) : ((c.toNat : Int)).toNat.toUInt8 = c := by simp
theorem shF_enc (v : Int) : shF v = u8l (encI (shV v)) := by
  unfold shV
  by_cases h : 3 < cls v
  · rw [if_pos h, enc_ascii]
    · unfold u8l
      rw [List.map_map]
      conv => lhs; rw [← List.map_id (shF v)]
      refine List.map_congr_left fun c _ => ?_
      exact (u8_back c).symm
    · intro x hx
      rw [List.mem_map] at hx
      obtain ⟨c, hc, rfl⟩ := hx
      have := sh_ascii v h c hc
      omega
  · rw [if_neg h]
    unfold shF
    rcases sh_lists v with ⟨h0, hs⟩ | ⟨h0, h1, h2, h3, h4, hs⟩ | ⟨h0, h1, h2, hs⟩ | ⟨h0, h1, hs⟩ | ⟨h0, h1, h2, hs⟩ | ⟨h0, h00, h1, h2, h3, hs⟩
    · rw [if_pos h0, hs]; rfl
    · rw [if_neg (by omega), hs]; simp [encI]
    all_goals omega
theorem shV_ok {v : Int} (hv : ptB v = true ∨ stB v = true) : ∀ x ∈ shV v, ptB x = true ∧ ¬ 3 < cls x := by
  intro x hx
  unfold shV at hx
  by_cases h : 3 < cls v
  · rw [if_pos h, List.mem_map] at hx
    obtain ⟨c, hc, rfl⟩ := hx
    have ha := sh_ascii v h c hc
    have := ascii_cls (x := (c.toNat : Int)) (by omega) (by omega)
    exact ⟨this.2, by omega⟩
  · rw [if_neg h] at hx
    split at hx
    · cases hx
    · rw [List.mem_singleton] at hx
      subst hx
      exact ⟨pt_small hv h, h⟩
def shA2 (l : List Int) : List Int := l.flatMap shV
theorem tell_sh (l : List Int) : tellL shF l = u8l (encI (shA2 l)) := by
  induction l with
  | nil => rfl
  | cons v l ih =>
    have h1 : tellL shF (v :: l) = shF v ++ tellL shF l := rfl
    have h2 : shA2 (v :: l) = shV v ++ shA2 l := rfl
    rw [h1, h2, ih, encI_append, u8l_app, shF_enc]
theorem tellS_sh (s : ByteArray) : tellS shF s = encS (shA2 (valsS s)) := by unfold tellS; rw [tell_sh]; rfl
theorem shA2_ok (s : ByteArray) : ∀ x ∈ shA2 (valsS s), ptB x = true ∧ ¬ 3 < cls x := by
  intro x hx
  unfold shA2 at hx
  rw [List.mem_flatMap] at hx
  obtain ⟨v, hv, hx⟩ := hx
  exact shV_ok (in_vals hv) x hx
/-- Neither text has a dangerous value. -/
theorem both_ok (s : ByteArray) : ∀ v ∈ valsS (tellS stF s ++ tellS shF s), ¬ 3 < cls v := by
  have h : tellS stF s ++ tellS shF s = encS (stV (valsS s) ++ shA2 (valsS s)) := by
    rw [tellS_st, tellS_sh]
    unfold encS
    rw [encI_append, txt_append]
  rw [h, valsS_enc]
  · intro v hv
    rcases List.mem_append.1 hv with hv | hv
    · exact (stV_mem hv).2
    · exact (shA2_ok s v hv).2
  · intro v hv
    rcases List.mem_append.1 hv with hv | hv
    · exact stV_pt s v hv
    · exact (shA2_ok s v hv).1
theorem st_of_ok {l : List Int} (h : ∀ v ∈ l, ptB v = true ∧ ¬ 3 < cls v) : tellS stF (encS l) = encS l := by
  rw [tellS_st, valsS_enc l (fun v hv => (h v hv).1)]
  congr 1
  unfold stV
  rw [List.filter_eq_self]
  intro v hv
  simpa using (h v hv).2
theorem st_st (s : ByteArray) : tellS stF (tellS stF s) = tellS stF s := by
  rw [tellS_st s]
  exact st_of_ok fun v hv => ⟨stV_pt s v hv, (stV_mem hv).2⟩
theorem st_sh (s : ByteArray) : tellS stF (tellS shF s) = tellS shF s := by
  rw [tellS_sh s]
  exact st_of_ok (shA2_ok s)
end Go.Proofs.YtangpdaoacjinaaDoor
set_option linter.unusedVariables false
set_option linter.unusedSimpArgs false
namespace Go.Proofs.YtangpdaoacjinaaDoor
open Go.RowKit
theorem look_ascii : ∀ j : Fin 51, 0 ≤ lks.getD (2 * j.val + 1) 0 ∧ lks.getD (2 * j.val + 1) 0 < 128 ∧ 128 ≤ lks.getD (2 * j.val) 0 ∧ lks.getD (2 * j.val) 0 ≤ 65535 := by decide +kernel
theorem skel_what (v : Int) : skel v = v ∨ (0 ≤ skel v ∧ skel v < 128 ∧ 128 ≤ v ∧ v ≤ 65535) := by
  cases h1 : (List.range 51).find? (hitL v) with
  | some j =>
    have ⟨hj, hp⟩ := find_some_lt h1
    have e : skel v = lks.getD (2 * j + 1) 0 := by unfold skel; rw [h1]
    have hk := look_ascii ⟨j, hj⟩
    dsimp at hk
    have hv : v = lks.getD (2 * j) 0 := (inb_self v _).1 hp
    right
    rw [e]
    exact ⟨hk.1, hk.2.1, by omega, by omega⟩
  | none =>
    left; unfold skel; rw [h1]
theorem skel_pt {v : Int} (h : ptB v = true) : ptB (skel v) = true := by
  rcases skel_what v with e | ⟨h0, h1, _⟩
  · rw [e]; exact h
  · exact (ptB_iff _).2 (by omega)
theorem skel_st {v : Int} (h : stB v = true) : skel v = v := by
  have := (stB_iff v).1 h
  rcases skel_what v with e | ⟨h0, h1, h2, h3⟩
  · exact e
  · omega
/-- Bytes that go together up to where the second ones go on with no further byte. -/
def PreR (r r' : List Int) : Prop := r = r' ∨ ∃ p q y z, r = p ++ q ∧ r' = p ++ y :: z ∧ ¬ (128 ≤ y ∧ y ≤ 191)
theorem PreR.cons {r r' : List Int} (h : PreR r r') (a : List Int) : PreR (a ++ r) (a ++ r') := by
  rcases h with rfl | ⟨p, q, y, z, rfl, rfl, hy⟩
  · exact Or.inl rfl
  · exact Or.inr ⟨a ++ p, q, y, z, by rw [List.append_assoc], by rw [List.append_assoc], hy⟩
theorem preR_skel : ∀ l : List Int, PreR (encI l) (encI (l.map skel))
  | [] => Or.inl rfl
  | v :: l => by
    rw [List.map_cons, encI_cons, encI_cons]
    rcases skel_what v with e | ⟨h0, h1, _⟩
    · rw [e]; exact (preR_skel l).cons _
    · rw [ascii_one h0 h1]
      exact Or.inr ⟨[], _, skel v, _, rfl, rfl, by omega⟩
theorem preR_same {r r' : List Int} (h : PreR r r') (m : Nat) (hm : m ≤ r'.length) (hc : ∀ i, i < m → 128 ≤ r'.getD i 0 ∧ r'.getD i 0 ≤ 191) : m ≤ r.length ∧ ∀ i, i < m → r.getD i 0 = r'.getD i 0 := by
  rcases h with rfl | ⟨p, q, y, z, rfl, rfl, hy⟩
  · exact ⟨hm, fun _ _ => rfl⟩
  · have hp : m ≤ p.length := by
      rcases Nat.lt_or_ge p.length m with h | h
      · exfalso
        have := hc p.length h
        rw [List.getD, List.getElem?_append_right (Nat.le_refl _), Nat.sub_self] at this
        exact hy this
      · exact h
    refine ⟨by rw [List.length_append]; omega, fun i hi => ?_⟩
    rw [List.getD, List.getD, List.getElem?_append_left (by omega), List.getElem?_append_left (by omega)]
theorem may_cont {f c i : Nat} (h : mayB f c i = true) : 128 ≤ c ∧ c ≤ 191 := ((mayB_iff f c i).1 h).1
/-- A byte that begins no value stays so, whatever of what follows becomes a letter. -/
theorem beg_keep (b : Nat) (r r' : List Int) (hb : 128 ≤ b) (hb2 : b < 256) (hr : ∀ x ∈ r', 0 ≤ x ∧ x < 256) (h : PreR r r') (hbad : begB (1 + r.length) b (r.getD 0 0).toNat (r.getD 1 0).toNat (r.getD 2 0).toNat ≠ sizeB b) :
    begB (1 + r'.length) b (r'.getD 0 0).toNat (r'.getD 1 0).toNat (r'.getD 2 0).toNat ≠ sizeB b := by
  intro heq
  apply hbad
  have hz : sizeB b ≠ 1 := by
    unfold sizeB; rw [if_neg (by omega)]; repeat' split
    all_goals omega
  have hc : ∀ (i j : Nat), mayB b (r'.getD i 0).toNat j = true → 128 ≤ r'.getD i 0 ∧ r'.getD i 0 ≤ 191 := fun i j hm => by
    have := may_cont hm; omega
  unfold begB at heq ⊢
  by_cases h1 : 1 < sizeB b ∧ 1 < 1 + r'.length ∧ mayB b (r'.getD 0 0).toNat 1 = true
  · rw [if_pos h1] at heq
    by_cases h2 : 2 < sizeB b ∧ 2 < 1 + r'.length ∧ mayB b (r'.getD 1 0).toNat 2 = true
    · rw [if_pos h2] at heq
      by_cases h3 : 3 < sizeB b ∧ 3 < 1 + r'.length ∧ mayB b (r'.getD 2 0).toNat 3 = true
      · rw [if_pos h3] at heq
        obtain ⟨hm, hs⟩ := preR_same h 3 (by omega) (fun i hi => by
          match i, hi with
          | 0, _ => exact hc 0 _ h1.2.2
          | 1, _ => exact hc 1 _ h2.2.2
          | 2, _ => exact hc 2 _ h3.2.2)
        rw [hs 0 (by omega), hs 1 (by omega), hs 2 (by omega), if_pos ⟨h1.1, by omega, h1.2.2⟩, if_pos ⟨h2.1, by omega, h2.2.2⟩, if_pos ⟨h3.1, by omega, h3.2.2⟩]
        exact heq
      · rw [if_neg h3] at heq
        obtain ⟨hm, hs⟩ := preR_same h 2 (by omega) (fun i hi => by
          match i, hi with
          | 0, _ => exact hc 0 _ h1.2.2
          | 1, _ => exact hc 1 _ h2.2.2)
        rw [hs 0 (by omega), hs 1 (by omega), if_pos ⟨h1.1, by omega, h1.2.2⟩, if_pos ⟨h2.1, by omega, h2.2.2⟩, if_neg (by omega)]
        exact heq
    · rw [if_neg h2] at heq
      obtain ⟨hm, hs⟩ := preR_same h 1 (by omega) (fun i hi => by
        match i, hi with
        | 0, _ => exact hc 0 _ h1.2.2)
      rw [hs 0 (by omega), if_pos ⟨h1.1, by omega, h1.2.2⟩, if_neg (by omega)]
      exact heq
  · rw [if_neg h1] at heq
    omega
theorem cons_get (b : Int) (r : List Int) (i : Nat) (hr : ∀ x ∈ r, 0 ≤ x ∧ x < 256) : ((txt (b :: r)).get! (i + 1)).toNat = (r.getD i 0).toNat := by
  by_cases h : i < r.length
  · rw [txt_get _ _ (by simpa using h)]
    have hm := hr (r[i]) (List.getElem_mem h)
    rw [List.getElem_cons_succ, u8_nat hm.1 hm.2, List.getD, List.getElem?_eq_getElem h]; rfl
  · rw [List.getD, List.getElem?_eq_none (by omega)]
    have hs : ¬ i + 1 < (txt (b :: r)).size := by rw [txt_size]; simp; omega
    have : (txt (b :: r)).get! (i + 1) = 0 := by
      unfold ByteArray.get!
      have : ¬ i + 1 < (txt (b :: r)).data.size := hs
      simp [Array.getElem!_eq_getD, Array.getD, this]
      rw [dif_neg hs]; rfl
    rw [this]; rfl
/-- The value of a byte that begins none, and of what follows. -/
theorem stray_iff (b : Nat) (r : List Int) (hb : 128 ≤ b) (hb2 : b < 256) (hr : ∀ x ∈ r, 0 ≤ x ∧ x < 256) :
    (begB (1 + r.length) b (r.getD 0 0).toNat (r.getD 1 0).toNat (r.getD 2 0).toNat ≠ sizeB b → vAt (txt ((b : Int) :: r)) 0 = (1114112 + b, 1)) ∧
    ((vAt (txt ((b : Int) :: r)) 0).1 = 1114112 + b → begB (1 + r.length) b (r.getD 0 0).toNat (r.getD 1 0).toNat (r.getD 2 0).toNat ≠ sizeB b) := by
  have hsz : (txt ((b : Int) :: r)).size = 1 + r.length := by rw [txt_size, List.length_cons]; omega
  have hg0 : ((txt ((b : Int) :: r)).get! 0).toNat = b := by
    rw [txt_get _ _ (by simp)]
    exact u8n _ _ rfl hb2
  have hv := vAt_one (txt ((b : Int) :: r)) (by omega)
  rw [hsz, hg0, cons_get _ _ 0 hr, cons_get _ _ 1 hr, cons_get _ _ 2 hr] at hv
  constructor
  · intro h
    rw [hv]
    exact one_bad rfl rfl h
  · intro h heq
    have hsmall : (vAt (txt ((b : Int) :: r)) 0).1 = 1114112 + b → (vAt (txt ((b : Int) :: r)) 0).2 = 1 := fun h1 => by
      unfold vAt at h1 ⊢
      split at h1
      · rename_i hc; rw [if_pos hc]
      · rename_i hc
        rcases dec_cases (txt ((b : Int) :: r)) 0 with hd | hd
        · exact absurd (by rw [hd]; exact ⟨rfl, by omega⟩) hc
        · unfold Fine at hd; omega
    have h2 := hsmall h
    rw [hv] at h h2
    obtain ⟨k, hk⟩ : ∃ k, sizeB b = k := ⟨_, rfl⟩
    have hk2 : k = 0 ∨ k = 2 ∨ k = 3 ∨ k = 4 := by
      rw [← hk]; unfold sizeB; rw [if_neg (by omega)]; repeat' split
      all_goals omega
    have hbg : ∀ n b1 b2 b3, 1 ≤ begB n b b1 b2 b3 := fun n b1 b2 b3 => by unfold begB; split <;> (try split) <;> (try split) <;> omega
    have h1 := hbg (1 + r.length) (r.getD 0 0).toNat (r.getD 1 0).toNat (r.getD 2 0).toNat
    rcases hk2 with rfl | rfl | rfl | rfl
    · omega
    · rw [one_2 (heq.trans hk) hk] at h2; cases h2
    · rw [one_3 (heq.trans hk) hk] at h2; cases h2
    · rw [one_4 (heq.trans hk) hk] at h2; cases h2
/-- Values that a text has: the text of what they look like has what they look like. -/
theorem good_skel : ∀ l : List Int, valsS (encS l) = l → (∀ v ∈ l, ptB v = true ∨ stB v = true) → valsS (encS (l.map skel)) = l.map skel
  | [], _, _ => by unfold encS; exact valsS_nil _ (by rw [txt_size]; simp [encI])
  | v :: l, hg, hv => by
    have hl : ∀ x ∈ l, ptB x = true ∨ stB x = true := fun x hx => hv x (List.mem_cons_of_mem _ hx)
    unfold encS at hg ⊢
    rw [List.map_cons, encI_cons]
    rw [encI_cons] at hg
    rcases hv v (List.mem_cons_self ..) with hp | hs
    · rw [vals_enc1 v _ hp] at hg
      have ih := good_skel l (List.cons.inj hg).2 hl
      rw [vals_enc1 _ _ (skel_pt hp)]
      unfold encS at ih
      rw [ih]
    · have hvr := (stB_iff v).1 hs
      obtain ⟨b, rfl⟩ : ∃ b : Nat, v = ((1114112 + b : Nat) : Int) := ⟨(v - 1114112).toNat, by omega⟩
      have hb : 128 ≤ b := by omega
      have hb2 : b < 256 := by omega
      have ho : oneI ((1114112 + b : Nat) : Int) = [(b : Int)] := by rw [oneI_st hs]; congr 1; omega
      rw [skel_st hs, ho, List.singleton_append]
      rw [ho, List.singleton_append] at hg
      have hby := encI_byte l
      have hby2 := encI_byte (l.map skel)
      have hpos : ∀ r : List Int, 0 < (txt ((b : Int) :: r)).size := fun r => by rw [txt_size]; simp
      rw [valsS_cons _ (hpos _)] at hg
      have hg1 := (List.cons.inj hg).1
      have hbad := (stray_iff b (encI l) hb hb2 hby).2 (by omega)
      have hva := (stray_iff b (encI l) hb hb2 hby).1 hbad
      have hg2 := (List.cons.inj hg).2
      rw [hva, txt_ext] at hg2
      have ih := good_skel l hg2 hl
      have hva2 := (stray_iff b (encI (l.map skel)) hb hb2 hby2).1 (beg_keep b _ _ hb hb2 hby2 (preR_skel l) hbad)
      rw [valsS_cons _ (hpos _), hva2, txt_ext]
      unfold encS at ih
      rw [show ((b : Int) :: encI (l.map skel)).drop ((1114112 + b, 1) : Nat × Nat).2 = encI (l.map skel) from rfl, ih]
theorem tell_fo (l : List Int) : tellL foF l = u8l (encI (l.map skel)) := by
  induction l with
  | nil => rfl
  | cons v l ih =>
    have h1 : tellL foF (v :: l) = foF v ++ tellL foF l := rfl
    rw [h1, ih, List.map_cons, encI_cons, u8l_app]; rfl
theorem tellS_fo (s : ByteArray) : tellS foF s = encS ((valsS s).map skel) := by unfold tellS; rw [tell_fo]; rfl
theorem fo_fo (s : ByteArray) : tellS foF (tellS foF s) = tellS foF s := by
  rw [tellS_fo (tellS foF s), tellS_fo s, good_skel (valsS s) (by rw [encS_vals]) (fun v hv => in_vals hv), List.map_map]
  congr 1
  refine List.map_congr_left fun v _ => ?_
  exact (skel_idem v).1
end Go.Proofs.YtangpdaoacjinaaDoor
set_option linter.unusedVariables false
set_option linter.unusedSimpArgs false
namespace Go.Proofs.YtangpdaoacjinaaDoor
open Go.RowKit
def mkL (l : List UInt8) : ByteArray := ⟨l.toArray⟩
theorem enc_one (v : Int) : encS [v] = mkL (u8l (oneI v)) := by unfold encS encI; rw [List.flatMap_cons, List.flatMap_nil, List.append_nil]; rfl
end Go.Proofs.YtangpdaoacjinaaDoor
set_option linter.unusedVariables false
set_option linter.unusedSimpArgs false
namespace Go.Proofs.YtangpdaoacjinaaDoor
open Go.RowKit
abbrev mkS (l : List UInt8) : ByteArray := ⟨l.toArray⟩
theorem mkS_app (a b : List UInt8) : mkS a ++ mkS b = mkS (a ++ b) := ba_app a b
theorem mkS_size (l : List UInt8) : (mkS l).size = l.length := by simp [mkS, ByteArray.size]
theorem mkS_of (s : ByteArray) : mkS s.data.toList = s := by cases s; simp [mkS]
theorem mkS_inj {a b : List UInt8} (h : mkS a = mkS b) : a = b := by
  have := congrArg (fun s : ByteArray => s.data.toList) h
  simpa [mkS] using this
theorem krow_one (w : World) (v : Int) : Row (w.alloc (.cells #[.int .i64 v] 3)) (some ⟨w.heap.size, 0, none⟩) [v] := fun j hj => by
  obtain rfl : j = 0 := by simp at hj; omega
  exact ⟨w.heap.size, 0, rfl, by rw [World.cell?_alloc_new]; rfl, by simp⟩
theorem kenc_one (x : Int) (w : World) : Calls Tryd.prog 131 #[.slice (some ⟨w.heap.size, 0, none⟩) 1 1] (w.alloc (.cells #[.int .i64 x] 3)) fun e w' => e = .returned (.string (txt (oneI x))) ∧ Below w.heap.size w w' := by
  have h := encode_any [x] (some ⟨w.heap.size, 0, none⟩) 1 (w.alloc (.cells #[.int .i64 x] 3)) (by simp) (krow_one w x)
  rw [show encS [x] = txt (oneI x) by simp [encS, encI]] at h
  exact h.mono fun e w' ⟨h1, h2⟩ => ⟨h1, seqB (below_alloc _ _) h2⟩
theorem one_byte {v : Int} (h0 : 0 ≤ v) (h1 : v < 128) : txt (oneI v) = mkS [v.toNat.toUInt8] := by
  rw [oneI_pt ((ptB_iff _).2 (by omega)), Lib.encodeRuneZ_one (by omega) (by omega)]; rfl
theorem kstr_ret {a b : ByteArray} (h : a = b) : Ending.returned (.string a) = .returned (.string b) := by rw [h]
theorem ksum (a b : ByteArray) (h : a.size + b.size ≤ 8388608) (w : World) : (Op.stringOp .add a b).run Tryd.prog w = .ok (.string (a ++ b)) w := run_string_add_sum w a b (by omega)
theorem khex1 (v : Int) (w : World) (h0 : 0 ≤ v) (h1 : v ≤ 9223372036854775807) : Calls Tryd.prog 54 #[.int .i64 v, .int .i64 1] w fun e w' => e = .returned (.string (mkS (hexN v 1))) ∧ Below w.heap.size w w' := by
  have X := hex_any v 1 w (by omega) h1
  rw [show hexS v 1 = hexN v 1 by rw [hexS_pos v 1 h0]; rfl] at X
  exact X
theorem khex2 (v : Int) (w : World) (h0 : 0 ≤ v) (h1 : v ≤ 9223372036854775807) : Calls Tryd.prog 54 #[.int .i64 v, .int .i64 2] w fun e w' => e = .returned (.string (mkS (hexN v 2))) ∧ Below w.heap.size w w' := by
  have X := hex_any v 2 w (by omega) h1
  rw [show hexS v 2 = hexN v 2 by rw [hexS_pos v 2 h0]; rfl] at X
  exact X
set_option maxHeartbeats 2000000 in
set_option maxRecDepth 100000 in
theorem ksign_any (v : Int) (w : World) (h0 : 0 ≤ v) (hm : v ≤ 1114367) : Calls Tryd.prog 282 #[.int .i64 v] w fun e w' => e = .returned (.string (mkS (sgN v))) ∧ Below w.heap.size w w' := by
  by_cases h : 32 < v ∧ v < 127 ∧ v ≠ 60
  · obtain ⟨h1, h2, h3⟩ := h
    have e : Hid (mkS (sgN v) = txt (oneI v)) := Lib.hid (by rw [one_byte (by omega) (by omega)]; unfold sgN; rw [if_pos ⟨h1, h2, h3⟩])
    have E := Lib.hid (kenc_one v w)
    go_enter Tryd.func282, Tryd.ntmps282
    go_wp2_with (go_at_call 131; refine E.out.mono ?_; rintro e w2 ⟨rfl, hb2⟩)
    go_ret
    rw [e.out]; exact ⟨rfl, hb2⟩
  · have e : sgN v = 60 :: (hexN v 1 ++ [62]) := by unfold sgN; rw [if_neg h]
    have X := fun w => khex1 v w h0 (by omega)
    rw [e]
    have hl := hexN_len v 1
    generalize hexN v 1 = hs at *
    have hsz := mkS_size hs
    have R1 := ksum ⟨#[60]⟩ (mkS hs) (by rw [hsz]; show 1 + _ ≤ _; omega)
    have R2 := ksum (⟨#[60]⟩ ++ mkS hs) ⟨#[62]⟩ (by rw [ByteArray.size_append, hsz]; show 1 + hs.length + 1 ≤ _; omega)
    have hf : Hid (⟨#[60]⟩ ++ mkS hs ++ ⟨#[62]⟩ = mkS (60 :: (hs ++ [62]))) := Lib.hid (by rw [show (⟨#[60]⟩ : ByteArray) = mkS [60] from rfl, show (⟨#[62]⟩ : ByteArray) = mkS [62] from rfl, mkS_app, mkS_app]; simp)
    replace X := Lib.hid X
    clear e hl hsz
    generalize mkS hs = u at *
    by_cases h1 : 32 < v
    · by_cases h2 : v < 127
      · have h3 : v = 60 := Decidable.byContradiction fun h3 => h ⟨h1, h2, h3⟩
        subst h3
        go_enter Tryd.func282, Tryd.ntmps282
        go_wp2_with (go_at_call 54; refine (X.out _).mono ?_; rintro e w2 ⟨rfl, hb2⟩)
        go_ret
        rw [← hf.out]; exact ⟨rfl, hb2⟩
      · clear h
        go_enter Tryd.func282, Tryd.ntmps282
        go_wp2_with (go_at_call 54; refine (X.out _).mono ?_; rintro e w2 ⟨rfl, hb2⟩)
        go_ret
        rw [← hf.out]; exact ⟨rfl, hb2⟩
    · clear h
      go_enter Tryd.func282, Tryd.ntmps282
      go_wp2_with (go_at_call 54; refine (X.out _).mono ?_; rintro e w2 ⟨rfl, hb2⟩)
      go_ret
      rw [← hf.out]; exact ⟨rfl, hb2⟩
set_option maxHeartbeats 2000000 in
set_option maxRecDepth 100000 in
theorem kctrl_any (v : Int) (w : World) (h0 : 0 ≤ v) (hm : v < 32) : Calls Tryd.prog 283 #[.int .i64 v] w fun e w' => e = .returned (.string (mkS (ctN v))) ∧ Below w.heap.size w w' := by
  by_cases h : 1 ≤ v ∧ v ≤ 26
  · obtain ⟨h1, h2⟩ := h
    have E := kenc_one (v + 96) w
    rw [one_byte (by omega) (by omega)] at E
    have hs := mkS_size [(v + 96).toNat.toUInt8]
    have hf : Hid (⟨#[67, 45]⟩ ++ mkS [(v + 96).toNat.toUInt8] = mkS (ctN v)) := Lib.hid (by rw [show (⟨#[67, 45]⟩ : ByteArray) = mkS [67, 45] from rfl, mkS_app]; unfold ctN; rw [if_pos ⟨h1, h2⟩]; rfl)
    generalize mkS [(v + 96).toNat.toUInt8] = u at *
    replace E := Lib.hid E
    have R1 := ksum ⟨#[67, 45]⟩ u (by rw [hs]; show 2 + 1 ≤ 8388608; omega)
    clear hs
    go_enter Tryd.func283, Tryd.ntmps283
    go_wp2_with (go_at_call 131; refine E.out.mono ?_; rintro e w2 ⟨rfl, hb2⟩)
    go_ret
    rw [← hf.out]; exact ⟨rfl, hb2⟩
  · have E := kenc_one (v + 64) w
    rw [one_byte (by omega) (by omega)] at E
    have hs := mkS_size [(v + 64).toNat.toUInt8]
    have hf : Hid (⟨#[67, 45]⟩ ++ mkS [(v + 64).toNat.toUInt8] = mkS (ctN v)) := Lib.hid (by rw [show (⟨#[67, 45]⟩ : ByteArray) = mkS [67, 45] from rfl, mkS_app]; unfold ctN; rw [if_neg h]; rfl)
    generalize mkS [(v + 64).toNat.toUInt8] = u at *
    replace E := Lib.hid E
    have R1 := ksum ⟨#[67, 45]⟩ u (by rw [hs]; show 2 + 1 ≤ 8388608; omega)
    clear hs
    by_cases h1 : 1 ≤ v
    · have h2 : ¬ v ≤ 26 := fun h2 => h ⟨h1, h2⟩
      clear h
      go_enter Tryd.func283, Tryd.ntmps283
      go_wp2_with (go_at_call 131; refine E.out.mono ?_; rintro e w2 ⟨rfl, hb2⟩)
      go_ret
      rw [← hf.out]; exact ⟨rfl, hb2⟩
    · clear h
      go_enter Tryd.func283, Tryd.ntmps283
      go_wp2_with (go_at_call 131; refine E.out.mono ?_; rintro e w2 ⟨rfl, hb2⟩)
      go_ret
      rw [← hf.out]; exact ⟨rfl, hb2⟩
end Go.Proofs.YtangpdaoacjinaaDoor
set_option linter.unusedVariables false
set_option linter.unusedSimpArgs false
namespace Go.Proofs.YtangpdaoacjinaaDoor
open Go.RowKit
theorem kgrown {w w' : World} (h : Below w.heap.size w w') : w.grownBy w' none := ⟨h.os, h.tape, h.output, h.size, fun k hk _ => h.block k hk⟩
theorem kown_below {w w' : World} {base : Nat} {e : TypeId} {size : Nat} {v : Value} {n : Nat} {xs : List Value} (h : w.ownsRow base e size v n xs) (hb : Below w.heap.size w w') : w'.ownsRow base e size v n xs :=
  h.kept (kgrown hb) (by cases hv : v.ownBlock <;> simp)
set_option maxRecDepth 100000 in
set_option maxHeartbeats 2000000 in
theorem kbld_below {B b : Nat} {bs : List Value} {w w' : World} (h : IsBld B b bs w) (hb : Below w.heap.size w w') : IsBld B b bs w' := by
  rcases h with ⟨hB, v, h1, h2, h3⟩ | ⟨hB, v, h1, h2, h3⟩
  · exact Or.inl ⟨hB, v, blk_below h1 hb, kown_below h2 hb, h3⟩
  · exact Or.inr ⟨hB, v, blk_below h1 hb, kown_below h2 hb, h3⟩
theorem kbld_new (w : World) : IsBld w.heap.size w.heap.size [] (w.alloc (.cells #[.pointer none, .slice none 0 0] 99)) :=
  Or.inl ⟨Nat.le_refl _, _, heap_alloc_new w _, World.ownsRow_nil _ _ _ _, by simp [Value.ownBlock]⟩
theorem hx2_snoc (l : List UInt8) (b : UInt8) : hx2 (l ++ [b]) = hx2 l ++ hexN (b.toNat : Int) 2 := by unfold hx2; rw [List.flatMap_append]; simp
theorem strC (l : List UInt8) : Lib.strCells (mkS l) = Lib.byteCells l := by unfold Lib.strCells mkS Lib.byteCells; simp
set_option maxHeartbeats 4000000 in
set_option maxRecDepth 100000 in
theorem kpaste_any (kind v : Int) (t : ByteArray) (c : Bool) (w : World) (ht : t.size ≤ 1000000) : Calls Tryd.prog 284 #[.agg #[.int .i64 kind, .int .i64 v, .string t, .bool c]] w fun e w' => e = .returned (.string (mkS (psN t.data.toList c))) ∧ Below w.heap.size w w' := by
  have B0 := below_alloc w (.cells #[.int .i64 kind, .int .i64 v, .string t, .bool c] 171)
  have Q0 := heap_alloc_new w (.cells #[.int .i64 kind, .int .i64 v, .string t, .bool c] 171)
  obtain ⟨W0, hW0⟩ : ∃ W0, w.alloc (.cells #[.int .i64 kind, .int .i64 v, .string t, .bool c] 171) = W0 := ⟨_, rfl⟩
  rw [hW0] at B0 Q0
  have I0 := Lib.hid (kbld_new W0)
  have B1 := below_alloc W0 (.cells #[.pointer none, .slice none 0 0] 99)
  have W1 := Lib.hid (fun (B : Nat) (w : World) h hB => bwrite_any B B [] ⟨#[80, 45]⟩ w h (by show 0 + 2 ≤ _; omega) hB)
  have HE : Hid (([] : List Value) ++ Lib.strCells ⟨#[80, 45]⟩ = Lib.byteCells (80 :: 45 :: hx2 (t.data.toList.take 0))) := Lib.hid (by rw [List.take_zero]; exact strC [80, 45])
  have HQ := Lib.hid Q0; clear Q0
  have HB := Lib.hid B0; clear B0
  go_enter Tryd.func284, Tryd.ntmps284
  go_upto_region 1 with fail
  clear hW0
  go_wp2_with (first
    | (go_at_call 52; refine (W1.out _ _ I0.out B1.size).mono ?_; rintro e w2 ⟨rfl, hI2, hb2⟩; have N2 := B1.trans hb2))
  rw [HE.out] at hI2
  go_loopw [4] (fun iv wr => ∃ k : Nat, k ≤ t.size ∧ iv = .int .i64 (k : Int) ∧ Hid (IsBld W0.heap.size W0.heap.size (Lib.byteCells (80 :: 45 :: hx2 (t.data.toList.take k))) wr) ∧ Below W0.heap.size W0 wr) (fun iv _ => t.size - (intOf iv).toNat)
  case atStart => exact ⟨0, Nat.zero_le _, rfl, Lib.hid (Or.inr hI2), N2⟩
  case round =>
    obtain ⟨k, hk, rfl, hI, hb⟩ := hrel
    have q := blk_below HQ.out hb
    have hPw : W0.heap.size ≤ wr.heap.size := hb.size
    have ql := blk_lt q
    have y := fun i => cell_of_row _ _ i _ _ _ q; have y2 := y 2; have y3 := y 3; clear y; dsimp at y2 y3
    have hlen : (Lib.byteCells (80 :: 45 :: hx2 (t.data.toList.take k))).length ≤ 2 + 2 * k := by
      rw [Lib.byteCells_length]; simp only [List.length_cons, hx2_len]; have := List.length_take_le k t.data.toList; omega
    clear q
    by_cases hlt : k < t.size
    · have hk1 : (k : Int) < t.size := by omega
      have hk0 : (0 : Int) ≤ k := by omega
      have H : ∀ w, Calls Tryd.prog 54 #[.int .i64 (wrap64 ((t[k]).toNat : Int)), .int .i64 2] w fun e w' => e = .returned (.string (mkS (hexN ((t[k]).toNat : Int) 2))) ∧ Below w.heap.size w w' := fun w => by
        rw [show wrap64 ((t[k]).toNat : Int) = (t[k]).toNat by have := u8_lt t[k]; unfold wrap64; omega]
        exact khex2 ((t[k]).toNat : Int) w (by omega) (by have := u8_lt t[k]; omega)
      have hst : hx2 (t.data.toList.take (k + 1)) = hx2 (t.data.toList.take k) ++ hexN ((t[k]).toNat : Int) 2 := by rw [take_snoc t k hlt, hx2_snoc]
      have hl2 := (hex2 t[k]).1
      generalize hexN ((t[k]).toNat : Int) 2 = hs at *
      have hcell : Hid (Lib.byteCells (80 :: 45 :: hx2 (t.data.toList.take (k + 1))) = Lib.byteCells (80 :: 45 :: hx2 (t.data.toList.take k)) ++ Lib.strCells (mkS hs)) := Lib.hid (by rw [hst, strC, ← Lib.byteCells_append]; rfl)
      have hus : (mkS hs).size ≤ 2 := by rw [mkS_size]; omega
      have W2 := Lib.hid (fun (B : Nat) (w : World) h hB => bwrite_any B B (Lib.byteCells (80 :: 45 :: hx2 (t.data.toList.take k))) (mkS hs) w h (by omega) hB)
      generalize mkS hs = u at *
      generalize Lib.byteCells (80 :: 45 :: hx2 (t.data.toList.take k)) = bs at *
      replace H := Lib.hid H
      clear hst hl2 hus hlen
      go_wp2_with (first
        | (go_at_call 54; refine (H.out _).mono ?_; rintro e w3 ⟨rfl, hb3⟩; have I3 := Lib.hid (kbld_below hI.out hb3); have hP3 := Nat.le_trans hPw hb3.size)
        | (go_at_call 52; refine (W2.out _ _ I3.out hP3).mono ?_; rintro e w4 ⟨rfl, hI4, hb4⟩; have N4 := (hb.trans (hb3.mono hPw)).trans hb4))
      go_roundw
      case rel => exact ⟨k + 1, by omega, by go_num, Lib.hid (Or.inr (by rw [hcell.out]; exact hI4)), N4⟩
      case measure => (simp [intOf]; try omega)
    · obtain rfl : k = t.size := by omega
      have htk : t.data.toList.take t.size = t.data.toList := take_all t _ (Nat.le_refl _)
      rw [htk] at hI hlen
      have NB := Lib.hid (HB.out.trans (hb.mono HB.out.size))
      cases c with
      | true =>
        have hcell : Hid (Lib.byteCells (psN t.data.toList true) = Lib.byteCells (80 :: 45 :: hx2 t.data.toList) ++ Lib.strCells ⟨#[33]⟩) := Lib.hid (by
          rw [show (⟨#[33]⟩ : ByteArray) = mkS [33] from rfl, strC, ← Lib.byteCells_append]; rfl)
        have W2 := Lib.hid (fun (B : Nat) (w : World) h hB => bwrite_any B B (Lib.byteCells (80 :: 45 :: hx2 t.data.toList)) ⟨#[33]⟩ w h (by show _ + 1 ≤ _; omega) hB)
        have ST := Lib.hid (fun (B : Nat) (w : World) h hB => Tryd.Builder_String_any B B (psN t.data.toList true) w h hB)
        generalize Lib.byteCells (80 :: 45 :: hx2 t.data.toList) = bs at *
        clear hlen htk
        go_wp2_with (first
          | (go_at_call 52; refine (W2.out _ _ hI.out hPw).mono ?_; rintro e w4 ⟨rfl, hI4, hb4⟩; rw [← hcell.out] at hI4; have I4 := Lib.hid (Or.inr hI4 : IsBld W0.heap.size W0.heap.size (Lib.byteCells (psN t.data.toList true)) w4); have hP4 := Nat.le_trans hPw hb4.size)
          | (go_at_call 55; refine (ST.out _ _ I4.out hP4).mono ?_; rintro e w5 ⟨rfl, hb5⟩))
        go_ret
        exact ⟨rfl, (NB.out.trans (hb4.mono HB.out.size)).trans (hb5.mono HB.out.size)⟩
      | false =>
        have e : 80 :: 45 :: hx2 t.data.toList = psN t.data.toList false := by show _ = 80 :: 45 :: (hx2 t.data.toList ++ []); rw [List.append_nil]
        have ST := Lib.hid (fun (B : Nat) (w : World) h hB => Tryd.Builder_String_any B B (psN t.data.toList false) w h hB)
        rw [e] at hI
        clear hlen htk e
        go_wp2_with (first
          | (go_at_call 55; refine (ST.out _ _ hI.out hPw).mono ?_; rintro e w5 ⟨rfl, hb5⟩))
        go_ret
        exact ⟨rfl, NB.out.trans (hb5.mono HB.out.size)⟩
end Go.Proofs.YtangpdaoacjinaaDoor
set_option linter.unusedVariables false
set_option linter.unusedSimpArgs false
namespace Go.Proofs.YtangpdaoacjinaaDoor
open Go.RowKit
/-- The forms of a key that may be. -/
inductive KyF : Ky → Prop
  | sign (v : Int) (h0 : 32 ≤ v) (h1 : v ≤ 1114367) (h : kmB 1 v = true) : KyF (1, v, ⟨#[]⟩, false)
  | ctrl (v : Int) (h0 : 0 ≤ v) (h1 : v < 32) : KyF (2, v, ⟨#[]⟩, false)
  | meta1 (v : Int) (h0 : 32 ≤ v) (h1 : v < 128) : KyF (3, v, ⟨#[]⟩, false)
  | meta0 (v : Int) (h0 : 0 ≤ v) (h1 : v < 32) : KyF (3, v, ⟨#[]⟩, false)
  | paste (t : ByteArray) (c : Bool) (h : t.size ≤ 65536) : KyF (15, 0, t, c)
  | named (kind v : Int) (h1 : kind ≠ 1) (h2 : kind ≠ 2) (h3 : kind ≠ 3) (h15 : kind ≠ 15) (h : (kFind kind v).isSome = true) : KyF (kind, v, ⟨#[]⟩, false)
theorem kyF_of {k : Ky} (h : keyB k = true) : KyF k := by
  obtain ⟨kind, v, t, c⟩ := k
  by_cases h15 : kind = 15
  · subst h15
    rw [key_paste] at h
    simp at h
    obtain ⟨rfl, h⟩ := h
    exact .paste t c h
  · rw [key_other _ _ _ _ h15] at h
    simp at h
    obtain ⟨⟨ht, rfl⟩, hm⟩ := h
    obtain rfl : t = ⟨#[]⟩ := ht
    by_cases h1 : kind = 1
    · subst h1
      have hm' := hm
      rw [may_sign] at hm
      simp at hm
      exact .sign v hm.1.1 (right_le hm.2).2 hm'
    by_cases h2 : kind = 2
    · subst h2
      rw [may_ctrl] at hm
      unfold ctB at hm
      simp at hm
      exact .ctrl v hm.1.1 (by omega)
    by_cases h3 : kind = 3
    · subst h3
      rw [may_meta] at hm
      simp at hm
      by_cases hb : 32 ≤ v
      · exact .meta1 v hb hm.1.2
      · exact .meta0 v hm.1.1 (by omega)
    · rw [may_other _ _ h1 h2 h3] at hm
      exact .named kind v h1 h2 h3 h15 hm
/-- The finder, where the world is not named. -/
theorem kfinder_b (kind : Int) (w : World) : Calls Tryd.prog 285 #[.int .i64 kind] w fun e w' => ∃ q, e = .returned (.func (.func 312) #[] #[.pointer (some ⟨q, 0, none⟩)]) ∧ w'.cell? ⟨q, 0, none⟩ = some (.int .i64 kind) ∧ Below w.heap.size w w' :=
  (kfinder_any kind w).mono fun e w' ⟨h1, h2⟩ => ⟨w.heap.size, h1, by rw [← h2]; exact kcell _ _ _, by rw [← h2]; exact below_alloc _ _⟩
def nmR (k : Ky) : List UInt8 := if keyB k then nmN k else []
def NmPost (k : Ky) (w : World) (e : Ending) (w' : World) : Prop := e = .returned (.tuple #[.string (mkS (nmR k)), .int .i64 (ckE k)]) ∧ Below w.heap.size w w'
theorem nmPost_no {k : Ky} {w w' : World} (h : keyB k = false) (hb : Below w.heap.size w w') : NmPost k w (.returned (.tuple #[.string ⟨#[]⟩, .int .i64 2])) w' := by
  unfold NmPost nmR; rw [h, ckE_no h]; exact ⟨rfl, hb⟩
theorem nmPost_yes {k : Ky} {w w' : World} {s : ByteArray} (h : keyB k = true) (hs : s = mkS (nmN k)) (hb : Below w.heap.size w w') : NmPost k w (.returned (.tuple #[.string s, .int .i64 0])) w' := by
  unfold NmPost nmR; rw [h, ckE_yes h, hs]; exact ⟨rfl, hb⟩
theorem nm_meta1 (v : Int) (h : 32 ≤ v) : nmN (3, v, ⟨#[]⟩, false) = 77 :: 45 :: sgN v := by
  show 77 :: 45 :: (if 32 ≤ v then sgN v else ctN v) = _; rw [if_pos h]
theorem nm_meta0 (v : Int) (h : ¬ 32 ≤ v) : nmN (3, v, ⟨#[]⟩, false) = 77 :: 45 :: ctN v := by
  show 77 :: 45 :: (if 32 ≤ v then sgN v else ctN v) = _; rw [if_neg h]
theorem nm_named (kind v : Int) (t : ByteArray) (c : Bool) (h1 : kind ≠ 1) (h2 : kind ≠ 2) (h3 : kind ≠ 3) (h15 : kind ≠ 15) : nmN (kind, v, t, c) = (kRowOf kind v).2.2.1 := by
  unfold nmN; dsimp only; rw [if_neg h1, if_neg h2, if_neg h3, if_neg h15]
theorem sgN_len (v : Int) : (sgN v).length ≤ 22 := by
  unfold sgN; split
  · simp
  · have := hexN_len v 1; simp; omega
theorem ctN_len (v : Int) : (ctN v).length = 3 := by obtain ⟨c, h⟩ := ctN_cons v; rw [h]; rfl
theorem four_keep {w : World} {b c k : Nat} {x : Value} (v0 v1 v2 v3 : Value) (hp : c ≠ b) (h : w.cell? ⟨c, k, none⟩ = some x) :
    ((((w.setCell ⟨b, 0, none⟩ v0).setCell ⟨b, 1, none⟩ v1).setCell ⟨b, 2, none⟩ v2).setCell ⟨b, 3, none⟩ v3).cell? ⟨c, k, none⟩ = some x := by
  have o : ∀ (w : World) (i : Nat) (v : Value), (w.setCell ⟨b, i, none⟩ v).cell? ⟨c, k, none⟩ = w.cell? ⟨c, k, none⟩ := fun w i v => World.cell?_setCell_other w _ _ v (fun e => hp (by simpa using (congrArg Addr.block e).symm))
  rw [o, o, o, o, h]
theorem four_cell2 {w : World} {b : Nat} {x : Value} (v0 v1 v2 v3 : Value) (h : w.cell? ⟨b, 2, none⟩ = some x) :
    ((((w.setCell ⟨b, 0, none⟩ v0).setCell ⟨b, 1, none⟩ v1).setCell ⟨b, 2, none⟩ v2).setCell ⟨b, 3, none⟩ v3).cell? ⟨b, 2, none⟩ = some v2 := by
  rw [World.cell?_setCell_other _ _ _ _ (by simp), World.cell?_setCell_same _ _ _ (h := by rw [World.cell?_setCell_other _ _ _ _ (by simp), World.cell?_setCell_other _ _ _ _ (by simp)]; exact h)]
theorem four_cell3 {w : World} {b : Nat} {x : Value} (v0 v1 v2 v3 : Value) (h : w.cell? ⟨b, 3, none⟩ = some x) :
    ((((w.setCell ⟨b, 0, none⟩ v0).setCell ⟨b, 1, none⟩ v1).setCell ⟨b, 2, none⟩ v2).setCell ⟨b, 3, none⟩ v3).cell? ⟨b, 3, none⟩ = some v3 := by
  rw [World.cell?_setCell_same _ _ _ (h := by rw [World.cell?_setCell_other _ _ _ _ (by simp), World.cell?_setCell_other _ _ _ _ (by simp), World.cell?_setCell_other _ _ _ _ (by simp)]; exact h)]
set_option maxHeartbeats 4000000 in
set_option maxRecDepth 100000 in
theorem kname_any (k : Ky) (w : World) (hK : KT w) : Calls Tryd.prog 231 #[kyV k] w (NmPost k w) := by
  have B0 := below_alloc w (.cells #[.int .i64 k.1, .int .i64 k.2.1, .string k.2.2.1, .bool k.2.2.2] 171)
  have Q0 := Lib.hid (heap_alloc_new w (.cells #[.int .i64 k.1, .int .i64 k.2.1, .string k.2.2.1, .bool k.2.2.2] 171))
  have CH := kcheck_any k (w.alloc (.cells #[.int .i64 k.1, .int .i64 k.2.1, .string k.2.2.1, .bool k.2.2.2] 171)) (hK.below B0)
  cases hok : keyB k with
  | false =>
    have HP := Lib.hid (fun w w' hb => nmPost_no (k := k) (w := w) (w' := w') hok hb)
    rw [ckE_no hok] at CH
    obtain ⟨kind, v, t, c⟩ := k
    dsimp only at B0 Q0 CH
    replace CH := Lib.hid CH
    clear hok hK
    show Calls _ _ #[.agg #[.int .i64 kind, .int .i64 v, .string t, .bool c]] _ _
    go_enter Tryd.func231, Tryd.ntmps231
    go_wp2_with (go_at_call 238; refine CH.out.mono ?_; rintro e w1 ⟨rfl, hb1⟩)
    refine bodyPost_ret (v := .tuple #[.string ⟨#[]⟩, .int .i64 2]) (by simp [results, Tryd.results231, go_sem]) rfl ?_
    exact HP.out _ _ (seqB B0 hb1)
  | true =>
    have HP := Lib.hid (fun w w' s hs hb => nmPost_yes (k := k) (w := w) (w' := w') (s := s) hok hs hb)
    rw [ckE_yes hok] at CH
    have hf := kyF_of hok
    clear hok
    cases hf with
    | sign v h0 h1 h =>
      dsimp only at B0 Q0
      replace CH := Lib.hid CH
      have SN := Lib.hid (fun w => ksign_any v w (by omega) h1)
      clear h hK
      show Calls _ _ #[.agg #[.int .i64 1, .int .i64 v, .string ⟨#[]⟩, .bool false]] _ _
      go_enter Tryd.func231, Tryd.ntmps231
      go_wp2_with (first
        | (go_at_call 238; refine CH.out.mono ?_; rintro e w1 ⟨rfl, hb1⟩; have q1 := blk_below Q0.out hb1; have y := fun i => cell_of_row _ _ i _ _ _ q1; have y0 := y 0; have y1 := y 1; clear y q1; dsimp at y0 y1)
        | (go_at_call 282; refine (SN.out _).mono ?_; rintro e w2 ⟨rfl, hb2⟩))
      refine bodyPost_ret (v := .tuple #[.string (mkS (sgN v)), .int .i64 0]) (by simp [results, Tryd.results231, go_sem]) rfl ?_
      exact HP.out _ _ _ rfl (seqB (seqB B0 hb1) hb2)
    | ctrl v h0 h1 =>
      dsimp only at B0 Q0
      replace CH := Lib.hid CH
      have SN := Lib.hid (fun w => kctrl_any v w h0 h1)
      clear hK
      show Calls _ _ #[.agg #[.int .i64 2, .int .i64 v, .string ⟨#[]⟩, .bool false]] _ _
      go_enter Tryd.func231, Tryd.ntmps231
      go_wp2_with (first
        | (go_at_call 238; refine CH.out.mono ?_; rintro e w1 ⟨rfl, hb1⟩; have q1 := blk_below Q0.out hb1; have y := fun i => cell_of_row _ _ i _ _ _ q1; have y0 := y 0; have y1 := y 1; clear y q1; dsimp at y0 y1)
        | (go_at_call 283; refine (SN.out _).mono ?_; rintro e w2 ⟨rfl, hb2⟩))
      refine bodyPost_ret (v := .tuple #[.string (mkS (ctN v)), .int .i64 0]) (by simp [results, Tryd.results231, go_sem]) rfl ?_
      exact HP.out _ _ _ rfl (seqB (seqB B0 hb1) hb2)
    | meta1 v h0 h1 =>
      dsimp only at B0 Q0
      replace CH := Lib.hid CH
      have SN := fun w => ksign_any v w (by omega) (by omega)
      have hl := sgN_len v
      have hsz : (mkS (sgN v)).size ≤ 22 := by rw [mkS_size]; exact hl
      have he : Hid (⟨#[77, 45]⟩ ++ mkS (sgN v) = mkS (nmN (3, v, ⟨#[]⟩, false))) := Lib.hid (by rw [nm_meta1 v h0, show (⟨#[77, 45]⟩ : ByteArray) = mkS [77, 45] from rfl, mkS_app]; rfl)
      generalize mkS (sgN v) = u at *
      have R1 := ksum ⟨#[77, 45]⟩ u (by show 2 + _ ≤ _; omega)
      replace SN := Lib.hid SN
      clear hK hl hsz
      show Calls _ _ #[.agg #[.int .i64 3, .int .i64 v, .string ⟨#[]⟩, .bool false]] _ _
      go_enter Tryd.func231, Tryd.ntmps231
      go_wp2_with (first
        | (go_at_call 238; refine CH.out.mono ?_; rintro e w1 ⟨rfl, hb1⟩; have q1 := blk_below Q0.out hb1; have y := fun i => cell_of_row _ _ i _ _ _ q1; have y0 := y 0; have y1 := y 1; clear y q1; dsimp at y0 y1)
        | (go_at_call 282; refine (SN.out _).mono ?_; rintro e w2 ⟨rfl, hb2⟩))
      refine bodyPost_ret (v := .tuple #[.string (⟨#[77, 45]⟩ ++ u), .int .i64 0]) (by simp [results, Tryd.results231, go_sem]) rfl ?_
      exact HP.out _ _ _ he.out (seqB (seqB B0 hb1) hb2)
    | meta0 v h0 h1 =>
      dsimp only at B0 Q0
      replace CH := Lib.hid CH
      have SN := fun w => kctrl_any v w h0 h1
      have hl := ctN_len v
      have hsz : (mkS (ctN v)).size = 3 := by rw [mkS_size]; exact hl
      have he : Hid (⟨#[77, 45]⟩ ++ mkS (ctN v) = mkS (nmN (3, v, ⟨#[]⟩, false))) := Lib.hid (by rw [nm_meta0 v (by omega), show (⟨#[77, 45]⟩ : ByteArray) = mkS [77, 45] from rfl, mkS_app]; rfl)
      generalize mkS (ctN v) = u at *
      have R1 := ksum ⟨#[77, 45]⟩ u (by show 2 + _ ≤ _; omega)
      replace SN := Lib.hid SN
      clear hK hl hsz
      show Calls _ _ #[.agg #[.int .i64 3, .int .i64 v, .string ⟨#[]⟩, .bool false]] _ _
      go_enter Tryd.func231, Tryd.ntmps231
      go_wp2_with (first
        | (go_at_call 238; refine CH.out.mono ?_; rintro e w1 ⟨rfl, hb1⟩; have q1 := blk_below Q0.out hb1; have y := fun i => cell_of_row _ _ i _ _ _ q1; have y0 := y 0; have y1 := y 1; clear y q1; dsimp at y0 y1)
        | (go_at_call 283; refine (SN.out _).mono ?_; rintro e w2 ⟨rfl, hb2⟩))
      refine bodyPost_ret (v := .tuple #[.string (⟨#[77, 45]⟩ ++ u), .int .i64 0]) (by simp [results, Tryd.results231, go_sem]) rfl ?_
      exact HP.out _ _ _ he.out (seqB (seqB B0 hb1) hb2)
    | paste t c h =>
      dsimp only at B0 Q0
      replace CH := Lib.hid CH
      have SN := Lib.hid (fun w => kpaste_any 15 0 t c w (by omega))
      clear hK
      show Calls _ _ #[.agg #[.int .i64 15, .int .i64 0, .string t, .bool c]] _ _
      go_enter Tryd.func231, Tryd.ntmps231
      go_wp2_with (first
        | (go_at_call 238; refine CH.out.mono ?_; rintro e w1 ⟨rfl, hb1⟩; have q1 := blk_below Q0.out hb1; have y := fun i => cell_of_row _ _ i _ _ _ q1; have y0 := y 0; have y1 := y 1; have y2 := y 2; have y3 := y 3; clear y q1; dsimp at y0 y1 y2 y3)
        | (go_at_call 284; refine (SN.out _).mono ?_; rintro e w2 ⟨rfl, hb2⟩))
      refine bodyPost_ret (v := .tuple #[.string (mkS (psN t.data.toList c)), .int .i64 0]) (by simp [results, Tryd.results231, go_sem]) rfl ?_
      exact HP.out _ _ _ rfl (seqB (seqB B0 hb1) hb2)
    | named kind v h1 h2 h3 h15 h =>
      dsimp only at B0 Q0
      have FD := fun w q (hK : KT w) hc => kfind_any v kind q w hK hc
      have he : Hid (mkS (kRowOf kind v).2.2.1 = mkS (nmN (kind, v, ⟨#[]⟩, false))) := Lib.hid (by rw [nm_named kind v _ _ h1 h2 h3 h15])
      obtain ⟨r, hr⟩ : ∃ r, kRowOf kind v = r := ⟨_, rfl⟩
      rw [hr] at FD he
      obtain ⟨ra, rb, rc, rd⟩ := r
      rw [rowV_eq, h] at FD
      replace FD := Lib.hid FD; replace CH := Lib.hid CH
      have HK := Lib.hid (hK.below B0)
      clear hK hr h
      show Calls _ _ #[.agg #[.int .i64 kind, .int .i64 v, .string ⟨#[]⟩, .bool false]] _ _
      go_enter Tryd.func231, Tryd.ntmps231
      go_upto_region 15 with (first
        | (go_at_call 238; refine CH.out.mono ?_; rintro e w1 ⟨rfl, hb1⟩; have q1 := blk_below Q0.out hb1; have q1l := blk_lt q1; have y := fun i => cell_of_row _ _ i _ _ _ q1; have y0 := y 0; have y1 := y 1; clear y q1; dsimp at y0 y1; have HK1 := Lib.hid (HK.out.below hb1)))
      go_region_held3 (fun w' => w'.cell? ⟨w.heap.size, 0, none⟩ = some (.int .i64 kind) ∧ w'.cell? ⟨w.heap.size, 1, none⟩ = some (.int .i64 v))
        (first | with_reducible exact ⟨y0, y1⟩ | with_reducible exact o1 | with_reducible exact o2 | with_reducible exact ⟨four_keep _ _ _ _ hne o2.1, four_keep _ _ _ _ hne o2.2⟩ | with_reducible exact ⟨four_keep _ _ _ _ hne0 o2.1, four_keep _ _ _ _ hne0 o2.2⟩ | go_keep)
        (first
          | (go_at_call 285; (with_reducible refine (kfinder_b _ w1.drew).mono ?_); rintro e w2 ⟨qq, rfl, hqq, hb2⟩; have N2 := seqB (Below.refl w1.heap.size w1).drew hb2; have hne : w.heap.size ≠ w2.heap.size := Nat.ne_of_lt (Nat.lt_of_lt_of_le q1l N2.size); have o1 : w2.cell? ⟨w.heap.size, 0, none⟩ = some (.int .i64 kind) ∧ w2.cell? ⟨w.heap.size, 1, none⟩ = some (.int .i64 v) := ⟨(N2.cell (p := ⟨w.heap.size, 0, none⟩) q1l).trans y0, (N2.cell (p := ⟨w.heap.size, 1, none⟩) q1l).trans y1⟩)
          | (go_at_call 285; (with_reducible refine (kfinder_b _ (w1.alloc (.cells #[.int .i64 0, .int .i64 0, .string ⟨#[]⟩, .string ⟨#[]⟩] 334)).drew).mono ?_); rintro e w2 ⟨qq, rfl, hqq, hb2⟩; have N2 := seqB (seqB (below_alloc w1 (.cells #[.int .i64 0, .int .i64 0, .string ⟨#[]⟩, .string ⟨#[]⟩] 334)) (Below.refl (w1.alloc (.cells #[.int .i64 0, .int .i64 0, .string ⟨#[]⟩, .string ⟨#[]⟩] 334)).heap.size (w1.alloc (.cells #[.int .i64 0, .int .i64 0, .string ⟨#[]⟩, .string ⟨#[]⟩] 334))).drew) hb2; have hne : w.heap.size ≠ w2.heap.size := Nat.ne_of_lt (Nat.lt_of_lt_of_le q1l N2.size); have o1 : w2.cell? ⟨w.heap.size, 0, none⟩ = some (.int .i64 kind) ∧ w2.cell? ⟨w.heap.size, 1, none⟩ = some (.int .i64 v) := ⟨(N2.cell (p := ⟨w.heap.size, 0, none⟩) q1l).trans y0, (N2.cell (p := ⟨w.heap.size, 1, none⟩) q1l).trans y1⟩; have hZ2 := blk_below (w := (w1.alloc (.cells #[.int .i64 0, .int .i64 0, .string ⟨#[]⟩, .string ⟨#[]⟩] 334)).drew) (heap_alloc_new w1 (.cells #[.int .i64 0, .int .i64 0, .string ⟨#[]⟩, .string ⟨#[]⟩] 334)) hb2; have hne0 : w.heap.size ≠ w1.heap.size := Nat.ne_of_lt q1l)
          | (go_at_call 312; (with_reducible refine (FD.out (w2.alloc (.cells #[.int .i64 0, .int .i64 0, .string ⟨#[]⟩, .string ⟨#[]⟩] 334)) qq (HK1.out.below (seqB N2 (below_alloc _ _))) (((below_alloc w2 (.cells #[.int .i64 0, .int .i64 0, .string ⟨#[]⟩, .string ⟨#[]⟩] 334)).cell (p := ⟨qq, 0, none⟩) (block_lt_of_cell hqq)).trans hqq)).mono ?_); rintro e w3 ⟨rfl, hb3⟩; have N3 := seqB (seqB N2 (below_alloc w2 (.cells #[.int .i64 0, .int .i64 0, .string ⟨#[]⟩, .string ⟨#[]⟩] 334))) hb3; have o2 : w3.cell? ⟨w.heap.size, 0, none⟩ = some (.int .i64 kind) ∧ w3.cell? ⟨w.heap.size, 1, none⟩ = some (.int .i64 v) := ⟨(N3.cell (p := ⟨w.heap.size, 0, none⟩) q1l).trans y0, (N3.cell (p := ⟨w.heap.size, 1, none⟩) q1l).trans y1⟩; have hZ := blk_below (heap_alloc_new w2 (.cells #[.int .i64 0, .int .i64 0, .string ⟨#[]⟩, .string ⟨#[]⟩] 334)) hb3; have zf := fun i => frozen_of_row _ _ i _ _ hZ; have zz := fun i => cell_of_row _ _ i _ _ _ hZ; have z0 := zz 0; have z1 := zz 1; have z2 := zz 2; have z3 := zz 3; dsimp at z0 z1 z2 z3; have hql1 := blk_lt hZ; clear zz hZ)
          | (go_at_call 312; (with_reducible refine (FD.out w2 qq (HK1.out.below N2) hqq).mono ?_); rintro e w3 ⟨rfl, hb3⟩; have N3 := seqB N2 hb3; have o2 : w3.cell? ⟨w.heap.size, 0, none⟩ = some (.int .i64 kind) ∧ w3.cell? ⟨w.heap.size, 1, none⟩ = some (.int .i64 v) := ⟨(N3.cell (p := ⟨w.heap.size, 0, none⟩) q1l).trans y0, (N3.cell (p := ⟨w.heap.size, 1, none⟩) q1l).trans y1⟩; try (have hZ := blk_below hZ2 hb3; have zf := fun i => frozen_of_row _ _ i _ _ hZ; have zz := fun i => cell_of_row _ _ i _ _ _ hZ; have z0 := zz 0; have z1 := zz 1; have z2 := zz 2; have z3 := zz 3; dsimp at z0 z1 z2 z3; have hql1 := blk_lt hZ; clear zz hZ; clear hZ2)))
      · go_wp2
        refine bodyPost_ret (v := .tuple #[.string (mkS rc), .int .i64 0]) (by simp [results, Tryd.results231, go_sem]) rfl ?_
        exact HP.out _ _ _ he.out (seqB (seqB (seqB B0 hb1) N3) (below_alloc _ _))
      · have c2 := four_cell2 (.int .i64 ra) (.int .i64 rb) (.string ⟨rc.toArray⟩) (.string ⟨rd.toArray⟩) z2
        have NF := four_below w3 w1 w2.heap.size (.int .i64 ra) (.int .i64 rb) (.string ⟨rc.toArray⟩) (.string ⟨rd.toArray⟩) N2.size N3
        generalize World.setCell _ _ _ = WF at *
        clear z0 z1 z2 z3 zf
        go_wp2
        refine bodyPost_ret (v := .tuple #[.string (mkS rc), .int .i64 0]) (by simp [results, Tryd.results231, go_sem]) rfl ?_
        exact HP.out _ _ _ he.out (seqB (seqB B0 hb1) NF)
      · have c2 := four_cell2 (.int .i64 ra) (.int .i64 rb) (.string ⟨rc.toArray⟩) (.string ⟨rd.toArray⟩) z2
        have NF := four_below w3 w1 w1.heap.size (.int .i64 ra) (.int .i64 rb) (.string ⟨rc.toArray⟩) (.string ⟨rd.toArray⟩) (Nat.le_refl _) N3
        generalize World.setCell _ _ _ = WF at *
        clear z0 z1 z2 z3 zf
        go_wp2
        refine bodyPost_ret (v := .tuple #[.string (mkS rc), .int .i64 0]) (by simp [results, Tryd.results231, go_sem]) rfl ?_
        exact HP.out _ _ _ he.out (seqB (seqB B0 hb1) NF)
end Go.Proofs.YtangpdaoacjinaaDoor
set_option linter.unusedVariables false
set_option linter.unusedSimpArgs false
namespace Go.Proofs.YtangpdaoacjinaaDoor
open Go.RowKit
def byR (k : Ky) : List UInt8 := if keyB k then byN k else []
def ByPost (k : Ky) (w : World) (e : Ending) (w' : World) : Prop := e = .returned (.string (mkS (byR k))) ∧ Below w.heap.size w w'
theorem byPost_no {k : Ky} {w w' : World} (h : keyB k = false) (hb : Below w.heap.size w w') : ByPost k w (.returned (.string ⟨#[]⟩)) w' := by
  unfold ByPost byR; rw [h]; exact ⟨rfl, hb⟩
theorem byPost_yes {k : Ky} {w w' : World} {s : ByteArray} (h : keyB k = true) (hs : s = mkS (byN k)) (hb : Below w.heap.size w w') : ByPost k w (.returned (.string s)) w' := by
  unfold ByPost byR; rw [h, hs]; exact ⟨rfl, hb⟩
theorem by_named (kind v : Int) (t : ByteArray) (c : Bool) (h1 : kind ≠ 1) (h2 : kind ≠ 2) (h3 : kind ≠ 3) (h15 : kind ≠ 15) : byN (kind, v, t, c) = (kRowOf kind v).2.2.2 := by
  unfold byN; dsimp only; rw [if_neg (by omega), if_neg h3, if_neg h15]
theorem txt_mk (l : List Int) : mkS (txt l).data.toList = txt l := mkS_of _
theorem by_12 (kind v : Int) (h : kind = 1 ∨ kind = 2) : mkS (byN (kind, v, ⟨#[]⟩, false)) = txt (oneI v) := by
  unfold byN; dsimp only; rw [if_pos h]
theorem by_3 (v : Int) : mkS (byN (3, v, ⟨#[]⟩, false)) = ⟨#[27]⟩ ++ txt (oneI v) := by
  unfold byN; dsimp only; rw [if_neg (by omega), if_pos rfl, show (⟨#[27]⟩ : ByteArray) = mkS [27] from rfl]
  conv => rhs; rw [← txt_mk]
  rw [mkS_app]; rfl
theorem by_15 (v : Int) (t : ByteArray) (c : Bool) : mkS (byN (15, v, t, c)) = ⟨#[27, 91, 50, 48, 48, 126]⟩ ++ t ++ ⟨#[27, 91, 50, 48, 49, 126]⟩ := by
  unfold byN; dsimp only; rw [if_neg (by omega), if_neg (by omega), if_pos rfl, show (⟨#[27, 91, 50, 48, 48, 126]⟩ : ByteArray) = mkS [27, 91, 50, 48, 48, 126] from rfl, show (⟨#[27, 91, 50, 48, 49, 126]⟩ : ByteArray) = mkS [27, 91, 50, 48, 49, 126] from rfl]
  conv => rhs; rw [← mkS_of t]
  rw [mkS_app, mkS_app]
theorem txt_one_len (v : Int) : (txt (oneI v)).size ≤ 4 := by rw [txt_size]; exact oneI_len v
theorem kTab_enter : ∀ r ∈ kTab, r.1 = 4 → r.2.1 = 13 ∨ r.2.1 = 10 := by decide
def vlI (k : Ky) : Int := if keyB k = true ∧ 0 ≤ vlN k then vlN k else 0
def vlB (k : Ky) : Bool := keyB k && decide (0 ≤ vlN k)
def VlPost (k : Ky) (w : World) (e : Ending) (w' : World) : Prop := e = .returned (.tuple #[.int .i64 (vlI k), .bool (vlB k)]) ∧ Below w.heap.size w w'
theorem vlPost_no {k : Ky} {w w' : World} (h : keyB k = false ∨ vlN k < 0) (hb : Below w.heap.size w w') : VlPost k w (.returned (.tuple #[.int .i64 0, .bool false])) w' := by
  unfold VlPost vlI vlB
  rcases h with h | h
  · rw [h]; exact ⟨rfl, hb⟩
  · rw [if_neg (fun x => by omega), decide_eq_false (by omega), Bool.and_false]; exact ⟨rfl, hb⟩
theorem vlPost_yes {k : Ky} {w w' : World} {v : Int} (h : keyB k = true) (hv : vlN k = v) (h0 : 0 ≤ v) (hb : Below w.heap.size w w') : VlPost k w (.returned (.tuple #[.int .i64 v, .bool true])) w' := by
  unfold VlPost vlI vlB
  rw [if_pos ⟨h, by omega⟩, h, decide_eq_true (by omega), hv]; exact ⟨rfl, hb⟩
set_option maxHeartbeats 4000000 in
set_option maxRecDepth 100000 in
theorem kvalue_any (k : Ky) (w : World) (hK : KT w) : Calls Tryd.prog 193 #[kyV k] w (VlPost k w) := by
  have B0 := below_alloc w (.cells #[.int .i64 k.1, .int .i64 k.2.1, .string k.2.2.1, .bool k.2.2.2] 171)
  have Q0 := Lib.hid (heap_alloc_new w (.cells #[.int .i64 k.1, .int .i64 k.2.1, .string k.2.2.1, .bool k.2.2.2] 171))
  have CH := kcheck_any k (w.alloc (.cells #[.int .i64 k.1, .int .i64 k.2.1, .string k.2.2.1, .bool k.2.2.2] 171)) (hK.below B0)
  have HN := Lib.hid (fun w w' h hb => vlPost_no (k := k) (w := w) (w' := w') h hb)
  have HY := Lib.hid (fun w w' v h hv h0 hb => vlPost_yes (k := k) (w := w) (w' := w') (v := v) h hv h0 hb)
  clear hK
  cases hok : keyB k with
  | false =>
    rw [ckE_no hok] at CH
    have hn := Lib.hid (Or.inl hok : keyB k = false ∨ vlN k < 0)
    obtain ⟨kind, v, t, c⟩ := k
    dsimp only at B0 Q0 CH
    replace CH := Lib.hid CH
    clear hok
    show Calls _ _ #[.agg #[.int .i64 kind, .int .i64 v, .string t, .bool c]] _ _
    go_enter Tryd.func193, Tryd.ntmps193
    go_wp2_with (go_at_call 238; refine CH.out.mono ?_; rintro e w1 ⟨rfl, hb1⟩)
    refine bodyPost_ret (v := .tuple #[.int .i64 0, .bool false]) (by simp [results, Tryd.results193, go_sem]) rfl ?_
    exact HN.out _ _ hn.out (seqB B0 hb1)
  | true =>
    rw [ckE_yes hok] at CH
    have hf := kyF_of hok
    have HK := Lib.hid hok
    clear hok
    replace CH := Lib.hid CH
    have key : ∀ (kind v : Int) (t : ByteArray) (c : Bool), k = (kind, v, t, c) → (kind = 4 → v = 13 ∨ v = 10) → (kind = 1 ∨ kind = 2 → 0 ≤ v) → Calls Tryd.prog 193 #[kyV k] w (VlPost k w) := by
      intro kind v t c hk h4 h12
      subst hk
      dsimp only at B0 Q0 CH
      have hv : vlN (kind, v, t, c) = if kind = 1 ∨ kind = 2 ∨ kind = 4 then v else if kind = 5 then 27 else if kind = 6 then 127 else -1 := rfl
      have HV := Lib.hid hv
      clear hf hv
      show Calls _ _ #[.agg #[.int .i64 kind, .int .i64 v, .string t, .bool c]] _ _
      by_cases a1 : kind = 1 ∨ kind = 2 ∨ kind = 4
      · have hv : Hid (vlN (kind, v, t, c) = v) := Lib.hid (by rw [HV.out, if_pos a1])
        have h0 : 0 ≤ v := by rcases a1 with h | h | h; exact h12 (Or.inl h); exact h12 (Or.inr h); rcases h4 h with h | h <;> omega
        have H0 := Lib.hid h0
        clear h4 h12 HV h0
        rcases a1 with rfl | rfl | rfl
        all_goals
          go_enter Tryd.func193, Tryd.ntmps193
          go_wp2_with (first
            | (go_at_call 238; refine CH.out.mono ?_; rintro e w1 ⟨rfl, hb1⟩; have q1 := blk_below Q0.out hb1; have y := fun i => cell_of_row _ _ i _ _ _ q1; have y0 := y 0; have y1 := y 1; clear y q1; dsimp at y0 y1))
          refine bodyPost_ret (v := .tuple #[.int .i64 v, .bool true]) (by simp [results, Tryd.results193, go_sem]) rfl ?_
          exact HY.out _ _ _ HK.out hv.out H0.out (seqB B0 hb1)
      · by_cases a5 : kind = 5
        · have hv : Hid (vlN (kind, v, t, c) = 27) := Lib.hid (by rw [HV.out, if_neg a1, if_pos a5])
          subst a5
          clear h4 h12 HV a1
          go_enter Tryd.func193, Tryd.ntmps193
          go_wp2_with (first
            | (go_at_call 238; refine CH.out.mono ?_; rintro e w1 ⟨rfl, hb1⟩; have q1 := blk_below Q0.out hb1; have y := fun i => cell_of_row _ _ i _ _ _ q1; have y0 := y 0; have y1 := y 1; clear y q1; dsimp at y0 y1))
          refine bodyPost_ret (v := .tuple #[.int .i64 27, .bool true]) (by simp [results, Tryd.results193, go_sem]) rfl ?_
          exact HY.out _ _ _ HK.out hv.out (by decide) (seqB B0 hb1)
        · by_cases a6 : kind = 6
          · have hv : Hid (vlN (kind, v, t, c) = 127) := Lib.hid (by rw [HV.out, if_neg a1, if_neg a5, if_pos a6])
            subst a6
            clear h4 h12 HV a1 a5
            go_enter Tryd.func193, Tryd.ntmps193
            go_wp2_with (first
              | (go_at_call 238; refine CH.out.mono ?_; rintro e w1 ⟨rfl, hb1⟩; have q1 := blk_below Q0.out hb1; have y := fun i => cell_of_row _ _ i _ _ _ q1; have y0 := y 0; have y1 := y 1; clear y q1; dsimp at y0 y1))
            refine bodyPost_ret (v := .tuple #[.int .i64 127, .bool true]) (by simp [results, Tryd.results193, go_sem]) rfl ?_
            exact HY.out _ _ _ HK.out hv.out (by decide) (seqB B0 hb1)
          · have hv : Hid (keyB (kind, v, t, c) = false ∨ vlN (kind, v, t, c) < 0) := Lib.hid (Or.inr (by rw [HV.out, if_neg a1, if_neg a5, if_neg a6]; decide))
            have b1 : ¬ kind = 1 := fun h => a1 (Or.inl h)
            have b2 : ¬ kind = 2 := fun h => a1 (Or.inr (Or.inl h))
            have b4 : ¬ kind = 4 := fun h => a1 (Or.inr (Or.inr h))
            clear h4 h12 HV a1
            go_enter Tryd.func193, Tryd.ntmps193
            go_wp2_with (first
              | (go_at_call 238; refine CH.out.mono ?_; rintro e w1 ⟨rfl, hb1⟩; have q1 := blk_below Q0.out hb1; have y := fun i => cell_of_row _ _ i _ _ _ q1; have y0 := y 0; have y1 := y 1; clear y q1; dsimp at y0 y1))
            refine bodyPost_ret (v := .tuple #[.int .i64 0, .bool false]) (by simp [results, Tryd.results193, go_sem]) rfl ?_
            exact HN.out _ _ hv.out (seqB B0 hb1)
    cases hf with
    | sign v h0 h1 h => exact key _ _ _ _ rfl (fun h => by omega) (fun _ => by omega)
    | ctrl v h0 h1 => exact key _ _ _ _ rfl (fun h => by omega) (fun _ => h0)
    | meta1 v h0 h1 => exact key _ _ _ _ rfl (fun h => by omega) (fun h => by omega)
    | meta0 v h0 h1 => exact key _ _ _ _ rfl (fun h => by omega) (fun h => by omega)
    | paste t c h => exact key _ _ _ _ rfl (fun h => by omega) (fun h => by omega)
    | named kind v h1 h2 h3 h15 h =>
      exact key _ _ _ _ rfl (fun h4 => by
        obtain ⟨r, hr⟩ := Option.isSome_iff_exists.1 h
        have ⟨hm, e1, e2⟩ := find_ok hr
        rw [← e2]
        exact kTab_enter r hm (e1.trans h4)) (fun h => by omega)
end Go.Proofs.YtangpdaoacjinaaDoor
set_option linter.unusedVariables false
set_option linter.unusedSimpArgs false
namespace Go.Proofs.YtangpdaoacjinaaDoor
open Go.RowKit
theorem ext_list (s : ByteArray) (a b : Nat) : (s.extract a b).data.toList = (s.data.toList.drop a).take (b - a) := by
  have e : s = ByteArray.mk s.data.toList.toArray := by cases s; simp
  conv => lhs; rw [e]
  rw [ByteArray.extract_mk]
theorem list_size (s : ByteArray) : s.data.toList.length = s.size := Array.length_toList
theorem kunhex (s : ByteArray) (w : World) (hs : s.size ≤ 999999) : Calls Tryd.prog 57 #[.string s] w fun e w' => e = .returned (.tuple #[.int .i64 (uhR s.data.toList), .int .i64 (uhE s.data.toList)]) ∧ Below w.heap.size w w' := by
  have h := unhex_any s.data.toList w (by rw [list_size]; exact hs)
  rwa [show (⟨s.data.toList.toArray⟩ : ByteArray) = s from mkS_of s] at h
theorem uh_or (l : List UInt8) : (uhE l = 0 ∧ 0 ≤ uhR l) ∨ (uhE l = 6 ∧ uhR l = 0) := by
  rcases uh_cases l with h | h
  · exact Or.inl ⟨h.2.1, by omega⟩
  · exact Or.inr ⟨h.2.1, h.2.2⟩
theorem sgOf_one (s : ByteArray) (h : s.size = 1) : sgOf s.data.toList = ((s[0]'(by omega)).toNat : Int) := by
  unfold sgOf
  rw [if_pos (by rw [list_size]; exact h)]
  obtain ⟨a⟩ := s
  obtain ⟨l⟩ := a
  match l, h with
  | [x], _ => rfl
theorem sgOf_no (s : ByteArray) (h1 : s.size ≠ 1) (h : s.size < 3) : sgOf s.data.toList = -1 := by
  unfold sgOf
  rw [if_neg (by rw [list_size]; exact h1), if_pos (Or.inl (by rw [list_size]; exact h))]
theorem head_get (s : ByteArray) (h : 0 < s.size) : s.data.toList.headD 0 = s[0] := by
  obtain ⟨a⟩ := s
  obtain ⟨l⟩ := a
  match l, h with
  | x :: _, _ => rfl
theorem sgOf_no2 (s : ByteArray) (h3 : 3 ≤ s.size) (h : ¬ ((s[0]'(by omega)).toNat : Int) = 60) : sgOf s.data.toList = -1 := by
  unfold sgOf
  rw [if_neg (by rw [list_size]; omega), if_pos (Or.inr (by rw [head_get s (by omega)]; intro e; apply h; rw [e]; rfl))]
theorem sgOf_hex (s : ByteArray) (h3 : 3 ≤ s.size) (h : ((s[0]'(by omega)).toNat : Int) = 60) : sgOf s.data.toList = if uhE (s.extract 1 (s.size - 1)).data.toList = 0 then uhR (s.extract 1 (s.size - 1)).data.toList else -1 := by
  unfold sgOf
  have h60 : s.data.toList.headD 0 = 60 := by
    rw [head_get s (by omega)]
    have : (s[0]'(by omega)).toNat = 60 := by omega
    exact UInt8.toNat_inj.1 this
  rw [if_neg (by rw [list_size]; omega), if_neg (by rw [list_size, h60]; intro hh; rcases hh with hh | hh; omega; exact hh rfl), list_size, ext_list]
  rfl
set_option maxHeartbeats 2000000 in
set_option maxRecDepth 100000 in
theorem ksgOf_any (s : ByteArray) (w : World) (hs : s.size ≤ 900000) : Calls Tryd.prog 295 #[.string s] w fun e w' => e = .returned (.int .i64 (sgOf s.data.toList)) ∧ Below w.heap.size w w' := by
  by_cases h1 : s.size = 1
  · have e := Lib.hid (sgOf_one s h1)
    have hk0 : (0 : Int) < s.size := by omega
    have hw : Hid (wrap64 (((s[0]'(by omega)).toNat : Nat) : Int) = (((s[0]'(by omega)).toNat : Nat) : Int)) := Lib.hid (by have := u8_lt (s[0]'(by omega)); unfold wrap64; omega)
    have hi1 : (s.size : Int) = 1 := by omega
    go_enter Tryd.func295, Tryd.ntmps295
    go_wp2_with fail
    go_ret
    rw [e.out]
    refine ⟨?_, Below.refl _ _⟩
    show Ending.returned (.int .i64 (wrap64 _)) = _
    rw [hw.out]
  · have hi1 : ¬ (s.size : Int) = 1 := by omega
    by_cases h3 : s.size < 3
    · have e := Lib.hid (sgOf_no s h1 h3)
      have hi3 : (s.size : Int) < 3 := by omega
      go_enter Tryd.func295, Tryd.ntmps295
      go_wp2_with fail
      go_ret
      rw [e.out]
      exact ⟨rfl, Below.refl _ _⟩
    · have hi3 : ¬ (s.size : Int) < 3 := by omega
      have hk0 : (0 : Int) < s.size := by omega
      by_cases h60 : ((s[0]'(by omega)).toNat : Int) = 60
      · have e := Lib.hid (sgOf_hex s (by omega) h60)
        have U := fun w => kunhex (s.extract 1 (s.size - 1)) w (by rw [ByteArray.size_extract]; omega)
        have hx : Hid (((s.size : Int) - 1).toNat = s.size - 1) := Lib.hid (by omega)
        have hor := uh_or (s.extract 1 (s.size - 1)).data.toList
        generalize hu : uhE (s.extract 1 (s.size - 1)).data.toList = ue at *
        generalize hr : uhR (s.extract 1 (s.size - 1)).data.toList = ur at *
        replace U := Lib.hid U
        clear hu hr
        rcases hor with ⟨rfl, h0⟩ | ⟨rfl, rfl⟩
        · clear h0
          go_enter Tryd.func295, Tryd.ntmps295
          go_wp2_with (go_at_call 57; refine (U.out _).mono ?_; rintro e w2 ⟨rfl, hb2⟩)
          go_ret
          rw [e.out]
          exact ⟨by simp, hb2⟩
        · go_enter Tryd.func295, Tryd.ntmps295
          go_wp2_with (go_at_call 57; refine (U.out _).mono ?_; rintro e w2 ⟨rfl, hb2⟩)
          go_ret
          rw [e.out]
          exact ⟨by simp, hb2⟩
      · have e := Lib.hid (sgOf_no2 s (by omega) h60)
        go_enter Tryd.func295, Tryd.ntmps295
        go_wp2_with fail
        go_ret
        rw [e.out]
        exact ⟨rfl, Below.refl _ _⟩
theorem ctFrom_hit (l : List UInt8) (k : Nat) (hk : k < 32) (h : ctN (k : Int) = l) : ctFrom l (32 - k) k = k := by
  rw [show 32 - k = (31 - k) + 1 by omega, ctFrom, if_pos h]
theorem ctFrom_miss (l : List UInt8) (k : Nat) (hk : k < 32) (h : ¬ ctN (k : Int) = l) : ctFrom l (32 - k) k = ctFrom l (32 - (k + 1)) (k + 1) := by
  rw [show 32 - k = (31 - k) + 1 by omega, ctFrom, if_neg h, show 31 - k = 32 - (k + 1) by omega]
theorem ctFrom_end (l : List UInt8) : ctFrom l (32 - 32) 32 = -1 := rfl
theorem mkS_eq {l : List UInt8} {s : ByteArray} (h : mkS l = s) : l = s.data.toList := by subst h; simp [mkS]
set_option maxHeartbeats 2000000 in
set_option maxRecDepth 100000 in
theorem kctOf_any (s : ByteArray) (w : World) : Calls Tryd.prog 294 #[.string s] w fun e w' => e = .returned (.int .i64 (ctOf s.data.toList)) ∧ Below w.heap.size w w' := by
  go_enter Tryd.func294, Tryd.ntmps294
  go_wp2
  go_loopw [4] (fun iv wr => ∃ k : Nat, k ≤ 32 ∧ iv = .int .i64 (k : Int) ∧ Hid (ctFrom s.data.toList (32 - k) k = ctOf s.data.toList) ∧ Below w.heap.size w wr) (fun iv _ => 32 - (intOf iv).toNat)
  case atStart => exact ⟨0, by omega, rfl, Lib.hid rfl, Below.refl _ _⟩
  case round =>
    obtain ⟨k, hk, rfl, HE, hb⟩ := hrel
    have hsz := hb.size
    by_cases hlt : k < 32
    · have hk0 : (0 : Int) ≤ k := by omega
      have hk1 : (k : Int) < 32 := by omega
      have C := fun w => kctrl_any (k : Int) w hk0 hk1
      by_cases he : mkS (ctN (k : Int)) = s
      · have HF : Hid (ctOf s.data.toList = k) := Lib.hid (by rw [← HE.out]; exact ctFrom_hit _ k hlt (mkS_eq he))
        rw [he] at C
        replace C := Lib.hid C
        clear he HE
        go_wp2_with (go_at_call 283; refine (C.out _).mono ?_; rintro e w2 ⟨rfl, hb2⟩)
        go_ret
        rw [HF.out]
        exact ⟨rfl, hb.trans (hb2.mono hsz)⟩
      · have HF : Hid (ctFrom s.data.toList (32 - (k + 1)) (k + 1) = ctOf s.data.toList) := Lib.hid (by rw [← HE.out]; exact (ctFrom_miss _ k hlt (fun h => he (by rw [h]))).symm)
        obtain ⟨s1, s2, s3⟩ := kstr_ne he
        generalize mkS (ctN (k : Int)) = u at *
        replace C := Lib.hid C
        clear he HE
        go_wp2_with (go_at_call 283; refine (C.out _).mono ?_; rintro e w2 ⟨rfl, hb2⟩)
        go_roundw
        case rel => exact ⟨k + 1, by omega, by go_num, HF, hb.trans (hb2.mono hsz)⟩
        case measure => (simp [intOf]; try omega)
    · obtain rfl : k = 32 := by omega
      have HF : Hid (ctOf s.data.toList = -1) := Lib.hid (by rw [← HE.out]; rfl)
      clear HE
      go_wp2
      go_ret
      rw [HF.out]
      exact ⟨rfl, hb⟩
theorem last_suffix (l : List UInt8) : Lib.hasSuffix l [33] = decide (l.getLast? = some 33) := by
  unfold Lib.hasSuffix
  by_cases h : l.getLast? = some 33
  · rw [decide_eq_true h, List.isSuffixOf_iff_suffix]
    obtain ⟨r, rfl⟩ := List.getLast?_eq_some_iff.1 h
    exact List.suffix_append _ _
  · rw [decide_eq_false h]
    cases hs : [33].isSuffixOf l with
    | false => rfl
    | true =>
      obtain ⟨r, rfl⟩ := List.isSuffixOf_iff_suffix.1 hs
      simp at h
def cutS (s : ByteArray) : ByteArray := mkS (psCut s.data.toList).1
def cutB (s : ByteArray) : Bool := (psCut s.data.toList).2
set_option maxHeartbeats 2000000 in
set_option maxRecDepth 100000 in
theorem kcut_inner (s : ByteArray) (w : World) (hs : s.size ≤ 900000) : Calls Tryd.prog 323 #[.string s, .string ⟨#[33]⟩] w fun e w' => e = .returned (.tuple #[.string (cutS s), .bool (cutB s)]) ∧ w' = w := by
  have H := Tryd.stringslite_HasSuffix s ⟨#[33]⟩ w (by omega)
  rw [show (⟨#[33]⟩ : ByteArray).data.toList = [33] from rfl, last_suffix] at H
  by_cases h : s.data.toList.getLast? = some 33
  · rw [decide_eq_true h] at H
    have e1 : Hid (cutS s = s.extract 0 (s.size - 1)) := Lib.hid (by
      unfold cutS psCut
      rw [if_pos h]
      have := ext_list s 0 (s.size - 1)
      rw [List.drop_zero, Nat.sub_zero, ← list_size, ← List.dropLast_eq_take] at this
      rw [← list_size]
      show mkS s.data.toList.dropLast = _
      rw [← this])
    have e2 : Hid (cutB s = true) := Lib.hid (by unfold cutB psCut; rw [if_pos h])
    have hp : 0 < s.size := by
      rw [← list_size]; cases hl : s.data.toList with
      | nil => rw [hl] at h; cases h
      | cons => simp
    have hp1 : (0 : Int) < s.size := by omega
    replace H := Lib.hid H
    clear h
    go_enter Tryd.func323, Tryd.ntmps323
    go_wp2_with (go_at_call 118; refine H.out.mono ?_; rintro e w2 ⟨rfl, rfl⟩)
    refine bodyPost_ret (v := .tuple #[.string (s.extract 0 (s.size - 1)), .bool true]) (by simp [results, Tryd.results323, go_sem]) rfl ?_
    rw [e1.out, e2.out]; exact ⟨rfl, rfl⟩
  · rw [decide_eq_false h] at H
    have e1 : Hid (cutS s = s) := Lib.hid (by unfold cutS psCut; rw [if_neg h])
    have e2 : Hid (cutB s = false) := Lib.hid (by unfold cutB psCut; rw [if_neg h])
    replace H := Lib.hid H
    clear h
    go_enter Tryd.func323, Tryd.ntmps323
    go_wp2_with (go_at_call 118; refine H.out.mono ?_; rintro e w2 ⟨rfl, rfl⟩)
    refine bodyPost_ret (v := .tuple #[.string s, .bool false]) (by simp [results, Tryd.results323, go_sem]) rfl ?_
    rw [e1.out, e2.out]; exact ⟨rfl, rfl⟩
set_option maxHeartbeats 2000000 in
set_option maxRecDepth 100000 in
theorem kcut_any (s : ByteArray) (w : World) (hs : s.size ≤ 900000) : Calls Tryd.prog 316 #[.string s, .string ⟨#[33]⟩] w fun e w' => e = .returned (.tuple #[.string (cutS s), .bool (cutB s)]) ∧ w' = w := by
  have H := kcut_inner s w hs
  generalize cutS s = a at *
  generalize cutB s = b at *
  replace H := Lib.hid H
  go_enter Tryd.func316, Tryd.ntmps316
  go_wp2_with (go_at_call 323; refine H.out.mono ?_; rintro e w2 ⟨rfl, rfl⟩)
  refine bodyPost_ret (v := .tuple #[.string a, .bool b]) (by simp [results, Tryd.results316, go_sem]) rfl ?_
  exact ⟨rfl, rfl⟩
end Go.Proofs.YtangpdaoacjinaaDoor
