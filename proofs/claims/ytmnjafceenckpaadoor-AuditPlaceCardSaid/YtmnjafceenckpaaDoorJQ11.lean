/-
  Joined: M4 Au1 Au2 Sp1 Sp2 Sp3 Ky5 Ky6 Ky7.
-/
import Derived.Test.YtmnjafceenckpaaDoorJQ04
import Derived.Test.YtmnjafceenckpaaDoorJQ05
import Derived.Test.YtmnjafceenckpaaDoorJQ07
import Derived.Test.YtmnjafceenckpaaDoorJQ08
import Derived.Test.YtmnjafceenckpaaDoorJQ10
import Derived.Test.YtmnjafceenckpaaDoorShelf
import Derived.Lib.UnsafeStr
import Derived.Deep.Cut
import Derived.Deep.RegionHeld3
set_option linter.unusedVariables false
set_option linter.unusedSimpArgs false
set_option maxRecDepth 100000
set_option linter.unusedVariables false
set_option linter.unusedSimpArgs false
namespace Go.Proofs.YtmnjafceenckpaaDoor
open Go.RowKit
/-- The tables that are read. -/
structure ET (w : World) : Prop where
  c : Tabs w
  u : UT w
theorem ET.below {w w' : World} (h : ET w) (hb : Below w.heap.size w w') : ET w' := ⟨h.c.below hb, h.u.below hb⟩
theorem enc_head {s : ByteArray} (h : 0 < s.size) : (oneI (vAt s 0).1).length = (vAt s 0).2 := by
  have h1 := enc_vals s
  rw [valsS_cons s h, encI_cons, enc_vals] at h1
  have h2 := congrArg List.length h1
  rw [List.length_append, bytesOf_size, bytesOf_size, tail_size] at h2
  have h3 := dec_pos s 0 h
  rw [← vAt_size s 0 h] at h3
  omega
theorem tl_step (s : ByteArray) (h : 0 < s.size) : tl s = if shwB (vAt s 0).1 = true then (vAt s 0).2 + tl (s.extract (vAt s 0).2 s.size) else 0 := by
  conv => lhs; unfold tl
  rw [valsS_cons s h, List.takeWhile_cons]
  split
  · rw [encI_cons, List.length_append, enc_head h]; rfl
  · rfl
theorem ext_ext (s : ByteArray) (a b : Nat) : (s.extract a s.size).extract b (s.extract a s.size).size = s.extract (a + b) s.size := bL_inj (by
  rw [bL_ext, List.take_of_length_le (Nat.le_of_eq (bL_len _)), bL_ext, bL_ext, List.drop_drop])
theorem oneS_pos {s : ByteArray} (h : 0 < s.size) : oneS s = vAt s 0 := by unfold oneS; rw [if_neg (by omega)]
theorem vAt_rng {s : ByteArray} (h : 0 < s.size) : 1 ≤ (vAt s 0).2 ∧ (vAt s 0).2 ≤ 4 ∧ (vAt s 0).2 ≤ s.size := by
  have h3 := dec_pos s 0 h
  rw [← vAt_size s 0 h] at h3
  omega
set_option maxHeartbeats 1000000 in
theorem shown_any (v : Int) (w : World) (hT : ET w) : Calls Tryd.prog 57 #[.int .i64 v] w fun e w' => e = .returned (.bool (shwB v)) ∧ Below w.heap.size w w' := by
  have O := of_any v w hT.c
  have e : shwB v = decide (1 ≤ cls v ∧ cls v ≤ 3) := by unfold shwB; simp
  rw [e]
  generalize cls v = c at *
  have HO := Lib.hid O; clear O e hT
  by_cases h1 : c = 1
  · subst h1
    go_enter Tryd.func57, Tryd.ntmps57
    go_wp2_with (go_at_call 31; refine HO.out.mono ?_; rintro e w1 ⟨rfl, hb1⟩)
    go_ret
    exact ⟨rfl, hb1⟩
  by_cases h2 : c = 2
  · subst h2
    go_enter Tryd.func57, Tryd.ntmps57
    go_wp2_with (go_at_call 31; refine HO.out.mono ?_; rintro e w1 ⟨rfl, hb1⟩)
    go_ret
    exact ⟨rfl, hb1⟩
  by_cases h3 : c = 3
  · subst h3
    go_enter Tryd.func57, Tryd.ntmps57
    go_wp2_with (go_at_call 31; refine HO.out.mono ?_; rintro e w1 ⟨rfl, hb1⟩)
    go_ret
    exact ⟨rfl, hb1⟩
  rw [decide_eq_false (by omega)]
  go_enter Tryd.func57, Tryd.ntmps57
  go_wp2_with (go_at_call 31; refine HO.out.mono ?_; rintro e w1 ⟨rfl, hb1⟩)
  go_ret
  exact ⟨rfl, hb1⟩
set_option maxHeartbeats 2000000 in
theorem textLen_any (s : ByteArray) (w : World) (hT : ET w) (hs : s.size ≤ 1000000) :
    Calls Tryd.prog 38 #[.string s] w fun e w' => e = .returned (.int .i64 (tl s : Int)) ∧ Below w.heap.size w w' := by
  have HT := Lib.hid hT; clear hT
  go_enter Tryd.func38, Tryd.ntmps38
  go_wp2
  go_loopw [3] (fun iv wr => ∃ k : Nat, k ≤ s.size ∧ iv = .int .i64 (k : Int) ∧ Hid (k + tl (s.extract k s.size) = tl s) ∧ Below w.heap.size w wr) (fun iv _ => s.size - (intOf iv).toNat)
  case atStart => exact ⟨0, Nat.zero_le _, rfl, Lib.hid (by rw [Nat.zero_add, ext_all]), Below.refl _ _⟩
  case round =>
    obtain ⟨k, hk, rfl, HE, hb⟩ := hrel
    by_cases hlt : k < s.size
    · have hk1 : (k : Int) < s.size := by omega
      have hk0 : (0 : Int) ≤ k := by omega
      have hsz := tail_size s k
      have hp : 0 < (s.extract k s.size).size := by omega
      have hstep := tl_step _ hp
      have hr := vAt_rng hp
      have O := fun w hT => one_any (s.extract k s.size) w hT (by omega)
      rw [oneS_pos hp] at O
      rw [ext_ext] at hstep
      obtain ⟨v, n, hv⟩ : ∃ v n, vAt (s.extract k s.size) 0 = (v, n) := ⟨_, _, rfl⟩
      rw [hv] at O hstep hr
      dsimp only at O hstep hr
      have hn : k + n ≤ s.size := by omega
      have hn1 : 1 ≤ n := hr.1
      have SH := fun w hT => shown_any (v : Int) w hT
      have HT1 := Lib.hid (HT.out.below hb)
      replace O := Lib.hid O
      cases hsh : shwB (v : Int)
      · rw [hsh] at SH hstep
        have HE' : Hid (tl s = k) := Lib.hid (by have := HE.out; rw [hstep] at this; simpa using this.symm)
        replace SH := Lib.hid SH
        clear hstep hv hp hsz hr hsh HE
        go_wp2_with (first
          | (go_at_call 30; refine (O.out _ HT1.out.u).mono ?_; rintro e w1 ⟨rfl, hb1⟩; have HT2 := Lib.hid (HT1.out.below hb1))
          | (go_at_call 57; refine (SH.out _ HT2.out).mono ?_; rintro e w2 ⟨rfl, hb2⟩))
        go_ret
        rw [HE'.out]
        exact ⟨rfl, (hb.trans (hb1.mono hb.size)).trans (hb2.mono (Nat.le_trans hb.size hb1.size))⟩
      · rw [hsh] at SH hstep
        have HE' : Hid ((k + n) + tl (s.extract (k + n) s.size) = tl s) := Lib.hid (by have := HE.out; rw [hstep, if_pos rfl] at this; omega)
        replace SH := Lib.hid SH
        clear hstep hv hp hsz hr hsh HE
        go_wp2_with (first
          | (go_at_call 30; refine (O.out _ HT1.out.u).mono ?_; rintro e w1 ⟨rfl, hb1⟩; have HT2 := Lib.hid (HT1.out.below hb1))
          | (go_at_call 57; refine (SH.out _ HT2.out).mono ?_; rintro e w2 ⟨rfl, hb2⟩))
        go_roundw
        case rel => exact ⟨k + n, hn, by go_num, HE', (hb.trans (hb1.mono hb.size)).trans (hb2.mono (Nat.le_trans hb.size hb1.size))⟩
        case measure => (simp [intOf]; try omega)
    · obtain rfl : k = s.size := by omega
      have HE' : Hid (tl s = s.size) := Lib.hid (by
        have := HE.out
        have h0 : s.extract s.size s.size = mt := size0 (by rw [tail_size]; omega)
        rw [h0, tl_mt] at this; omega)
      clear HE
      go_wp2
      go_ret
      rw [HE'.out]
      exact ⟨rfl, hb⟩
set_option maxHeartbeats 1000000 in
theorem eside_any (n : Int) (w : World) : Calls Tryd.prog 62 #[.int .i64 n] w fun e w' => e = .returned (.bool (sideI n)) ∧ w = w' := by
  unfold sideI
  by_cases h1 : 1 ≤ n
  · by_cases h2 : n ≤ 1000
    · rw [decide_eq_true h1, decide_eq_true h2]
      go_enter Tryd.func62, Tryd.ntmps62
      go_wp2
      go_ret
      exact ⟨rfl, rfl⟩
    · rw [decide_eq_true h1, decide_eq_false h2]
      go_enter Tryd.func62, Tryd.ntmps62
      go_wp2
      go_ret
      exact ⟨rfl, rfl⟩
  · rw [decide_eq_false h1]
    go_enter Tryd.func62, Tryd.ntmps62
    go_wp2
    go_ret
    exact ⟨rfl, rfl⟩
/-- May the first number of a piece of a kind be? -/
def numK (k n : Int) : Bool := if k = 1 then sideI n else if k = 4 then decide (0 ≤ n) && decide (n ≤ 7) else decide (n = 0) || decide (n = 1)
set_option maxHeartbeats 1000000 in
theorem number_any (k n : Int) (w : World) : Calls Tryd.prog 63 #[.int .i64 k, .int .i64 n] w fun e w' => e = .returned (.bool (numK k n)) ∧ w = w' := by
  have SI := Lib.hid (fun w => eside_any n w)
  unfold numK
  by_cases k1 : k = 1
  · subst k1
    rw [if_pos rfl]
    go_enter Tryd.func63, Tryd.ntmps63
    go_wp2_with (go_at_call 62; refine (SI.out _).mono ?_; rintro e w1 ⟨rfl, rfl⟩)
    go_ret
    exact ⟨rfl, rfl⟩
  rw [if_neg k1]
  by_cases k4 : k = 4
  · subst k4
    rw [if_pos rfl]
    by_cases h1 : 0 ≤ n
    · by_cases h2 : n ≤ 7
      · rw [decide_eq_true h1, decide_eq_true h2]
        go_enter Tryd.func63, Tryd.ntmps63
        go_wp2
        go_ret
        exact ⟨rfl, rfl⟩
      · rw [decide_eq_true h1, decide_eq_false h2]
        go_enter Tryd.func63, Tryd.ntmps63
        go_wp2
        go_ret
        exact ⟨rfl, rfl⟩
    · rw [decide_eq_false h1]
      go_enter Tryd.func63, Tryd.ntmps63
      go_wp2
      go_ret
      exact ⟨rfl, rfl⟩
  rw [if_neg k4]
  by_cases h0 : n = 0
  · subst h0
    go_enter Tryd.func63, Tryd.ntmps63
    go_wp2
    go_ret
    exact ⟨rfl, rfl⟩
  · rw [decide_eq_false h0]
    by_cases h1 : n = 1
    · subst h1
      go_enter Tryd.func63, Tryd.ntmps63
      go_wp2
      go_ret
      exact ⟨rfl, rfl⟩
    · rw [decide_eq_false h1]
      go_enter Tryd.func63, Tryd.ntmps63
      go_wp2
      go_ret
      exact ⟨by simp [h0, h1], rfl⟩
end Go.Proofs.YtmnjafceenckpaaDoor
set_option linter.unusedVariables false
set_option linter.unusedSimpArgs false
namespace Go.Proofs.YtmnjafceenckpaaDoor
open Go.RowKit
/-- Of how many bytes the piece is that a text begins with, of texts one sign alone. -/
def fp (s : ByteArray) : Nat := if 0 < tl s then (vAt s 0).2 else (oneP s).2
inductive FP : ByteArray → Prop where
  | ctl (o : Ot) (h : mayP o = true) (hk : o.1 ≠ 0) : FP (bt o)
  | sgn (v : Int) (h : shwB v = true) : FP (encS [v])
theorem txt_app (a b : List Int) : txt (a ++ b) = txt a ++ txt b := by
  apply ByteArray.ext; simp [txt, ByteArray.data_append]
theorem encS_cons (v : Int) (l : List Int) : encS (v :: l) = encS [v] ++ encS l := by
  unfold encS; rw [encI_cons, txt_app, encI_cons]; unfold encI; rw [List.flatMap_nil, List.append_nil]
theorem encS_one (v : Int) : encS [v] = txt (oneI v) := by unfold encS; rw [encI_cons]; unfold encI; rw [List.flatMap_nil, List.append_nil]
theorem allW_one {v : Int} (h : shwB v = true) : allW (encS [v]) = true := by
  unfold allW
  rw [valsS_enc [v] (fun x hx => by rw [List.mem_singleton] at hx; rw [hx]; exact shwB_pt h)]
  simp [h]
theorem one_pos {v : Int} (h : shwB v = true) : 0 < (encS [v]).size := by
  rw [encS_one, txt_size, oneI_pt (shwB_pt h)]
  have := (Lib.encodeRuneZ_length v).1; omega
theorem fp_at {p : ByteArray} (h : FP p) (r : ByteArray) : fp (p ++ r) = p.size ∧ 0 < p.size := by
  cases h with
  | ctl o h hk =>
    refine ⟨?_, bt_pos h⟩
    unfold fp
    rw [if_neg (by rw [bt_low h hk r]; omega), one_full r h (fun e => absurd e hk)]
  | sgn v h =>
    have h1 := one_pos h
    have h2 := tl_app (encS [v]) r (allW_one h)
    refine ⟨?_, h1⟩
    unfold fp
    rw [if_pos (by omega)]
    have e : encS [v] ++ r = txt (oneI v ++ bytesOf r) := by rw [txt_app, txt_bytesOf, encS_one]
    rw [e, vAt_enc v _ (shwB_pt h), encS_one, txt_size]
theorem fp_cut {s : ByteArray} (h : fp s ≠ 0) : ∃ p r, FP p ∧ s = p ++ r ∧ p.size = fp s := by
  unfold fp at h ⊢
  by_cases ht : 0 < tl s
  · rw [if_pos ht] at h ⊢
    have hs : 0 < s.size := by have := tl_le s; omega
    have hv : shwB (vAt s 0).1 = true := by
      have h5 := tl_step s hs
      by_cases h6 : shwB (vAt s 0).1 = true
      · exact h6
      · rw [if_neg h6] at h5; omega
    refine ⟨encS [((vAt s 0).1 : Int)], s.extract (vAt s 0).2 s.size, .sgn _ hv, ?_, ?_⟩
    · conv => lhs; rw [← encS_vals s, valsS_cons s hs, encS_cons, encS_vals]
    · rw [encS_one, txt_size]; exact enc_head hs
  · rw [if_neg ht] at h ⊢
    obtain ⟨h1, h2, h3, h4⟩ := one_sound h
    refine ⟨bt (oneP s).1, s.extract (oneP s).2 s.size, .ctl _ h1 (fun e => ht (h4 e).1), ?_, ?_⟩
    · rw [h2, ext_join s _ h3]
    · rw [h2, ByteArray.size_extract]; omega
/-- Texts of the grammar. -/
inductive Cl : ByteArray → Prop where
  | nil : Cl mt
  | cons (p r : ByteArray) (h : FP p) (hr : Cl r) : Cl (p ++ r)
theorem cl_app {a b : ByteArray} (ha : Cl a) (hb : Cl b) : Cl (a ++ b) := by
  induction ha with
  | nil => rw [mt_app]; exact hb
  | cons p r h hr ih => rw [ba_asc]; exact .cons p _ h ih
theorem cl_signs : ∀ l : List Int, (∀ v ∈ l, shwB v = true) → Cl (encS l)
  | [], _ => .nil
  | v :: l, h => by
    rw [encS_cons]
    exact .cons _ _ (.sgn v (h v List.mem_cons_self)) (cl_signs l fun x hx => h x (List.mem_cons_of_mem _ hx))
theorem cl_outs : ∀ L : List Ot, mayAll L = true → Cl (txOut L)
  | [], _ => .nil
  | o :: L, h => by
    unfold mayAll at h
    rw [List.all_cons, Bool.and_eq_true] at h
    have ih := cl_outs L h.2
    show Cl (bt o ++ txOut L)
    by_cases hk : o.1 = 0
    · obtain ⟨e, h1, h2⟩ := may_text h.1 hk
      have eb : bt o = o.2.2.2 := by rw [e]; exact by_text _ _ _
      rw [eb, ← encS_vals o.2.2.2]
      exact cl_app (cl_signs _ (List.all_eq_true.1 h2)) ih
    · exact .cons _ _ (.ctl o h.1 hk) ih
theorem cl_prs (s : ByteArray) : (prsS s).isSome = true ↔ Cl s := by
  constructor
  · intro h
    obtain ⟨L, hL⟩ := Option.isSome_iff_exists.1 h
    obtain ⟨h1, h2, _⟩ := prsS_sound hL
    rw [← h2]; exact cl_outs L h1
  · intro h
    obtain ⟨L, h1, h2⟩ : ∃ L, mayAll L = true ∧ txOut L = s := by
      induction h with
      | nil => exact ⟨[], rfl, rfl⟩
      | cons p r h hr ih =>
        obtain ⟨L, h1, h2⟩ := ih
        cases h with
        | ctl o h hk => exact ⟨o :: L, by unfold mayAll at h1 ⊢; rw [List.all_cons, h, h1]; rfl, by show bt o ++ txOut L = _; rw [h2]⟩
        | sgn v h =>
          refine ⟨(0, 0, 0, encS [v]) :: L, ?_, ?_⟩
          · unfold mayAll at h1 ⊢
            rw [List.all_cons, h1, may_of (.text _ (one_pos h) (allW_one h))]; rfl
          · show bt _ ++ txOut L = _
            rw [by_text, h2]
    rw [← h2, prs_text h1]; rfl
theorem cl_step {s : ByteArray} (hs : 0 < s.size) : Cl s ↔ fp s ≠ 0 ∧ Cl (s.extract (fp s) s.size) := by
  constructor
  · intro h
    cases h with
    | nil => exact absurd hs (by decide)
    | cons p r h hr =>
      obtain ⟨h1, h2⟩ := fp_at h r
      rw [h1, ext_back]
      exact ⟨by omega, hr⟩
  · rintro ⟨h, h2⟩
    obtain ⟨p, r, h3, e, h4⟩ := fp_cut h
    rw [← h4, e, ext_back] at h2
    rw [e]; exact .cons p r h3 h2
/-- The beginning of a text, and what stands behind it. -/
theorem ext_cut (p r : ByteArray) (n : Nat) (h : p.size ≤ n) : (p ++ r).extract 0 n = p ++ r.extract 0 (n - p.size) := bL_inj (by
  rw [bL_app, bL_ext, bL_app, bL_ext, List.drop_zero, List.drop_zero, List.take_append, List.take_of_length_le (by rw [bL_len]; exact h), bL_len])
theorem cl_pre {s : ByteArray} {n : Nat} (hn : 0 < n) (hle : n ≤ s.size) (h : Cl (s.extract 0 n)) : fp s ≠ 0 ∧ fp s ≤ n := by
  have hz : 0 < (s.extract 0 n).size := by rw [ByteArray.size_extract]; omega
  obtain ⟨h1, _⟩ := (cl_step hz).1 h
  obtain ⟨p, r, h3, e, h4⟩ := fp_cut h1
  have es : s = p ++ (r ++ s.extract n s.size) := by rw [← ba_asc, ← e, ext_join s n hle]
  obtain ⟨h5, h6⟩ := fp_at h3 (r ++ s.extract n s.size)
  rw [← es] at h5
  have hz2 := congrArg ByteArray.size e
  rw [ByteArray.size_append, ByteArray.size_extract] at hz2
  omega
/-- How many bytes of a text are of the grammar. -/
def clN : Nat → ByteArray → Nat
  | 0, _ => 0
  | f + 1, s => if s.size = 0 then 0 else if fp s = 0 then 0 else fp s + clN f (s.extract (fp s) s.size)
theorem cl_best : ∀ f s, s.size ≤ f → clN f s ≤ s.size ∧ Cl (s.extract 0 (clN f s)) ∧ ∀ n, n ≤ s.size → Cl (s.extract 0 n) → n ≤ clN f s
  | 0, s, hs => by
    obtain rfl := size0 (show s.size = 0 by omega)
    exact ⟨Nat.le_refl _, .nil, fun n hn _ => hn⟩
  | f + 1, s, hs => by
    unfold clN
    by_cases h0 : s.size = 0
    · rw [if_pos h0]
      obtain rfl := size0 h0
      exact ⟨Nat.zero_le _, .nil, fun n hn _ => hn⟩
    rw [if_neg h0]
    by_cases hf : fp s = 0
    · rw [if_pos hf]
      refine ⟨Nat.zero_le _, by rw [show s.extract 0 0 = mt from size0 (by rw [ByteArray.size_extract]; omega)]; exact .nil, fun n hn h => ?_⟩
      rcases Nat.eq_zero_or_pos n with h1 | h1
      · omega
      · exact absurd hf (cl_pre h1 hn h).1
    rw [if_neg hf]
    obtain ⟨p, r, h3, e, h4⟩ := fp_cut hf
    have hz := congrArg ByteArray.size e
    rw [ByteArray.size_append] at hz
    have er : s.extract (fp s) s.size = r := by rw [← h4, e, ext_back]
    have hp := (fp_at h3 r).2
    obtain ⟨i1, i2, i3⟩ := cl_best f r (by omega)
    rw [er, ← h4]
    refine ⟨by omega, ?_, fun n hn h => ?_⟩
    · rw [e, ext_cut p r _ (by omega), Nat.add_sub_cancel_left]
      exact .cons p _ h3 i2
    · rcases Nat.eq_zero_or_pos n with h1 | h1
      · omega
      · have hpre := cl_pre h1 hn h
        rw [← h4] at hpre
        have h' := h
        rw [e, ext_cut p r n hpre.2] at h'
        have h5 := (cl_step (by rw [ByteArray.size_append]; omega)).1 h'
        obtain ⟨h6, h7⟩ := fp_at h3 (r.extract 0 (n - p.size))
        rw [h6, ext_back] at h5
        have := i3 (n - p.size) (by omega) h5.2
        omega
def clZ (s : ByteArray) : Nat := clN s.size s
end Go.Proofs.YtmnjafceenckpaaDoor
set_option linter.unusedVariables false
set_option linter.unusedSimpArgs false
namespace Go.Proofs.YtmnjafceenckpaaDoor
open Go.RowKit
def litsA : List (List UInt8) := [[50, 74], [75], [48, 109], [48, 59, 55, 109], [48, 59, 52, 109], [48, 59, 55, 59, 52, 109], [48, 59, 49, 109], [48, 59, 55, 59, 49, 109], [48, 59, 52, 59, 49, 109], [48, 59, 55, 59, 52, 59, 49, 109], [63, 50, 48, 48, 52, 104], [63, 50, 48, 48, 52, 108]]
def dig (c : UInt8) : Bool := decide (48 ≤ c.toNat ∧ c.toNat ≤ 57)
def dgA (t : List UInt8) : List UInt8 := (t.take 5).takeWhile dig
def vlA (d : List UInt8) : Nat := d.foldl (fun n c => n * 10 + (c.toNat - 48)) 0
def dgB (d : List UInt8) : Bool := decide (d ≠ []) && (!(d.headD 0 == 48) && decide (1 ≤ vlA d ∧ vlA d ≤ 1000))
/-- A number that a text begins with, and of how many digits it is. -/
def dgR (t : List UInt8) : Nat × Nat := if dgB (dgA t) then (vlA (dgA t), (dgA t).length) else (0, 0)
def mvR (t : List UInt8) : Nat :=
  if (dgR t).2 = 0 ∨ t[(dgR t).2]? ≠ some 59 then 0
  else if (dgR (t.drop ((dgR t).2 + 1))).2 = 0 ∨ t[(dgR t).2 + 1 + (dgR (t.drop ((dgR t).2 + 1))).2]? ≠ some 72 then 0
  else 4 + (dgR t).2 + (dgR (t.drop ((dgR t).2 + 1))).2
def pcC (t : List UInt8) : Nat := match litsA.find? fun l => l.isPrefixOf t with | some l => 2 + l.length | none => mvR t
/-- The piece's length, as the reference tells it. -/
def pcR (s : ByteArray) : Nat :=
  if (s.get! 0).toNat = 7 ∨ (s.get! 0).toNat = 10 ∨ (s.get! 0).toNat = 13 then 1
  else if shwB (vAt s 0).1 then (vAt s 0).2
  else if Lib.hasPrefix (bL s) [27, 91] then pcC ((bL s).drop 2) else 0
theorem vl_snoc (d : List UInt8) (c : UInt8) : vlA (d ++ [c]) = vlA d * 10 + (c.toNat - 48) := by unfold vlA; rw [List.foldl_append]; rfl
theorem dg_of (c : UInt8) (h : dig c = true) : dg (c.toNat - 48) = c := by
  unfold dig at h
  have h := of_decide_eq_true h
  unfold dg
  rw [if_pos (by omega), show 48 + (c.toNat - 48) = c.toNat by omega]; simp
theorem snocU {P : List UInt8 → Prop} (h0 : P []) (h1 : ∀ l c, P l → P (l ++ [c])) : ∀ l, P l := by
  intro l
  have h : ∀ r : List UInt8, P r.reverse := by
    intro r
    induction r with
    | nil => exact h0
    | cons c r ih => rw [List.reverse_cons]; exact h1 _ _ ih
  have := h l.reverse
  rwa [List.reverse_reverse] at this
/-- Digits without a nought ahead are what is told of their value. -/
theorem dec_vl : ∀ d : List UInt8, (∀ c ∈ d, dig c = true) → d ≠ [] → d.headD 0 ≠ 48 → vlA d ≤ 100000 → 1 ≤ vlA d ∧ decS (vlA d : Int) = d := by
  refine snocU (fun _ h => absurd rfl h) (fun d c ih hd _ hh hv => ?_)
  have hc := hd c (List.mem_append_right _ List.mem_cons_self)
  have hc' := of_decide_eq_true hc
  rw [vl_snoc] at hv ⊢
  cases d with
  | nil =>
    have h48 : c ≠ 48 := hh
    have h0 : c.toNat ≠ 48 := fun e => h48 (by
      have : c = UInt8.ofNat c.toNat := by simp
      rw [e] at this; exact this)
    have e : vlA [] = 0 := rfl
    rw [e, Nat.zero_mul, Nat.zero_add]
    refine ⟨by omega, ?_⟩
    rw [decS_pos1 _ (by omega) (by omega), Int.toNat_natCast, dg_of c hc]; rfl
  | cons x d =>
    obtain ⟨i1, i2⟩ := ih (fun c hc => hd c (List.mem_append_left _ hc)) (by simp) hh (by omega)
    refine ⟨by omega, ?_⟩
    rw [decS_pos _ (by omega) (by omega)]
    have e1 : ((vlA (x :: d) * 10 + (c.toNat - 48) : Nat) : Int) / 10 = (vlA (x :: d) : Int) := by omega
    have e2 : (((vlA (x :: d) * 10 + (c.toNat - 48) : Nat) : Int) % 10).toNat = c.toNat - 48 := by omega
    rw [e1, i2, e2, dg_of c hc]
theorem dec_digs (n : Int) (h1 : 1 ≤ n) (h2 : n ≤ 1000) : (∀ c ∈ decS n, dig c = true) ∧ (decS n).length ≤ 4 ∧ decS n ≠ [] ∧ (decS n).headD 0 ≠ 48 ∧ (vlA (decS n) : Int) = n := by
  have key : ∀ k : Fin 1000, (((decS ((k.val + 1 : Nat) : Int)).all dig && (decide ((decS ((k.val + 1 : Nat) : Int)).length ≤ 4) && (decide (decS ((k.val + 1 : Nat) : Int) ≠ []) && (decide ((decS ((k.val + 1 : Nat) : Int)).headD 0 ≠ 48) && decide (vlA (decS ((k.val + 1 : Nat) : Int)) = k.val + 1))))) = true) := by decide +kernel
  obtain ⟨k, rfl⟩ := Int.eq_ofNat_of_zero_le (show 0 ≤ n by omega)
  have h := key ⟨k - 1, by omega⟩
  rw [show (⟨k - 1, by omega⟩ : Fin 1000).val + 1 = k by show k - 1 + 1 = k; omega] at h
  simp only [Bool.and_eq_true, decide_eq_true_eq, List.all_eq_true] at h
  exact ⟨h.1, h.2.1, h.2.2.1, h.2.2.2.1, by rw [h.2.2.2.2]⟩
theorem dgA_at (d : List UInt8) (c : UInt8) (x : List UInt8) (h : ∀ c ∈ d, dig c = true) (hl : d.length ≤ 4) (hc : dig c = false) : dgA (d ++ c :: x) = d := by
  unfold dgA
  rw [List.take_append, List.take_of_length_le (by omega)]
  obtain ⟨k, hk⟩ : ∃ k, 5 - d.length = k + 1 := ⟨4 - d.length, by omega⟩
  rw [hk, List.take_succ_cons, List.takeWhile_append_of_pos h, List.takeWhile_cons, if_neg (by rw [hc]; decide), List.append_nil]
theorem dgR_at (n : Int) (c : UInt8) (x : List UInt8) (h1 : 1 ≤ n) (h2 : n ≤ 1000) (hc : dig c = false) : dgR (decS n ++ c :: x) = (n.toNat, (decS n).length) := by
  obtain ⟨a1, a2, a3, a4, a5⟩ := dec_digs n h1 h2
  unfold dgR
  rw [dgA_at _ c x a1 a2 hc, if_pos]
  · rw [show vlA (decS n) = n.toNat by omega]
  · unfold dgB
    have f : ((decS n).headD 0 == 48) = false := beq_eq_false_iff_ne.2 a4
    rw [decide_eq_true a3, f, decide_eq_true (by omega)]; rfl
theorem dgR_cut {t : List UInt8} (h : (dgR t).2 ≠ 0) : ∃ (n : Int) (r : List UInt8), 1 ≤ n ∧ n ≤ 1000 ∧ t = decS n ++ r ∧ (dgR t).2 = (decS n).length := by
  unfold dgR at h ⊢
  by_cases hb : dgB (dgA t) = true
  · rw [if_pos hb] at h ⊢
    unfold dgB at hb
    simp only [Bool.and_eq_true, decide_eq_true_eq, Bool.not_eq_true', beq_eq_false_iff_ne] at hb
    have hd : ∀ c ∈ dgA t, dig c = true := fun c hc => List.all_eq_true.1 List.all_takeWhile c hc
    have hp : dgA t <+: t := (List.takeWhile_prefix _).trans (List.take_prefix _ _)
    obtain ⟨r, hr⟩ := hp
    obtain ⟨i1, i2⟩ := dec_vl (dgA t) hd hb.1 hb.2.1 (by omega)
    exact ⟨vlA (dgA t), r, by omega, by omega, by rw [i2, hr], by rw [i2]⟩
  · rw [if_neg hb] at h; exact absurd rfl h
theorem mvR_cut {t : List UInt8} (h : mvR t ≠ 0) : ∃ (n m : Int) (r : List UInt8), 1 ≤ n ∧ n ≤ 1000 ∧ 1 ≤ m ∧ m ≤ 1000 ∧ t = decS n ++ 59 :: (decS m ++ 72 :: r) ∧ mvR t = 4 + (decS n).length + (decS m).length := by
  unfold mvR at h ⊢
  split at h
  · exact absurd rfl h
  · rename_i h1
    rw [if_neg h1]
    split at h
    · exact absurd rfl h
    · rename_i h2
      rw [if_neg h2]
      have h1a : (dgR t).2 ≠ 0 := fun e => h1 (.inl e)
      have h1b : t[(dgR t).2]? = some 59 := Decidable.of_not_not fun e => h1 (.inr e)
      obtain ⟨n, r, n1, n2, e, el⟩ := dgR_cut h1a
      rw [el] at h1b h2 ⊢
      rw [e, List.getElem?_append_right (Nat.le_refl _), Nat.sub_self] at h1b
      cases r with
      | nil => cases h1b
      | cons c r =>
        have hc : c = 59 := by simpa using h1b
        subst hc
        have ed : t.drop ((decS n).length + 1) = r := by
          rw [e, show decS n ++ 59 :: r = (decS n ++ [59]) ++ r by simp, List.drop_left' (by simp)]
        rw [ed] at h2 ⊢
        have h2a : (dgR r).2 ≠ 0 := fun e => h2 (.inl e)
        have h2b : t[(decS n).length + 1 + (dgR r).2]? = some 72 := Decidable.of_not_not fun e => h2 (.inr e)
        obtain ⟨m, q, m1, m2, e2, el2⟩ := dgR_cut h2a
        rw [el2] at h2b ⊢
        rw [← List.getElem?_drop, ed, e2, List.getElem?_append_right (Nat.le_refl _), Nat.sub_self] at h2b
        cases q with
        | nil => cases h2b
        | cons c q =>
          have hc : c = 72 := by simpa using h2b
          subst hc
          exact ⟨n, m, q, n1, n2, m1, m2, by rw [e, e2], rfl⟩
theorem mvR_at (n m : Int) (r : List UInt8) (n1 : 1 ≤ n) (n2 : n ≤ 1000) (m1 : 1 ≤ m) (m2 : m ≤ 1000) : mvR (decS n ++ 59 :: (decS m ++ 72 :: r)) = 4 + (decS n).length + (decS m).length := by
  have a := dgR_at n 59 (decS m ++ 72 :: r) n1 n2 (by decide)
  have b := dgR_at m 72 r m1 m2 (by decide)
  have c1 := (dec_digs n n1 n2).2.2.1
  have c2 := (dec_digs m m1 m2).2.2.1
  have l1 := List.length_pos_iff.2 c1
  have l2 := List.length_pos_iff.2 c2
  unfold mvR
  rw [a]
  dsimp only
  have ed : (decS n ++ 59 :: (decS m ++ 72 :: r)).drop ((decS n).length + 1) = decS m ++ 72 :: r := by
    rw [show decS n ++ 59 :: (decS m ++ 72 :: r) = (decS n ++ [59]) ++ (decS m ++ 72 :: r) by simp, List.drop_left' (by simp)]
  rw [ed, b]
  dsimp only
  rw [if_neg, if_neg]
  · rintro (h | h)
    · omega
    · apply h
      rw [← List.getElem?_drop, ed, List.getElem?_append_right (Nat.le_refl _), Nat.sub_self]; rfl
  · rintro (h | h)
    · omega
    · apply h
      rw [List.getElem?_append_right (Nat.le_refl _), Nat.sub_self]; rfl
theorem lits_move (n m : Int) (r : List UInt8) (n1 : 1 ≤ n) (n2 : n ≤ 1000) : (litsA.find? fun l => l.isPrefixOf (decS n ++ 59 :: r)) = none := by
  obtain ⟨a1, a2, a3, a4, _⟩ := dec_digs n n1 n2
  cases hd : decS n with
  | nil => exact absurd hd a3
  | cons c d =>
    rw [hd] at a1 a4
    have h1 := of_decide_eq_true (a1 c List.mem_cons_self)
    have h48 : (48 == c) = false := beq_eq_false_iff_ne.2 fun e => a4 e.symm
    have h75 : (75 == c) = false := beq_eq_false_iff_ne.2 fun e => by rw [← e] at h1; exact absurd h1.2 (by decide)
    have h63 : (63 == c) = false := beq_eq_false_iff_ne.2 fun e => by rw [← e] at h1; exact absurd h1.2 (by decide)
    have h74 : ([74] : List UInt8).isPrefixOf (d ++ 59 :: r) = false := by
      cases d with
      | nil => rfl
      | cons y d =>
        have h2 := of_decide_eq_true (a1 y (List.mem_cons_of_mem _ List.mem_cons_self))
        have : (74 == y) = false := beq_eq_false_iff_ne.2 fun e => by rw [← e] at h2; exact absurd h2.2 (by decide)
        show ((74 == y) && _) = false
        rw [this]; rfl
    rw [List.find?_eq_none]
    intro l hl
    rw [List.cons_append]
    simp only [litsA, List.mem_cons, List.not_mem_nil, or_false] at hl
    have k48 : ∀ x, (48 :: x : List UInt8).isPrefixOf (c :: (d ++ 59 :: r)) = false := fun x => by show ((48 == c) && _) = false; rw [h48]; rfl
    have k63 : ∀ x, (63 :: x : List UInt8).isPrefixOf (c :: (d ++ 59 :: r)) = false := fun x => by show ((63 == c) && _) = false; rw [h63]; rfl
    have k75 : ∀ x, (75 :: x : List UInt8).isPrefixOf (c :: (d ++ 59 :: r)) = false := fun x => by show ((75 == c) && _) = false; rw [h75]; rfl
    have k50 : (50 :: [74] : List UInt8).isPrefixOf (c :: (d ++ 59 :: r)) = false := by show ((50 == c) && ([74] : List UInt8).isPrefixOf (d ++ 59 :: r)) = false; rw [h74, Bool.and_false]
    rcases hl with rfl | rfl | rfl | rfl | rfl | rfl | rfl | rfl | rfl | rfl | rfl | rfl
    · rw [k50]; decide
    · rw [k75]; decide
    all_goals first | (rw [k48]; decide) | (rw [k63]; decide)
theorem litO_ok : ∀ l ∈ litsA, ∃ o, mayP o = true ∧ o.1 ≠ 0 ∧ byL o = 27 :: 91 :: l := by
  intro l hl
  simp only [litsA, List.mem_cons, List.not_mem_nil, or_false] at hl
  rcases hl with rfl | rfl | rfl | rfl | rfl | rfl | rfl | rfl | rfl | rfl | rfl | rfl
  · exact ⟨(2, 0, 0, mt), may_of .erase, by decide, rfl⟩
  · exact ⟨(3, 0, 0, mt), may_of .rest, by decide, rfl⟩
  · exact ⟨(4, 0, 0, mt), may_of (.looks 0 (by decide) (by decide)), by decide, rfl⟩
  · exact ⟨(4, 1, 0, mt), may_of (.looks 1 (by decide) (by decide)), by decide, rfl⟩
  · exact ⟨(4, 2, 0, mt), may_of (.looks 2 (by decide) (by decide)), by decide, rfl⟩
  · exact ⟨(4, 3, 0, mt), may_of (.looks 3 (by decide) (by decide)), by decide, rfl⟩
  · exact ⟨(4, 4, 0, mt), may_of (.looks 4 (by decide) (by decide)), by decide, rfl⟩
  · exact ⟨(4, 5, 0, mt), may_of (.looks 5 (by decide) (by decide)), by decide, rfl⟩
  · exact ⟨(4, 6, 0, mt), may_of (.looks 6 (by decide) (by decide)), by decide, rfl⟩
  · exact ⟨(4, 7, 0, mt), may_of (.looks 7 (by decide) (by decide)), by decide, rfl⟩
  · exact ⟨(5, 1, 0, mt), may_of .paste1, by decide, rfl⟩
  · exact ⟨(5, 0, 0, mt), may_of .paste0, by decide, rfl⟩
theorem bt_move (n m : Int) : byL (1, n, m, mt) = 27 :: 91 :: (decS n ++ 59 :: (decS m ++ [72])) := by
  unfold byL
  dsimp only
  rw [if_neg (by decide), if_neg (by decide), if_neg (by decide), if_neg (by decide), if_pos rfl]
theorem pcC_cut {t : List UInt8} (h : pcC t ≠ 0) : ∃ o r, mayP o = true ∧ o.1 ≠ 0 ∧ 27 :: 91 :: t = byL o ++ r ∧ (byL o).length = pcC t := by
  unfold pcC at h ⊢
  cases hf : litsA.find? (fun l => l.isPrefixOf t) with
  | some l =>
    have h1 := List.mem_of_find?_eq_some hf
    have h2 : l.isPrefixOf t = true := by have := List.find?_some hf; exact this
    obtain ⟨r, hr⟩ := List.isPrefixOf_iff_prefix.1 h2
    obtain ⟨o, a, b, c⟩ := litO_ok l h1
    refine ⟨o, r, a, b, by rw [c, ← hr]; rfl, ?_⟩
    rw [c]; show l.length + 1 + 1 = 2 + l.length; omega
  | none =>
    rw [hf] at h
    dsimp only at h ⊢
    obtain ⟨n, m, r, n1, n2, m1, m2, e, el⟩ := mvR_cut h
    refine ⟨(1, n, m, mt), r, may_of (.move n m n1 n2 m1 m2), by show (1 : Int) ≠ 0; decide, ?_, ?_⟩
    · rw [bt_move, e]; simp
    · rw [bt_move, el]; simp only [List.length_cons, List.length_append, List.length_nil]; omega
theorem pcC_lit : ∀ l ∈ litsA, ∀ r : List UInt8, pcC (l ++ r) = 2 + l.length := by
  intro l hl r
  unfold pcC
  simp only [litsA, List.mem_cons, List.not_mem_nil, or_false] at hl
  rcases hl with rfl | rfl | rfl | rfl | rfl | rfl | rfl | rfl | rfl | rfl | rfl | rfl <;> rfl
theorem pcC_at {o : Ot} (ho : mayP o = true) (hk : o.1 ≠ 0) (hb : ∃ t, byL o = 27 :: t) (r : List UInt8) : pcC ((byL o ++ r).drop 2) = (byL o).length := by
  have hpc := pc_of ho
  cases hpc with
  | text t h hw => exact absurd rfl hk
  | move n m h1 h2 h3 h4 =>
    rw [bt_move]
    show pcC ((decS n ++ 59 :: (decS m ++ [72])) ++ r) = _
    rw [show (decS n ++ 59 :: (decS m ++ [72])) ++ r = decS n ++ 59 :: (decS m ++ 72 :: r) by simp]
    unfold pcC
    rw [lits_move n m _ h1 h2]
    dsimp only
    rw [mvR_at n m r h1 h2 h3 h4]
    simp only [List.length_cons, List.length_append, List.length_nil]; omega
  | erase => exact pcC_lit [50, 74] (by decide) r
  | rest => exact pcC_lit [75] (by decide) r
  | paste1 => exact pcC_lit [63, 50, 48, 48, 52, 104] (by decide) r
  | paste0 => exact pcC_lit [63, 50, 48, 48, 52, 108] (by decide) r
  | looks n h1 h2 =>
    obtain ⟨k, rfl⟩ := Int.eq_ofNat_of_zero_le h1
    have hk8 : k < 8 := by omega
    have e : ∀ k : Fin 8, lkT (k.val : Int) ++ [109] ∈ litsA := by decide +kernel
    have hb : byL (4, (k : Int), 0, mt) = 27 :: 91 :: (lkT (k : Int) ++ [109]) := rfl
    rw [hb]
    show pcC ((lkT (k : Int) ++ [109]) ++ r) = _
    rw [pcC_lit _ (e ⟨k, hk8⟩) r]
    simp only [List.length_cons, List.length_append, List.length_nil]; omega
  | bell => obtain ⟨t, ht⟩ := hb; exact absurd (List.cons.inj ht).1 (by decide)
  | cr => obtain ⟨t, ht⟩ := hb; exact absurd (List.cons.inj ht).1 (by decide)
  | lf => obtain ⟨t, ht⟩ := hb; exact absurd (List.cons.inj ht).1 (by decide)
theorem pcR_fp {s : ByteArray} (hs : 0 < s.size) : pcR s = fp s := by
  unfold pcR fp
  by_cases h1 : (s.get! 0).toNat = 7 ∨ (s.get! 0).toNat = 10 ∨ (s.get! 0).toNat = 13
  · have ht : ¬ 0 < tl s := by rw [tl_low s hs (by omega)]; omega
    have hz : ¬ s.size = 0 := by omega
    rw [if_pos h1, if_neg ht]
    unfold oneP
    rw [if_neg ht, if_neg hz]
    rcases h1 with h1 | h1 | h1
    · rw [if_pos h1]
    · rw [if_neg (show ¬ (s.get! 0).toNat = 7 by omega), if_neg (show ¬ (s.get! 0).toNat = 13 by omega), if_pos h1]
    · rw [if_neg (show ¬ (s.get! 0).toNat = 7 by omega), if_pos h1]
  rw [if_neg h1]
  have hst := tl_step s hs
  by_cases h2 : shwB (vAt s 0).1 = true
  · rw [if_pos h2] at hst ⊢
    rw [if_pos (show 0 < tl s by have := (vAt_rng hs).1; omega)]
  rw [if_neg h2] at hst ⊢
  have ht : ¬ 0 < tl s := by omega
  rw [if_neg ht]
  by_cases h3 : Lib.hasPrefix (bL s) [27, 91] = true
  · rw [if_pos h3]
    obtain ⟨t, ht⟩ := List.isPrefixOf_iff_prefix.1 h3
    have ht : 27 :: 91 :: t = bL s := ht
    have ed : (bL s).drop 2 = t := by rw [← ht]; rfl
    rw [ed]
    by_cases h4 : (oneP s).2 = 0
    · rw [h4]
      refine Decidable.by_contra fun h5 => ?_
      obtain ⟨o, r, a, b, c, d⟩ := pcC_cut h5
      have e : s = bt o ++ mkB r := bL_inj (by rw [bL_app, bL_mkB]; unfold bt; rw [bL_mkB, ← c, ht])
      have h6 := one_full (mkB r) a (fun e => absurd e b)
      rw [← e] at h6
      rw [h6] at h4
      have := bt_pos a
      have h4 : (bt o).size = 0 := h4
      omega
    · obtain ⟨a, b, c, d⟩ := one_sound h4
      have hk : (oneP s).1.1 ≠ 0 := fun e => by have := (d e).1; omega
      have e : bL s = byL (oneP s).1 ++ bL (s.extract (oneP s).2 s.size) := by
        conv => lhs; rw [← ext_join s _ c, ← b, bL_app]
        unfold bt; rw [bL_mkB]
      have hb : ∃ t, byL (oneP s).1 = 27 :: t := by
        have hp := bt_pos a
        rw [← bL_len] at hp
        unfold bt at hp
        rw [bL_mkB] at hp
        cases hy : byL (oneP s).1 with
        | nil => rw [hy] at hp; simp at hp
        | cons x y =>
          rw [hy, ← ht] at e
          have := (List.cons.inj e).1
          exact ⟨y, by rw [← this]⟩
      have := pcC_at a hk hb (bL (s.extract (oneP s).2 s.size))
      rw [← e, ed] at this
      rw [this]
      have hz := congrArg ByteArray.size b
      rw [ByteArray.size_extract, ← bL_len] at hz
      unfold bt at hz
      rw [bL_mkB] at hz
      omega
  · rw [if_neg h3]
    have h3' : Lib.hasPrefix (bL s) [27, 91] = false := by simpa using h3
    unfold oneP
    rw [if_neg ht, if_neg (show ¬ s.size = 0 by omega), if_neg (fun e => h1 (.inl e)), if_neg (fun e => h1 (.inr (.inr e))), if_neg (fun e => h1 (.inr (.inl e))), if_pos h3']
end Go.Proofs.YtmnjafceenckpaaDoor
set_option linter.unusedVariables false
set_option linter.unusedSimpArgs false
namespace Go.Proofs.YtmnjafceenckpaaDoor
open Go.RowKit
/-- A text told value by value. -/
def tellL (f : Int → List UInt8) (l : List Int) : List UInt8 := l.flatMap f
def tellS (f : Int → List UInt8) (s : ByteArray) : ByteArray := ⟨(tellL f (valsS s)).toArray⟩
/-- What each value becomes: nothing, if it is dangerous; what it looks like; how it is shown. -/
def stF (v : Int) : List UInt8 := if 3 < cls v then [] else u8l (oneI v)
def foF (v : Int) : List UInt8 := u8l (oneI (skel v))
def shF (v : Int) : List UInt8 := (shT v).data.toList
theorem u8l_app (a b : List Int) : u8l (a ++ b) = u8l a ++ u8l b := by unfold u8l; rw [List.map_append]
theorem tellF_app (f : Int → List UInt8) (a b : List Int) : tellL f (a ++ b) = tellL f a ++ tellL f b := by unfold tellL; rw [List.flatMap_append]
theorem tellF_len (f : Int → List UInt8) (n : Nat) (h : ∀ v, (f v).length ≤ n) (l : List Int) : (tellL f l).length ≤ n * l.length := by
  induction l with
  | nil => exact Nat.zero_le _
  | cons v l ih =>
    have : tellL f (v :: l) = f v ++ tellL f l := rfl
    rw [this, List.length_append, List.length_cons, Nat.mul_add]
    have := h v
    omega
theorem tellF_size (f : Int → List UInt8) (n : Nat) (h : ∀ v, (f v).length ≤ n) (s : ByteArray) : (tellS f s).size ≤ n * s.size := by
  have h1 := tellF_len f n h (valsS s)
  have h2 := valsS_len s
  have h3 : n * (valsS s).length ≤ n * s.size := Nat.mul_le_mul_left _ h2
  have h4 : (tellS f s).size = (tellL f (valsS s)).length := by unfold tellS; exact size_list _
  omega
theorem u8l_one (v : Int) : (u8l (oneI v)).length ≤ 4 := by rw [u8l_len]; exact oneI_len v
theorem stF_len (v : Int) : (stF v).length ≤ 4 := by
  unfold stF; split
  · exact Nat.zero_le _
  · exact u8l_one v
theorem foF_len (v : Int) : (foF v).length ≤ 4 := u8l_one _
theorem shF_len (v : Int) : (shF v).length ≤ 30 := by
  have h : (shF v).length = (shT v).size := by
    unfold shF
    exact Array.length_toList
  rw [h]; exact shT_size v
/-- Values that may stand in a text. -/
theorem in_vals {s : ByteArray} {v : Int} (h : v ∈ valsS s) : ptB v = true ∨ stB v = true := vals_right s _ _ v h
theorem cls_st {v : Int} (h : stB v = true) : cls v = 12 := by
  have hv := (stB_iff v).1 h
  have hr : rght v = true := by
    rw [← rght_rightB]; unfold rightB; rw [h, Bool.or_true]
  unfold cls
  rw [hr, if_neg (by simp), if_pos (by omega)]
theorem pt_small {v : Int} (h : ptB v = true ∨ stB v = true) (hc : ¬ 3 < cls v) : ptB v = true := by
  rcases h with h | h
  · exact h
  · rw [cls_st h] at hc; omega
/-- The values of a text told so: those that are harmless. -/
def stV (l : List Int) : List Int := l.filter fun v => !decide (3 < cls v)
theorem stV_mem {l : List Int} {v : Int} (h : v ∈ stV l) : v ∈ l ∧ ¬ 3 < cls v := by
  unfold stV at h
  rw [List.mem_filter] at h
  exact ⟨h.1, by simpa using h.2⟩
theorem tell_st (l : List Int) : tellL stF l = u8l (encI (stV l)) := by
  induction l with
  | nil => rfl
  | cons v l ih =>
    have h1 : tellL stF (v :: l) = stF v ++ tellL stF l := rfl
    rw [h1, ih]
    unfold stF stV
    by_cases h : 3 < cls v
    · rw [if_pos h, List.filter_cons_of_neg (by simp [h])]; rfl
    · rw [if_neg h, List.filter_cons_of_pos (by simp [h]), encI_cons, u8l_app]
theorem tellS_st (s : ByteArray) : tellS stF s = encS (stV (valsS s)) := by
  unfold tellS; rw [tell_st]; rfl
theorem stV_pt (s : ByteArray) : ∀ v ∈ stV (valsS s), ptB v = true := fun v hv => pt_small (in_vals (stV_mem hv).1) (stV_mem hv).2
theorem vals_st (s : ByteArray) : valsS (tellS stF s) = stV (valsS s) := by rw [tellS_st, valsS_enc _ (stV_pt s)]
/-- How a value is shown: as values. -/
def shV (v : Int) : List Int := if 3 < cls v then (shF v).map (fun c => (c.toNat : Int)) else if cls v = 0 then [] else [v]
theorem hexL_ascii (n l : Int) : ∀ c ∈ hexL n l, 48 ≤ c.toNat ∧ c.toNat ≤ 70 := tell_ok 20 n.toNat l.toNat
theorem sh_ascii (v : Int) (h : 3 < cls v) : ∀ c ∈ shF v, 32 ≤ c.toNat ∧ c.toNat < 127 := by
  unfold shF
  rcases sh_lists v with ⟨h0, hs⟩ | ⟨h0, _⟩ | ⟨h0, h1, h2, hs⟩ | ⟨h0, h1, hs⟩ | ⟨h0, h1, h2, hs⟩ | ⟨h0, h00, h1, h2, h3, hs⟩
  · omega
  · omega
  · rw [hs]
    intro c hc
    simp only [List.cons_append, List.nil_append, u8l, List.map_cons, List.map_nil, List.mem_cons, List.not_mem_nil, or_false] at hc
    rcases hc with rfl | rfl
    · decide
    · have := u8_nat (x := v + 64) (by omega) (by omega)
      omega
  · rw [hs]
    intro c hc
    simp only [List.mem_cons, List.not_mem_nil, or_false] at hc
    rcases hc with rfl | rfl <;> decide
  · rw [hs]
    intro c hc
    simp only [List.cons_append, List.nil_append, List.mem_cons] at hc
    rcases hc with rfl | rfl | hc
    · decide
    · decide
    · have := hexL_ascii _ _ c hc; omega
  · rw [hs]
    intro c hc
    simp only [List.cons_append, List.nil_append, List.mem_cons, List.mem_append, List.not_mem_nil, or_false] at hc
    rcases hc with rfl | rfl | rfl | hc | rfl
    · decide
    · decide
    · decide
    · have := hexL_ascii _ _ c hc; omega
    · decide
theorem ascii_one {x : Int} (h0 : 0 ≤ x) (h1 : x < 128) : oneI x = [x] := by
  have hp : ptB x = true := (ptB_iff x).2 (by omega)
  rw [oneI_pt hp]
  unfold Lib.encodeRuneZ
  rw [if_pos (by omega)]
theorem ascii_cls {x : Int} (h0 : 32 ≤ x) (h1 : x < 127) : cls x = 1 ∧ ptB x = true := by
  have hp : ptB x = true := (ptB_iff x).2 (by omega)
  have hr : rght x = true := by rw [← rght_rightB]; unfold rightB; rw [hp]; rfl
  refine ⟨?_, hp⟩
  unfold cls
  rw [hr, if_neg (by simp), if_neg (by omega), if_neg (by omega), if_neg (by omega), if_neg (by omega), if_pos (by omega)]
theorem enc_ascii (l : List Int) (h : ∀ x ∈ l, 0 ≤ x ∧ x < 128) : encI l = l := by
  induction l with
  | nil => rfl
  | cons x l ih =>
    rw [encI_cons, ascii_one (h x (List.mem_cons_self ..)).1 (h x (List.mem_cons_self ..)).2, ih (fun y hy => h y (List.mem_cons_of_mem _ hy))]; rfl
theorem u8_back (c : UInt8) : ((c.toNat : Int)).toNat.toUInt8 = c := by simp
theorem shF_enc (v : Int) : shF v = u8l (encI (shV v)) := by
  unfold shV
  by_cases h : 3 < cls v
  · rw [if_pos h, enc_ascii]
    · unfold u8l
      rw [List.map_map]
      conv => lhs; rw [← List.map_id (shF v)]
      refine List.map_congr_left fun c _ => ?_
      exact (u8_back c).symm
    · intro x hx
      rw [List.mem_map] at hx
      obtain ⟨c, hc, rfl⟩ := hx
      have := sh_ascii v h c hc
      omega
  · rw [if_neg h]
    unfold shF
    rcases sh_lists v with ⟨h0, hs⟩ | ⟨h0, h1, h2, h3, h4, hs⟩ | ⟨h0, h1, h2, hs⟩ | ⟨h0, h1, hs⟩ | ⟨h0, h1, h2, hs⟩ | ⟨h0, h00, h1, h2, h3, hs⟩
    · rw [if_pos h0, hs]; rfl
    · rw [if_neg (by omega), hs]; simp [encI]
    all_goals omega
theorem shV_ok {v : Int} (hv : ptB v = true ∨ stB v = true) : ∀ x ∈ shV v, ptB x = true ∧ ¬ 3 < cls x := by
  intro x hx
  unfold shV at hx
  by_cases h : 3 < cls v
  · rw [if_pos h, List.mem_map] at hx
    obtain ⟨c, hc, rfl⟩ := hx
    have ha := sh_ascii v h c hc
    have := ascii_cls (x := (c.toNat : Int)) (by omega) (by omega)
    exact ⟨this.2, by omega⟩
  · rw [if_neg h] at hx
    split at hx
    · cases hx
    · rw [List.mem_singleton] at hx
      subst hx
      exact ⟨pt_small hv h, h⟩
def shA2 (l : List Int) : List Int := l.flatMap shV
theorem tell_sh (l : List Int) : tellL shF l = u8l (encI (shA2 l)) := by
  induction l with
  | nil => rfl
  | cons v l ih =>
    have h1 : tellL shF (v :: l) = shF v ++ tellL shF l := rfl
    have h2 : shA2 (v :: l) = shV v ++ shA2 l := rfl
    rw [h1, h2, ih, encI_append, u8l_app, shF_enc]
theorem tellS_sh (s : ByteArray) : tellS shF s = encS (shA2 (valsS s)) := by unfold tellS; rw [tell_sh]; rfl
theorem shA2_ok (s : ByteArray) : ∀ x ∈ shA2 (valsS s), ptB x = true ∧ ¬ 3 < cls x := by
  intro x hx
  unfold shA2 at hx
  rw [List.mem_flatMap] at hx
  obtain ⟨v, hv, hx⟩ := hx
  exact shV_ok (in_vals hv) x hx
/-- Neither text has a dangerous value. -/
theorem both_ok (s : ByteArray) : ∀ v ∈ valsS (tellS stF s ++ tellS shF s), ¬ 3 < cls v := by
  have h : tellS stF s ++ tellS shF s = encS (stV (valsS s) ++ shA2 (valsS s)) := by
    rw [tellS_st, tellS_sh]
    unfold encS
    rw [encI_append, txt_append]
  rw [h, valsS_enc]
  · intro v hv
    rcases List.mem_append.1 hv with hv | hv
    · exact (stV_mem hv).2
    · exact (shA2_ok s v hv).2
  · intro v hv
    rcases List.mem_append.1 hv with hv | hv
    · exact stV_pt s v hv
    · exact (shA2_ok s v hv).1
theorem st_of_ok {l : List Int} (h : ∀ v ∈ l, ptB v = true ∧ ¬ 3 < cls v) : tellS stF (encS l) = encS l := by
  rw [tellS_st, valsS_enc l (fun v hv => (h v hv).1)]
  congr 1
  unfold stV
  rw [List.filter_eq_self]
  intro v hv
  simpa using (h v hv).2
theorem st_st (s : ByteArray) : tellS stF (tellS stF s) = tellS stF s := by
  rw [tellS_st s]
  exact st_of_ok fun v hv => ⟨stV_pt s v hv, (stV_mem hv).2⟩
theorem st_sh (s : ByteArray) : tellS stF (tellS shF s) = tellS shF s := by
  rw [tellS_sh s]
  exact st_of_ok (shA2_ok s)
end Go.Proofs.YtmnjafceenckpaaDoor
set_option linter.unusedVariables false
set_option linter.unusedSimpArgs false
namespace Go.Proofs.YtmnjafceenckpaaDoor
open Go.RowKit
theorem look_ascii : ∀ j : Fin 51, 0 ≤ lks.getD (2 * j.val + 1) 0 ∧ lks.getD (2 * j.val + 1) 0 < 128 ∧ 128 ≤ lks.getD (2 * j.val) 0 ∧ lks.getD (2 * j.val) 0 ≤ 65535 := by decide +kernel
theorem skel_what (v : Int) : skel v = v ∨ (0 ≤ skel v ∧ skel v < 128 ∧ 128 ≤ v ∧ v ≤ 65535) := by
  cases h1 : (List.range 51).find? (hitL v) with
  | some j =>
    have ⟨hj, hp⟩ := find_some_lt h1
    have e : skel v = lks.getD (2 * j + 1) 0 := by unfold skel; rw [h1]
    have hk := look_ascii ⟨j, hj⟩
    dsimp at hk
    have hv : v = lks.getD (2 * j) 0 := (inb_self v _).1 hp
    right
    rw [e]
    exact ⟨hk.1, hk.2.1, by omega, by omega⟩
  | none =>
    left; unfold skel; rw [h1]
theorem skel_pt {v : Int} (h : ptB v = true) : ptB (skel v) = true := by
  rcases skel_what v with e | ⟨h0, h1, _⟩
  · rw [e]; exact h
  · exact (ptB_iff _).2 (by omega)
theorem skel_st {v : Int} (h : stB v = true) : skel v = v := by
  have := (stB_iff v).1 h
  rcases skel_what v with e | ⟨h0, h1, h2, h3⟩
  · exact e
  · omega
/-- Bytes that go together up to where the second ones go on with no further byte. -/
def PreR (r r' : List Int) : Prop := r = r' ∨ ∃ p q y z, r = p ++ q ∧ r' = p ++ y :: z ∧ ¬ (128 ≤ y ∧ y ≤ 191)
theorem PreR.cons {r r' : List Int} (h : PreR r r') (a : List Int) : PreR (a ++ r) (a ++ r') := by
  rcases h with rfl | ⟨p, q, y, z, rfl, rfl, hy⟩
  · exact Or.inl rfl
  · exact Or.inr ⟨a ++ p, q, y, z, by rw [List.append_assoc], by rw [List.append_assoc], hy⟩
theorem preR_skel : ∀ l : List Int, PreR (encI l) (encI (l.map skel))
  | [] => Or.inl rfl
  | v :: l => by
    rw [List.map_cons, encI_cons, encI_cons]
    rcases skel_what v with e | ⟨h0, h1, _⟩
    · rw [e]; exact (preR_skel l).cons _
    · rw [ascii_one h0 h1]
      exact Or.inr ⟨[], _, skel v, _, rfl, rfl, by omega⟩
theorem preR_same {r r' : List Int} (h : PreR r r') (m : Nat) (hm : m ≤ r'.length) (hc : ∀ i, i < m → 128 ≤ r'.getD i 0 ∧ r'.getD i 0 ≤ 191) : m ≤ r.length ∧ ∀ i, i < m → r.getD i 0 = r'.getD i 0 := by
  rcases h with rfl | ⟨p, q, y, z, rfl, rfl, hy⟩
  · exact ⟨hm, fun _ _ => rfl⟩
  · have hp : m ≤ p.length := by
      rcases Nat.lt_or_ge p.length m with h | h
      · exfalso
        have := hc p.length h
        rw [List.getD, List.getElem?_append_right (Nat.le_refl _), Nat.sub_self] at this
        exact hy this
      · exact h
    refine ⟨by rw [List.length_append]; omega, fun i hi => ?_⟩
    rw [List.getD, List.getD, List.getElem?_append_left (by omega), List.getElem?_append_left (by omega)]
theorem may_cont {f c i : Nat} (h : mayB f c i = true) : 128 ≤ c ∧ c ≤ 191 := ((mayB_iff f c i).1 h).1
/-- A byte that begins no value stays so, whatever of what follows becomes a letter. -/
theorem beg_keep (b : Nat) (r r' : List Int) (hb : 128 ≤ b) (hb2 : b < 256) (hr : ∀ x ∈ r', 0 ≤ x ∧ x < 256) (h : PreR r r') (hbad : begB (1 + r.length) b (r.getD 0 0).toNat (r.getD 1 0).toNat (r.getD 2 0).toNat ≠ sizeB b) :
    begB (1 + r'.length) b (r'.getD 0 0).toNat (r'.getD 1 0).toNat (r'.getD 2 0).toNat ≠ sizeB b := by
  intro heq
  apply hbad
  have hz : sizeB b ≠ 1 := by
    unfold sizeB; rw [if_neg (by omega)]; repeat' split
    all_goals omega
  have hc : ∀ (i j : Nat), mayB b (r'.getD i 0).toNat j = true → 128 ≤ r'.getD i 0 ∧ r'.getD i 0 ≤ 191 := fun i j hm => by
    have := may_cont hm; omega
  unfold begB at heq ⊢
  by_cases h1 : 1 < sizeB b ∧ 1 < 1 + r'.length ∧ mayB b (r'.getD 0 0).toNat 1 = true
  · rw [if_pos h1] at heq
    by_cases h2 : 2 < sizeB b ∧ 2 < 1 + r'.length ∧ mayB b (r'.getD 1 0).toNat 2 = true
    · rw [if_pos h2] at heq
      by_cases h3 : 3 < sizeB b ∧ 3 < 1 + r'.length ∧ mayB b (r'.getD 2 0).toNat 3 = true
      · rw [if_pos h3] at heq
        obtain ⟨hm, hs⟩ := preR_same h 3 (by omega) (fun i hi => by
          match i, hi with
          | 0, _ => exact hc 0 _ h1.2.2
          | 1, _ => exact hc 1 _ h2.2.2
          | 2, _ => exact hc 2 _ h3.2.2)
        rw [hs 0 (by omega), hs 1 (by omega), hs 2 (by omega), if_pos ⟨h1.1, by omega, h1.2.2⟩, if_pos ⟨h2.1, by omega, h2.2.2⟩, if_pos ⟨h3.1, by omega, h3.2.2⟩]
        exact heq
      · rw [if_neg h3] at heq
        obtain ⟨hm, hs⟩ := preR_same h 2 (by omega) (fun i hi => by
          match i, hi with
          | 0, _ => exact hc 0 _ h1.2.2
          | 1, _ => exact hc 1 _ h2.2.2)
        rw [hs 0 (by omega), hs 1 (by omega), if_pos ⟨h1.1, by omega, h1.2.2⟩, if_pos ⟨h2.1, by omega, h2.2.2⟩, if_neg (by omega)]
        exact heq
    · rw [if_neg h2] at heq
      obtain ⟨hm, hs⟩ := preR_same h 1 (by omega) (fun i hi => by
        match i, hi with
        | 0, _ => exact hc 0 _ h1.2.2)
      rw [hs 0 (by omega), if_pos ⟨h1.1, by omega, h1.2.2⟩, if_neg (by omega)]
      exact heq
  · rw [if_neg h1] at heq
    omega
theorem cons_get (b : Int) (r : List Int) (i : Nat) (hr : ∀ x ∈ r, 0 ≤ x ∧ x < 256) : ((txt (b :: r)).get! (i + 1)).toNat = (r.getD i 0).toNat := by
  by_cases h : i < r.length
  · rw [txt_get _ _ (by simpa using h)]
    have hm := hr (r[i]) (List.getElem_mem h)
    rw [List.getElem_cons_succ, u8_nat hm.1 hm.2, List.getD, List.getElem?_eq_getElem h]; rfl
  · rw [List.getD, List.getElem?_eq_none (by omega)]
    have hs : ¬ i + 1 < (txt (b :: r)).size := by rw [txt_size]; simp; omega
    have : (txt (b :: r)).get! (i + 1) = 0 := by
      unfold ByteArray.get!
      have : ¬ i + 1 < (txt (b :: r)).data.size := hs
      simp [Array.getElem!_eq_getD, Array.getD, this]
      rw [dif_neg hs]; rfl
    rw [this]; rfl
/-- The value of a byte that begins none, and of what follows. -/
theorem stray_iff (b : Nat) (r : List Int) (hb : 128 ≤ b) (hb2 : b < 256) (hr : ∀ x ∈ r, 0 ≤ x ∧ x < 256) :
    (begB (1 + r.length) b (r.getD 0 0).toNat (r.getD 1 0).toNat (r.getD 2 0).toNat ≠ sizeB b → vAt (txt ((b : Int) :: r)) 0 = (1114112 + b, 1)) ∧
    ((vAt (txt ((b : Int) :: r)) 0).1 = 1114112 + b → begB (1 + r.length) b (r.getD 0 0).toNat (r.getD 1 0).toNat (r.getD 2 0).toNat ≠ sizeB b) := by
  have hsz : (txt ((b : Int) :: r)).size = 1 + r.length := by rw [txt_size, List.length_cons]; omega
  have hg0 : ((txt ((b : Int) :: r)).get! 0).toNat = b := by
    rw [txt_get _ _ (by simp)]
    exact u8n _ _ rfl hb2
  have hv := vAt_one (txt ((b : Int) :: r)) (by omega)
  rw [hsz, hg0, cons_get _ _ 0 hr, cons_get _ _ 1 hr, cons_get _ _ 2 hr] at hv
  constructor
  · intro h
    rw [hv]
    exact one_bad rfl rfl h
  · intro h heq
    have hsmall : (vAt (txt ((b : Int) :: r)) 0).1 = 1114112 + b → (vAt (txt ((b : Int) :: r)) 0).2 = 1 := fun h1 => by
      unfold vAt at h1 ⊢
      split at h1
      · rename_i hc; rw [if_pos hc]
      · rename_i hc
        rcases dec_cases (txt ((b : Int) :: r)) 0 with hd | hd
        · exact absurd (by rw [hd]; exact ⟨rfl, by omega⟩) hc
        · unfold Fine at hd; omega
    have h2 := hsmall h
    rw [hv] at h h2
    obtain ⟨k, hk⟩ : ∃ k, sizeB b = k := ⟨_, rfl⟩
    have hk2 : k = 0 ∨ k = 2 ∨ k = 3 ∨ k = 4 := by
      rw [← hk]; unfold sizeB; rw [if_neg (by omega)]; repeat' split
      all_goals omega
    have hbg : ∀ n b1 b2 b3, 1 ≤ begB n b b1 b2 b3 := fun n b1 b2 b3 => by unfold begB; split <;> (try split) <;> (try split) <;> omega
    have h1 := hbg (1 + r.length) (r.getD 0 0).toNat (r.getD 1 0).toNat (r.getD 2 0).toNat
    rcases hk2 with rfl | rfl | rfl | rfl
    · omega
    · rw [one_2 (heq.trans hk) hk] at h2; cases h2
    · rw [one_3 (heq.trans hk) hk] at h2; cases h2
    · rw [one_4 (heq.trans hk) hk] at h2; cases h2
/-- Values that a text has: the text of what they look like has what they look like. -/
theorem good_skel : ∀ l : List Int, valsS (encS l) = l → (∀ v ∈ l, ptB v = true ∨ stB v = true) → valsS (encS (l.map skel)) = l.map skel
  | [], _, _ => by unfold encS; exact valsS_nil _ (by rw [txt_size]; simp [encI])
  | v :: l, hg, hv => by
    have hl : ∀ x ∈ l, ptB x = true ∨ stB x = true := fun x hx => hv x (List.mem_cons_of_mem _ hx)
    unfold encS at hg ⊢
    rw [List.map_cons, encI_cons]
    rw [encI_cons] at hg
    rcases hv v (List.mem_cons_self ..) with hp | hs
    · rw [vals_enc1 v _ hp] at hg
      have ih := good_skel l (List.cons.inj hg).2 hl
      rw [vals_enc1 _ _ (skel_pt hp)]
      unfold encS at ih
      rw [ih]
    · have hvr := (stB_iff v).1 hs
      obtain ⟨b, rfl⟩ : ∃ b : Nat, v = ((1114112 + b : Nat) : Int) := ⟨(v - 1114112).toNat, by omega⟩
      have hb : 128 ≤ b := by omega
      have hb2 : b < 256 := by omega
      have ho : oneI ((1114112 + b : Nat) : Int) = [(b : Int)] := by rw [oneI_st hs]; congr 1; omega
      rw [skel_st hs, ho, List.singleton_append]
      rw [ho, List.singleton_append] at hg
      have hby := encI_byte l
      have hby2 := encI_byte (l.map skel)
      have hpos : ∀ r : List Int, 0 < (txt ((b : Int) :: r)).size := fun r => by rw [txt_size]; simp
      rw [valsS_cons _ (hpos _)] at hg
      have hg1 := (List.cons.inj hg).1
      have hbad := (stray_iff b (encI l) hb hb2 hby).2 (by omega)
      have hva := (stray_iff b (encI l) hb hb2 hby).1 hbad
      have hg2 := (List.cons.inj hg).2
      rw [hva, txt_ext] at hg2
      have ih := good_skel l hg2 hl
      have hva2 := (stray_iff b (encI (l.map skel)) hb hb2 hby2).1 (beg_keep b _ _ hb hb2 hby2 (preR_skel l) hbad)
      rw [valsS_cons _ (hpos _), hva2, txt_ext]
      unfold encS at ih
      rw [show ((b : Int) :: encI (l.map skel)).drop ((1114112 + b, 1) : Nat × Nat).2 = encI (l.map skel) from rfl, ih]
theorem tell_fo (l : List Int) : tellL foF l = u8l (encI (l.map skel)) := by
  induction l with
  | nil => rfl
  | cons v l ih =>
    have h1 : tellL foF (v :: l) = foF v ++ tellL foF l := rfl
    rw [h1, ih, List.map_cons, encI_cons, u8l_app]; rfl
theorem tellS_fo (s : ByteArray) : tellS foF s = encS ((valsS s).map skel) := by unfold tellS; rw [tell_fo]; rfl
theorem fo_fo (s : ByteArray) : tellS foF (tellS foF s) = tellS foF s := by
  rw [tellS_fo (tellS foF s), tellS_fo s, good_skel (valsS s) (by rw [encS_vals]) (fun v hv => in_vals hv), List.map_map]
  congr 1
  refine List.map_congr_left fun v _ => ?_
  exact (skel_idem v).1
end Go.Proofs.YtmnjafceenckpaaDoor
set_option linter.unusedVariables false
set_option linter.unusedSimpArgs false
namespace Go.Proofs.YtmnjafceenckpaaDoor
open Go.RowKit
def mkL (l : List UInt8) : ByteArray := ⟨l.toArray⟩
theorem enc_one (v : Int) : encS [v] = mkL (u8l (oneI v)) := by unfold encS encI; rw [List.flatMap_cons, List.flatMap_nil, List.append_nil]; rfl
end Go.Proofs.YtmnjafceenckpaaDoor
set_option linter.unusedVariables false
set_option linter.unusedSimpArgs false
namespace Go.Proofs.YtmnjafceenckpaaDoor
open Go.RowKit
abbrev mkS (l : List UInt8) : ByteArray := ⟨l.toArray⟩
theorem mkS_app (a b : List UInt8) : mkS a ++ mkS b = mkS (a ++ b) := ba_app a b
theorem mkS_size (l : List UInt8) : (mkS l).size = l.length := by simp [mkS, ByteArray.size]
theorem mkS_of (s : ByteArray) : mkS s.data.toList = s := by cases s; simp [mkS]
theorem mkS_inj {a b : List UInt8} (h : mkS a = mkS b) : a = b := by
  have := congrArg (fun s : ByteArray => s.data.toList) h
  simpa [mkS] using this
theorem krow_one (w : World) (v : Int) : Row (w.alloc (.cells #[.int .i64 v] 3)) (some ⟨w.heap.size, 0, none⟩) [v] := fun j hj => by
  obtain rfl : j = 0 := by simp at hj; omega
  exact ⟨w.heap.size, 0, rfl, by rw [World.cell?_alloc_new]; rfl, by simp⟩
theorem one_byteK {v : Int} (h0 : 0 ≤ v) (h1 : v < 128) : txt (oneI v) = mkS [v.toNat.toUInt8] := by
  rw [oneI_pt ((ptB_iff _).2 (by omega)), Lib.encodeRuneZ_one (by omega) (by omega)]; rfl
theorem kstr_ret {a b : ByteArray} (h : a = b) : Ending.returned (.string a) = .returned (.string b) := by rw [h]
theorem ksum (a b : ByteArray) (h : a.size + b.size ≤ 8388608) (w : World) : (Op.stringOp .add a b).run Tryd.prog w = .ok (.string (a ++ b)) w := run_string_add_sum w a b (by omega)
end Go.Proofs.YtmnjafceenckpaaDoor
set_option linter.unusedVariables false
set_option linter.unusedSimpArgs false
namespace Go.Proofs.YtmnjafceenckpaaDoor
open Go.RowKit
theorem kgrown {w w' : World} (h : Below w.heap.size w w') : w.grownBy w' none := ⟨h.os, h.tape, h.output, h.size, fun k hk _ => h.block k hk⟩
theorem kown_below {w w' : World} {base : Nat} {e : TypeId} {size : Nat} {v : Value} {n : Nat} {xs : List Value} (h : w.ownsRow base e size v n xs) (hb : Below w.heap.size w w') : w'.ownsRow base e size v n xs :=
  h.kept (kgrown hb) (by cases hv : v.ownBlock <;> simp)
theorem hx2_snoc (l : List UInt8) (b : UInt8) : hx2 (l ++ [b]) = hx2 l ++ hexN (b.toNat : Int) 2 := by unfold hx2; rw [List.flatMap_append]; simp
theorem strC (l : List UInt8) : Lib.strCells (mkS l) = Lib.byteCells l := by unfold Lib.strCells mkS Lib.byteCells; simp
end Go.Proofs.YtmnjafceenckpaaDoor
set_option linter.unusedVariables false
set_option linter.unusedSimpArgs false
namespace Go.Proofs.YtmnjafceenckpaaDoor
open Go.RowKit
/-- The forms of a key that may be. -/
inductive KyF : Ky → Prop
  | sign (v : Int) (h0 : 32 ≤ v) (h1 : v ≤ 1114367) (h : kmB 1 v = true) : KyF (1, v, ⟨#[]⟩, false)
  | ctrl (v : Int) (h0 : 0 ≤ v) (h1 : v < 32) : KyF (2, v, ⟨#[]⟩, false)
  | meta1 (v : Int) (h0 : 32 ≤ v) (h1 : v < 128) : KyF (3, v, ⟨#[]⟩, false)
  | meta0 (v : Int) (h0 : 0 ≤ v) (h1 : v < 32) : KyF (3, v, ⟨#[]⟩, false)
  | paste (t : ByteArray) (c : Bool) (h : t.size ≤ 65536) : KyF (15, 0, t, c)
  | named (kind v : Int) (h1 : kind ≠ 1) (h2 : kind ≠ 2) (h3 : kind ≠ 3) (h15 : kind ≠ 15) (h : (kFind kind v).isSome = true) : KyF (kind, v, ⟨#[]⟩, false)
theorem kyF_of {k : Ky} (h : keyB k = true) : KyF k := by
  obtain ⟨kind, v, t, c⟩ := k
  by_cases h15 : kind = 15
  · subst h15
    rw [key_paste] at h
    simp at h
    obtain ⟨rfl, h⟩ := h
    exact .paste t c h
  · rw [key_other _ _ _ _ h15] at h
    simp at h
    obtain ⟨⟨ht, rfl⟩, hm⟩ := h
    obtain rfl : t = ⟨#[]⟩ := ht
    by_cases h1 : kind = 1
    · subst h1
      have hm' := hm
      rw [may_sign] at hm
      simp at hm
      exact .sign v hm.1.1 (right_le hm.2).2 hm'
    by_cases h2 : kind = 2
    · subst h2
      rw [may_ctrl] at hm
      unfold ctB at hm
      simp at hm
      exact .ctrl v hm.1.1 (by omega)
    by_cases h3 : kind = 3
    · subst h3
      rw [may_meta] at hm
      simp at hm
      by_cases hb : 32 ≤ v
      · exact .meta1 v hb hm.1.2
      · exact .meta0 v hm.1.1 (by omega)
    · rw [may_other _ _ h1 h2 h3] at hm
      exact .named kind v h1 h2 h3 h15 hm
def nmR (k : Ky) : List UInt8 := if keyB k then nmN k else []
def NmPost (k : Ky) (w : World) (e : Ending) (w' : World) : Prop := e = .returned (.tuple #[.string (mkS (nmR k)), .int .i64 (ckE k)]) ∧ Below w.heap.size w w'
theorem nmPost_no {k : Ky} {w w' : World} (h : keyB k = false) (hb : Below w.heap.size w w') : NmPost k w (.returned (.tuple #[.string ⟨#[]⟩, .int .i64 2])) w' := by
  unfold NmPost nmR; rw [h, ckE_no h]; exact ⟨rfl, hb⟩
theorem nmPost_yes {k : Ky} {w w' : World} {s : ByteArray} (h : keyB k = true) (hs : s = mkS (nmN k)) (hb : Below w.heap.size w w') : NmPost k w (.returned (.tuple #[.string s, .int .i64 0])) w' := by
  unfold NmPost nmR; rw [h, ckE_yes h, hs]; exact ⟨rfl, hb⟩
theorem nm_meta1 (v : Int) (h : 32 ≤ v) : nmN (3, v, ⟨#[]⟩, false) = 77 :: 45 :: sgN v := by
  show 77 :: 45 :: (if 32 ≤ v then sgN v else ctN v) = _; rw [if_pos h]
theorem nm_meta0 (v : Int) (h : ¬ 32 ≤ v) : nmN (3, v, ⟨#[]⟩, false) = 77 :: 45 :: ctN v := by
  show 77 :: 45 :: (if 32 ≤ v then sgN v else ctN v) = _; rw [if_neg h]
theorem nm_named (kind v : Int) (t : ByteArray) (c : Bool) (h1 : kind ≠ 1) (h2 : kind ≠ 2) (h3 : kind ≠ 3) (h15 : kind ≠ 15) : nmN (kind, v, t, c) = (kRowOf kind v).2.2.1 := by
  unfold nmN; dsimp only; rw [if_neg h1, if_neg h2, if_neg h3, if_neg h15]
theorem sgN_len (v : Int) : (sgN v).length ≤ 22 := by
  unfold sgN; split
  · simp
  · have := hexN_len v 1; simp; omega
theorem ctN_len (v : Int) : (ctN v).length = 3 := by obtain ⟨c, h⟩ := ctN_cons v; rw [h]; rfl
theorem four_keep {w : World} {b c k : Nat} {x : Value} (v0 v1 v2 v3 : Value) (hp : c ≠ b) (h : w.cell? ⟨c, k, none⟩ = some x) :
    ((((w.setCell ⟨b, 0, none⟩ v0).setCell ⟨b, 1, none⟩ v1).setCell ⟨b, 2, none⟩ v2).setCell ⟨b, 3, none⟩ v3).cell? ⟨c, k, none⟩ = some x := by
  have o : ∀ (w : World) (i : Nat) (v : Value), (w.setCell ⟨b, i, none⟩ v).cell? ⟨c, k, none⟩ = w.cell? ⟨c, k, none⟩ := fun w i v => World.cell?_setCell_other w _ _ v (fun e => hp (by simpa using (congrArg Addr.block e).symm))
  rw [o, o, o, o, h]
theorem four_cell2 {w : World} {b : Nat} {x : Value} (v0 v1 v2 v3 : Value) (h : w.cell? ⟨b, 2, none⟩ = some x) :
    ((((w.setCell ⟨b, 0, none⟩ v0).setCell ⟨b, 1, none⟩ v1).setCell ⟨b, 2, none⟩ v2).setCell ⟨b, 3, none⟩ v3).cell? ⟨b, 2, none⟩ = some v2 := by
  rw [World.cell?_setCell_other _ _ _ _ (by simp), World.cell?_setCell_same _ _ _ (h := by rw [World.cell?_setCell_other _ _ _ _ (by simp), World.cell?_setCell_other _ _ _ _ (by simp)]; exact h)]
theorem four_cell3 {w : World} {b : Nat} {x : Value} (v0 v1 v2 v3 : Value) (h : w.cell? ⟨b, 3, none⟩ = some x) :
    ((((w.setCell ⟨b, 0, none⟩ v0).setCell ⟨b, 1, none⟩ v1).setCell ⟨b, 2, none⟩ v2).setCell ⟨b, 3, none⟩ v3).cell? ⟨b, 3, none⟩ = some v3 := by
  rw [World.cell?_setCell_same _ _ _ (h := by rw [World.cell?_setCell_other _ _ _ _ (by simp), World.cell?_setCell_other _ _ _ _ (by simp), World.cell?_setCell_other _ _ _ _ (by simp)]; exact h)]
end Go.Proofs.YtmnjafceenckpaaDoor
