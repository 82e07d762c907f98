/-
  Keys: which value a name is of.
-/
import Derived.Test.YtdifkjmpdmlobaaDoorKy8
import Derived.Laws.Strings2
set_option linter.unusedVariables false
set_option linter.unusedSimpArgs false
namespace Go.Proofs.YtdifkjmpdmlobaaDoor
set_option maxRecDepth 100000
open Go.RowKit
theorem ext_list (s : ByteArray) (a b : Nat) : (s.extract a b).data.toList = (s.data.toList.drop a).take (b - a) := by
  have e : s = ByteArray.mk s.data.toList.toArray := by cases s; simp
  conv => lhs; rw [e]
  rw [ByteArray.extract_mk]
theorem list_size (s : ByteArray) : s.data.toList.length = s.size := Array.length_toList
theorem kunhex (s : ByteArray) (w : World) (hs : s.size ≤ 999999) : Calls Tryd.prog 138 #[.string s] w fun e w' => e = .returned (.tuple #[.int .i64 (uhR s.data.toList), .int .i64 (uhE s.data.toList)]) ∧ Below w.heap.size w w' := by
  have h := unhex_any s.data.toList w (by rw [list_size]; exact hs)
  rwa [show (⟨s.data.toList.toArray⟩ : ByteArray) = s from mkS_of s] at h
theorem uh_or (l : List UInt8) : (uhE l = 0 ∧ 0 ≤ uhR l) ∨ (uhE l = 6 ∧ uhR l = 0) := by
  rcases uh_cases l with h | h
  · exact Or.inl ⟨h.2.1, by omega⟩
  · exact Or.inr ⟨h.2.1, h.2.2⟩
theorem sgOf_one (s : ByteArray) (h : s.size = 1) : sgOf s.data.toList = ((s[0]'(by omega)).toNat : Int) := by
  unfold sgOf
  rw [if_pos (by rw [list_size]; exact h)]
  obtain ⟨a⟩ := s
  obtain ⟨l⟩ := a
  match l, h with
  | [x], _ => rfl
theorem sgOf_no (s : ByteArray) (h1 : s.size ≠ 1) (h : s.size < 3) : sgOf s.data.toList = -1 := by
  unfold sgOf
  rw [if_neg (by rw [list_size]; exact h1), if_pos (Or.inl (by rw [list_size]; exact h))]
theorem head_get (s : ByteArray) (h : 0 < s.size) : s.data.toList.headD 0 = s[0] := by
  obtain ⟨a⟩ := s
  obtain ⟨l⟩ := a
  match l, h with
  | x :: _, _ => rfl
theorem sgOf_no2 (s : ByteArray) (h3 : 3 ≤ s.size) (h : ¬ ((s[0]'(by omega)).toNat : Int) = 60) : sgOf s.data.toList = -1 := by
  unfold sgOf
  rw [if_neg (by rw [list_size]; omega), if_pos (Or.inr (by rw [head_get s (by omega)]; intro e; apply h; rw [e]; rfl))]
theorem sgOf_hex (s : ByteArray) (h3 : 3 ≤ s.size) (h : ((s[0]'(by omega)).toNat : Int) = 60) : sgOf s.data.toList = if uhE (s.extract 1 (s.size - 1)).data.toList = 0 then uhR (s.extract 1 (s.size - 1)).data.toList else -1 := by
  unfold sgOf
  have h60 : s.data.toList.headD 0 = 60 := by
    rw [head_get s (by omega)]
    have : (s[0]'(by omega)).toNat = 60 := by omega
    exact UInt8.toNat_inj.1 this
  rw [if_neg (by rw [list_size]; omega), if_neg (by rw [list_size, h60]; intro hh; rcases hh with hh | hh; omega; exact hh rfl), list_size, ext_list]
  rfl
set_option maxHeartbeats 2000000 in
set_option maxRecDepth 100000 in
theorem ksgOf_any (s : ByteArray) (w : World) (hs : s.size ≤ 900000) : Calls Tryd.prog 127 #[.string s] w fun e w' => e = .returned (.int .i64 (sgOf s.data.toList)) ∧ Below w.heap.size w w' := by
  by_cases h1 : s.size = 1
  · have e := Lib.hid (sgOf_one s h1)
    have hk0 : (0 : Int) < s.size := by omega
    have hw : Hid (wrap64 (((s[0]'(by omega)).toNat : Nat) : Int) = (((s[0]'(by omega)).toNat : Nat) : Int)) := Lib.hid (by have := u8_lt (s[0]'(by omega)); unfold wrap64; omega)
    have hi1 : (s.size : Int) = 1 := by omega
    go_enter Tryd.func127, Tryd.ntmps127
    go_wp2_with fail
    go_ret
    rw [e.out]
    refine ⟨?_, Below.refl _ _⟩
    show Ending.returned (.int .i64 (wrap64 _)) = _
    rw [hw.out]
  · have hi1 : ¬ (s.size : Int) = 1 := by omega
    by_cases h3 : s.size < 3
    · have e := Lib.hid (sgOf_no s h1 h3)
      have hi3 : (s.size : Int) < 3 := by omega
      go_enter Tryd.func127, Tryd.ntmps127
      go_wp2_with fail
      go_ret
      rw [e.out]
      exact ⟨rfl, Below.refl _ _⟩
    · have hi3 : ¬ (s.size : Int) < 3 := by omega
      have hk0 : (0 : Int) < s.size := by omega
      by_cases h60 : ((s[0]'(by omega)).toNat : Int) = 60
      · have e := Lib.hid (sgOf_hex s (by omega) h60)
        have U := fun w => kunhex (s.extract 1 (s.size - 1)) w (by rw [ByteArray.size_extract]; omega)
        have hx : Hid (((s.size : Int) - 1).toNat = s.size - 1) := Lib.hid (by omega)
        have hor := uh_or (s.extract 1 (s.size - 1)).data.toList
        generalize hu : uhE (s.extract 1 (s.size - 1)).data.toList = ue at *
        generalize hr : uhR (s.extract 1 (s.size - 1)).data.toList = ur at *
        replace U := Lib.hid U
        clear hu hr
        rcases hor with ⟨rfl, h0⟩ | ⟨rfl, rfl⟩
        · clear h0
          go_enter Tryd.func127, Tryd.ntmps127
          go_wp2_with (go_at_call 138; refine (U.out _).mono ?_; rintro e w2 ⟨rfl, hb2⟩)
          go_ret
          rw [e.out]
          exact ⟨by simp, hb2⟩
        · go_enter Tryd.func127, Tryd.ntmps127
          go_wp2_with (go_at_call 138; refine (U.out _).mono ?_; rintro e w2 ⟨rfl, hb2⟩)
          go_ret
          rw [e.out]
          exact ⟨by simp, hb2⟩
      · have e := Lib.hid (sgOf_no2 s (by omega) h60)
        go_enter Tryd.func127, Tryd.ntmps127
        go_wp2_with fail
        go_ret
        rw [e.out]
        exact ⟨rfl, Below.refl _ _⟩
theorem ctFrom_hit (l : List UInt8) (k : Nat) (hk : k < 32) (h : ctN (k : Int) = l) : ctFrom l (32 - k) k = k := by
  rw [show 32 - k = (31 - k) + 1 by omega, ctFrom, if_pos h]
theorem ctFrom_miss (l : List UInt8) (k : Nat) (hk : k < 32) (h : ¬ ctN (k : Int) = l) : ctFrom l (32 - k) k = ctFrom l (32 - (k + 1)) (k + 1) := by
  rw [show 32 - k = (31 - k) + 1 by omega, ctFrom, if_neg h, show 31 - k = 32 - (k + 1) by omega]
theorem ctFrom_end (l : List UInt8) : ctFrom l (32 - 32) 32 = -1 := rfl
theorem mkS_eq {l : List UInt8} {s : ByteArray} (h : mkS l = s) : l = s.data.toList := by subst h; simp [mkS]
set_option maxHeartbeats 2000000 in
set_option maxRecDepth 100000 in
theorem kctOf_any (s : ByteArray) (w : World) : Calls Tryd.prog 126 #[.string s] w fun e w' => e = .returned (.int .i64 (ctOf s.data.toList)) ∧ Below w.heap.size w w' := by
  go_enter Tryd.func126, Tryd.ntmps126
  go_wp2
  go_loopw [4] (fun iv wr => ∃ k : Nat, k ≤ 32 ∧ iv = .int .i64 (k : Int) ∧ Hid (ctFrom s.data.toList (32 - k) k = ctOf s.data.toList) ∧ Below w.heap.size w wr) (fun iv _ => 32 - (intOf iv).toNat)
  case atStart => exact ⟨0, by omega, rfl, Lib.hid rfl, Below.refl _ _⟩
  case round =>
    obtain ⟨k, hk, rfl, HE, hb⟩ := hrel
    have hsz := hb.size
    by_cases hlt : k < 32
    · have hk0 : (0 : Int) ≤ k := by omega
      have hk1 : (k : Int) < 32 := by omega
      have C := fun w => kctrl_any (k : Int) w hk0 hk1
      by_cases he : mkS (ctN (k : Int)) = s
      · have HF : Hid (ctOf s.data.toList = k) := Lib.hid (by rw [← HE.out]; exact ctFrom_hit _ k hlt (mkS_eq he))
        rw [he] at C
        replace C := Lib.hid C
        clear he HE
        go_wp2_with (go_at_call 122; refine (C.out _).mono ?_; rintro e w2 ⟨rfl, hb2⟩)
        go_ret
        rw [HF.out]
        exact ⟨rfl, hb.trans (hb2.mono hsz)⟩
      · have HF : Hid (ctFrom s.data.toList (32 - (k + 1)) (k + 1) = ctOf s.data.toList) := Lib.hid (by rw [← HE.out]; exact (ctFrom_miss _ k hlt (fun h => he (by rw [h]))).symm)
        obtain ⟨s1, s2, s3⟩ := kstr_ne he
        generalize mkS (ctN (k : Int)) = u at *
        replace C := Lib.hid C
        clear he HE
        go_wp2_with (go_at_call 122; refine (C.out _).mono ?_; rintro e w2 ⟨rfl, hb2⟩)
        go_roundw
        case rel => exact ⟨k + 1, by omega, by go_num, HF, hb.trans (hb2.mono hsz)⟩
        case measure => (simp [intOf]; try omega)
    · obtain rfl : k = 32 := by omega
      have HF : Hid (ctOf s.data.toList = -1) := Lib.hid (by rw [← HE.out]; rfl)
      clear HE
      go_wp2
      go_ret
      rw [HF.out]
      exact ⟨rfl, hb⟩
theorem last_suffix (l : List UInt8) : Lib.hasSuffix l [33] = decide (l.getLast? = some 33) := by
  unfold Lib.hasSuffix
  by_cases h : l.getLast? = some 33
  · rw [decide_eq_true h, List.isSuffixOf_iff_suffix]
    obtain ⟨r, rfl⟩ := List.getLast?_eq_some_iff.1 h
    exact List.suffix_append _ _
  · rw [decide_eq_false h]
    cases hs : [33].isSuffixOf l with
    | false => rfl
    | true =>
      obtain ⟨r, rfl⟩ := List.isSuffixOf_iff_suffix.1 hs
      simp at h
def cutS (s : ByteArray) : ByteArray := mkS (psCut s.data.toList).1
def cutB (s : ByteArray) : Bool := (psCut s.data.toList).2
set_option maxHeartbeats 2000000 in
set_option maxRecDepth 100000 in
theorem kcut_inner (s : ByteArray) (w : World) (hs : s.size ≤ 900000) : Calls Tryd.prog 143 #[.string s, .string ⟨#[33]⟩] w fun e w' => e = .returned (.tuple #[.string (cutS s), .bool (cutB s)]) ∧ w' = w := by
  have H := Tryd.stringslite_HasSuffix s ⟨#[33]⟩ w (by omega)
  rw [show (⟨#[33]⟩ : ByteArray).data.toList = [33] from rfl, last_suffix] at H
  by_cases h : s.data.toList.getLast? = some 33
  · rw [decide_eq_true h] at H
    have e1 : Hid (cutS s = s.extract 0 (s.size - 1)) := Lib.hid (by
      unfold cutS psCut
      rw [if_pos h]
      have := ext_list s 0 (s.size - 1)
      rw [List.drop_zero, Nat.sub_zero, ← list_size, ← List.dropLast_eq_take] at this
      rw [← list_size]
      show mkS s.data.toList.dropLast = _
      rw [← this])
    have e2 : Hid (cutB s = true) := Lib.hid (by unfold cutB psCut; rw [if_pos h])
    have hp : 0 < s.size := by
      rw [← list_size]; cases hl : s.data.toList with
      | nil => rw [hl] at h; cases h
      | cons => simp
    have hp1 : (0 : Int) < s.size := by omega
    replace H := Lib.hid H
    clear h
    go_enter Tryd.func143, Tryd.ntmps143
    go_wp2_with (go_at_call 147; refine H.out.mono ?_; rintro e w2 ⟨rfl, rfl⟩)
    refine bodyPost_ret (v := .tuple #[.string (s.extract 0 (s.size - 1)), .bool true]) (by simp [results, Tryd.results143, go_sem]) rfl ?_
    rw [e1.out, e2.out]; exact ⟨rfl, rfl⟩
  · rw [decide_eq_false h] at H
    have e1 : Hid (cutS s = s) := Lib.hid (by unfold cutS psCut; rw [if_neg h])
    have e2 : Hid (cutB s = false) := Lib.hid (by unfold cutB psCut; rw [if_neg h])
    replace H := Lib.hid H
    clear h
    go_enter Tryd.func143, Tryd.ntmps143
    go_wp2_with (go_at_call 147; refine H.out.mono ?_; rintro e w2 ⟨rfl, rfl⟩)
    refine bodyPost_ret (v := .tuple #[.string s, .bool false]) (by simp [results, Tryd.results143, go_sem]) rfl ?_
    rw [e1.out, e2.out]; exact ⟨rfl, rfl⟩
set_option maxHeartbeats 2000000 in
set_option maxRecDepth 100000 in
theorem kcut_any (s : ByteArray) (w : World) (hs : s.size ≤ 900000) : Calls Tryd.prog 137 #[.string s, .string ⟨#[33]⟩] w fun e w' => e = .returned (.tuple #[.string (cutS s), .bool (cutB s)]) ∧ w' = w := by
  have H := kcut_inner s w hs
  generalize cutS s = a at *
  generalize cutB s = b at *
  replace H := Lib.hid H
  go_enter Tryd.func137, Tryd.ntmps137
  go_wp2_with (go_at_call 143; refine H.out.mono ?_; rintro e w2 ⟨rfl, rfl⟩)
  refine bodyPost_ret (v := .tuple #[.string a, .bool b]) (by simp [results, Tryd.results137, go_sem]) rfl ?_
  exact ⟨rfl, rfl⟩
end Go.Proofs.YtdifkjmpdmlobaaDoor
