/-
  Joined: Es2 Es3 M8 M9 M10 M11 M12.
-/
import Derived.Test.YtmnjafceenckpaaDoorJQ02
import Derived.Test.YtmnjafceenckpaaDoorJQ07
import Derived.Test.YtmnjafceenckpaaDoorJQ10
import Derived.Test.YtmnjafceenckpaaDoorJQ13
import Derived.Deep.Cut
import Derived.Deep.CutRange
import Derived.Test.YtmnjafceenckpaaDoorShelf
import Derived.Lib.UnsafeStr
import Derived.Deep.QuietTactic
import Derived.BigQuiet
set_option linter.unusedVariables false
set_option linter.unusedSimpArgs false
set_option maxRecDepth 100000
set_option linter.unusedVariables false
set_option linter.unusedSimpArgs false
namespace Go.Proofs.YtmnjafceenckpaaDoor
open Go.RowKit
theorem ln_take (l : List (Int × Int)) (k : Nat) (h : k < l.length) : lnL (l.take (k + 1)) = lnL (l.take k) ++ leF (l.getD k (0, 0)).1 := by
  rw [List.take_succ_eq_append_getElem h, lnL_app, List.getD, List.getElem?_eq_getElem h]
  unfold lnL
  rw [List.flatMap_cons, List.flatMap_nil, List.append_nil]; rfl
end Go.Proofs.YtmnjafceenckpaaDoor
set_option linter.unusedVariables false
set_option linter.unusedSimpArgs false
namespace Go.Proofs.YtmnjafceenckpaaDoor
open Go.RowKit
/-- Bytes below 128. -/
def Asc (l : List UInt8) : Prop := ∀ c ∈ l, c.toNat < 128
theorem mkL_ext (l : List UInt8) (a b : Nat) : (mkL l).extract a b = mkL ((l.drop a).take (b - a)) := by
  apply ByteArray.ext
  rw [ByteArray.data_extract]
  apply Array.ext'
  simp [mkL, List.extract_eq_take_drop]
theorem mkL_size (l : List UInt8) : (mkL l).size = l.length := size_list l
theorem mkL_txt (l : List UInt8) : mkL l = txt (l.map fun c => (c.toNat : Int)) := by
  unfold mkL txt
  congr 2
  rw [List.map_map]
  conv => lhs; rw [← List.map_id l]
  exact List.map_congr_left fun c _ => (u8_back c).symm
/-- Among such bytes each stands for itself. -/
theorem asc_at {l : List UInt8} (h : Asc l) {i : Nat} (hi : i < l.length) : vAt (mkL l) i = ((l.getD i 0).toNat, 1) := by
  have hs : i < (mkL l).size := by rw [mkL_size]; exact hi
  have hc := h (l.getD i 0) (by rw [List.getD, List.getElem?_eq_getElem hi]; exact List.getElem_mem hi)
  have e1 : vAt (mkL l) i = vAt ((mkL l).extract i (mkL l).size) 0 := by rw [vAt_tail _ i 0 (by omega)]; rfl
  have e2 : (mkL l).extract i (mkL l).size = txt (oneI ((l.getD i 0).toNat : Int) ++ ((l.drop (i + 1)).map fun c => (c.toNat : Int))) := by
    rw [mkL_ext, mkL_size, mkL_txt, List.take_of_length_le (by rw [List.length_drop]; exact Nat.le_refl _), ascii_one (by omega) (by omega), List.drop_eq_getElem_cons hi, List.map_cons, List.getD, List.getElem?_eq_getElem hi]; rfl
  rw [e1, e2, vAt_enc _ _ ((ptB_iff _).2 (by omega)), ascii_one (by omega) (by omega)]
  rfl
theorem asc_drop {l : List UInt8} (h : Asc l) (n : Nat) : Asc (l.drop n) := fun c hc => h c (List.mem_of_mem_drop hc)
theorem asc_one {l : List UInt8} (h : Asc l) (hl : l ≠ []) : oneS (mkL l) = ((l.headD 0).toNat, 1) := by
  have hp := List.length_pos_iff.2 hl
  unfold oneS
  rw [if_neg (by rw [mkL_size]; omega), asc_at h hp]
  cases l with
  | nil => exact absurd rfl hl
  | cons c l => rfl
theorem pre2 (x y : UInt8) (l : List UInt8) : Lib.hasPrefix l [x, y] = decide (l.take 2 = [x, y]) := by
  unfold Lib.hasPrefix
  rw [Bool.eq_iff_iff, decide_eq_true_eq]
  match l with
  | [] => simp
  | [a] => simp [List.isPrefixOf]
  | a :: b :: r => simp [List.isPrefixOf]; constructor <;> (rintro ⟨h1, h2⟩; exact ⟨h1.symm, h2.symm⟩)
theorem pre_any (l : List UInt8) (x y : UInt8) (w : World) : Calls Tryd.prog 39 #[.string (mkL l), .string ⟨#[x, y]⟩] w fun e w' => e = .returned (.bool (decide (l.take 2 = [x, y]))) ∧ w = w' := by
  refine (Tryd.strings_HasPrefix (mkL l) ⟨#[x, y]⟩ w).mono ?_
  rintro e w' ⟨rfl, rfl⟩
  exact ⟨by rw [show (mkL l).data.toList = l from rfl, show (⟨#[x, y]⟩ : ByteArray).data.toList = [x, y] from rfl, pre2], rfl⟩
end Go.Proofs.YtmnjafceenckpaaDoor
set_option linter.unusedVariables false
set_option linter.unusedSimpArgs false
namespace Go.Proofs.YtmnjafceenckpaaDoor
open Go.RowKit
theorem take_out (L : List Ot) (k : Nat) (h : k < L.length) : L.take (k + 1) = L.take k ++ [L.getD k ot0] := by
  rw [List.take_add_one, List.getElem?_eq_getElem h]; simp [List.getD, List.getElem?_eq_getElem h]
theorem bt_size {o : Ot} (h : mayP o = true) : (bt o).size ≤ o.2.2.2.size + 20 := by
  have hpc := pc_of h
  cases hpc with
  | text t h1 h2 => rw [by_text]; exact Nat.le_add_right _ _
  | move n m h1 h2 h3 h4 =>
    have a := (dec_small n h1 h2).1
    have b := (dec_small m h3 h4).1
    have e : (bt (1, n, m, mt)).size = (27 :: 91 :: (decS n ++ 59 :: (decS m ++ [72]))).length := by rw [← bL_len]; unfold bt; rw [bL_mkB]; rfl
    rw [e]
    simp; omega
  | looks n h1 h2 =>
    obtain ⟨k, rfl⟩ := Int.eq_ofNat_of_zero_le h1
    have a := (lk_small ⟨k, by omega⟩).1
    have e : (bt (4, (k : Int), 0, mt)).size = (27 :: 91 :: (lkT (k : Int) ++ [109])).length := by rw [← bL_len]; unfold bt; rw [bL_mkB]; rfl
    rw [e]
    simp at a ⊢; omega
  | _ => decide
def txtR (L : List Ot) : ByteArray := if mayAll L = true then txOut L else mt
def txtE (L : List Ot) : Int := if mayAll L = true then 0 else 2
def TxPost (L : List Ot) (w : World) (e : Ending) (w' : World) : Prop := e = .returned (.tuple #[.string (txtR L), .int .i64 (txtE L)]) ∧ Below w.heap.size w w'
theorem txPost_yes {L : List Ot} {w w' : World} (h : mayAll L = true) (hb : Below w.heap.size w w') : TxPost L w (.returned (.tuple #[.string (txOut L), .int .i64 0])) w' := by
  unfold TxPost txtR txtE; rw [h]; exact ⟨rfl, hb⟩
theorem txPost_no {L : List Ot} {w w' : World} (h : mayAll L = false) (hb : Below w.heap.size w w') : TxPost L w (.returned (.tuple #[.string ⟨#[]⟩, .int .i64 2])) w' := by
  unfold TxPost txtR txtE; rw [h]; exact ⟨rfl, hb⟩
theorem mayAll_no {L : List Ot} {k : Nat} (hk : k < L.length) (h : mayP (L.getD k ot0) = false) : mayAll L = false := by
  cases hm : mayAll L
  · rfl
  · unfold mayAll at hm
    rw [List.all_eq_true] at hm
    have := hm (L.getD k ot0) (by rw [List.getD, List.getElem?_eq_getElem hk]; exact List.getElem_mem hk)
    rw [h] at this; cases this
end Go.Proofs.YtmnjafceenckpaaDoor
set_option linter.unusedVariables false
set_option linter.unusedSimpArgs false
namespace Go.Proofs.YtmnjafceenckpaaDoor
open Go.RowKit
def smO (x y : List Ot) : Bool := decide (x = y)
theorem smO_len {x y : List Ot} (h : x.length ≠ y.length) : smO x y = false := by unfold smO; rw [decide_eq_false]; intro e; exact h (by rw [e])
theorem smO_no {x y : List Ot} {k : Nat} (h : x.getD k ot0 ≠ y.getD k ot0) : smO x y = false := by unfold smO; rw [decide_eq_false]; intro e; exact h (by rw [e])
theorem smO_yes {x y : List Ot} (hl : x.length = y.length) (h : ∀ j, j < x.length → x.getD j ot0 = y.getD j ot0) : smO x y = true := by
  unfold smO
  rw [decide_eq_true]
  apply List.ext_getElem hl
  intro i h1 h2
  have := h i h1
  rwa [List.getD, List.getD, List.getElem?_eq_getElem h1, List.getElem?_eq_getElem h2] at this
theorem smO_self (x : List Ot) : smO x x = true := decide_eq_true rfl
end Go.Proofs.YtmnjafceenckpaaDoor
set_option linter.unusedVariables false
set_option linter.unusedSimpArgs false
namespace Go.Proofs.YtmnjafceenckpaaDoor
open Go.RowKit
theorem str_neq {s t : ByteArray} (h : ¬ s = t) : (s.toList == t.toList) = false ∧ (s.toList != t.toList) = true ∧ ¬ s.toList = t.toList := by
  have h1 := toL_ne h
  exact ⟨by simpa using h1, by simpa using h1, h1⟩
theorem str_eq (s : ByteArray) : (s.toList == s.toList) = true ∧ (s.toList != s.toList) = false := by simp
def ltI (s : ByteArray) : Int := match ltr s with | some e => (e : Int) | none => -1
theorem ltF_hit {s : ByteArray} {k : Nat} (hk : k < s.size) (h : k ≤ 11) (hc : 64 ≤ (s.get! k).toNat) : ltF s (12 - k) k = some k := by
  rw [show 12 - k = (11 - k) + 1 by omega, ltF, if_pos ⟨hk, h⟩, if_pos hc]
theorem ltF_go {s : ByteArray} {k : Nat} (hk : k < s.size) (h : k ≤ 11) (hc : ¬ 64 ≤ (s.get! k).toNat) : ltF s (12 - k) k = ltF s (12 - (k + 1)) (k + 1) := by
  rw [show 12 - k = (11 - k) + 1 by omega, ltF, if_pos ⟨hk, h⟩, if_neg hc, show 11 - k = 12 - (k + 1) by omega]
theorem ltF_end {s : ByteArray} {k : Nat} (h : ¬ (k < s.size ∧ k ≤ 11)) : ltF s (12 - k) k = none := by
  cases hf : 12 - k with
  | zero => rfl
  | succ f => rw [ltF, if_neg h]
set_option maxHeartbeats 1000000 in
theorem letter_any (s : ByteArray) (w : World) (hs : s.size ≤ 1000000) : Calls Tryd.prog 40 #[.string s] w fun e w' => e = .returned (.int .i64 (ltI s)) ∧ w = w' := by
  go_enter Tryd.func40, Tryd.ntmps40
  go_wp2
  go_loop [3] (fun iv => ∃ k : Nat, 2 ≤ k ∧ k ≤ 12 ∧ iv = .int .i64 (k : Int) ∧ Hid (ltF s (12 - k) k = ltr s)) (fun iv => 12 - (intOf iv).toNat)
  case atStart => exact ⟨2, by omega, by omega, rfl, Lib.hid rfl⟩
  case round =>
    obtain ⟨k, h2, h12, rfl, hI⟩ := hrel
    by_cases hlt : k < s.size
    · by_cases h11 : k ≤ 11
      · have hk1 : (k : Int) < s.size := by omega
        have hk0 : (0 : Int) ≤ k := by omega
        have hk11 : (k : Int) ≤ 11 := by omega
        have hg := get_get s k hlt
        by_cases hc : 64 ≤ (s.get! k).toNat
        · have HF : Hid (ltI s = k) := Lib.hid (by unfold ltI; rw [← hI.out, ltF_hit hlt h11 hc])
          rw [hg] at hc
          have hc2 : (64 : Int) ≤ (s[k].toNat : Int) := by omega
          clear hg hI
          go_wp2
          go_ret
          rw [HF.out]; exact ⟨rfl, rfl⟩
        · have HF : Hid (ltF s (12 - (k + 1)) (k + 1) = ltr s) := Lib.hid (by rw [← ltF_go hlt h11 hc]; exact hI.out)
          rw [hg] at hc
          have hc2 : ¬ (64 : Int) ≤ (s[k].toNat : Int) := by omega
          clear hg hI
          go_wp2
          go_round
          case rel => exact ⟨k + 1, by omega, by omega, by go_num, HF⟩
          case measure => (simp [intOf]; try omega)
      · have HF : Hid (ltI s = -1) := Lib.hid (by unfold ltI; rw [← hI.out, ltF_end (by omega)])
        have hk1 : (k : Int) < s.size := by omega
        have hk11 : ¬ (k : Int) ≤ 11 := by omega
        clear hI
        go_wp2
        go_ret
        rw [HF.out]; exact ⟨rfl, rfl⟩
    · have HF : Hid (ltI s = -1) := Lib.hid (by unfold ltI; rw [← hI.out, ltF_end (by omega)])
      have hk1 : ¬ (k : Int) < s.size := by omega
      clear hI
      go_wp2
      go_ret
      rw [HF.out]; exact ⟨rfl, rfl⟩
/-- Which looks a text says, as pieces. -/
def lkP (body : ByteArray) : Ot × Bool := match lkF (bL body) with | some n => ((4, (n : Int), 0, mt), true) | none => (ot0, false)
theorem lkP_hit {body : ByteArray} {k : Nat} (hk : k < 8) (h : body = mkB (lkT (k : Int))) (hno : ∀ j : Nat, j < k → ¬ body = mkB (lkT (j : Int))) : lkP body = ((4, (k : Int), 0, mt), true) := by
  have e : lkF (bL body) = some k := by
    unfold lkF
    refine find_first hk (by rw [h, bL_mkB]; simp [lkT]) (fun j hj => ?_)
    have := hno j hj
    cases hb : (lkL.getD j [] == bL body)
    · rfl
    · exfalso
      apply this
      rw [← mkB_bL body, ← eq_of_beq hb]; rfl
  unfold lkP; rw [e]
theorem lkP_none {body : ByteArray} (hno : ∀ j : Nat, j < 8 → ¬ body = mkB (lkT (j : Int))) : lkP body = (ot0, false) := by
  have e : lkF (bL body) = none := by
    unfold lkF
    refine find_none (fun j hj => ?_)
    have := hno j hj
    cases hb : (lkL.getD j [] == bL body)
    · rfl
    · exfalso
      apply this
      rw [← mkB_bL body, ← eq_of_beq hb]; rfl
  unfold lkP; rw [e]
set_option maxHeartbeats 2000000 in
theorem looksOf_any (body : ByteArray) (w : World) (hs : body.size ≤ 1000000) : Calls Tryd.prog 61 #[.string body] w fun e w' => e = .returned (.tuple #[otV (lkP body).1, .bool (lkP body).2]) ∧ Below w.heap.size w w' := by
  have B0 := below_alloc w (.cells #[.int .i64 0, .int .i64 0, .int .i64 0, .string ⟨#[]⟩] 30)
  have LK := Lib.hid (fun n w h0 h1 => elooks_any n w h0 h1)
  go_enter Tryd.func61, Tryd.ntmps61
  go_wp2
  go_loop [5] (fun iv => ∃ k : Nat, k ≤ 8 ∧ iv = .int .i64 (k : Int) ∧ Hid (∀ j : Nat, j < k → ¬ body = mkB (lkT (j : Int)))) (fun iv => 8 - (intOf iv).toNat)
  case atStart => exact ⟨0, by omega, rfl, Lib.hid (fun j hj => absurd hj (by omega))⟩
  case round =>
    obtain ⟨k, h8, rfl, hI⟩ := hrel
    by_cases hlt : k < 8
    · have hk1 : (k : Int) < 8 := by omega
      have hk0 : (0 : Int) ≤ k := by omega
      have L := fun w => LK.out (k : Int) w hk0 (by omega)
      by_cases hc : body = mkB (lkT (k : Int))
      · have HF : Hid (lkP body = ((4, (k : Int), 0, mt), true)) := Lib.hid (lkP_hit hlt hc hI.out)
        rw [← hc] at L
        replace L := Lib.hid L
        obtain ⟨s1, s2⟩ := str_eq body
        clear hc hI
        go_wp2_with (go_at_call 65; refine (L.out _).mono ?_; rintro e w1 ⟨rfl, rfl⟩)
        refine bodyPost_ret (v := .tuple #[.agg #[.int .i64 4, .int .i64 k, .int .i64 0, .string ⟨#[]⟩], .bool true]) (by simp [results, Tryd.results61, go_sem]) rfl ?_
        rw [HF.out]
        exact ⟨rfl, below_alloc _ _⟩
      · have HF : Hid (∀ j : Nat, j < k + 1 → ¬ body = mkB (lkT (j : Int))) := Lib.hid (fun j hj => by
          rcases Nat.lt_succ_iff_lt_or_eq.1 hj with h | rfl
          · exact hI.out j h
          · exact hc)
        obtain ⟨s1, s2, s3⟩ := str_neq (fun e => hc e.symm)
        generalize mkB (lkT (k : Int)) = A at *
        replace L := Lib.hid L
        clear hc hI
        go_wp2_with (go_at_call 65; refine (L.out _).mono ?_; rintro e w1 ⟨rfl, rfl⟩)
        go_round
        case rel => exact ⟨k + 1, by omega, by go_num, HF⟩
        case measure => (simp [intOf]; try omega)
    · obtain rfl : k = 8 := by omega
      have HF : Hid (lkP body = (ot0, false)) := Lib.hid (lkP_none hI.out)
      clear hI
      go_wp2
      refine bodyPost_ret (v := .tuple #[.agg #[.int .i64 0, .int .i64 0, .int .i64 0, .string ⟨#[]⟩], .bool false]) (by simp [results, Tryd.results61, go_sem]) rfl ?_
      rw [HF.out]
      first | exact ⟨rfl, B0⟩ | exact ⟨rfl, below_alloc _ _⟩
end Go.Proofs.YtmnjafceenckpaaDoor
set_option linter.unusedVariables false
set_option linter.unusedSimpArgs false
namespace Go.Proofs.YtmnjafceenckpaaDoor
open Go.RowKit
theorem index_byte (l : List UInt8) (c : UInt8) : Lib.index l [c] = Lib.indexByte l c := by
  induction l with
  | nil => rfl
  | cons b l ih =>
    rw [Lib.index, Lib.indexByte, ih]
    by_cases h : b = c
    · subst h; simp [List.isPrefixOf]
    · have h2 : (b == c) = false := by simpa using h
      have h3 : ([c] : List UInt8).isPrefixOf (b :: l) = false := by simp [List.isPrefixOf]; exact fun e => h e.symm
      rw [h2, h3]
theorem indexByte_rng (l : List UInt8) (c : UInt8) : Lib.indexByte l c = -1 ∨ (0 ≤ Lib.indexByte l c ∧ Lib.indexByte l c < l.length) := by
  induction l with
  | nil => left; rfl
  | cons b l ih =>
    rw [Lib.indexByte]
    split
    · right; simp
    · split
      · left; rfl
      · rename_i h
        right
        rcases ih with h2 | h2
        · rw [h2] at h; simp at h
        · simp; omega
set_option maxHeartbeats 1000000 in
theorem cut1_any (s : ByteArray) (w : World) (hs : s.size ≤ 1000000) : Calls Tryd.prog 73 #[.string s, .string ⟨#[59]⟩] w fun e w' => e = .returned (.tuple #[.string (mkB (Lib.cut (bL s) [59]).1), .string (mkB (Lib.cut (bL s) [59]).2.1), .bool (Lib.cut (bL s) [59]).2.2]) ∧ ∃ n, w' = w.drewN n := by
  have IX := fun w => Tryd.stringslite_Index_one s 59 w
  have hr := indexByte_rng (bL s) 59
  rw [bL_len] at hr
  have hib : Lib.index (bL s) [59] = Lib.indexByte (bL s) 59 := index_byte _ _
  unfold Lib.cut
  rw [hib]
  have hbl : s.data.toList = bL s := rfl
  rw [hbl] at IX
  rcases hr with h | ⟨h0, h1⟩
  · rw [h] at IX ⊢
    rw [if_neg (by decide)]
    have hm : mkB (bL s) = s := mkB_bL s
    dsimp only
    rw [hm]
    replace IX := Lib.hid IX
    clear hib hbl h hm
    go_enter Tryd.func73, Tryd.ntmps73
    go_wp2_with (go_at_call 78; refine (IX.out _).mono ?_; rintro e w1 ⟨rfl, rfl⟩)
    refine bodyPost_ret (v := .tuple #[.string s, .string ⟨#[]⟩, .bool false]) (by simp [results, Tryd.results73, go_sem]) rfl ⟨rfl, 0, rfl⟩
  · obtain ⟨i, hi⟩ := Int.eq_ofNat_of_zero_le h0
    rw [hi] at IX h1 ⊢
    rw [if_pos (by omega)]
    dsimp only
    have e1 : mkB ((bL s).take i) = s.extract 0 i := bL_inj (by rw [bL_ext, bL_mkB, List.drop_zero])
    have e2 : mkB ((bL s).drop (i + 1)) = s.extract (i + 1) s.size := bL_inj (by rw [bL_ext, bL_mkB, ← bL_len, List.take_length])
    show Calls _ _ _ _ fun e w' => e = .returned (.tuple #[.string (mkB ((bL s).take i)), .string (mkB ((bL s).drop (i + 1))), .bool true]) ∧ ∃ n, w' = w.drewN n
    rw [e1, e2]
    have hi1 : (i : Int) < s.size := h1
    have hi2 : i < s.size := by omega
    have hi3 : i + 1 ≤ s.size := by omega
    replace IX := Lib.hid IX
    clear hib hbl hi e1 e2 h1 h0
    go_enter Tryd.func73, Tryd.ntmps73
    go_wp2_with (go_at_call 78; refine (IX.out _).mono ?_; rintro e w1 ⟨rfl, rfl⟩)
    have hw1 : IntKind.i64.wrap ((i : Int) + 1) = (i : Int) + 1 := by rw [IntKind.wrap_i64]; omega
    have hw2 : (0 : Int) ≤ (i : Int) + 1 := by omega
    have hw3 : ((i : Int) + 1).toNat = i + 1 := by omega
    have hw4 : (i : Int) + 1 ≤ s.size := by omega
    go_quiet (fail)
    clear hw1 hw3
    go_wp2
    refine bodyPost_ret (v := .tuple #[.string (s.extract 0 i), .string (s.extract (i + 1) s.size), .bool true]) (by simp [results, Tryd.results73, go_sem]) rfl ⟨rfl, _, rfl⟩
set_option maxHeartbeats 1000000 in
theorem cut_any (s : ByteArray) (w : World) (hs : s.size ≤ 1000000) : Calls Tryd.prog 59 #[.string s, .string ⟨#[59]⟩] w fun e w' => e = .returned (.tuple #[.string (mkB (Lib.cut (bL s) [59]).1), .string (mkB (Lib.cut (bL s) [59]).2.1), .bool (Lib.cut (bL s) [59]).2.2]) ∧ ∃ n, w' = w.drewN n := by
  have C := fun w => cut1_any s w hs
  generalize mkB (Lib.cut (bL s) [59]).1 = x at *
  generalize mkB (Lib.cut (bL s) [59]).2.1 = y at *
  generalize (Lib.cut (bL s) [59]).2.2 = z at *
  replace C := Lib.hid C
  go_enter Tryd.func59, Tryd.ntmps59
  go_wp2_with (go_at_call 73; refine (C.out _).mono ?_; rintro e w1 ⟨rfl, n, rfl⟩)
  refine bodyPost_ret (v := .tuple #[.string x, .string y, .bool z]) (by simp [results, Tryd.results59, go_sem]) rfl ⟨rfl, n, rfl⟩
end Go.Proofs.YtmnjafceenckpaaDoor
set_option linter.unusedVariables false
set_option linter.unusedSimpArgs false
namespace Go.Proofs.YtmnjafceenckpaaDoor
open Go.RowKit
theorem ecut_len (l : List UInt8) : (Lib.cut l [59]).1.length ≤ l.length ∧ (Lib.cut l [59]).2.1.length ≤ l.length := by
  unfold Lib.cut
  split
  · simp; omega
  · simp
theorem und_or (l : List UInt8) : undE l = 0 ∨ undE l = 6 := by
  unfold undE; split
  · exact Or.inl rfl
  · exact Or.inr rfl
/-- Four stores into a piece's block. -/
theorem out_set {w : World} {b : Nat} {x0 x1 x2 x3 : Value} {T : TypeId} {f : Nat × Nat} (h : w.heap[b]? = some (.cells #[x0, x1, x2, x3] T f)) (k n m : Int) (t : ByteArray) :
    ((((w.setCell ⟨b, 0, none⟩ (.int .i64 k)).setCell ⟨b, 1, none⟩ (.int .i64 n)).setCell ⟨b, 2, none⟩ (.int .i64 m)).setCell ⟨b, 3, none⟩ (.string t)).heap[b]? = some (.cells #[.int .i64 k, .int .i64 n, .int .i64 m, .string t] T f) :=
  blk_set (blk_set (blk_set (blk_set h 0 _) 1 _) 2 _) 3 _
theorem out_set_below (w w0 : World) (b : Nat) (v0 v1 v2 v3 : Value) (hb : w0.heap.size ≤ b) (h : Below w0.heap.size w0 w) :
    Below w0.heap.size w0 ((((w.setCell ⟨b, 0, none⟩ v0).setCell ⟨b, 1, none⟩ v1).setCell ⟨b, 2, none⟩ v2).setCell ⟨b, 3, none⟩ v3) :=
  (((h.setCell (p := ⟨b, 0, none⟩) hb v0).setCell (p := ⟨b, 1, none⟩) hb v1).setCell (p := ⟨b, 2, none⟩) hb v2).setCell (p := ⟨b, 3, none⟩) hb v3
set_option maxHeartbeats 2000000 in
theorem control_H (body : ByteArray) (w : World) (hs : body.size ≤ 900000) : Calls Tryd.prog 41 #[.string body, .int .u8 72] w fun e w' => e = .returned (.tuple #[otV (ctl body 72).1, .bool (ctl body 72).2]) ∧ Below w.heap.size w w' := by
  have B0 := below_alloc w (.cells #[.int .i64 0, .int .i64 0, .int .i64 0, .string ⟨#[]⟩] 30)
  have CU := fun w => cut_any body w (by omega)
  have hl := ecut_len (bL body)
  rw [bL_len] at hl
  have hc : ctl body 72 = ((1, undR (Lib.cut (bL body) [59]).1, undR (Lib.cut (bL body) [59]).2.1, mt), decide (undE (Lib.cut (bL body) [59]).1 = 0) && decide (undE (Lib.cut (bL body) [59]).2.1 = 0)) := rfl
  rw [hc]
  clear hc
  generalize (Lib.cut (bL body) [59]).1 = a at *
  generalize (Lib.cut (bL body) [59]).2.1 = b at *
  generalize (Lib.cut (bL body) [59]).2.2 = z at *
  have UA : ∀ w, Calls Tryd.prog 60 #[.string (mkB a)] w (UndPost a w) := fun w => undec_any a w (by omega)
  have UB : ∀ w, Calls Tryd.prog 60 #[.string (mkB b)] w (UndPost b w) := fun w => undec_any b w (by omega)
  have ha := und_or a
  have hb := und_or b
  have hab : mkB a = mkB b → a = b := fun h => by rw [← bL_mkB a, h, bL_mkB]
  unfold UndPost at UA UB
  generalize undR a = ra at *
  generalize undR b = rb at *
  generalize undE a = ea at *
  generalize undE b = eb at *
  generalize mkB a = sa at *
  generalize mkB b = sb at *
  replace CU := Lib.hid CU; replace UA := Lib.hid UA; replace UB := Lib.hid UB
  clear hl hab
  rcases ha with rfl | rfl
  all_goals
    rcases hb with rfl | rfl
    all_goals
      go_enter Tryd.func41, Tryd.ntmps41
      go_wp2_with (fail)
      go_at_call 59
      refine (CU.out _).mono ?_
      rintro e w1 ⟨rfl, n, rfl⟩
      go_wp2_with (fail)
      go_at_call 60
      refine (UA.out _).mono ?_
      rintro e w2 ⟨rfl, hb2⟩
      go_wp2_with (fail)
      go_at_call 60
      refine (UB.out _).mono ?_
      rintro e w3 ⟨rfl, hb3⟩
      have hq := blk_below (blk_below (show ((w.alloc (.cells #[.int .i64 0, .int .i64 0, .int .i64 0, .string ⟨#[]⟩] 30)).drewN n).heap[w.heap.size]? = some (.cells #[.int .i64 0, .int .i64 0, .int .i64 0, .string ⟨#[]⟩] 30 (0, 0)) from heap_alloc_new w _) hb2) hb3
      have N3 := seqB (seqB (drewN_below B0 n) hb2) hb3
      have zf := fun i => frozen_of_row _ w.heap.size i _ _ hq
      have zz := fun i => cell_of_row _ _ i _ _ _ hq
      have z0 := zz 0; have z1 := zz 1; have z2 := zz 2; have z3 := zz 3
      have hlt := blk_lt hq
      have hfin := Lib.hid (out_set hq 1 ra rb ⟨#[]⟩)
      have NF := Lib.hid (out_set_below w3 w w.heap.size (.int .i64 1) (.int .i64 ra) (.int .i64 rb) (.string ⟨#[]⟩) (Nat.le_refl _) N3)
      clear zz hq hb2 hb3
      dsimp at z0 z1 z2 z3
      go_wp2
      generalize hWF : World.setCell _ _ _ = WF
      have hqf : WF.heap[w.heap.size]? = some (.cells #[.int .i64 1, .int .i64 ra, .int .i64 rb, .string ⟨#[]⟩] 30 (0, 0)) := by rw [← hWF]; exact hfin.out
      have hN : Below w.heap.size w WF := by rw [← hWF]; exact NF.out
      have y := fun i => cell_of_row _ _ i _ _ _ hqf
      have y0 := y 0; have y1 := y 1; have y2 := y 2; have y3 := y 3
      dsimp at y0 y1 y2 y3
      clear y hqf hWF
      refine bodyPost_ret (v := .tuple #[.agg #[.int .i64 1, .int .i64 ra, .int .i64 rb, .string ⟨#[]⟩], .bool _]) (by simp [results, Tryd.results41, go_sem, y0, y1, y2, y3]; rfl) rfl ?_
      exact ⟨rfl, hN⟩
set_option maxHeartbeats 2000000 in
theorem control_74 (body : ByteArray) (w : World) : Calls Tryd.prog 41 #[.string body, .int .u8 74] w fun e w' => e = .returned (.tuple #[otV (ctl body 74).1, .bool (ctl body 74).2]) ∧ Below w.heap.size w w' := by
  have B0 := below_alloc w (.cells #[.int .i64 0, .int .i64 0, .int .i64 0, .string ⟨#[]⟩] 30)
  go_enter Tryd.func41, Tryd.ntmps41
  go_wp2
  refine bodyPost_ret (v := .tuple #[.agg #[.int .i64 2, .int .i64 0, .int .i64 0, .string ⟨#[]⟩], .bool true]) (by simp [results, Tryd.results41, go_sem]) rfl ?_
  first | exact ⟨rfl, below_alloc _ _⟩ | exact ⟨rfl, B0⟩
set_option maxHeartbeats 2000000 in
theorem control_75 (body : ByteArray) (w : World) : Calls Tryd.prog 41 #[.string body, .int .u8 75] w fun e w' => e = .returned (.tuple #[otV (ctl body 75).1, .bool (ctl body 75).2]) ∧ Below w.heap.size w w' := by
  have B0 := below_alloc w (.cells #[.int .i64 0, .int .i64 0, .int .i64 0, .string ⟨#[]⟩] 30)
  go_enter Tryd.func41, Tryd.ntmps41
  go_wp2
  refine bodyPost_ret (v := .tuple #[.agg #[.int .i64 3, .int .i64 0, .int .i64 0, .string ⟨#[]⟩], .bool true]) (by simp [results, Tryd.results41, go_sem]) rfl ?_
  first | exact ⟨rfl, below_alloc _ _⟩ | exact ⟨rfl, B0⟩
set_option maxHeartbeats 2000000 in
theorem control_104 (body : ByteArray) (w : World) : Calls Tryd.prog 41 #[.string body, .int .u8 104] w fun e w' => e = .returned (.tuple #[otV (ctl body 104).1, .bool (ctl body 104).2]) ∧ Below w.heap.size w w' := by
  have B0 := below_alloc w (.cells #[.int .i64 0, .int .i64 0, .int .i64 0, .string ⟨#[]⟩] 30)
  go_enter Tryd.func41, Tryd.ntmps41
  go_wp2
  refine bodyPost_ret (v := .tuple #[.agg #[.int .i64 5, .int .i64 1, .int .i64 0, .string ⟨#[]⟩], .bool true]) (by simp [results, Tryd.results41, go_sem]) rfl ?_
  first | exact ⟨rfl, below_alloc _ _⟩ | exact ⟨rfl, B0⟩
set_option maxHeartbeats 2000000 in
theorem control_108 (body : ByteArray) (w : World) : Calls Tryd.prog 41 #[.string body, .int .u8 108] w fun e w' => e = .returned (.tuple #[otV (ctl body 108).1, .bool (ctl body 108).2]) ∧ Below w.heap.size w w' := by
  have B0 := below_alloc w (.cells #[.int .i64 0, .int .i64 0, .int .i64 0, .string ⟨#[]⟩] 30)
  go_enter Tryd.func41, Tryd.ntmps41
  go_wp2
  refine bodyPost_ret (v := .tuple #[.agg #[.int .i64 5, .int .i64 0, .int .i64 0, .string ⟨#[]⟩], .bool true]) (by simp [results, Tryd.results41, go_sem]) rfl ?_
  first | exact ⟨rfl, below_alloc _ _⟩ | exact ⟨rfl, B0⟩
set_option maxHeartbeats 2000000 in
theorem control_m (body : ByteArray) (w : World) (hs : body.size ≤ 900000) : Calls Tryd.prog 41 #[.string body, .int .u8 109] w fun e w' => e = .returned (.tuple #[otV (ctl body 109).1, .bool (ctl body 109).2]) ∧ Below w.heap.size w w' := by
  have B0 := below_alloc w (.cells #[.int .i64 0, .int .i64 0, .int .i64 0, .string ⟨#[]⟩] 30)
  have LO := fun w => looksOf_any body w (by omega)
  have hc : ctl body 109 = lkP body := rfl
  rw [hc]
  clear hc
  obtain ⟨k, n, m, t, b, hp⟩ : ∃ k n m t b, lkP body = ((k, n, m, t), b) := ⟨_, _, _, _, _, rfl⟩
  rw [hp] at LO ⊢
  have LO' : ∀ w, Calls Tryd.prog 61 #[.string body] w fun e w' => e = .returned (.tuple #[.agg #[.int .i64 k, .int .i64 n, .int .i64 m, .string t], .bool b]) ∧ Below w.heap.size w w' := LO
  replace LO' := Lib.hid LO'
  clear LO hp
  go_enter Tryd.func41, Tryd.ntmps41
  go_wp2_with (fail)
  go_at_call 61
  refine (LO'.out _).mono ?_
  rintro e w3 ⟨rfl, hb3⟩
  have hq := blk_below (heap_alloc_new w (.cells #[.int .i64 0, .int .i64 0, .int .i64 0, .string ⟨#[]⟩] 30)) hb3
  have N3 := seqB B0 hb3
  have zf := fun i => frozen_of_row _ w.heap.size i _ _ hq
  have zz := fun i => cell_of_row _ _ i _ _ _ hq
  have z0 := zz 0; have z1 := zz 1; have z2 := zz 2; have z3 := zz 3
  have hlt := blk_lt hq
  have hfin := Lib.hid (out_set hq k n m t)
  have NF := Lib.hid (out_set_below w3 w w.heap.size (.int .i64 k) (.int .i64 n) (.int .i64 m) (.string t) (Nat.le_refl _) N3)
  clear zz hq hb3
  dsimp at z0 z1 z2 z3
  go_wp2
  generalize hWF : World.setCell _ _ _ = WF
  have hqf : WF.heap[w.heap.size]? = some (.cells #[.int .i64 k, .int .i64 n, .int .i64 m, .string t] 30 (0, 0)) := by rw [← hWF]; exact hfin.out
  have hN : Below w.heap.size w WF := by rw [← hWF]; exact NF.out
  have y := fun i => cell_of_row _ _ i _ _ _ hqf
  have y0 := y 0; have y1 := y 1; have y2 := y 2; have y3 := y 3
  dsimp at y0 y1 y2 y3
  clear y hqf hWF
  refine bodyPost_ret (v := .tuple #[.agg #[.int .i64 k, .int .i64 n, .int .i64 m, .string t], .bool b]) (by simp [results, Tryd.results41, go_sem, y0, y1, y2, y3]) rfl ?_
  exact ⟨rfl, hN⟩
set_option maxHeartbeats 2000000 in
theorem control_x (body : ByteArray) (c : Nat) (w : World) (h1 : c ≠ 72) (h2 : c ≠ 74) (h3 : c ≠ 75) (h4 : c ≠ 109) (h5 : c ≠ 104) (h6 : c ≠ 108) : Calls Tryd.prog 41 #[.string body, .int .u8 c] w fun e w' => e = .returned (.tuple #[otV (ctl body c).1, .bool (ctl body c).2]) ∧ Below w.heap.size w w' := by
  have B0 := below_alloc w (.cells #[.int .i64 0, .int .i64 0, .int .i64 0, .string ⟨#[]⟩] 30)
  have hc : ctl body c = (ot0, false) := by unfold ctl; rw [if_neg h1, if_neg h2, if_neg h3, if_neg h4, if_neg h5, if_neg h6]
  rw [hc]
  have g1 : ¬ (c : Int) = 72 := by omega
  have g2 : ¬ (c : Int) = 74 := by omega
  have g3 : ¬ (c : Int) = 75 := by omega
  have g4 : ¬ (c : Int) = 109 := by omega
  have g5 : ¬ (c : Int) = 104 := by omega
  have g6 : ¬ (c : Int) = 108 := by omega
  clear hc h1 h2 h3 h4 h5 h6
  go_enter Tryd.func41, Tryd.ntmps41
  go_wp2
  refine bodyPost_ret (v := .tuple #[.agg #[.int .i64 0, .int .i64 0, .int .i64 0, .string ⟨#[]⟩], .bool false]) (by simp [results, Tryd.results41, go_sem]) rfl ?_
  first | exact ⟨rfl, below_alloc _ _⟩ | exact ⟨rfl, B0⟩
theorem control_any (body : ByteArray) (c : Nat) (w : World) (hs : body.size ≤ 900000) : Calls Tryd.prog 41 #[.string body, .int .u8 c] w fun e w' => e = .returned (.tuple #[otV (ctl body c).1, .bool (ctl body c).2]) ∧ Below w.heap.size w w' := by
  by_cases h1 : c = 72
  · subst h1; exact control_H body w hs
  by_cases h2 : c = 74
  · subst h2; exact control_74 body w
  by_cases h3 : c = 75
  · subst h3; exact control_75 body w
  by_cases h4 : c = 109
  · subst h4; exact control_m body w hs
  by_cases h5 : c = 104
  · subst h5; exact control_104 body w
  by_cases h6 : c = 108
  · subst h6; exact control_108 body w
  exact control_x body c w h1 h2 h3 h4 h5 h6
end Go.Proofs.YtmnjafceenckpaaDoor
