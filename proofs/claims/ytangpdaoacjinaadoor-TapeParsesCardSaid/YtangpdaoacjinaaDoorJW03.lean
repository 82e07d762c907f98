/-
  Joined: C5 W9 W10 E1 E2 E3 Ky0 E4.
-/
import Derived.Test.YtangpdaoacjinaaDoorJW01
import Derived.Test.YtangpdaoacjinaaDoorJW02
import Derived.Test.YtangpdaoacjinaaDoorRows
import Derived.Test.YtangpdaoacjinaaDoorShelf
import Derived.Lib.OthersKept
import Derived.Handy
import Derived.WalkSpells
import Derived.WalkLawsBesides
import Derived.Laws.BytesArg
set_option maxRecDepth 100000
set_option linter.unusedVariables false
set_option linter.unusedSimpArgs false
namespace Go.Proofs.YtangpdaoacjinaaDoor
set_option linter.unusedVariables false
set_option linter.unusedSimpArgs false
open Go.RowKit
/-- The reference's: the class of code points that are told; 0: none of these. -/
def oddR (v : Int) : Int := if v ≤ 31 then 4 else if v = 127 then 5 else if 128 ≤ v ∧ v ≤ 159 then 6 else if wthn lSpace v then 10 else if wthn lZero v then 8 else if wthn lBidi v then 7 else if wthn lMark v then 9 else if wthn lOther v then 11 else 0
set_option maxRecDepth 100000 in
set_option maxHeartbeats 4000000 in
theorem odd_any (v : Int) (w : World) : Calls Tryd.prog 271 #[.int .i64 v] w fun e w' => e = .returned (.int .i64 (oddR v)) ∧ Below w.heap.size w w' := by
  rcases (show v ≤ 31 ∨ v = 127 ∨ (128 ≤ v ∧ v ≤ 159) ∨ (31 < v ∧ v < 127) ∨ 159 < v by omega) with h | rfl | ⟨h, h'⟩ | h | h
  · have Hd : Hid (oddR v = 4) := Lib.hid (by unfold oddR; rw [if_pos h])
    go_enter Tryd.func271, Tryd.ntmps271
    go_wp2
    go_ret
    rw [Hd.out]; exact ⟨rfl, Below.refl _ _⟩
  · have Hd : Hid (oddR 127 = 5) := Lib.hid (by unfold oddR; rw [if_neg (by omega), if_pos rfl])
    go_enter Tryd.func271, Tryd.ntmps271
    go_wp2
    go_ret
    rw [Hd.out]; exact ⟨rfl, Below.refl _ _⟩
  · have Hd : Hid (oddR v = 6) := Lib.hid (by unfold oddR; rw [if_neg (by omega), if_neg (by omega), if_pos (by omega)])
    have h7 : (v == 127) = false := by rw [beq_eq_false_iff_ne]; omega
    go_enter Tryd.func271, Tryd.ntmps271
    go_wp2
    go_ret
    rw [Hd.out]; exact ⟨rfl, Below.refl _ _⟩
  all_goals
    have h7 : (v == 127) = false := by rw [beq_eq_false_iff_ne]; omega
    have ho : oddR v = if wthn lSpace v then 10 else if wthn lZero v then 8 else if wthn lBidi v then 7 else if wthn lMark v then 9 else if wthn lOther v then 11 else 0 := by unfold oddR; rw [if_neg (by omega), if_neg (by omega), if_neg (by omega)]
    have w1 := w_lSpace v
    have w2 := w_lZero v
    have w3 := w_lBidi v
    have w4 := w_lMark v
    have w5 := w_lOther v
    generalize wthn lSpace v = b1 at *
    generalize wthn lZero v = b2 at *
    generalize wthn lBidi v = b3 at *
    generalize wthn lMark v = b4 at *
    generalize wthn lOther v = b5 at *
    have W1 := Lib.hid w1; have W2 := Lib.hid w2; have W3 := Lib.hid w3; have W4 := Lib.hid w4; have W5 := Lib.hid w5; have Ho := Lib.hid ho
    clear w1 w2 w3 w4 w5 ho
    cases b1
    case' false => cases b2
    case' false.false => cases b3
    case' false.false.false => cases b4
    case' false.false.false.false => cases b5
    all_goals
      go_enter Tryd.func271, Tryd.ntmps271
      go_wp2_with (first | (go_at_call 273; (with_reducible refine (W1.out _ _ (by simp)).mono ?_); rintro e w' ⟨rfl, rfl⟩) | (go_at_call 273; (with_reducible refine (W2.out _ _ (by simp)).mono ?_); rintro e w' ⟨rfl, rfl⟩) | (go_at_call 273; (with_reducible refine (W3.out _ _ (by simp)).mono ?_); rintro e w' ⟨rfl, rfl⟩) | (go_at_call 273; (with_reducible refine (W4.out _ _ (by simp)).mono ?_); rintro e w' ⟨rfl, rfl⟩) | (go_at_call 273; (with_reducible refine (W5.out _ _ (by simp)).mono ?_); rintro e w' ⟨rfl, rfl⟩))
      go_ret
      rw [Ho.out]
      exact ⟨rfl, by go_grown⟩
end Go.Proofs.YtangpdaoacjinaaDoor
namespace Go.Proofs.YtangpdaoacjinaaDoor
open Go.RowKit
theorem und_range (l : List UInt8) : -9223372036854775808 ≤ undR l ∧ undR l ≤ 9223372036854775807 := by
  unfold undR undV
  split
  · split
    · exact rng_wrap _
    · exact rng_wrap _
  · omega
theorem und_cases (l : List UInt8) : (undE l = 0 ∧ decS (undR l) = l) ∨ (undE l = 6 ∧ undR l = 0) := by
  by_cases h : undOk l = true
  · left
    have e := und_yes h
    refine ⟨e.2, ?_⟩
    rw [e.1]
    unfold undOk at h
    rw [Bool.and_eq_true] at h
    simpa using h.2
  · right
    have e := und_no (by simpa using h)
    exact ⟨e.2, e.1⟩
end Go.Proofs.YtangpdaoacjinaaDoor
namespace Go.Proofs.YtangpdaoacjinaaDoor
open Go.RowKit
theorem lst_low (l : Int) : lowI (highI l 1) 16 = lst l := by unfold lowI highI lst; split <;> split <;> (try split) <;> (try split) <;> omega
theorem hexS_pos (n l : Int) (h : 0 ≤ n) : hexS n l = hexN n (lst l) := by
  have := lst_rng l
  unfold hexS hexN; rw [if_neg (by omega), show (max (lst l) 1).toNat = (lst l).toNat by omega]
theorem hexS_neg (n l : Int) (h : n < 0) : hexS n l = [] := by unfold hexS; rw [if_pos h]
theorem hexN_ne (n l : Int) : hexN n l ≠ [] := tell_ne 16 19 _ _ (Or.inl (by omega))
theorem uh_hex (n l : Int) (h : 0 ≤ n) (h1 : n ≤ 9223372036854775807) (hl : (hexN n l).length ≤ 15) : uhR (hexN n l) = n ∧ uhE (hexN n l) = 0 := by
  have e : readOk 16 ⟨(hexN n l).toArray⟩ = true := readOk_tell 16 19 _ _ (by omega) (by omega) (Or.inl (by omega))
  have e2 : readVal 16 ⟨(hexN n l).toArray⟩ = n := by
    unfold hexN
    rw [readVal_tell 16 20 _ _ (by omega) (by omega) (by omega) (by omega)]; omega
  have ho : uhOk (hexN n l) = true := by unfold uhOk; rw [e, decide_eq_true hl]; rfl
  unfold uhR uhE
  rw [ho, e2]
  exact ⟨by rw [if_pos rfl]; unfold wrap64; omega, rfl⟩
theorem uh_cases (l : List UInt8) : (0 ≤ unhexR l ∧ uhE l = 0 ∧ uhR l = unhexR l) ∨ (unhexR l < 0 ∧ uhE l = 6 ∧ uhR l = 0) := by
  have hne : (⟨l.toArray⟩ : ByteArray).data.toList = l := by simp
  by_cases h : l.length = 0 ∨ 15 < l.length ∨ digs 16 l = false
  · right
    have ho : uhOk l = false := by
      unfold uhOk readOk
      rw [hne, ByteArray.toList_eq, hne]
      rcases h with h | h | h
      · cases l with
        | nil => simp
        | cons => simp at h
      · rw [decide_eq_false (by omega)]; simp
      · rw [h]; simp
    refine ⟨?_, ?_, ?_⟩
    · unfold unhexR; rw [if_pos h]; omega
    · simp [uhE, ho]
    · simp [uhR, ho]
  · left
    have hd : digs 16 l = true := by
      cases hx : digs 16 l with
      | true => rfl
      | false => exact absurd (Or.inr (Or.inr hx)) h
    have ⟨b1, b2⟩ := dv_bound 16 l hd
    have b3 := pow16 l.length (by omega)
    have b4 : ((16 : Nat) : Int) ^ l.length = (16 : Int) ^ l.length := rfl
    rw [b4] at b2
    have hu : unhexR l = dv 16 l := by unfold unhexR; rw [if_neg h]
    have ho : uhOk l = true := by
      unfold uhOk readOk
      rw [hne, ByteArray.toList_eq, hne, hd, decide_eq_true (by omega)]
      cases l with
      | nil => simp at h
      | cons => rfl
    have hv : readVal 16 ⟨l.toArray⟩ = dv 16 l := by
      unfold readVal; rw [hne, hd, if_pos rfl, rdv_dv, wu]; omega
    refine ⟨by omega, by simp [uhE, ho], ?_⟩
    unfold uhR
    rw [ho, if_pos rfl, hv, hu]; unfold wrap64; omega
theorem unhexR_rng (l : List UInt8) : -1 ≤ unhexR l := by
  rcases uh_cases l with h | h
  · omega
  · by_cases h2 : l.length = 0 ∨ 15 < l.length ∨ digs 16 l = false
    · unfold unhexR; rw [if_pos h2]; omega
    · have hd : digs 16 l = true := by
        cases hx : digs 16 l with
        | true => rfl
        | false => exact absurd (Or.inr (Or.inr hx)) h2
      have := (dv_bound 16 l hd).1
      unfold unhexR at *; rw [if_neg h2] at *; omega
end Go.Proofs.YtangpdaoacjinaaDoor
set_option linter.unusedVariables false
set_option linter.unusedSimpArgs false
namespace Go.Proofs.YtangpdaoacjinaaDoor
open Go.RowKit
theorem ret_boolU {a b : Bool} (h : a = b) : Ending.returned (.bool a) = .returned (.bool b) := by rw [h]
theorem infoByte : (Tryd.prog.info? 5).map (fun i => (i.zero, i.size, i.bytes)) = some (some (.int .u8 0), 1, 1) := by kernel_rfl
/-- A row of ints that can be read. -/
def Row (w : World) (a : Option Addr) (l : List Int) : Prop := ∀ j, j < l.length → ∃ b off, a = some ⟨b, off, none⟩ ∧ w.cell? ⟨b, off + j, none⟩ = some (.int .i64 (l.getD j 0)) ∧ b < w.heap.size
theorem Row.below {w w' : World} {a : Option Addr} {l : List Int} (h : Row w a l) (hb : Below w.heap.size w w') : Row w' a l := by
  intro j hj
  obtain ⟨b, off, ha, hc, hlt⟩ := h j hj
  exact ⟨b, off, ha, (hb.cell (p := ⟨b, off + j, none⟩) hlt).trans hc, Nat.lt_of_lt_of_le hlt hb.size⟩
theorem stray_any (v : Int) (w : World) : Calls Tryd.prog 189 #[.int .i64 v] w fun e w' => e = .returned (.bool (stB v)) ∧ w' = w := by
  have e1 := stB_iff v
  by_cases h1 : 1114240 ≤ v
  · by_cases h2 : v ≤ 1114367
    · have H := Lib.hid (e1.2 ⟨h1, h2⟩); clear e1
      go_enter Tryd.func189, Tryd.ntmps189
      go_wp2
      go_ret
      exact ⟨ret_boolU H.out.symm, rfl⟩
    · have H : Hid (stB v = false) := Lib.hid (by rw [← Bool.not_eq_true]; intro h; exact h2 (e1.1 h).2); clear e1
      go_enter Tryd.func189, Tryd.ntmps189
      go_wp2
      go_ret
      exact ⟨ret_boolU H.out.symm, rfl⟩
  · have H : Hid (stB v = false) := Lib.hid (by rw [← Bool.not_eq_true]; intro h; exact h1 (e1.1 h).1); clear e1
    go_enter Tryd.func189, Tryd.ntmps189
    go_wp2
    go_ret
    exact ⟨ret_boolU H.out.symm, rfl⟩
theorem point_any (v : Int) (w : World) : Calls Tryd.prog 187 #[.int .i64 v] w fun e w' => e = .returned (.bool (ptB v)) ∧ w' = w := by
  have e1 := ptB_iff v
  have hf : ¬ ((0 ≤ v ∧ v < 55296) ∨ (57343 < v ∧ v ≤ 1114111)) → ptB v = false := by intro h; rw [← Bool.not_eq_true]; intro h2; exact h (e1.1 h2)
  by_cases h1 : 0 ≤ v
  · by_cases h2 : v ≤ 1114111
    · by_cases h3 : v < 55296
      · have H := Lib.hid (e1.2 (Or.inl ⟨h1, h3⟩)); clear e1 hf
        go_enter Tryd.func187, Tryd.ntmps187
        go_wp2
        go_ret
        exact ⟨ret_boolU H.out.symm, rfl⟩
      · by_cases h4 : 57343 < v
        · have H := Lib.hid (e1.2 (Or.inr ⟨h4, h2⟩)); clear e1 hf
          go_enter Tryd.func187, Tryd.ntmps187
          go_wp2
          go_ret
          exact ⟨ret_boolU H.out.symm, rfl⟩
        · have h5 : decide (57343 < v) = false := decide_eq_false h4
          have H := Lib.hid (hf (by omega)); clear e1 hf
          go_enter Tryd.func187, Tryd.ntmps187
          go_wp2
          go_ret
          exact ⟨ret_boolU H.out.symm, rfl⟩
    · have H := Lib.hid (hf (by omega)); clear e1 hf
      go_enter Tryd.func187, Tryd.ntmps187
      go_wp2
      go_ret
      exact ⟨ret_boolU H.out.symm, rfl⟩
  · have H := Lib.hid (hf (by omega)); clear e1 hf
    go_enter Tryd.func187, Tryd.ntmps187
    go_wp2
    go_ret
    exact ⟨ret_boolU H.out.symm, rfl⟩
def rightB (v : Int) : Bool := ptB v || stB v
theorem right_any (v : Int) (w : World) : Calls Tryd.prog 204 #[.int .i64 v] w fun e w' => e = .returned (.bool (rightB v)) ∧ w' = w := by
  have P := Lib.hid (fun w => point_any v w)
  have S := Lib.hid (fun w => stray_any v w)
  have e0 : rightB v = (ptB v || stB v) := rfl
  generalize stB v = s at *
  cases h : ptB v
  · rw [h] at P e0
    have H := Lib.hid e0; clear e0 h
    go_enter Tryd.func204, Tryd.ntmps204
    go_wp2_with (first
      | (go_at_call 187; refine (P.out _).mono ?_; rintro e w1 ⟨rfl, rfl⟩)
      | (go_at_call 189; refine (S.out _).mono ?_; rintro e w1 ⟨rfl, rfl⟩))
    go_ret
    exact ⟨ret_boolU (H.out.trans (Bool.false_or _)).symm, rfl⟩
  · rw [h] at P e0
    have H := Lib.hid e0; clear e0 h
    go_enter Tryd.func204, Tryd.ntmps204
    go_wp2_with (first
      | (go_at_call 187; refine (P.out _).mono ?_; rintro e w1 ⟨rfl, rfl⟩)
      | (go_at_call 189; refine (S.out _).mono ?_; rintro e w1 ⟨rfl, rfl⟩))
    go_ret
    exact ⟨ret_boolU (H.out.trans (Bool.true_or _)).symm, rfl⟩
theorem right_ref (v : Int) (w : World) : Calls Tryd.prog 255 #[.int .i64 v] w fun e w' => e = .returned (.bool (rightB v)) ∧ w' = w := by
  have e1 : rightB v = true ↔ ((0 ≤ v ∧ v < 55296) ∨ (57343 < v ∧ v ≤ 1114111)) ∨ (1114240 ≤ v ∧ v ≤ 1114367) := by unfold rightB; rw [Bool.or_eq_true, ptB_iff, stB_iff]
  have hf : ¬ (((0 ≤ v ∧ v < 55296) ∨ (57343 < v ∧ v ≤ 1114111)) ∨ (1114240 ≤ v ∧ v ≤ 1114367)) → rightB v = false := by intro h; rw [← Bool.not_eq_true]; intro h2; exact h (e1.1 h2)
  have E : Hid (∀ b : Bool, rightB v = b → (Calls Tryd.prog 255 #[.int .i64 v] w fun e w' => e = .returned (.bool b) ∧ w' = w) → (Calls Tryd.prog 255 #[.int .i64 v] w fun e w' => e = .returned (.bool (rightB v)) ∧ w' = w)) := Lib.hid (fun b h k => by rw [h]; exact k)
  rcases (by omega : v < 0 ∨ (0 ≤ v ∧ v < 55296) ∨ (55296 ≤ v ∧ v ≤ 57343) ∨ (57343 < v ∧ v ≤ 1114111) ∨ (1114111 < v ∧ v < 1114240) ∨ (1114240 ≤ v ∧ v ≤ 1114367) ∨ 1114367 < v) with h | ⟨h, h'⟩ | ⟨h, h'⟩ | ⟨h, h'⟩ | ⟨h, h'⟩ | ⟨h, h'⟩ | h
  · refine E.out _ (hf (by omega)) ?_; clear e1 hf E
    go_enter Tryd.func255, Tryd.ntmps255
    go_wp2
    go_ret
    exact ⟨rfl, rfl⟩
  · refine E.out _ (e1.2 (by omega)) ?_; clear e1 hf E
    go_enter Tryd.func255, Tryd.ntmps255
    go_wp2
    go_ret
    exact ⟨rfl, rfl⟩
  · refine E.out _ (hf (by omega)) ?_; clear e1 hf E
    go_enter Tryd.func255, Tryd.ntmps255
    go_wp2
    go_ret
    exact ⟨rfl, rfl⟩
  · refine E.out _ (e1.2 (by omega)) ?_; clear e1 hf E
    go_enter Tryd.func255, Tryd.ntmps255
    go_wp2
    go_ret
    exact ⟨rfl, rfl⟩
  · refine E.out _ (hf (by omega)) ?_; clear e1 hf E
    go_enter Tryd.func255, Tryd.ntmps255
    go_wp2
    go_ret
    exact ⟨rfl, rfl⟩
  · refine E.out _ (e1.2 (by omega)) ?_; clear e1 hf E
    go_enter Tryd.func255, Tryd.ntmps255
    go_wp2
    go_ret
    exact ⟨rfl, rfl⟩
  · refine E.out _ (hf (by omega)) ?_; clear e1 hf E
    have hn : decide (v ≤ 1114367) = false := decide_eq_false (by omega)
    go_enter Tryd.func255, Tryd.ntmps255
    go_wp2
    go_ret
    exact ⟨rfl, rfl⟩
theorem ext_getD (a b : List Int) (h : a.length = b.length) (h2 : ∀ j, j < a.length → a.getD j 0 = b.getD j 0) : a = b := by
  apply List.ext_getElem h
  intro j h1 h3
  have := h2 j h1
  simpa [List.getD, List.getElem?_eq_getElem h1, List.getElem?_eq_getElem h3] using this
theorem cell_new (w : World) (v : Value) (e : TypeId) : (w.alloc (Obj.cells #[v] e)).cell? ({ block := w.heap.size, off := 0 } : Addr) = some v := by
  have h : (w.alloc (Obj.cells #[v] e)).heap[w.heap.size]? = some (Obj.cells #[v] e) := Array.getElem?_push_size
  simp only [World.cell?, h]; rfl
end Go.Proofs.YtangpdaoacjinaaDoor
namespace Go.Proofs.YtangpdaoacjinaaDoor
open Go.RowKit
def u8s (l : List Int) : List Value := l.map (Value.int .u8)
structure EncInv (l : List Int) (a : Option Addr) (w : World) (k : Nat) (v : Value) (wr : World) : Prop where
  own : wr.ownsRow w.heap.size 5 1 v (encI (l.take k)).length (u8s (encI (l.take k)))
  bl : Below w.heap.size w wr
  le : k ≤ l.length
theorem enc_take (l : List Int) (k : Nat) (h : k < l.length) : encI (l.take (k + 1)) = encI (l.take k) ++ oneI (l.getD k 0) := by
  rw [List.take_add_one, encI_append, List.getElem?_eq_getElem h]
  simp [encI, List.getD, List.getElem?_eq_getElem h]
theorem enc_take_len (l : List Int) (k : Nat) (h : l.length ≤ 1000000) : (encI (l.take k)).length ≤ 4000000 := by
  have := encI_len (l.take k); simp at this; omega
theorem conv_own {w : World} {B : Nat} {v : Value} {l : List Int} (h : w.ownsRow B 5 1 v (encI l).length (u8s (encI l))) :
    ∀ dst, Tryd.prog.underlying dst = some .string → (convert 97 dst v).run Tryd.prog w = .ok (.string (encS l)) w := by
  intro dst hd
  rcases h.2 with ⟨rfl, h0⟩ | ⟨g, cap, cur, rfl, _, _, _⟩
  · have e : encI l = [] := List.eq_nil_of_length_eq_zero h0
    rw [run_convert_bytes_nil w _ 5 Tryd.underlying97 Tryd.underlying5 0 0 dst hd, encS, e]
    rfl
  · rw [run_convert_bytes_arg w _ 5 Tryd.underlying97 Tryd.underlying5 g 0 _ _ (encI l) rfl (fun i hi => ?_) dst hd]
    · rfl
    · have := h.cells (g := g) rfl i (.int .u8 ((encI l).getD i 0)) (by simp [u8s, List.getElem?_eq_getElem hi, List.getD])
      have hadd : (⟨g, 0, none⟩ : Addr).add i = ⟨g, 0 + i, none⟩ := by unfold Addr.add; split <;> simp_all
      rw [← hadd]; exact this
set_option maxRecDepth 100000 in
set_option maxHeartbeats 2000000 in
theorem encode_any (l : List Int) (a : Option Addr) (c : Nat) (w : World) (hl : l.length ≤ 1000000) (hr : Row w a l) :
    Calls Tryd.prog 131 #[.slice a l.length c] w fun e w' => e = .returned (.string (encS l)) ∧ Below w.heap.size w w' := by
  obtain ⟨i0, hi, hz0, hz1, hz2⟩ := info_parts infoByte
  have Hr := Lib.hid hr; clear hr
  go_enter Tryd.func131, Tryd.ntmps131
  go_wp2_with (at_make; refine wpList_make_own _ rfl _ _ 97 rfl w.heap.size 5 i0 (.int .u8 0) 1 Tryd.underlying97 hi hz0 hz1 _ _ _ l.length rfl rfl (by omega) ?b2 ?b3 (Nat.le_refl _) ?_)
  case b2 => rw [hz2]; omega
  case b3 => unfold maxLen; omega
  intro w0 hown0 hgrow0
  have hb0 : Below w.heap.size w w0 := (Below.refl _ _).grown hgrow0 (Nat.le_refl _) (fun k h => by cases h)
  go_wp2
  have hb8 := hb0.size
  go_loopw [3, 11] (fun v iv wr => ∃ k : Nat, iv = .int .i64 (k : Int) ∧ EncInv l a w k v wr) (fun _ iv _ => l.length - (intOf iv).toNat)
  case atStart => exact ⟨0, rfl, hown0, hb0, Nat.zero_le _⟩
  case round =>
    obtain ⟨k, rfl, hI⟩ := hrel
    have hbl := hI.bl; have hown := hI.own; have hle := hI.le; have hsz := hbl.size
    have hlen := enc_take_len l k hl
    clear hI
    by_cases hlt : k < l.length
    · obtain ⟨ba, oa, rfl, hca, hba⟩ := (Hr.out.below hbl) k hlt
      have hlti : (k : Int) < (l.length : Int) := by omega
      have hnext := enc_take l k hlt
      have P := fun w => point_any (l.getD k 0) w
      have S := fun w => stray_any (l.getD k 0) w
      have hp := ptB_iff (l.getD k 0)
      have hs := stB_iff (l.getD k 0)
      have e1 := fun h => oneI_pt (v := l.getD k 0) h
      have e2 := fun h => oneI_st (v := l.getD k 0) h
      have e3 := fun h => oneI_no (v := l.getD k 0) h
      generalize l.getD k 0 = x at *
      generalize encI (l.take k) = acc at *
      cases hpt : ptB x
      · rw [hpt] at P e3
        cases hst : stB x
        · rw [hst] at S e3
          have hn := hnext.trans (by rw [e3 rfl rfl, List.append_nil])
          have Hn := Lib.hid hn
          replace P := Lib.hid P; replace S := Lib.hid S
          clear hn hnext e1 e2 e3 hp hs hpt hst
          go_wp2_with (first
            | (go_at_call 187; refine (P.out _).mono ?_; rintro e w1 ⟨rfl, rfl⟩)
            | (go_at_call 189; refine (S.out _).mono ?_; rintro e w1 ⟨rfl, rfl⟩))
          go_roundw
          case rel => exact ⟨k + 1, by go_num, by rw [Hn.out]; exact hown, hbl, by omega⟩
          case measure => simp [intOf]; omega
        · rw [hst] at S
          have hx := hs.1 hst
          have hn := hnext.trans (by rw [e2 hst])
          have Hn := Lib.hid hn
          replace P := Lib.hid P; replace S := Lib.hid S
          clear hn hnext e1 e2 e3 hp hs hpt hst
          go_wp2_with (first
            | (go_at_call 187; refine (P.out _).mono ?_; rintro e w1 ⟨rfl, rfl⟩)
            | (go_at_call 189; refine (S.out _).mono ?_; rintro e w1 ⟨rfl, rfl⟩)
            | (at_builtin; refine wpList_append_own _ rfl _ _ 97 rfl w.heap.size 5 i0 (.int .u8 0) 1 1 Tryd.underlying97 hi hz0 hz1 hz2 rfl (by decide) _ _ _ rfl (hown.alloc _) ⟨w1.heap.size, 0, none⟩ 1 1 [.int .u8 (x - 1114112)] rfl rfl ?c1 ?c2 ?c3 ?c4 ?c5 ?_))
          case c1 =>
            intro j u hj
            match j, hj with
            | 0, hj => simp at hj; subst hj; exact cell_new w1 _ _
          case c2 => intro u hu; simp at hu; subst hu; rfl
          case c3 => unfold maxLen; omega
          case c4 => omega
          case c5 => have := (below_alloc w1 (Obj.cells #[Value.int IntKind.u8 (x - 1114112)] 5)).size; omega
          intro v' w3 hown3 hgrow3 _
          have hbl3 : Below w.heap.size w w3 := (hbl.alloc hsz _).grown hgrow3 (by have := (below_alloc w1 (Obj.cells #[Value.int IntKind.u8 (x - 1114112)] 5)).size; omega) (fun k hk => (hown.lt k hk).1)
          have hown3' : w3.ownsRow w.heap.size 5 1 v' (encI (l.take (k + 1))).length (u8s (encI (l.take (k + 1)))) := by
            rw [Hn.out]; simpa [u8s] using hown3
          clear hown3 hgrow3 hown
          go_wp2
          go_roundw
          case rel => exact ⟨k + 1, by go_num, hown3', hbl3, by omega⟩
          case measure => simp [intOf]; omega
      · rw [hpt] at P
        have hx := hp.1 hpt
        have hn := hnext.trans (by rw [e1 hpt])
        have Hn := Lib.hid hn
        have hx2 : 0 ≤ x ∧ x ≤ 1114111 := by omega
        replace P := Lib.hid P
        clear hn hnext e1 e2 e3 hp hs hpt hx S
        go_wp2_with (first
          | (go_at_call 187; refine (P.out _).mono ?_; rintro e w1 ⟨rfl, rfl⟩)
          | (go_at_call 188; refine (Tryd.utf8_AppendRune_plain w.heap.size _ _ _ x (by omega) (by omega) _ hown (by omega) (by omega)).mono ?_; rintro e w2 ⟨v2, rfl, hown2, o, hg2⟩)
          | fail)
        have hbl3 : Below w.heap.size w w2 := (hbl.alloc hsz o).grown hg2 (by have := (below_alloc w1 o).size; omega) (fun k hk => (hown.lt k hk).1)
        have hown3' : w2.ownsRow w.heap.size 5 1 v2 (encI (l.take (k + 1))).length (u8s (encI (l.take (k + 1)))) := by
          rw [Hn.out]; simpa [u8s, Lib.runeCells] using hown2
        clear hown2 hg2 hown
        go_wp2
        go_roundw
        case rel => exact ⟨k + 1, by go_num, hown3', hbl3, by omega⟩
        case measure => simp [intOf]; omega
    · obtain rfl : k = l.length := by omega
      rw [List.take_length] at hown
      have hcv := conv_own hown
      clear hown
      go_wp2
      go_ret
      exact ⟨rfl, hbl⟩
end Go.Proofs.YtangpdaoacjinaaDoor
namespace Go.Proofs.YtangpdaoacjinaaDoor
open Go.RowKit
theorem conv_lit {w : World} {g k c : Nat} (l : List Int) (hl : k = l.length) (h : ∀ i, i < k → w.cell? ⟨g, 0 + i, none⟩ = some (.int .u8 (l.getD i 0))) :
    ∀ dst, Tryd.prog.underlying dst = some .string → (convert 97 dst (.slice (some ⟨g, 0, none⟩) k c)).run Tryd.prog w = .ok (.string (txt l)) w := by
  intro dst hd
  rw [run_convert_bytes_arg w _ 5 Tryd.underlying97 Tryd.underlying5 g 0 _ _ l hl.symm h dst hd]
  rfl
theorem conv_new (w : World) (l : List Int) (n : Nat) (hn : n = l.length) :
    ∀ dst, Tryd.prog.underlying dst = some .string → (convert 97 dst (.slice (some ⟨w.heap.size, 0, none⟩) n n)).run Tryd.prog (w.alloc (Obj.cells (l.map (Value.int .u8)).toArray 5)) = .ok (.string (txt l)) (w.alloc (Obj.cells (l.map (Value.int .u8)).toArray 5)) := by
  refine conv_lit l hn (fun i hi => ?_)
  have h : (w.alloc (Obj.cells (l.map (Value.int .u8)).toArray 5)).heap[w.heap.size]? = some (Obj.cells (l.map (Value.int .u8)).toArray 5) := Array.getElem?_push_size
  have hi' : i < l.length := by omega
  simp only [World.cell?, h, Nat.zero_add]
  simp [List.getElem?_eq_getElem hi', List.getD]
end Go.Proofs.YtangpdaoacjinaaDoor
set_option linter.unusedVariables false
set_option linter.unusedSimpArgs false
namespace Go.Proofs.YtangpdaoacjinaaDoor
open Go.RowKit
def lnB (v : Int) : Bool := decide (v = 10 ∨ v = 13 ∨ v = 27)
def ctB (v : Int) : Bool := decide (0 ≤ v ∧ v ≤ 31) && !lnB v
theorem lnB_yes {v : Int} (h : v = 10 ∨ v = 13 ∨ v = 27) : lnB v = true := decide_eq_true h
theorem lnB_no {v : Int} (h : ¬ (v = 10 ∨ v = 13 ∨ v = 27)) : lnB v = false := decide_eq_false h
theorem lineByte_any (v : Int) (w : World) : Calls Tryd.prog 315 #[.int .i64 v] w fun e w' => e = .returned (.bool (lnB v)) ∧ Below w.heap.size w w' := by
  by_cases h1 : v = 10
  · rw [lnB_yes (Or.inl h1)]; subst h1
    go_enter Tryd.func315, Tryd.ntmps315
    go_wp2
    go_ret
    exact ⟨rfl, Below.refl _ _⟩
  by_cases h2 : v = 13
  · rw [lnB_yes (Or.inr (Or.inl h2))]; subst h2
    go_enter Tryd.func315, Tryd.ntmps315
    go_wp2
    go_ret
    exact ⟨rfl, Below.refl _ _⟩
  by_cases h3 : v = 27
  · rw [lnB_yes (Or.inr (Or.inr h3))]; subst h3
    go_enter Tryd.func315, Tryd.ntmps315
    go_wp2
    go_ret
    exact ⟨rfl, Below.refl _ _⟩
  · rw [lnB_no (by omega)]
    go_enter Tryd.func315, Tryd.ntmps315
    go_wp2
    go_ret
    refine ⟨?_, Below.refl _ _⟩
    show Ending.returned (.bool (v == 10 || v == 13 || v == 27)) = _
    rw [show (v == 10 || v == 13 || v == 27) = false by simp [h1, h2, h3]]
end Go.Proofs.YtangpdaoacjinaaDoor
namespace Go.Proofs.YtangpdaoacjinaaDoor
open Go.RowKit
theorem txt_append (a b : List Int) : txt (a ++ b) = txt a ++ txt b := by
  apply ByteArray.ext
  simp [txt]
theorem oneI_wrong {v : Int} (h : rightB v = false) : oneI v = [] := by
  unfold rightB at h
  rw [Bool.or_eq_false_iff] at h
  exact oneI_no h.1 h.2
end Go.Proofs.YtangpdaoacjinaaDoor
