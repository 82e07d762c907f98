/-
  Joined: InB In28 In29 In30.
-/
import Derived.Test.YtdafcjjlkjngmaaDoorJI09
import Derived.Test.YtdafcjjlkjngmaaDoorJI13
set_option linter.unusedVariables false
set_option linter.unusedSimpArgs false
set_option maxRecDepth 100000
set_option linter.unusedVariables false
set_option linter.unusedSimpArgs false
namespace Go.Proofs.YtdafcjjlkjngmaaDoor
open Go.RowKit
theorem ra_app (m : Int) (r : List UInt8 × Bool) (a b : List (Bool × UInt8)) : raR m r (a ++ b) = ((raR m (raR m r a).1 b).1, (raR m r a).2 ++ (raR m (raR m r a).1 b).2) := by
  induction a generalizing r with
  | nil => simp [raR]
  | cons x a ih => rw [List.cons_append, raR, ih, raR]; simp
def iyB (l : List UInt8) : List (Bool × UInt8) := l.map fun b => (false, b)
/-- The items of a key: its bytes, and a tick. -/
def iyK (k : Ky) : List (Bool × UInt8) := iyB (byR k) ++ [(true, 0)]
def iyL (K : List Ky) : List (Bool × UInt8) := K.flatMap fun k => if keyB k = true then iyK k else []
/-- Does a paste's end stand within? -/
def inB (t : List UInt8) : Bool := (List.range t.length).any fun i => decide (((t ++ peL).drop i).take 6 = peL)
def tyB (k : Ky) : Bool := keyB k && !(decide (k.1 = 3) && decide (k.2.1 = 91 ∨ k.2.1 = 79)) && (decide (k.1 ≠ 15) || (!inB k.2.2.1.data.toList && !k.2.2.2 && decide (k.2.2.1.size ≤ 50)))
theorem no_end {t : List UInt8} (h : ∀ i, i < t.length → ((t ++ peL).drop i).take 6 ≠ peL) (k : Nat) : ¬ peL <:+ (t ++ peL.take 5).take k := by
  rintro ⟨u, hu⟩
  have hl := congrArg List.length hu
  have h5 : (peL.take 5).length = 5 := rfl
  have h6 : peL.length = 6 := rfl
  rw [List.length_append, List.length_take, List.length_append, h5, h6] at hl
  refine h u.length (by omega) ?_
  have e : (t ++ peL.take 5).take k = (t ++ peL).take (u.length + 6) := by
    rw [hl]
    have e2 : t ++ peL.take 5 = (t ++ peL).take (t.length + 5) := by
      rw [List.take_append, List.take_of_length_le (show t.length ≤ t.length + 5 by omega), Nat.add_sub_cancel_left]
    rw [e2, List.take_take]
  rw [e] at hu
  have e3 : ((t ++ peL).drop u.length).take 6 = ((t ++ peL).take (u.length + 6)).drop u.length := by
    rw [List.drop_take, Nat.add_sub_cancel_left]
  rw [e3, ← hu, List.drop_left]
theorem ra_in (m : Int) (l P : List UInt8) (h : ∀ k, ¬ peL <:+ P ++ l.take k) : raR m (P, true) (iyB l) = ((P ++ l, true), []) := by
  induction l generalizing P with
  | nil => simp [iyB, raR]
  | cons b l ih =>
    have e : riR m (P, true) (false, b) = ((P ++ [b], true), []) := by
      show rbP m P b = _
      unfold rbP
      rw [if_neg (show ¬ peL <:+ P ++ [b] from h 1)]
    rw [show iyB (b :: l) = (false, b) :: iyB l from rfl, raR, e, ih (P ++ [b]) (fun k => by rw [List.append_assoc]; exact h (k + 1))]
    simp
theorem ra_paste (t : List UInt8) (ht : t.length ≤ 50) (h : ∀ i, i < t.length → ((t ++ peL).drop i).take 6 ≠ peL) :
    raR 50 ([], true) (iyB (t ++ peL)) = (([], false), [(15, 0, mkL t, false)]) := by
  have e : t ++ peL = (t ++ peL.take 5) ++ [126] := by rw [List.append_assoc]; rfl
  rw [e, show iyB ((t ++ peL.take 5) ++ [126]) = iyB (t ++ peL.take 5) ++ iyB [126] from List.map_append .., ra_app, ra_in _ _ _ (fun k => by rw [List.nil_append]; exact no_end h k), List.nil_append]
  have e2 : riR 50 (t ++ peL.take 5, true) (false, 126) = (([], false), [(15, 0, mkL t, false)]) := by
    show rbP 50 (t ++ peL.take 5) 126 = _
    unfold rbP
    have hl : ((t ++ peL.take 5).length : Int) + 1 - 6 = (t.length : Int) := by
      rw [List.length_append]; show ((t.length + 5 : Nat) : Int) + 1 - 6 = _; omega
    rw [if_pos (by rw [← e]; exact ⟨t, rfl⟩)]
    rw [hl, show min (t.length : Int) 50 = (t.length : Int) by omega, Int.toNat_natCast, ← e, List.take_left, decide_eq_false (by omega)]
  rw [show iyB [126] = [(false, 126)] from rfl, raR, e2, raR]
  rfl
/-- A byte that no paste has, and no key begins with, where nothing waits. -/
theorem ri_low (m : Int) (b : UInt8) (h : ¬ (b.toNat = 13 ∨ b.toNat = 10)) (h2 : ¬ b.toNat = 27) : riR m ([], false) (false, b) = ((frW b, false), frK b) := by
  show rbR [] b = _
  unfold rbR rbA
  rw [if_pos rfl, if_neg h, if_neg h2]
theorem ra_one (m : Int) (b : UInt8) (h : ¬ (b.toNat = 13 ∨ b.toNat = 10)) (h2 : ¬ b.toNat = 27) (v : Int) (hv : v = if b.toNat < 128 then (b.toNat : Int) else 1114112 + (b.toNat : Int)) (h32 : 32 ≤ b.toNat) (h127 : b.toNat ≠ 127) :
    raR m ([], false) (iyB [b] ++ [(true, 0)]) = (([], false), [kv0 1 v]) := by
  have key : frK b ++ rsK (frW b) = [kv0 1 v] := by
    have hn : ¬ b.toNat < 32 := by omega
    by_cases hlt : b.toNat < 128
    · have e1 : frW b = [] := by unfold frW; rw [if_neg (fun hh => by omega)]
      have e2 : frK b = [kv0 1 b.toNat] := by unfold frK; rw [if_neg hn, if_neg h127, if_pos (by omega)]
      rw [e1, e2, hv, if_pos hlt]; rfl
    · rw [if_neg hlt] at hv
      by_cases hp : pB (mkL [b]) = true
      · have e1 : frW b = [b] := by unfold frW; rw [if_pos ⟨by omega, hp⟩]
        have e2 : frK b = [] := by unfold frK; rw [if_neg hn, if_neg h127, if_neg (by omega), if_pos hp]
        have e3 : rsK [b] = [kv0 1 (1114112 + (b.toNat : Int))] := by
          unfold rsK
          rw [if_neg (fun e => h2 (by simp at e; rw [e]; rfl)), if_neg (fun e => h2 (by have e' : b = 27 := e; rw [e']; rfl))]
          rfl
        rw [e1, e2, e3, hv]; rfl
      · have e1 : frW b = [] := by unfold frW; rw [if_neg (fun hh => hp hh.2)]
        have e2 : frK b = [kv0 1 (1114112 + (b.toNat : Int))] := by unfold frK; rw [if_neg hn, if_neg h127, if_neg (by omega), if_neg hp]
        rw [e1, e2, hv]; rfl
  rw [show iyB [b] ++ [(true, 0)] = [(false, b), (true, 0)] from rfl, raR, ri_low m b h h2, raR, raR]
  have ht : riR m (frW b, false) (true, 0) = (([], false), rsK (frW b)) := rfl
  rw [ht]
  dsimp only
  rw [List.append_nil, key]
/-- The beginning of a value waits. -/
theorem ri_part (m : Int) (P : List UInt8) (b : UInt8) (hP : P ≠ []) (h0 : P.getD 0 0 ≠ 27) (hb : 128 ≤ b.toNat) (hp : partB (mkL (P ++ [b])) = true) : riR m (P, false) (false, b) = ((P ++ [b], false), []) := by
  show rbR P b = _
  unfold rbR rbU
  rw [if_neg hP, if_neg (show ¬ (b.toNat = 13 ∨ b.toNat = 10) by omega), if_neg (show ¬ b.toNat = 27 by omega), if_neg h0, if_pos hp]
theorem ri_done (m : Int) (P : List UInt8) (b : UInt8) (hP : P ≠ []) (h0 : P.getD 0 0 ≠ 27) (hb : 128 ≤ b.toNat) (hp : partB (mkL (P ++ [b])) = false) (v : Nat) (hv : vAt (mkL (P ++ [b])) 0 = (v, P.length + 1)) : riR m (P, false) (false, b) = (([], false), [kv0 1 v]) := by
  show rbR P b = _
  unfold rbR rbU
  rw [if_neg hP, if_neg (show ¬ (b.toNat = 13 ∨ b.toNat = 10) by omega), if_neg (show ¬ b.toNat = 27 by omega), if_neg h0, if_neg (by rw [hp]; decide), hv, if_neg (by simp)]
theorem ri_tick0 (m : Int) : riR m ([], false) (true, 0) = (([], false), []) := rfl
theorem part2 (a b : UInt8) : partB (mkL [a, b]) = (decide (begB 2 a.toNat b.toNat 0 0 = 2) && decide (2 < sizeB a.toNat)) := by
  unfold partB; rw [begS_B]; rfl
theorem part1 (a : UInt8) : partB (mkL [a]) = (decide (begB 1 a.toNat 0 0 0 = 1) && decide (1 < sizeB a.toNat)) := by
  unfold partB; rw [begS_B]; rfl
theorem part3 (a b c : UInt8) : partB (mkL [a, b, c]) = (decide (begB 3 a.toNat b.toNat c.toNat 0 = 3) && decide (3 < sizeB a.toNat)) := by
  unfold partB; rw [begS_B]; rfl
theorem part4 (a b c d : UInt8) : partB (mkL [a, b, c, d]) = (decide (begB 4 a.toNat b.toNat c.toNat d.toNat = 4) && decide (4 < sizeB a.toNat)) := by
  unfold partB; rw [begS_B]; rfl
theorem fr_part {a : UInt8} (h : 128 ≤ a.toNat) (hs : 1 < sizeB a.toNat) : frW a = [a] ∧ frK a = [] := by
  have hp : partB (mkL [a]) = true := by
    rw [part1, decide_eq_true hs]
    unfold begB
    rw [if_neg (by omega)]; rfl
  have hp2 : pB (mkL [a]) = true := by rw [← hp]; exact pB_part [] a
  unfold frW frK
  rw [if_pos ⟨h, hp2⟩, if_neg (by omega), if_neg (by omega), if_neg (by omega), if_pos hp2]
  exact ⟨rfl, rfl⟩
theorem getD_27 {a : UInt8} (l : List UInt8) (h : 128 ≤ a.toNat) : (a :: l).getD 0 0 ≠ 27 := fun e => by
  have e' : a = 27 := e
  rw [e'] at h
  exact absurd h (by decide)
theorem ra_two (m : Int) (a b : UInt8) (ha : sizeB a.toNat = 2) (hm : mayB a.toNat b.toNat 1 = true) (v : Nat) (hv : v = (a.toNat - 192) * 64 + b.toNat - 128) :
    raR m ([], false) (iyB [a, b] ++ [(true, 0)]) = (([], false), [kv0 1 v]) := by
  have ha2 : 128 ≤ a.toNat := by unfold sizeB at ha; split at ha <;> omega
  have hb2 : 128 ≤ b.toNat := ((mayB_iff _ _ _).1 hm).1.1
  have hbg : begB 2 a.toNat b.toNat 0 0 = 2 := beg2 ⟨by omega, by omega, hm⟩ (by omega)
  obtain ⟨f1, f2⟩ := fr_part ha2 (by omega)
  rw [show iyB [a, b] ++ [(true, 0)] = [(false, a), (false, b), (true, 0)] from rfl, raR, ri_low m a (by omega) (by omega), f1, f2, raR, ri_done m [a] b (by simp) (getD_27 _ ha2) hb2 (by show partB (mkL [a, b]) = false; rw [part2, ha]; simp) v (by
    show vAt (mkL [a, b]) 0 = _
    rw [vAt_one _ (by rw [mkL_size]; simp)]
    show oneB 2 a.toNat b.toNat 0 0 = _
    rw [one_2 hbg ha, hv]; rfl), raR, ri_tick0]
  rfl
theorem ra_three (m : Int) (a b c : UInt8) (ha : sizeB a.toNat = 3) (hm : mayB a.toNat b.toNat 1 = true) (hm2 : mayB a.toNat c.toNat 2 = true) (v : Nat) (hv : v = ((a.toNat - 224) * 64 + b.toNat - 128) * 64 + c.toNat - 128) :
    raR m ([], false) (iyB [a, b, c] ++ [(true, 0)]) = (([], false), [kv0 1 v]) := by
  have ha2 : 128 ≤ a.toNat := by unfold sizeB at ha; split at ha <;> omega
  have hb2 : 128 ≤ b.toNat := ((mayB_iff _ _ _).1 hm).1.1
  have hc2 : 128 ≤ c.toNat := ((mayB_iff _ _ _).1 hm2).1.1
  have hbg2 : begB 2 a.toNat b.toNat 0 0 = 2 := beg2 ⟨by omega, by omega, hm⟩ (by omega)
  have hbg : begB 3 a.toNat b.toNat c.toNat 0 = 3 := beg3 ⟨by omega, by omega, hm⟩ ⟨by omega, by omega, hm2⟩ (by omega)
  obtain ⟨f1, f2⟩ := fr_part ha2 (by omega)
  rw [show iyB [a, b, c] ++ [(true, 0)] = [(false, a), (false, b), (false, c), (true, 0)] from rfl, raR, ri_low m a (by omega) (by omega), f1, f2, raR, ri_part m [a] b (by simp) (getD_27 _ ha2) hb2 (by show partB (mkL [a, b]) = true; rw [part2, hbg2, ha]; rfl), raR,
    ri_done m ([a] ++ [b]) c (by simp) (getD_27 _ ha2) hc2 (by show partB (mkL [a, b, c]) = false; rw [part3, ha]; simp) v (by
    show vAt (mkL [a, b, c]) 0 = _
    rw [vAt_one _ (by rw [mkL_size]; simp)]
    show oneB 3 a.toNat b.toNat c.toNat 0 = _
    rw [one_3 hbg ha, hv]; rfl), raR, ri_tick0]
  rfl
theorem ra_four (m : Int) (a b c d : UInt8) (ha : sizeB a.toNat = 4) (hm : mayB a.toNat b.toNat 1 = true) (hm2 : mayB a.toNat c.toNat 2 = true) (hm3 : mayB a.toNat d.toNat 3 = true) (v : Nat) (hv : v = (((a.toNat - 240) * 64 + b.toNat - 128) * 64 + c.toNat - 128) * 64 + d.toNat - 128) :
    raR m ([], false) (iyB [a, b, c, d] ++ [(true, 0)]) = (([], false), [kv0 1 v]) := by
  have ha2 : 128 ≤ a.toNat := by unfold sizeB at ha; split at ha <;> omega
  have hb2 : 128 ≤ b.toNat := ((mayB_iff _ _ _).1 hm).1.1
  have hc2 : 128 ≤ c.toNat := ((mayB_iff _ _ _).1 hm2).1.1
  have hd2 : 128 ≤ d.toNat := ((mayB_iff _ _ _).1 hm3).1.1
  have hbg2 : begB 2 a.toNat b.toNat 0 0 = 2 := beg2 ⟨by omega, by omega, hm⟩ (by omega)
  have hbg3 : begB 3 a.toNat b.toNat c.toNat 0 = 3 := beg3 ⟨by omega, by omega, hm⟩ ⟨by omega, by omega, hm2⟩ (by omega)
  have hbg : begB 4 a.toNat b.toNat c.toNat d.toNat = 4 := beg4 ⟨by omega, by omega, hm⟩ ⟨by omega, by omega, hm2⟩ ⟨by omega, by omega, hm3⟩
  obtain ⟨f1, f2⟩ := fr_part ha2 (by omega)
  rw [show iyB [a, b, c, d] ++ [(true, 0)] = [(false, a), (false, b), (false, c), (false, d), (true, 0)] from rfl, raR, ri_low m a (by omega) (by omega), f1, f2, raR, ri_part m [a] b (by simp) (getD_27 _ ha2) hb2 (by show partB (mkL [a, b]) = true; rw [part2, hbg2, ha]; rfl), raR,
    ri_part m ([a] ++ [b]) c (by simp) (getD_27 _ ha2) hc2 (by show partB (mkL [a, b, c]) = true; rw [part3, hbg3, ha]; rfl), raR,
    ri_done m ([a] ++ [b] ++ [c]) d (by simp) (getD_27 _ ha2) hd2 (by show partB (mkL [a, b, c, d]) = false; rw [part4, ha]; simp) v (by
    show vAt (mkL [a, b, c, d]) 0 = _
    rw [vAt_one _ (by rw [mkL_size]; simp)]
    show oneB 4 a.toNat b.toNat c.toNat d.toNat = _
    rw [one_4 hbg ha, hv]; rfl), raR, ri_tick0]
  rfl
theorem u8i {x : Int} (h0 : 0 ≤ x) (h1 : x < 256) : ((x.toNat.toUInt8).toNat : Int) = x := by rw [u8_nat h0 h1]; omega
theorem sizeB_2 {c : Nat} (h : 194 ≤ c ∧ c ≤ 223) : sizeB c = 2 := by unfold sizeB; rw [if_neg (by omega), if_pos h]
theorem sizeB_3 {c : Nat} (h : 224 ≤ c ∧ c ≤ 239) : sizeB c = 3 := by unfold sizeB; rw [if_neg (by omega), if_neg (by omega), if_pos h]
theorem sizeB_4 {c : Nat} (h : 240 ≤ c ∧ c ≤ 244) : sizeB c = 4 := by unfold sizeB; rw [if_neg (by omega), if_neg (by omega), if_neg (by omega), if_pos h]
/-- A sign. -/
theorem ra_sign (m v : Int) (h32 : 32 ≤ v) (h127 : v ≠ 127) (hr : rightB v = true) : raR m ([], false) (iyB (txt (oneI v)).data.toList ++ [(true, 0)]) = (([], false), [kv0 1 v]) := by
  have hd : ∀ l : List Int, (txt l).data.toList = l.map fun x => x.toNat.toUInt8 := fun l => by simp [txt]
  by_cases hp : ptB v = true
  · rw [oneI_pt hp, hd]
    have hp2 := (ptB_iff v).1 hp
    by_cases c1 : v ≤ 127
    · rw [Lib.encodeRuneZ_one (by omega) c1]
      have hb := u8_nat (x := v) (by omega) (by omega)
      exact ra_one m v.toNat.toUInt8 (by rw [hb]; omega) (by rw [hb]; omega) v (by rw [hb, if_pos (by omega)]; omega) (by rw [hb]; omega) (by rw [hb]; omega)
    by_cases c2 : v ≤ 2047
    · rw [Lib.encodeRuneZ_two (by omega) c2]
      have e1 := u8_nat (x := 192 + v / 64) (by omega) (by omega)
      have e2 := u8_nat (x := 128 + v % 64) (by omega) (by omega)
      have := ra_two m (192 + v / 64).toNat.toUInt8 (128 + v % 64).toNat.toUInt8 (by rw [e1]; exact sizeB_2 (by omega)) (by rw [e1, e2, mayB_iff]; omega) v.toNat (by rw [e1, e2]; omega)
      rw [Int.toNat_of_nonneg (by omega)] at this
      exact this
    by_cases c3 : v ≤ 65535
    · rw [Lib.encodeRuneZ_three (by omega)]
      have e1 := u8_nat (x := 224 + v / 4096) (by omega) (by omega)
      have e2 := u8_nat (x := 128 + v / 64 % 64) (by omega) (by omega)
      have e3 := u8_nat (x := 128 + v % 64) (by omega) (by omega)
      have := ra_three m (224 + v / 4096).toNat.toUInt8 (128 + v / 64 % 64).toNat.toUInt8 (128 + v % 64).toNat.toUInt8 (by rw [e1]; exact sizeB_3 (by omega)) (by rw [e1, e2, mayB_iff]; omega) (by rw [e1, e3, mayB_iff]; omega) v.toNat (by rw [e1, e2, e3]; omega)
      rw [Int.toNat_of_nonneg (by omega)] at this
      exact this
    · rw [Lib.encodeRuneZ_four (by omega) (by omega)]
      have e1 := u8_nat (x := 240 + v / 262144) (by omega) (by omega)
      have e2 := u8_nat (x := 128 + v / 4096 % 64) (by omega) (by omega)
      have e3 := u8_nat (x := 128 + v / 64 % 64) (by omega) (by omega)
      have e4 := u8_nat (x := 128 + v % 64) (by omega) (by omega)
      have := ra_four m (240 + v / 262144).toNat.toUInt8 (128 + v / 4096 % 64).toNat.toUInt8 (128 + v / 64 % 64).toNat.toUInt8 (128 + v % 64).toNat.toUInt8 (by rw [e1]; exact sizeB_4 (by omega)) (by rw [e1, e2, mayB_iff]; omega) (by rw [e1, e3, mayB_iff]; omega) (by rw [e1, e4, mayB_iff]; omega) v.toNat (by rw [e1, e2, e3, e4]; omega)
      rw [Int.toNat_of_nonneg (by omega)] at this
      exact this
  · have hs : stB v = true := by
      unfold rightB at hr
      rw [Bool.or_eq_true] at hr
      rcases hr with h | h
      · exact absurd h hp
      · exact h
    have hs2 := (stB_iff v).1 hs
    rw [oneI_st hs, hd]
    have hb := u8_nat (x := v - 1114112) (by omega) (by omega)
    exact ra_one m (v - 1114112).toNat.toUInt8 (by rw [hb]; omega) (by rw [hb]; omega) v (by rw [hb, if_neg (by omega)]; omega) (by rw [hb]; omega) (by rw [hb]; omega)
theorem ra_ctl (v : Int) (h : ctB v = true) : raR 50 ([], false) (iyB (txt (oneI v)).data.toList ++ [(true, 0)]) = (([], false), [kv0 2 v]) := by
  have h0 : 0 ≤ v ∧ v ≤ 31 := by
    unfold ctB at h; rw [Bool.and_eq_true] at h; exact of_decide_eq_true h.1
  have : ∀ n : Fin 32, ctB (n.val : Int) = true → raR 50 ([], false) (iyB (txt (oneI (n.val : Int))).data.toList ++ [(true, 0)]) = (([], false), [kv0 2 (n.val : Int)]) := by decide +kernel
  have e : ((v.toNat : Nat) : Int) = v := by omega
  have := this ⟨v.toNat, by omega⟩
  rw [e] at this
  exact this h
theorem ra_meta (v : Int) (h0 : 0 ≤ v ∧ v < 128) (h : lnB v = false) (h2 : ¬ (v = 91 ∨ v = 79)) : raR 50 ([], false) (iyB (27 :: (txt (oneI v)).data.toList) ++ [(true, 0)]) = (([], false), [kv0 3 v]) := by
  have : ∀ n : Fin 128, lnB (n.val : Int) = false → ¬ ((n.val : Int) = 91 ∨ (n.val : Int) = 79) → raR 50 ([], false) (iyB (27 :: (txt (oneI (n.val : Int))).data.toList) ++ [(true, 0)]) = (([], false), [kv0 3 (n.val : Int)]) := by decide +kernel
  have e : ((v.toNat : Nat) : Int) = v := by omega
  have := this ⟨v.toNat, by omega⟩
  rw [e] at this
  exact this h h2
theorem ra_tab : ∀ r ∈ kTab, raR 50 ([], false) (iyB r.2.2.2 ++ [(true, 0)]) = (([], false), [kv0 r.1 r.2.1]) := by decide +kernel
/-- A key that can be typed comes back. -/
theorem ra_key (k : Ky) (h : tyB k = true) : raR 50 ([], false) (iyK k) = (([], false), [k]) := by
  unfold tyB at h
  rw [Bool.and_eq_true, Bool.and_eq_true] at h
  obtain ⟨⟨hk, h3⟩, h15⟩ := h
  obtain ⟨a, v, t, c⟩ := k
  dsimp only at h3 h15
  unfold iyK byR
  rw [if_pos hk]
  unfold keyB at hk
  dsimp only at hk
  unfold byN
  dsimp only
  by_cases e15 : a = 15
  · subst e15
    rw [if_pos rfl, Bool.and_eq_true] at hk
    obtain ⟨hv, _⟩ := hk
    obtain rfl : v = 0 := of_decide_eq_true hv
    rw [decide_eq_false (by simp), Bool.false_or, Bool.and_eq_true, Bool.and_eq_true] at h15
    obtain ⟨⟨hi, hc⟩, hl⟩ := h15
    obtain rfl : c = false := by simpa using hc
    have hl' : t.data.toList.length ≤ 50 := by have := of_decide_eq_true hl; rw [Array.length_toList]; exact this
    have hi' : ∀ i, i < t.data.toList.length → ((t.data.toList ++ peL).drop i).take 6 ≠ peL := fun i hil e => by
      have : inB t.data.toList = true := by
        unfold inB
        exact List.any_eq_true.2 ⟨i, List.mem_range.2 hil, decide_eq_true e⟩
      rw [this] at hi; cases hi
    rw [if_neg (by omega), if_neg (by omega), if_pos rfl]
    have e1 : iyB ([27, 91, 50, 48, 48, 126] ++ t.data.toList ++ [27, 91, 50, 48, 49, 126]) ++ [(true, 0)] = iyB [27, 91, 50, 48, 48, 126] ++ (iyB (t.data.toList ++ peL) ++ [(true, 0)]) := by
      unfold iyB; rw [List.append_assoc, List.map_append, List.append_assoc]; rfl
    have e2 : raR 50 ([], false) (iyB [27, 91, 50, 48, 48, 126]) = (([], true), []) := by decide +kernel
    rw [e1, ra_app, e2, ra_app, ra_paste _ hl' hi', raR, ri_tick0, raR]
    rfl
  · rw [if_neg e15, Bool.and_eq_true, Bool.and_eq_true] at hk
    obtain ⟨⟨ht, hc⟩, hm⟩ := hk
    obtain rfl : t = ⟨#[]⟩ := kzero (of_decide_eq_true ht)
    obtain rfl : c = false := by simpa using hc
    unfold kmB at hm
    by_cases e1 : a = 1
    · subst e1
      rw [if_pos rfl, Bool.and_eq_true, Bool.and_eq_true] at hm
      rw [if_pos (Or.inl rfl)]
      exact ra_sign 50 v (of_decide_eq_true hm.1.1) (of_decide_eq_true hm.1.2) hm.2
    rw [if_neg e1] at hm
    by_cases e2 : a = 2
    · subst e2
      rw [if_pos rfl] at hm
      rw [if_pos (Or.inr rfl)]
      exact ra_ctl v hm
    rw [if_neg e2] at hm
    rw [if_neg (by omega)]
    by_cases e3 : a = 3
    · subst e3
      rw [if_pos rfl, Bool.and_eq_true] at hm
      rw [if_pos rfl]
      refine ra_meta v (of_decide_eq_true hm.1) (by simpa using hm.2) ?_
      intro hh
      rw [decide_eq_true rfl, decide_eq_true hh] at h3
      cases h3
    rw [if_neg e3] at hm
    rw [if_neg e3, if_neg e15]
    unfold kRowOf
    cases hf : kFind a v with
    | none => rw [hf] at hm; cases hm
    | some r =>
      have h1 := List.mem_of_find?_eq_some hf
      have h2 := List.find?_some hf
      unfold kIs at h2
      rw [Bool.and_eq_true] at h2
      have := ra_tab r h1
      rw [show r.1 = a by simpa using h2.1, show r.2.1 = v by simpa using h2.2] at this
      exact this
/-- Keys that can be typed come back. -/
theorem ra_keys (K : List Ky) (h : ∀ k ∈ K, tyB k = true) : raR 50 ([], false) (iyL K) = (([], false), K) := by
  induction K with
  | nil => rfl
  | cons k K ih =>
    have hk := h k (List.mem_cons_self ..)
    have hkb : keyB k = true := by unfold tyB at hk; rw [Bool.and_eq_true, Bool.and_eq_true] at hk; exact hk.1.1
    have e : iyL (k :: K) = iyK k ++ iyL K := by unfold iyL; rw [List.flatMap_cons, if_pos hkb]
    rw [e, ra_app, ra_key k hk, ih (fun x hx => h x (List.mem_cons_of_mem _ hx))]
    rfl
end Go.Proofs.YtdafcjjlkjngmaaDoor
set_option linter.unusedVariables false
set_option linter.unusedSimpArgs false
namespace Go.Proofs.YtdafcjjlkjngmaaDoor
open Go.RowKit
theorem biL_len (l : List UInt8) : (biL l).length = l.length := by unfold biL; rw [List.length_map]
/-- The items of one key. -/
def iy1 (k : Ky) : List It := if keyB k = true then biL (byR k) ++ [(true, 0)] else []
theorem iyL_snoc (K : List Ky) (k : Ky) : iyL (K ++ [k]) = iyL K ++ iy1 k := by
  unfold iyL
  rw [List.flatMap_append, List.flatMap_singleton]
  rfl
theorem iy1_len (k : Ky) (h : (byR k).length ≤ 62) : (iy1 k).length ≤ 63 := by
  unfold iy1
  split
  · rw [List.length_append, biL_len, List.length_singleton]; omega
  · simp
theorem iyL_len (K : List Ky) (h : ∀ k ∈ K, (byR k).length ≤ 62) : (iyL K).length ≤ 63 * K.length := by
  induction K with
  | nil => simp [iyL]
  | cons k K ih =>
    have h1 := iy1_len k (h k (List.mem_cons_self ..))
    have h2 := ih (fun x hx => h x (List.mem_cons_of_mem _ hx))
    have e : iyL (k :: K) = iy1 k ++ iyL K := by unfold iyL; rw [List.flatMap_cons]; rfl
    rw [e, List.length_append, List.length_cons]; omega
theorem mkS_mkL (l : List UInt8) : mkS l = mkL l := rfl
set_option maxHeartbeats 8000000 in
theorem inof_any (K : List Ky) (a : Option Addr) (n c : Nat) (w : World) (hn : K.length = n) (hl : n ≤ 60) (hs : KeysIn w a K) (hK : KT w) (hb : ∀ k ∈ K, (byR k).length ≤ 62) :
    Calls Tryd.prog 19 #[.slice a n c] w fun e w' => ∃ v, e = .returned v ∧ OwI w' w.heap.size v (iyL K) ∧ Below w.heap.size w w' := by
  have HN := Lib.hid hn
  have HS := Lib.hid hs
  have HK := Lib.hid hK
  have HB := Lib.hid hb
  clear hn hs hK hb
  go_enter Tryd.func19, Tryd.ntmps19
  go_upto_region 3 with fail
  go_loopw [3, 10] (fun sv iv wr => ∃ (k : Nat), k ≤ n ∧ iv = .int .i64 (k : Int) ∧ Hid (OwI wr w.heap.size sv (iyL (K.take k))) ∧ Hid (Below w.heap.size w wr)) (fun _ iv _ => n - (intOf iv).toNat)
  case atStart => exact ⟨0, Nat.zero_le _, rfl, Lib.hid (owi_nil _ _), Lib.hid (Below.refl _ _)⟩
  case round =>
    obtain ⟨k, hk, rfl, HO, HW⟩ := hrel
    obtain ⟨M, hM⟩ : ∃ M, (iyL (K.take k)).length = M := ⟨_, rfl⟩
    have HM := Lib.hid hM
    obtain ⟨ad, cp, rfl⟩ := HO.out.form hM
    by_cases hlt : k < n
    · have hkl : k < K.length := by rw [HN.out]; exact hlt
      have hk1 : (k : Int) < n := by omega
      have hk0 : (0 : Int) ≤ k := by omega
      obtain ⟨b, off, rfl, hblt, c0, c1, c2, c3⟩ := (HS.out.below HW.out) k hkl
      have hMl : Hid (M ≤ 3780) := Lib.hid (by
        have h1 := iyL_len (K.take k) (fun x hx => HB.out x (List.mem_of_mem_take hx))
        rw [hM, List.length_take] at h1; omega)
      have hbk : Hid ((byR (K.getD k k0)).length ≤ 62) := Lib.hid (by
        refine HB.out _ ?_
        rw [List.getD, List.getElem?_eq_getElem hkl]; exact List.getElem_mem hkl)
      have hsn : Hid (iyL (K.take (k + 1)) = iyL (K.take k) ++ iy1 (K.getD k k0)) := Lib.hid (by
        rw [List.take_succ_eq_append_getElem hkl, iyL_snoc, List.getD, List.getElem?_eq_getElem hkl]; rfl)
      clear hM hkl
      generalize K.getD k k0 = q at *
      generalize iyL (K.take k) = R at *
      obtain ⟨q1, q2, q3, q4⟩ := q
      dsimp only at c0 c1 c2 c3
      have B2 := below_alloc wr (.cells #[.int .i64 q1, .int .i64 q2, .string q3, .bool q4] 44)
      have r2 := heap_alloc_new wr (.cells #[.int .i64 q1, .int .i64 q2, .string q3, .bool q4] 44)
      obtain ⟨W2, hW2⟩ : ∃ W2, wr.alloc (.cells #[.int .i64 q1, .int .i64 q2, .string q3, .bool q4] 44) = W2 := ⟨_, rfl⟩
      rw [hW2] at B2 r2
      have R2 := Lib.hid r2
      have O2 := Lib.hid (HO.out.below B2)
      have N2 := Lib.hid (seqB HW.out B2)
      have K2 := Lib.hid ((HK.out.below HW.out).below B2)
      have yy := fun i => cell_of_row _ _ i _ _ _ r2
      have e0 := yy 0; have e1 := yy 1; have e2 := yy 2; have e3 := yy 3
      dsimp at e0 e1 e2 e3
      clear yy B2 r2
      cases hkb : keyB (q1, q2, q3, q4)
      · have CH := Lib.hid (fun w h => kcheck_t (q1, q2, q3, q4) w h 2 (ckE_no hkb))
        have hi1 : Hid (iy1 (q1, q2, q3, q4) = []) := Lib.hid (by unfold iy1; rw [hkb]; rfl)
        clear hkb
        go_upto_region 5 with fail
        clear hW2
        go_wp2_with (go_at_call 42; refine (CH.out _ K2.out).mono ?_; rintro e w3 ⟨rfl, hb⟩; have O3 := Lib.hid (O2.out.below hb); have N3 := Lib.hid (seqB N2.out hb); clear hb)
        go_roundw
        case rel => exact ⟨k + 1, by omega, by go_num, Lib.hid (by rw [hsn.out, hi1.out, List.append_nil]; exact O3.out), N3⟩
        case measure => (simp [intOf]; try omega)
      · have CH := Lib.hid (fun w h => kcheck_t (q1, q2, q3, q4) w h 0 (ckE_yes hkb))
        have BY := Lib.hid (fun w h => kbytes_t (q1, q2, q3, q4) w h (mkL (byR (q1, q2, q3, q4))) rfl)
        have hi1 : Hid (iy1 (q1, q2, q3, q4) = biL (byR (q1, q2, q3, q4)) ++ [(true, 0)]) := Lib.hid (by unfold iy1; rw [if_pos hkb])
        clear hkb
        generalize byR (q1, q2, q3, q4) = P at *
        generalize iy1 (q1, q2, q3, q4) = I1 at *
        obtain ⟨m, hm⟩ : ∃ m, P.length = m := ⟨_, rfl⟩
        have HZ : Hid ((mkL P).size = m) := Lib.hid (by rw [mkL_size, hm])
        have HP := Lib.hid hm
        have IX := Lib.hid (fun j (hj : j < m) wx => idx_run P j (by omega) wx)
        clear hm
        go_upto_region 5 with fail
        clear hW2
        go_upto_region 6 with (go_at_call 42; refine (CH.out _ K2.out).mono ?_; rintro e w3 ⟨rfl, hb⟩; have O3 := Lib.hid (O2.out.below hb); have N3 := Lib.hid (seqB N2.out hb); have K3 := Lib.hid (K2.out.below hb); have R3 := Lib.hid (blk_below R2.out hb); clear hb; have yy := fun i => cell_of_row _ _ i _ _ _ R3.out; have f0 := yy 0; have f1 := yy 1; have f2 := yy 2; have f3 := yy 3; dsimp at f0 f1 f2 f3; clear yy)
        go_upto_region 7 with (go_at_call 43; refine (BY.out _ K3.out).mono ?_; rintro e w4 ⟨rfl, hb⟩; have O4 := Lib.hid (O3.out.below hb); have N4 := Lib.hid (seqB N3.out hb); clear hb)
        go_upto_region 8 with fail
        clear c0 c1 c2 c3 e0 e1 e2 e3 f0 f1 f2 f3 CH BY
        go_loopw [3, 7] (fun sv iv wr => ∃ (j : Nat), j ≤ m ∧ iv = .int .i64 (j : Int) ∧ Hid (OwI wr w.heap.size sv (R ++ biL (P.take j))) ∧ Hid (Below w.heap.size w wr)) (fun _ iv _ => m - (intOf iv).toNat)
        case atStart => exact ⟨0, Nat.zero_le _, rfl, Lib.hid (by rw [List.take_zero]; show OwI w4 _ _ (R ++ []); rw [List.append_nil]; exact O4.out), N4⟩
        case round =>
          clear O2 O3 O4 N2 N3 N4 K2 K3 R2 R3
          obtain ⟨j, hj, rfl, HI, HX⟩ := hrel
          have hil : (R ++ biL (P.take j)).length = M + j := by rw [List.length_append, biL_len, List.length_take, HM.out, HP.out]; omega
          obtain ⟨ai, ci, rfl⟩ := HI.out.form hil
          have HIL := Lib.hid hil
          clear hil
          by_cases hjm : j < m
          · have hj1 : (j : Int) < ((mkL P).size : Int) := by rw [HZ.out]; omega
            have hix := IX.out j hjm
            have hj62 : Hid (j ≤ 62) := Lib.hid (by have := hbk.out; rw [HP.out] at this; omega)
            have hj100 : j < 100 := by have := hj62.out; omega
            have htk : Hid (R ++ (biL (P.take j) ++ [(false, P.getD j 0)]) = R ++ biL (P.take (j + 1))) := Lib.hid (by
              have h1 : j < P.length := by rw [HP.out]; exact hjm
              congr 1
              unfold biL
              rw [List.take_succ_eq_append_getElem h1, List.map_append, List.getD, List.getElem?_eq_getElem h1]; rfl)
            generalize P.getD j 0 = y at *
            have B2 := below_alloc wr (.cells #[.bool false, .int .u8 (y.toNat : Int)] 35)
            have O2 := Lib.hid (HI.out.below B2)
            have S2 := Lib.hid (its_new1 wr false y)
            have N2 := Lib.hid (seqB HX.out B2)
            clear B2
            generalize y.toNat = x at *
            go_wp2_with (at_builtin; refine wpList_app_items rfl _ _ rfl w.heap.size _ (M + j) _ rfl HIL.out O2.out ⟨wr.heap.size, 0, none⟩ 1 1 [(false, y)] rfl rfl S2.out ?g3 ?g4 ?_)
            case g3 => have := hMl.out; have := hj62.out; omega
            case g4 => exact N2.out.size
            intro ad5 c5 w5 o5 g5 p5
            have N5 := Lib.hid (N2.out.grown g5 N2.out.size (fun k e => (O2.out.lt k e).1))
            rw [htk.out] at o5
            have O5 := Lib.hid o5
            clear o5 g5 p5
            go_wp2
            go_roundw
            case rel => exact ⟨j + 1, by omega, by go_num, O5, N5⟩
            case measure => (simp [intOf]; try omega)
          · have hj1 : ¬ ((j : Int) < ((mkL P).size : Int)) := by rw [HZ.out]; omega
            obtain rfl : j = m := by omega
            have HT : P.take j = P := by rw [← HP.out, List.take_length]
            rw [HT] at HI HIL
            have hj62 : Hid (j ≤ 62) := Lib.hid (by have := hbk.out; rw [HP.out] at this; omega)
            have B2 := below_alloc wr (.cells #[.bool true, .int .u8 0] 35)
            have O2 := Lib.hid (HI.out.below B2)
            have S2 : Hid (ItsIn (wr.alloc (.cells #[.bool true, .int .u8 0] 35)) (some ⟨wr.heap.size, 0, none⟩) [(true, 0)]) := Lib.hid (its_new1 wr true 0)
            have N2 := Lib.hid (seqB HX.out B2)
            clear B2
            go_wp2_with (at_builtin; refine wpList_app_items rfl _ _ rfl w.heap.size _ (M + j) _ rfl HIL.out O2.out ⟨wr.heap.size, 0, none⟩ 1 1 [(true, 0)] rfl rfl S2.out ?g3 ?g4 ?_)
            case g3 => have := hMl.out; have := hj62.out; omega
            case g4 => exact Nat.le_trans HX.out.size (Nat.le_succ _)
            intro ad5 c5 w5 o5 g5 p5
            have N5 := Lib.hid (N2.out.grown g5 N2.out.size (fun k e => (O2.out.lt k e).1))
            have O5 : Hid (OwI w5 w.heap.size (.slice ad5 (M + j + 1) c5) (iyL (K.take (k + 1)))) := Lib.hid (by rw [hsn.out, hi1.out]; exact o5)
            clear o5 g5 p5
            go_wp2
            go_roundw
            case rel => exact ⟨k + 1, by omega, by go_num, O5, N5⟩
            case measure => (simp [intOf]; try omega)
    · obtain rfl : k = n := by omega
      have hk1 : ¬ ((k : Int) < (k : Int)) := by omega
      have HT : K.take k = K := by rw [← HN.out, List.take_length]
      rw [HT] at HO
      go_wp2
      go_ret
      exact ⟨_, rfl, HO.out, HW.out⟩
end Go.Proofs.YtdafcjjlkjngmaaDoor
set_option linter.unusedVariables false
set_option linter.unusedSimpArgs false
namespace Go.Proofs.YtdafcjjlkjngmaaDoor
open Go.RowKit
theorem KeptM.mono {S T : Nat → Prop} {w w' : World} (h : KeptM T w w') (hS : ∀ k, S k → T k) : KeptM S w w' := ⟨h.os, h.tape, h.output, h.size, fun k hk => h.block k (hS k hk)⟩
theorem OwK.keptM {S : Nat → Prop} {w w' : World} {B : Nat} {v : Value} {L : List Ky} (h : OwK w B v L) (k : KeptM S w w') (hS : ∀ b, v.ownBlock = some b → S b) : OwK w' B v L := by
  unfold OwK at h ⊢
  refine ⟨h.1, ?_⟩
  rcases h.2 with h' | ⟨g, cap, cur, e, hB, hg, r⟩
  · exact .inl h'
  · exact .inr ⟨g, cap, cur, e, hB, (k.block g (hS g (by rw [e]; rfl))).trans hg, r⟩
theorem keys_new (w : World) (L : List Ky) : KeysIn (w.alloc (.cells (kC L).toArray 44)) (some ⟨w.heap.size, 0, none⟩) L := fun i hi => by
  have h := heap_alloc_new w (.cells (kC L).toArray 44)
  obtain ⟨h0, h1, h2, h3⟩ := kC_at L i hi
  refine ⟨_, _, rfl, blk_lt h, ?_, ?_, ?_, ?_⟩ <;> (rw [cell_of_row _ _ _ _ _ _ h, Nat.zero_add]; first | simpa using h0 | simpa using h1 | simpa using h2 | simpa using h3)
section
variable {S : Nat → Prop} {p : Nat} {s : IS} {w : World}
theorem InO.mono {T : Nat → Prop} (h : InO S p s w) (hT : ∀ k, T k → S k) : InO T p s w := by
  obtain ⟨bv, h1, h2, h3⟩ := h.ex
  exact ⟨bv, h1, h2, fun k hk => h3 k (hT k hk)⟩
theorem InO.lt (h : InO S p s w) : ∀ k, S k → k < w.heap.size := fun k hk => by obtain ⟨_, _, _, h3⟩ := h.ex; exact (h3 k hk).1
theorem US.mono {T : Nat → Prop} (h : US S w) (hT : ∀ k, S k → T k) : US T w := ⟨h.u, hT _ h.a, hT _ h.b⟩
/-- One item, in a block of the call's own. -/
theorem do_one {N : Nat} (x : It) (h : InO S p s w) (hU : US S w) (hG : GS N s) (hN : N + 1 ≤ 100000) :
    Calls Tryd.prog 14 #[.pointer (some ⟨p, 0, none⟩), .slice (some ⟨w.heap.size, 0, none⟩) 1 1] (w.alloc (.cells #[.bool x.1, .int .u8 (x.2.toNat : Int)] 35)) fun e w' => ∃ v, e = .returned v ∧ OwK w' w.heap.size v (itR s x).2 ∧ InO (fun k => S k ∨ v.ownBlock = some k) p (itR s x).1 w' ∧ KeptM S w w' := by
  have hb := below_alloc w (.cells #[.bool x.1, .int .u8 (x.2.toNat : Int)] 35)
  have hs : (w.alloc (.cells #[.bool x.1, .int .u8 (x.2.toNat : Int)] 35)).heap.size = w.heap.size + 1 := by simp
  have h1 : InO (fun k => S k ∨ k = w.heap.size) p s (w.alloc (.cells #[.bool x.1, .int .u8 (x.2.toNat : Int)] 35)) := h.kept hb (fun k hk => by
    rcases hk with hk | hk
    · exact Or.inl hk
    · exact Or.inr (by omega))
  have hU1 := hU.kept (KeptM.of hb h.lt)
  have e1 : doR s [x] = ((itR s x).1, (itR s x).2) := by simp [doR]
  refine (do_any [x] (some ⟨w.heap.size, 0, none⟩) 1 1 h1 (hU1.mono (fun k hk => Or.inl hk)) (its_newS _ w x.1 x.2 (Or.inr rfl)) rfl (by decide) hG hN).mono ?_
  rintro e w' ⟨v, rfl, ho, hO, hK⟩
  rw [e1] at ho hO
  exact ⟨v, rfl, ho.mono (by omega), hO.mono (fun k hk => by
    rcases hk with hk | hk
    · exact Or.inl (Or.inl hk)
    · exact Or.inr hk), (KeptM.of hb h.lt).trans (hK.mono (fun k hk => Or.inl hk))⟩
/-- Items in a row of the call's own. -/
theorem do_own {N B n c : Nat} {l : List It} {a : Option Addr} (h : InO S p s w) (hU : US S w) (hI : OwI w B (.slice a n c) l) (hS : ∀ k, (Value.slice a n c).ownBlock = some k → S k) (hn : l.length = n) (hl : n ≤ 9800) (hG : GS N s) (hN : N + n ≤ 100000) :
    Calls Tryd.prog 14 #[.pointer (some ⟨p, 0, none⟩), .slice a n c] w fun e w' => ∃ v, e = .returned v ∧ OwK w' w.heap.size v (doR s l).2 ∧ InO (fun k => S k ∨ v.ownBlock = some k) p (doR s l).1 w' ∧ KeptM S w w' := by
  obtain ⟨a', c', e, _, _, hi⟩ := hI.at
  obtain ⟨rfl, rfl, rfl⟩ : a = a' ∧ n = l.length ∧ c = c' := by simpa using e
  exact do_any l a _ c h hU (fun i hi' => by obtain ⟨b, off, e, hb, h1⟩ := hi i hi'; exact ⟨b, off, e, hS b hb, h1⟩) rfl hl hG hN
end
def awA : List UInt8 := [27, 91, 65, 120, 27, 91, 50, 48, 48, 126, 97, 98, 99, 13, 27, 91, 50, 48, 49, 126, 13]
def awK : List Ky := [kv0 7 0, kv0 1 120, (15, 0, ⟨#[97, 98]⟩, true), kv0 4 13]
theorem aw_a : doR (in0 2) (biL awA) = (in0 2, awK) := by kernel_rfl
theorem aw_b : doR (in0 2) (biL [27]) = ({ in0 2 with wait := [27] }, []) := by kernel_rfl
theorem aw_c : itR { in0 2 with wait := [27] } (true, 0) = (in0 2, [kv0 5 0]) := by kernel_rfl
theorem aw_d : iyL [kv0 5 0] = [(false, 27), (true, 0)] := by kernel_rfl
set_option maxHeartbeats 8000000 in
theorem inawake_any (W : World) (hU : UT W) (hK : KT W) : Calls Tryd.prog 10 #[] W fun e w' => e = .returned (.bool true) ∧ Below W.heap.size W w' := by
  have HT := Lib.hid hU
  have HK := Lib.hid hK
  have RA := Lib.hid (fun w => rof_ref awA w (by decide))
  have RB := Lib.hid (fun w => rof_ref [27] w (by decide))
  rw [show mkL awA = ⟨#[27, 91, 65, 120, 27, 91, 50, 48, 48, 126, 97, 98, 99, 13, 27, 91, 50, 48, 49, 126, 13]⟩ from rfl] at RA
  rw [show mkL [27] = ⟨#[27]⟩ from rfl] at RB
  clear hU hK
  go_enter Tryd.func10, Tryd.ntmps10
  go_upto_region 2 with (go_at_call 11; refine (innew_any (S := fun k => k < W.heap.size) 2 W (by omega) (fun k hk => hk)).mono ?_; rintro e w2 ⟨rfl, h2, b2⟩; have H2 := Lib.hid h2; have B2 := Lib.hid b2; clear h2 b2; have U2 : Hid (US (fun k => k < W.heap.size) w2) := Lib.hid ⟨HT.out.below B2.out, HT.out.2.1, HT.out.2.2⟩)
  go_upto_region 4 with fail
  go_upto_region 5 with (first
    | (go_at_call 34
       refine (RA.out _).mono ?_
       rintro e w3 ⟨v3, rfl, o3, b3⟩
       obtain ⟨a3, c3, rfl⟩ := o3.form (n := 21) rfl
       have H3 := Lib.hid (H2.out.kept b3 (T := fun k => k < W.heap.size ∨ (Value.slice a3 21 c3).ownBlock = some k) (fun k hk => by
         rcases hk with hk | hk
         · exact Or.inl hk
         · exact Or.inr (o3.lt k hk)))
       have U3 : Hid (US (fun k => k < W.heap.size ∨ (Value.slice a3 21 c3).ownBlock = some k) w3) := Lib.hid ((U2.out.kept (KeptM.of b3 H2.out.lt)).mono (fun k hk => Or.inl hk))
       have B3 := Lib.hid (seqB B2.out b3)
       have O3 := Lib.hid o3
       clear o3 b3)
    | (go_at_call 14
       refine (do_own (N := 0) H3.out U3.out O3.out (fun k h => Or.inr h) rfl (by decide) (gs_in0 (m := 2) (by omega)) (by decide)).mono ?_
       rw [aw_a]
       rintro e w4 ⟨v4, rfl, o4, h4, k4⟩
       obtain ⟨a4, c4, rfl⟩ := o4.form (n := 4) rfl
       have H4 := Lib.hid (h4.mono (T := fun k => k < W.heap.size ∨ (Value.slice a4 4 c4).ownBlock = some k) (fun k hk => by
         rcases hk with hk | hk
         · exact Or.inl (Or.inl hk)
         · exact Or.inr hk))
       have U4 : Hid (US (fun k => k < W.heap.size ∨ (Value.slice a4 4 c4).ownBlock = some k) w4) := Lib.hid ⟨(U3.out.kept k4).u, Or.inl U2.out.a, Or.inl U2.out.b⟩
       have B4 := Lib.hid (B3.out.trans (k4.below W.heap.size (fun k hk => Or.inl hk)))
       have O4 := Lib.hid o4
       clear o4 h4 k4))
  clear H3 U3 O3
  go_upto_region 6 with (first
    | (go_at_call 34
       refine (RB.out _).mono ?_
       rintro e w5 ⟨v5, rfl, o5, b5⟩
       obtain ⟨a5, c5, rfl⟩ := o5.form (n := 1) rfl
       have H5 := Lib.hid (H4.out.kept b5 (T := fun k => (k < W.heap.size ∨ (Value.slice a4 4 c4).ownBlock = some k) ∨ (Value.slice a5 1 c5).ownBlock = some k) (fun k hk => by
         rcases hk with hk | hk
         · exact Or.inl hk
         · exact Or.inr (o5.lt k hk)))
       have U5 : Hid (US (fun k => (k < W.heap.size ∨ (Value.slice a4 4 c4).ownBlock = some k) ∨ (Value.slice a5 1 c5).ownBlock = some k) w5) := Lib.hid ((U4.out.kept (KeptM.of b5 H4.out.lt)).mono (fun k hk => Or.inl hk))
       have B5 := Lib.hid (seqB B4.out b5)
       have O45 := Lib.hid (O4.out.below b5)
       have O5 := Lib.hid o5
       clear o5 b5)
    | (go_at_call 14
       refine (do_own (N := 0) H5.out U5.out O5.out (fun k h => Or.inr h) rfl (by decide) (gs_in0 (m := 2) (by omega)) (by decide)).mono ?_
       rw [aw_b]
       rintro e w6 ⟨v6, rfl, o6, h6, k6⟩
       obtain ⟨a6, c6, rfl⟩ := o6.form (n := 0) rfl
       have H6 := Lib.hid (h6.mono (T := fun k => k < W.heap.size ∨ (Value.slice a4 4 c4).ownBlock = some k) (fun k hk => Or.inl (Or.inl hk)))
       have U6 : Hid (US (fun k => k < W.heap.size ∨ (Value.slice a4 4 c4).ownBlock = some k) w6) := Lib.hid ⟨(U5.out.kept k6).u, Or.inl U2.out.a, Or.inl U2.out.b⟩
       have B6 := Lib.hid (B5.out.trans (k6.below W.heap.size (fun k hk => Or.inl (Or.inl hk))))
       have O46 := Lib.hid (O45.out.keptM k6 (fun b h => Or.inl (Or.inr h)))
       clear o6 h6 k6))
  clear H5 U5 O5
  have WT : Hid (Calls Tryd.prog 16 #[.pointer (some ⟨W.heap.size, 0, none⟩)] w6 fun e w' => e = .returned (.bool true) ∧ w6 = w') := Lib.hid (inwaits_any H6.out)
  have G6 : GS 1 { in0 2 with wait := [27] } := by have := gs_do (gs_in0 (m := 2) (by omega)) (biL [27]); rw [aw_b] at this; exact this
  have T7 := Lib.hid (do_one (true, 0) H6.out U6.out G6 (by decide))
  rw [aw_c] at T7
  clear G6
  go_upto_region 7 with (go_at_call 16; refine WT.out.mono ?_; rintro e w6' ⟨rfl, rfl⟩)
  go_upto_region 8 with (go_at_call 14
                         refine T7.out.mono ?_
                         rintro e w7 ⟨v7, rfl, o7, h7, k7⟩
                         obtain ⟨a7, c7, rfl⟩ := o7.form (n := 1) rfl
                         have H7 := Lib.hid h7
                         have B7 := Lib.hid (B6.out.trans (k7.below W.heap.size (fun k hk => Or.inl hk)))
                         have O47 := Lib.hid (O46.out.keptM k7 (fun b h => Or.inr h))
                         have O7 := Lib.hid o7
                         clear o7 h7 k7)
  have B8 := below_alloc w7 (.cells #[.int .i64 5, .int .i64 0, .string ⟨#[]⟩, .bool false] 44)
  have OF := Lib.hid (inof_any [kv0 5 0] (some ⟨w7.heap.size, 0, none⟩) 1 1 (w7.alloc (.cells #[.int .i64 5, .int .i64 0, .string ⟨#[]⟩, .bool false] 44)) rfl (by decide) (key_new1 w7 (kv0 5 0)) ((HK.out.below B7.out).below B8) (by intro k hk; rw [List.mem_singleton] at hk; subst hk; decide))
  rw [aw_d] at OF
  have HB8 := Lib.hid B8
  clear B8 T7 WT
  go_upto_region 9 with (go_at_call 19
                         refine OF.out.mono ?_
                         rintro e w8 ⟨v8, rfl, o8, b8⟩
                         obtain ⟨a8, c8, e8, _, i8, _⟩ := o8.at
                         cases e8
                         obtain ⟨g8, f8, rfl, hg8, d8, _⟩ := i8 1 (by decide)
                         have hb8 := seqB HB8.out b8
                         have H8 := Lib.hid (H7.out.kept hb8 (T := fun k => k < W.heap.size) (fun k hk => Or.inl (Or.inl (Or.inl hk))))
                         have B8 := Lib.hid (seqB B7.out hb8)
                         have O48 := Lib.hid (O47.out.below hb8)
                         have O78 := Lib.hid (O7.out.below hb8)
                         clear o8 b8 hb8 i8)
  have q9 : KeysIn (w8.alloc (.cells #[.int .i64 7, .int .i64 0, .string ⟨#[]⟩, .bool false, .int .i64 1, .int .i64 120, .string ⟨#[]⟩, .bool false, .int .i64 15, .int .i64 0, .string ⟨#[97, 98]⟩, .bool true, .int .i64 4, .int .i64 13, .string ⟨#[]⟩, .bool false] 44)) (some ⟨w8.heap.size, 0, none⟩) awK := keys_new w8 awK
  have B9 := below_alloc w8 (.cells #[.int .i64 7, .int .i64 0, .string ⟨#[]⟩, .bool false, .int .i64 1, .int .i64 120, .string ⟨#[]⟩, .bool false, .int .i64 15, .int .i64 0, .string ⟨#[97, 98]⟩, .bool true, .int .i64 4, .int .i64 13, .string ⟨#[]⟩, .bool false] 44)
  obtain ⟨_, _, e4, s4⟩ := O48.out.sl
  cases e4
  have SM1 := Lib.hid (ksame_ref awK a4 (some ⟨w8.heap.size, 0, none⟩) 4 c4 4 (w8.alloc (.cells #[.int .i64 7, .int .i64 0, .string ⟨#[]⟩, .bool false, .int .i64 1, .int .i64 120, .string ⟨#[]⟩, .bool false, .int .i64 15, .int .i64 0, .string ⟨#[97, 98]⟩, .bool true, .int .i64 4, .int .i64 13, .string ⟨#[]⟩, .bool false] 44)) rfl (by decide) (s4.s.below B9) q9)
  obtain ⟨_, _, e7, s7⟩ := O78.out.sl
  cases e7
  have S7 := Lib.hid (s7.s.below B9)
  have H9 := Lib.hid (H8.out.kept B9 (T := fun k => k < W.heap.size) (fun k hk => Or.inl hk))
  have N9 := Lib.hid (seqB B8.out B9)
  have d9 := (B9.cell (p := ⟨g8, f8 + 1 * 2, none⟩) hg8).trans d8
  have hg9 : g8 < (w8.alloc (.cells #[.int .i64 7, .int .i64 0, .string ⟨#[]⟩, .bool false, .int .i64 1, .int .i64 120, .string ⟨#[]⟩, .bool false, .int .i64 15, .int .i64 0, .string ⟨#[97, 98]⟩, .bool true, .int .i64 4, .int .i64 13, .string ⟨#[]⟩, .bool false] 44)).heap.size := Nat.lt_of_lt_of_le hg8 B9.size
  obtain ⟨W9, hW9⟩ : ∃ W9, w8.alloc (.cells #[.int .i64 7, .int .i64 0, .string ⟨#[]⟩, .bool false, .int .i64 1, .int .i64 120, .string ⟨#[]⟩, .bool false, .int .i64 15, .int .i64 0, .string ⟨#[97, 98]⟩, .bool true, .int .i64 4, .int .i64 13, .string ⟨#[]⟩, .bool false] 44) = W9 := ⟨_, rfl⟩
  rw [hW9] at SM1 S7 H9 N9 d9 hg9
  clear q9 B9 s4 s7 OF d8 hg8
  go_wp2_with (first
    | (go_at_call 13
       with_reducible refine SM1.out.mono ?_
       rintro e w10 ⟨rfl, hb⟩
       have B10 := hb.trans ((below_alloc w10 (.cells #[.int .i64 5, .int .i64 0, .string ⟨#[]⟩, .bool false] 44)).mono hb.size)
       have SM2 := Lib.hid (ksame_ref [kv0 5 0] a7 (some ⟨w10.heap.size, 0, none⟩) 1 c7 1 (w10.alloc (.cells #[.int .i64 5, .int .i64 0, .string ⟨#[]⟩, .bool false] 44)) rfl (by decide) (S7.out.below B10) (key_new1 w10 (kv0 5 0)))
       have H10 := Lib.hid (H9.out.kept B10 (T := fun k => k < W.heap.size) (fun k hk => Or.inl hk))
       have N10 := Lib.hid (seqB N9.out B10)
       have d10 := (B10.cell (p := ⟨g8, f8 + 1 * 2, none⟩) hg9).trans d9
       have hg10 := Nat.lt_of_lt_of_le hg9 B10.size
       clear hb B10 SM1)
    | (go_at_call 13
       with_reducible refine SM2.out.mono ?_
       rintro e w11 ⟨rfl, hb⟩
       have H11 := Lib.hid (H10.out.kept hb (T := fun k => k < W.heap.size) (fun k hk => Or.inl hk))
       have N11 := Lib.hid (seqB N10.out hb)
       have d11 := (hb.cell (p := ⟨g8, f8 + 1 * 2, none⟩) hg10).trans d10
       have PS : Hid (Calls Tryd.prog 15 #[.pointer (some ⟨W.heap.size, 0, none⟩)] w11 fun e w' => e = .returned (.bool false) ∧ w11 = w') := Lib.hid (inpas_any H11.out)
       clear hb SM2)
    | (go_at_call 15; refine PS.out.mono ?_; rintro e w11' ⟨rfl, rfl⟩))
  go_ret
  exact ⟨rfl, N11.out⟩
end Go.Proofs.YtdafcjjlkjngmaaDoor
set_option linter.unusedVariables false
set_option linter.unusedSimpArgs false
namespace Go.Proofs.YtdafcjjlkjngmaaDoor
open Go.RowKit
theorem stK_three (l : List UInt8) : (stK l).length ≤ 3 := by
  unfold stK
  split
  · simp
  split
  · rename_i h; rw [List.length_map]; exact pB_len h
  · simp
/-- Two ticks. -/
theorem tick_two (s : IS) : (itR s (true, 0)).2.length ≤ 3 ∧ (s.pas = true → (itR s (true, 0)).2.length = 0) ∧ (itR (itR s (true, 0)).1 (true, 13)).2 = [] ∧ (itR (itR s (true, 0)).1 (true, 13)).1.pas = s.pas ∧
    ((decide ((itR (itR s (true, 0)).1 (true, 13)).1.wait ≠ []) || (itR (itR s (true, 0)).1 (true, 13)).1.pas) = s.pas) := by
  cases hp : s.pas
  · have e1 : itR s (true, 0) = ({ s with wait := [] }, stK s.wait) := by unfold itR; rw [if_neg (by rw [hp]; decide), if_pos rfl]
    have e2 : itR { s with wait := [] } (true, 13) = ({ s with wait := [] }, stK []) := by unfold itR; rw [if_neg (by rw [hp]; decide), if_pos rfl]
    rw [e1]
    dsimp only
    rw [e2]
    refine ⟨stK_three _, fun e => (by cases e), ?_, hp, ?_⟩
    · unfold stK; rw [if_neg (by simp), if_neg (by rw [pB_nil]; decide)]
    · dsimp only; rw [hp]; rfl
  · have e1 : itR s (true, 0) = (s, []) := by unfold itR; rw [if_pos hp, if_pos rfl]
    have e2 : itR s (true, 13) = (s, []) := by unfold itR; rw [if_pos hp, if_pos rfl]
    rw [e1]
    dsimp only
    rw [e2]
    exact ⟨by simp, fun _ => rfl, rfl, hp, by dsimp only; rw [hp, Bool.or_true]⟩
set_option maxHeartbeats 4000000 in
theorem inputsettles_any (l : List It) (a : Option Addr) (c : Nat) (W : World) (hT : UT W) (hK : KT W) (hmax : l.length ≤ 9223372036854775807) (hR : ItsIn W a l) :
    Calls Tryd.prog 6 #[.slice a l.length c] W fun e w' => e = .returned (.bool true) ∧ Below W.heap.size W w' := by
  obtain ⟨n, hn⟩ : ∃ n, l.length = n := ⟨_, rfl⟩
  rw [hn]
  have AW := Lib.hid (fun w h1 h2 => inawake_any w h1 h2)
  have HT := Lib.hid hT
  have HK := Lib.hid hK
  have HR := Lib.hid hR
  by_cases h400 : 400 < n
  · have h4 : (400 : Int) < (n : Int) := by omega
    clear hT hK hR
    go_enter Tryd.func6, Tryd.ntmps6
    go_wp2_with (go_at_call 10; refine (AW.out _ HT.out HK.out).mono ?_; rintro e w1 ⟨rfl, hb⟩)
    go_ret
    exact ⟨rfl, hb⟩
  · have h4 : ¬ (400 : Int) < (n : Int) := by omega
    have hG := (gs_do (gs_in0 (m := 100) (by omega)) l)
    rw [hn, Nat.zero_add] at hG
    obtain ⟨s3, hs3⟩ : ∃ s3, (doR (in0 100) l).1 = s3 := ⟨_, rfl⟩
    have HS3 := Lib.hid hs3
    rw [hs3] at hG
    obtain ⟨t1, t2, t3, t4, t5⟩ := tick_two s3
    have HG := Lib.hid hG
    have HG2 := Lib.hid (gs_it hG (true, 0))
    have HL := Lib.hid hn
    have HN := Lib.hid h400
    obtain ⟨s4, hs4⟩ : ∃ s4, (itR s3 (true, 0)).1 = s4 := ⟨_, rfl⟩
    obtain ⟨m, hm⟩ : ∃ m, (itR s3 (true, 0)).2.length = m := ⟨_, rfl⟩
    rw [hm] at t1 t2
    rw [hs4] at t3 t4 t5 HG2
    have HS4 := Lib.hid hs4
    have HM := Lib.hid hm
    have T3 := Lib.hid t3
    have T4 := Lib.hid t4
    have T5 := Lib.hid t5
    obtain ⟨pas, hpas⟩ : ∃ q, s3.pas = q := ⟨_, rfl⟩
    have HP := Lib.hid hpas
    rw [hpas] at t2 T4 T5
    have hm3 : (m : Int) ≤ 3 := by omega
    have hm0 : Hid (pas = true → m = 0) := Lib.hid t2
    clear hT hK hR t1 t2 t3 t4 t5 hG hn h400 hm hpas hmax hs3 hs4
    cases pas
    all_goals
      try obtain rfl : m = 0 := hm0.out rfl
      go_enter Tryd.func6, Tryd.ntmps6
      go_upto_region 3 with (go_at_call 10; refine (AW.out _ HT.out HK.out).mono ?_; rintro e w1 ⟨rfl, hb⟩; have B1 := Lib.hid hb; clear hb)
      go_upto_region 4 with (go_at_call 11; refine (innew_any (S := fun k => k < W.heap.size) 100 w1 (by omega) (fun k hk => Nat.lt_of_lt_of_le hk B1.out.size)).mono ?_; rintro e w2 ⟨rfl, h2, b2⟩; have H2 := Lib.hid h2; have B2 := Lib.hid (B1.out.trans (b2.mono B1.out.size)); clear h2 b2; have U2 : Hid (US (fun k => k < W.heap.size) w2) := Lib.hid ⟨HT.out.below B2.out, HT.out.2.1, HT.out.2.2⟩; have I2 : Hid (ItemsIn (fun k => k < W.heap.size) w2 a l) := Lib.hid (its_below HR.out B2.out))
      generalize w1.heap.size = p at *
      go_upto_region 5 with (go_at_call 14; refine (do_any (N := 0) l a n c H2.out U2.out I2.out HL.out (by have := HN.out; omega) (gs_in0 (m := 100) (by omega)) (by have := HN.out; omega)).mono ?_; rintro e w3 ⟨v3, rfl, o3, h3, k3⟩; rw [HS3.out] at h3; have H3 := Lib.hid (h3.mono (T := fun k => k < W.heap.size) (fun k hk => Or.inl hk)); have B3 := Lib.hid (B2.out.trans (k3.below W.heap.size (fun k hk => hk))); have U3 := Lib.hid (U2.out.kept k3); clear o3 h3 k3)
      have PA := Lib.hid (inpas_any H3.out)
      rw [HP.out] at PA
      have D4 := Lib.hid (do_one (true, 0) H3.out U3.out HG.out (by have := HN.out; omega))
      rw [HS4.out] at D4
      go_upto_region 6 with (go_at_call 15; refine PA.out.mono ?_; rintro e w3' ⟨rfl, rfl⟩)
      go_upto_region 7 with (go_at_call 14; refine D4.out.mono ?_; rintro e w4 ⟨v4, rfl, o4, h4, k4⟩; obtain ⟨a4, c4, rfl⟩ := o4.form HM.out; have H4 := Lib.hid (h4.mono (T := fun k => k < W.heap.size) (fun k hk => Or.inl hk)); have B4 := Lib.hid (B3.out.trans (k4.below W.heap.size (fun k hk => hk))); have U4 := Lib.hid (U3.out.kept k4); clear o4 h4 k4)
      have D5 := Lib.hid (do_one (true, 13) H4.out U4.out HG2.out (by have := HN.out; omega))
      rw [T3.out] at D5
      clear D4 PA
      go_upto_region 8 with (go_at_call 14; refine D5.out.mono ?_; rintro e w5 ⟨v5, rfl, o5, h5, k5⟩; obtain ⟨a5, c5, rfl⟩ := o5.form (n := 0) rfl; have H5 := Lib.hid (h5.mono (T := fun k => k < W.heap.size) (fun k hk => Or.inl hk)); have B5 := Lib.hid (B4.out.trans (k5.below W.heap.size (fun k hk => hk))); clear o5 h5 k5)
      have PA := Lib.hid (inpas_any H5.out)
      rw [T4.out] at PA
      have WA := Lib.hid (inwaits_any H5.out)
      rw [T5.out] at WA
      go_wp2_with (first
        | (go_at_call 15; refine PA.out.mono ?_; rintro e w5' ⟨rfl, rfl⟩)
        | (go_at_call 16; refine WA.out.mono ?_; rintro e w5'' ⟨rfl, rfl⟩))
      go_ret
      exact ⟨rfl, B5.out⟩
end Go.Proofs.YtdafcjjlkjngmaaDoor
