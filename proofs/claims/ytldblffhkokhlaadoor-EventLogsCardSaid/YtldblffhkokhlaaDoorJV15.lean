/-
  Joined: Ev22 Ev23.
-/
import Derived.Test.YtldblffhkokhlaaDoorJV11
import Derived.Deep.Cut
import Derived.Deep.CutRange
import Derived.Deep.CutBlock
set_option linter.unusedVariables false
set_option linter.unusedSimpArgs false
set_option maxRecDepth 100000
set_option linter.unusedVariables false
set_option linter.unusedSimpArgs false
namespace Go.Proofs.YtldblffhkokhlaaDoor
open Go.RowKit
/-- What Read answers of any text. -/
def RdPost (s : List UInt8) (w : World) (e : Ending) (w' : World) : Prop :=
  ((∃ (a : Option Addr) (n c : Nat) (V : List Ev), e = .returned (.tuple #[.slice a n c, .int .i64 0]) ∧ V.length = n ∧ EvsIn w' a V ∧ evA V = true ∧ lgT V = s ∧ (∀ v ∈ V, v.2.1.length ≤ 1000) ∧ n ≤ 1000)
   ∨ (e = .returned (.tuple #[.slice none 0 0, .int .i64 6]) ∧ s ≠ [] ∧ (∀ r : List UInt8, s ≠ r ++ [10]))
   ∨ (e = .returned (.tuple #[.slice none 0 0, .int .i64 10]) ∧ ∃ r : List UInt8, s = r ++ [10])) ∧ Below w.heap.size w w'
theorem evT_sl {v : Ev} (h : evMay v = true) : v.2.1.length ≤ (evT v).length := by
  have hm := h
  unfold evMay at h
  simp only [Bool.and_eq_true, decide_eq_true_eq] at h
  obtain ⟨_, hab, _, hok⟩ := h
  have key : ∀ k, k ≤ v.2.1.length → k ≤ (tgL v.2.1 k).length := by
    intro k
    induction k with
    | zero => intro _; exact Nat.zero_le _
    | succ k ih =>
      intro hk
      have h1 := ih (by omega)
      have h2 := (leF_len (sg_right hok _ (getD_memS (l := v.2.1) (k := k) (by omega)))).1
      show k + 1 ≤ (tgL v.2.1 k ++ (_ ++ _)).length
      rw [List.length_append, List.length_append]
      omega
  unfold evT
  by_cases ha : evAb v.1 = true
  · rw [if_pos ha, List.length_append, List.length_cons, List.length_append]
    have := key _ (Nat.le_refl _)
    omega
  · have hz : v.2.1.length = 0 := by
      have : evAb v.1 = false := by simpa using ha
      rw [this] at hab
      simp at hab
      rw [hab.1]; rfl
    omega
theorem rdPs_sl {ps : List (List UInt8)} {m : Nat} (hp : ∀ p ∈ ps, p.length ≤ m) : ∀ v ∈ rdPs ps, v.2.1.length ≤ m := by
  intro v hv
  unfold rdPs at hv
  rw [List.mem_filterMap] at hv
  obtain ⟨p, hp1, hp2⟩ := hv
  obtain ⟨h1, h2⟩ := evR_some hp2
  have := evT_sl h1
  have := hp p hp1
  rw [← h2] at this
  omega
theorem rdPs_len (ps : List (List UInt8)) : (rdPs ps).length ≤ ps.length := List.length_filterMap_le _ _
theorem eread_any (s : List UInt8) (w : World) (hT : UT w) (hK : EVT w) (hl : s.length ≤ 900) : Calls Tryd.prog 22 #[.string (mkL s)] w (RdPost s w) := by
  rcases List.eq_nil_or_concat s with rfl | ⟨r, x, rfl⟩
  · refine (eread_nil w).mono ?_
    rintro e w' ⟨rfl, rfl⟩
    exact ⟨Or.inl ⟨none, 0, 0, [], rfl, rfl, fun j hj => absurd hj (Nat.not_lt_zero j), rfl, rfl, fun v hv => (by cases hv), by decide⟩, Below.refl _ _⟩
  · by_cases hx : x = 10
    · subst hx
      have hpl := pcB_len 10 r
      rw [List.concat_eq_append, List.length_append, List.length_singleton] at hl
      have hpm : ∀ p ∈ pcB 10 r, p.length ≤ 900 := fun p hp => Nat.le_trans (pcB_mem 10 r p hp) (by omega)
      have h := eread_ten r w hT hK (by omega) (fun p hp => Nat.le_trans (hpm p hp) (by decide))
      rw [List.concat_eq_append]
      refine h.mono ?_
      rintro e w' ⟨he, hb⟩
      refine ⟨?_, hb⟩
      cases hk : rdOk (pcB 10 r)
      · rw [hk, if_neg (by decide)] at he
        exact Or.inr (Or.inr ⟨he, r, rfl⟩)
      · rw [hk, if_pos rfl] at he
        obtain ⟨a, c, he, hs⟩ := he
        obtain ⟨h1, h2⟩ := rdPs_log hk
        rw [pc_ten] at h1
        exact Or.inl ⟨a, _, c, rdPs (pcB 10 r), he, rfl, hs, h2, h1, fun v hv => Nat.le_trans (rdPs_sl hpm v hv) (by decide), by have := rdPs_len (pcB 10 r); omega⟩
    · have hne : r.concat x ≠ [] := by rw [List.concat_eq_append]; simp
      have hno : ∀ q : List UInt8, r.concat x ≠ q ++ [10] := fun q e => by
        rw [List.concat_eq_append] at e
        have := congrArg List.getLast? e
        simp at this
        exact hx this
      refine (eread_form _ w hne (by omega) hno).mono ?_
      rintro e w' ⟨rfl, rfl⟩
      exact ⟨Or.inr (Or.inl ⟨rfl, hne, hno⟩), Below.refl _ _⟩
/-- Read of a log of some that may be. -/
theorem eread_log (V : List Ev) (n : Nat) (w : World) (hT : UT w) (hK : EVT w) (hn : V.length = n) (hl : n ≤ 20) (h : ∀ v ∈ V, evMay v = true ∧ v.2.1.length ≤ 60) : Calls Tryd.prog 22 #[.string (mkL (lgT V))] w fun e w' => ∃ a c, e = .returned (.tuple #[.slice a n c, .int .i64 0]) ∧ EvsIn w' a V ∧ Below w.heap.size w w' := by
  by_cases hne : V = []
  · subst hne
    subst hn
    refine (eread_nil w).mono ?_
    rintro e w' ⟨rfl, rfl⟩
    exact ⟨none, 0, rfl, fun j hj => absurd hj (Nat.not_lt_zero j), Below.refl _ _⟩
  · have h' : ∀ v ∈ V, evMay v = true ∧ v.2.1.length ≤ 1000 := fun v hv => ⟨(h v hv).1, Nat.le_trans (h v hv).2 (by decide)⟩
    obtain ⟨r, h1, h2⟩ := lg_pc hne h'
    have h3 := lg_len h'
    rw [h1, List.length_append, List.length_singleton] at h3
    have hh := eread_ten r w hT hK (by omega) (fun p hp => by
      rw [h2] at hp
      obtain ⟨v, hv, rfl⟩ := List.mem_map.1 hp
      have := evT_len (h v hv).1
      have := (h v hv).2
      omega)
    rw [h2] at hh
    unfold ErPost at hh
    obtain ⟨h5, h6⟩ := rd_map h'
    rw [h5, h6] at hh
    rw [h1]
    refine hh.mono fun e w' hx => ?_
    rw [if_pos rfl] at hx
    obtain ⟨⟨a, c, he, hs⟩, hb⟩ := hx
    exact ⟨a, c, by rw [he, hn], hs, hb⟩
end Go.Proofs.YtldblffhkokhlaaDoor
set_option linter.unusedVariables false
set_option linter.unusedSimpArgs false
namespace Go.Proofs.YtldblffhkokhlaaDoor
open Go.RowKit
theorem rd_det (s : List UInt8) (hl : s.length ≤ 900) :
    (∃ V : List Ev, evA V = true ∧ lgT V = s ∧ (∀ v ∈ V, v.2.1.length ≤ 1000) ∧ V.length ≤ 1000 ∧ ∀ w : World, UT w → EVT w → Calls Tryd.prog 22 #[.string (mkL s)] w fun e w' => ∃ a c, e = .returned (.tuple #[.slice a V.length c, .int .i64 0]) ∧ EvsIn w' a V ∧ Below w.heap.size w w')
    ∨ (∃ (q : List UInt8) (x : UInt8), s = q ++ [x] ∧ x ≠ 10 ∧ ∀ w : World, UT w → EVT w → Calls Tryd.prog 22 #[.string (mkL s)] w fun e w' => e = .returned (.tuple #[.slice none 0 0, .int .i64 6]) ∧ Below w.heap.size w w')
    ∨ (∃ q : List UInt8, s = q ++ [10] ∧ ∀ w : World, UT w → EVT w → Calls Tryd.prog 22 #[.string (mkL s)] w fun e w' => e = .returned (.tuple #[.slice none 0 0, .int .i64 10]) ∧ Below w.heap.size w w') := by
  rcases List.eq_nil_or_concat s with rfl | ⟨r, x, rfl⟩
  · refine Or.inl ⟨[], rfl, rfl, fun v hv => (by cases hv), by decide, fun w hT hK => (eread_nil w).mono ?_⟩
    rintro e w' ⟨rfl, rfl⟩
    exact ⟨none, 0, rfl, fun j hj => absurd hj (Nat.not_lt_zero j), Below.refl _ _⟩
  · rw [List.concat_eq_append] at hl ⊢
    by_cases hx : x = 10
    · subst hx
      have hpl := pcB_len 10 r
      rw [List.length_append, List.length_singleton] at hl
      have hpm : ∀ p ∈ pcB 10 r, p.length ≤ 900 := fun p hp => Nat.le_trans (pcB_mem 10 r p hp) (by omega)
      have h := fun w hT hK => eread_ten r w hT hK (by omega) (fun p hp => Nat.le_trans (hpm p hp) (by decide))
      unfold ErPost at h
      cases hk : rdOk (pcB 10 r)
      · rw [hk] at h
        exact Or.inr (Or.inr ⟨r, rfl, fun w hT hK => (h w hT hK).mono fun e w' he => by rw [if_neg (by decide)] at he; exact he⟩)
      · rw [hk] at h
        obtain ⟨h1, h2⟩ := rdPs_log hk
        rw [pc_ten] at h1
        exact Or.inl ⟨rdPs (pcB 10 r), h2, h1, fun v hv => Nat.le_trans (rdPs_sl hpm v hv) (by decide), by have := rdPs_len (pcB 10 r); omega, fun w hT hK => (h w hT hK).mono fun e w' he => by
          rw [if_pos rfl] at he
          obtain ⟨⟨a, c, he, hs⟩, hb⟩ := he
          exact ⟨a, c, he, hs, hb⟩⟩
    · have hno : ∀ q : List UInt8, r ++ [x] ≠ q ++ [10] := fun q e => by
        have := congrArg List.getLast? e
        simp at this
        exact hx this
      refine Or.inr (Or.inl ⟨r, x, rfl, hx, fun w hT hK => (eread_form _ w (by simp) (by omega) hno).mono ?_⟩)
      rintro e w' ⟨rfl, rfl⟩
      exact ⟨rfl, Below.refl _ _⟩
theorem last_facts (q : List UInt8) (x : UInt8) : (∀ wx, (Instr.index 9 (.string (mkL (q ++ [x]))) (.int .i64 (((mkL (q ++ [x])).size : Int) - 1))).run Tryd.prog wx = .ok (.int .u8 (x.toNat : Int)) wx) ∧ (mkL (q ++ [x])).toList.isEmpty = false ∧ ((mkL (q ++ [x])).toList == (⟨#[]⟩ : ByteArray).toList) = false ∧ ((mkL (q ++ [x])).toList != (⟨#[]⟩ : ByteArray).toList) = true ∧ ¬ (mkL (q ++ [x])).toList = (⟨#[]⟩ : ByteArray).toList ∧ ∀ (h : (mkL (q ++ [x])).size - 1 < (mkL (q ++ [x])).size), ((mkL (q ++ [x]))[(mkL (q ++ [x])).size - 1]'h) = x := by
  obtain ⟨hne1, hne2, hne3⟩ := estr_ne (s := mkL (q ++ [x])) (t := ⟨#[]⟩) (fun e => (by simp : q ++ [x] ≠ []) (mkL_inj e))
  have hsz : (mkL (q ++ [x])).size = q.length + 1 := by rw [mkL_size, List.length_append, List.length_singleton]
  have this : ∀ (i : Nat) (h : i < (mkL (q ++ [x])).size), i = q.length → ((mkL (q ++ [x]))[i]'h) = x := fun i h e => by
    subst e
    show (mkL (q ++ [x])).data[q.length] = x
    simp [mkL]
  refine ⟨fun wx => ?_, ?_, hne1, hne2, hne3, fun h => this _ h (by omega)⟩
  · rw [run_index_string (P := Tryd.prog) wx 9 (mkL (q ++ [x])) .i64 _ Tryd.underlying9, dif_pos (by rw [hsz]; omega)]
    congr 3
    have hi : (((mkL (q ++ [x])).size : Int) - 1).toNat = q.length := by rw [hsz]; omega
    rw [this _ _ hi]
  · cases hh : (mkL (q ++ [x])).toList with
    | nil => rw [hh] at hne3; exact absurd (by rw [ByteArray.toList_eq]) hne3
    | cons c r => rfl
set_option maxRecDepth 100000 in
set_option maxHeartbeats 8000000 in
theorem eventlogs_any (V : List Ev) (n : Nat) (a : Option Addr) (c : Nat) (s : List UInt8) (w : World) (hT : UT w) (hK : EVT w) (hn : V.length = n) (hmax : n ≤ 9223372036854775807) (hs : EvsIn w a V) :
    Calls Tryd.prog 4 #[.slice a n c, .string (mkL s)] w fun e w' => e = .returned (.bool true) ∧ Below w.heap.size w w' := by
  have LI := light33_ref V a c w (by omega) hs
  rw [hn] at LI
  have AW := Lib.hid fun (wx : World) hT hK => awake33_any wx hT hK
  have HS := Lib.hid hs; have HT := Lib.hid hT; have HK := Lib.hid hK; have HN := Lib.hid hn
  have N0 : Hid (Below w.heap.size w w) := Lib.hid (Below.refl _ _)
  have hsz := mkL_size s
  have hlt : evLt V = true → n ≤ 20 ∧ ∀ v ∈ V, v.2.1.length ≤ 60 := fun h => by
    unfold evLt at h
    rw [Bool.and_eq_true] at h
    have h1 := of_decide_eq_true h.1
    exact ⟨by omega, fun v hv => of_decide_eq_true (List.all_eq_true.1 h.2 v hv)⟩
  clear hs hT hK hn
  cases hlb : evLt V
  · rw [hlb] at LI
    replace LI := Lib.hid LI
    clear hlt hlb
    generalize mkL s = S at *
    go_enter Tryd.func4, Tryd.ntmps4
    go_wp2_with (first
      | (go_at_call 10; refine LI.out.mono ?_; rintro e w3 ⟨rfl, rfl⟩)
      | (go_at_call 11; refine (AW.out _ (HT.out.below N0.out) (HK.out.below N0.out)).mono ?_; rintro e w4 ⟨rfl, hb4⟩))
    go_ret
    exact ⟨rfl, seqB N0.out hb4⟩
  · obtain ⟨h20, h60⟩ := hlt hlb
    rw [hlb] at LI
    replace LI := Lib.hid LI
    have H60 := Lib.hid h60
    clear hlb hlt h60
    by_cases h500 : 500 < s.length
    · have h500i : (500 : Int) < ((mkL s).size : Int) := by omega
      generalize mkL s = S at *
      go_enter Tryd.func4, Tryd.ntmps4
      go_wp2_with (first
        | (go_at_call 10; refine LI.out.mono ?_; rintro e w3 ⟨rfl, rfl⟩)
        | (go_at_call 11; refine (AW.out _ (HT.out.below N0.out) (HK.out.below N0.out)).mono ?_; rintro e w4 ⟨rfl, hb4⟩))
      go_ret
      exact ⟨rfl, seqB N0.out hb4⟩
    · have h500i : ¬ (500 : Int) < ((mkL s).size : Int) := by omega
      have LG := Lib.hid (elog_any V n a c w HN.out (by omega) HK.out HS.out (fun v hv => Nat.le_trans (H60.out v hv) (by decide)))
      unfold LgPost at LG
      have AL := Lib.hid fun (wx : World) (hb : Below w.heap.size w wx) => rall33_ref V a c wx (by have := HN.out; omega) (HS.out.below hb) (fun v hv => Nat.le_trans (H60.out v hv) (by decide))
      rw [HN.out] at AL
      cases hA : evA V
      · rw [hA] at LG AL
        replace LG : Hid (Calls Tryd.prog 20 #[.slice a n c] w fun e w' => e = .returned (.tuple #[.string ⟨#[]⟩, .int .i64 2]) ∧ Below w.heap.size w w') := LG
        clear hA
        rcases rd_det s (by omega) with ⟨RV, hrA, hrT, hrl, hrn, RD0⟩ | ⟨q, x, hq, hx, RD0⟩ | ⟨q, hq, RD0⟩
        · have RD := Lib.hid RD0
          obtain ⟨rn, hrn2⟩ : ∃ rn, RV.length = rn := ⟨_, rfl⟩
          rw [hrn2] at RD hrn
          have RA := Lib.hid fun (b : Option Addr) (d : Nat) (wx : World) (h : EvsIn wx b RV) => rall33_ref RV b d wx (by omega) h (fun v hv => Nat.le_trans (hrl v hv) (by decide))
          have RL := Lib.hid fun (b : Option Addr) (d : Nat) (wx : World) (h : EvsIn wx b RV) => rlog33_ref RV b d wx (by omega) h (fun v hv => ⟨List.all_eq_true.1 hrA v hv, hrl v hv⟩)
          rw [hrA, hrn2] at RA
          rw [hrT, hrn2] at RL
          clear RD0 hrA hrT hrl hrn2
          clear hsz
          generalize mkL s = S at *
          have hSS : (S.toList == S.toList) = true := by simp
          go_enter Tryd.func4, Tryd.ntmps4
          go_upto_region 10 with (first
            | (go_at_call 10; refine LI.out.mono ?_; rintro e w3 ⟨rfl, rfl⟩)
            | (go_at_call 20; refine LG.out.mono ?_; rintro e w4 ⟨rfl, hb4⟩; have N4 := Lib.hid hb4; clear hb4)
            | (go_at_call 21; refine (AL.out _ N4.out).mono ?_; rintro e w5 ⟨rfl, hb5⟩; have NT := Lib.hid (seqB N4.out hb5); clear hb5 LI LG AL))
          go_wp2_with (first
            | (go_at_call 22; refine (RD.out _ (HT.out.below NT.out) (HK.out.below NT.out)).mono ?_; rintro e wr ⟨ra, rc, rfl, hrs, hbr⟩; have NR := Lib.hid (seqB NT.out hbr); have ER := Lib.hid hrs; clear hrs hbr)
            | (go_at_call 11; refine (AW.out _ (HT.out.below NR.out) (HK.out.below NR.out)).mono ?_; rintro e wa ⟨rfl, hba⟩; have NA := Lib.hid (seqB NR.out hba); have EA := Lib.hid (ER.out.below hba); clear hba)
            | (go_at_call 21; (with_reducible refine (RA.out _ _ _ EA.out).mono ?_); rintro e wb ⟨rfl, hbb⟩; have NB := Lib.hid (seqB NA.out hbb); have EB := Lib.hid (EA.out.below hbb); clear hbb)
            | (go_at_call 23; (with_reducible refine (RL.out _ _ _ EB.out).mono ?_); rintro e wc ⟨rfl, hbc⟩; have NC := Lib.hid (seqB NB.out hbc); clear hbc))
          go_ret
          exact ⟨rfl, NC.out⟩
        · have RD := Lib.hid RD0
          obtain ⟨hix, hie, hne1, hne2, hne3, hget⟩ := last_facts q (x : UInt8)
          rw [← hq] at hix hie hne1 hne2 hne3 hget
          have hxb : ((x.toNat : Int) == 10) = false := by rw [beq_eq_false_iff_ne]; intro e; exact hx (UInt8.toNat_inj.1 (by have h10 : (10 : UInt8).toNat = 10 := rfl; omega))
          have hxb2 : ¬ (x.toNat : Int) = 10 := by simpa using hxb
          have hpos : 0 < (mkL s).size := by rw [mkL_size, hq, List.length_append, List.length_singleton]; omega
          have hpos1 : (0 : Int) ≤ ((mkL s).size : Int) - 1 := by omega
          clear RD0 hq hx
          clear hsz
          generalize mkL s = S at *
          go_enter Tryd.func4, Tryd.ntmps4
          go_upto_region 10 with (first
            | (go_at_call 10; refine LI.out.mono ?_; rintro e w3 ⟨rfl, rfl⟩)
            | (go_at_call 20; refine LG.out.mono ?_; rintro e w4 ⟨rfl, hb4⟩; have N4 := Lib.hid hb4; clear hb4)
            | (go_at_call 21; refine (AL.out _ N4.out).mono ?_; rintro e w5 ⟨rfl, hb5⟩; have NT := Lib.hid (seqB N4.out hb5); clear hb5 LI LG AL))
          go_wp2_with (first
            | (go_at_call 22; refine (RD.out _ (HT.out.below NT.out) (HK.out.below NT.out)).mono ?_; rintro e wr ⟨rfl, hbr⟩; have NR := Lib.hid (seqB NT.out hbr); clear hbr)
            | (go_at_call 11; refine (AW.out _ (HT.out.below NR.out) (HK.out.below NR.out)).mono ?_; rintro e wa ⟨rfl, hba⟩; have NA := Lib.hid (seqB NR.out hba); clear hba))
          go_ret
          exact ⟨rfl, NA.out⟩
        · have RD := Lib.hid RD0
          obtain ⟨hix, hie, hne1, hne2, hne3, hget⟩ := last_facts q (10 : UInt8)
          rw [← hq] at hix hie hne1 hne2 hne3 hget
          rw [show (((10 : UInt8).toNat : Nat) : Int) = 10 from rfl] at hix
          have hpos : 0 < (mkL s).size := by rw [mkL_size, hq, List.length_append, List.length_singleton]; omega
          have hpos1 : (0 : Int) ≤ ((mkL s).size : Int) - 1 := by omega
          clear RD0 hq
          clear hsz
          generalize mkL s = S at *
          go_enter Tryd.func4, Tryd.ntmps4
          go_upto_region 10 with (first
            | (go_at_call 10; refine LI.out.mono ?_; rintro e w3 ⟨rfl, rfl⟩)
            | (go_at_call 20; refine LG.out.mono ?_; rintro e w4 ⟨rfl, hb4⟩; have N4 := Lib.hid hb4; clear hb4)
            | (go_at_call 21; refine (AL.out _ N4.out).mono ?_; rintro e w5 ⟨rfl, hb5⟩; have NT := Lib.hid (seqB N4.out hb5); clear hb5 LI LG AL))
          go_wp2_with (first
            | (go_at_call 22; refine (RD.out _ (HT.out.below NT.out) (HK.out.below NT.out)).mono ?_; rintro e wr ⟨rfl, hbr⟩; have NR := Lib.hid (seqB NT.out hbr); clear hbr)
            | (go_at_call 11; refine (AW.out _ (HT.out.below NR.out) (HK.out.below NR.out)).mono ?_; rintro e wa ⟨rfl, hba⟩; have NA := Lib.hid (seqB NR.out hba); clear hba))
          go_ret
          exact ⟨rfl, NA.out⟩
      · rw [hA] at LG AL
        have h60 := H60.out
        have hA' := List.all_eq_true.1 hA
        have GR := Lib.hid fun (wx : World) hT hK => eread_log V n wx hT hK HN.out h20 (fun v hv => ⟨hA' v hv, h60 v hv⟩)
        have GL := Lib.hid fun (wx : World) (hb : Below w.heap.size w wx) => rlog33_ref V a c wx (by have := HN.out; omega) (HS.out.below hb) (fun v hv => ⟨hA' v hv, Nat.le_trans (h60 v hv) (by decide)⟩)
        rw [HN.out] at GL
        have GS := Lib.hid fun (b : Option Addr) (d : Nat) (wx : World) (h : EvsIn wx b V) (hb : Below w.heap.size w wx) => r30same V n b a d c wx HN.out (by omega) (fun v hv => Nat.le_trans (h60 v hv) (by decide)) h (HS.out.below hb)
        have GE := Lib.hid fun (b : Option Addr) (d : Nat) (wx : World) (h : EvsIn wx b V) (hb : Below w.heap.size w wx) => esame_any V V n n b a d c wx HN.out HN.out (by omega) (by omega) (fun v hv => Nat.le_trans (h60 v hv) (by decide)) (fun v hv => Nat.le_trans (h60 v hv) (by decide)) h (HS.out.below hb)
        rw [show evsQ V V = true from decide_eq_true rfl] at GE
        replace LG : Hid (Calls Tryd.prog 20 #[.slice a n c] w fun e w' => e = .returned (.tuple #[.string (mkL (lgT V)), .int .i64 0]) ∧ Below w.heap.size w w') := LG
        generalize mkL (lgT V) = Tx at *
        have hTT : (Tx.toList != Tx.toList) = false := by simp
        clear hA hA' h60
        rcases rd_det s (by omega) with ⟨RV, hrA, hrT, hrl, hrn, RD0⟩ | ⟨q, x, hq, hx, RD0⟩ | ⟨q, hq, RD0⟩
        · have RD := Lib.hid RD0
          obtain ⟨rn, hrn2⟩ : ∃ rn, RV.length = rn := ⟨_, rfl⟩
          rw [hrn2] at RD hrn
          have RA := Lib.hid fun (b : Option Addr) (d : Nat) (wx : World) (h : EvsIn wx b RV) => rall33_ref RV b d wx (by omega) h (fun v hv => Nat.le_trans (hrl v hv) (by decide))
          have RL := Lib.hid fun (b : Option Addr) (d : Nat) (wx : World) (h : EvsIn wx b RV) => rlog33_ref RV b d wx (by omega) h (fun v hv => ⟨List.all_eq_true.1 hrA v hv, hrl v hv⟩)
          rw [hrA, hrn2] at RA
          rw [hrT, hrn2] at RL
          clear RD0 hrA hrT hrl hrn2
          clear hsz
          generalize mkL s = S at *
          have hSS : (S.toList == S.toList) = true := by simp
          go_enter Tryd.func4, Tryd.ntmps4
          go_upto_region 10 with (first
            | (go_at_call 10; refine LI.out.mono ?_; rintro e w3 ⟨rfl, rfl⟩)
            | (go_at_call 20; refine LG.out.mono ?_; rintro e w4 ⟨rfl, hb4⟩; have N4 := Lib.hid hb4; clear hb4)
            | (go_at_call 21; (with_reducible refine (AL.out _ N4.out).mono ?_); rintro e w5 ⟨rfl, hb5⟩; have N5 := Lib.hid (seqB N4.out hb5); clear hb5 AL)
            | (go_at_call 22; (with_reducible refine (GR.out _ (HT.out.below N5.out) (HK.out.below N5.out)).mono ?_); rintro e w6 ⟨ma, mc, rfl, hms, hb6⟩; have N6 := Lib.hid (seqB N5.out hb6); have E6 := Lib.hid hms; clear hms hb6)
            | (go_at_call 23; (with_reducible refine (GL.out _ N6.out).mono ?_); rintro e w7 ⟨rfl, hb7⟩; have N7 := Lib.hid (seqB N6.out hb7); have E7 := Lib.hid (E6.out.below hb7); clear hb7)
            | (go_at_call 19; refine (GS.out _ _ _ E7.out N7.out).mono ?_; rintro e w8 ⟨rfl, hb8⟩; have N8 := Lib.hid (seqB N7.out hb8); have E8 := Lib.hid (E7.out.below hb8); clear hb8)
            | (go_at_call 14; refine (GE.out _ _ _ E8.out N8.out).mono ?_; rintro e w9 ⟨rfl, hb9⟩; have NT := Lib.hid (seqB N8.out hb9); clear hb9 LI LG GR GL GS GE E6 E7 E8))
          go_wp2_with (first
            | (go_at_call 22; refine (RD.out _ (HT.out.below NT.out) (HK.out.below NT.out)).mono ?_; rintro e wr ⟨ra, rc, rfl, hrs, hbr⟩; have NR := Lib.hid (seqB NT.out hbr); have ER := Lib.hid hrs; clear hrs hbr)
            | (go_at_call 11; refine (AW.out _ (HT.out.below NR.out) (HK.out.below NR.out)).mono ?_; rintro e wa ⟨rfl, hba⟩; have NA := Lib.hid (seqB NR.out hba); have EA := Lib.hid (ER.out.below hba); clear hba)
            | (go_at_call 21; (with_reducible refine (RA.out _ _ _ EA.out).mono ?_); rintro e wb ⟨rfl, hbb⟩; have NB := Lib.hid (seqB NA.out hbb); have EB := Lib.hid (EA.out.below hbb); clear hbb)
            | (go_at_call 23; (with_reducible refine (RL.out _ _ _ EB.out).mono ?_); rintro e wc ⟨rfl, hbc⟩; have NC := Lib.hid (seqB NB.out hbc); clear hbc))
          go_ret
          exact ⟨rfl, NC.out⟩
        · have RD := Lib.hid RD0
          obtain ⟨hix, hie, hne1, hne2, hne3, hget⟩ := last_facts q (x : UInt8)
          rw [← hq] at hix hie hne1 hne2 hne3 hget
          have hxb : ((x.toNat : Int) == 10) = false := by rw [beq_eq_false_iff_ne]; intro e; exact hx (UInt8.toNat_inj.1 (by have h10 : (10 : UInt8).toNat = 10 := rfl; omega))
          have hxb2 : ¬ (x.toNat : Int) = 10 := by simpa using hxb
          have hpos : 0 < (mkL s).size := by rw [mkL_size, hq, List.length_append, List.length_singleton]; omega
          have hpos1 : (0 : Int) ≤ ((mkL s).size : Int) - 1 := by omega
          clear RD0 hq hx
          clear hsz
          generalize mkL s = S at *
          go_enter Tryd.func4, Tryd.ntmps4
          go_upto_region 10 with (first
            | (go_at_call 10; refine LI.out.mono ?_; rintro e w3 ⟨rfl, rfl⟩)
            | (go_at_call 20; refine LG.out.mono ?_; rintro e w4 ⟨rfl, hb4⟩; have N4 := Lib.hid hb4; clear hb4)
            | (go_at_call 21; (with_reducible refine (AL.out _ N4.out).mono ?_); rintro e w5 ⟨rfl, hb5⟩; have N5 := Lib.hid (seqB N4.out hb5); clear hb5 AL)
            | (go_at_call 22; (with_reducible refine (GR.out _ (HT.out.below N5.out) (HK.out.below N5.out)).mono ?_); rintro e w6 ⟨ma, mc, rfl, hms, hb6⟩; have N6 := Lib.hid (seqB N5.out hb6); have E6 := Lib.hid hms; clear hms hb6)
            | (go_at_call 23; (with_reducible refine (GL.out _ N6.out).mono ?_); rintro e w7 ⟨rfl, hb7⟩; have N7 := Lib.hid (seqB N6.out hb7); have E7 := Lib.hid (E6.out.below hb7); clear hb7)
            | (go_at_call 19; refine (GS.out _ _ _ E7.out N7.out).mono ?_; rintro e w8 ⟨rfl, hb8⟩; have N8 := Lib.hid (seqB N7.out hb8); have E8 := Lib.hid (E7.out.below hb8); clear hb8)
            | (go_at_call 14; refine (GE.out _ _ _ E8.out N8.out).mono ?_; rintro e w9 ⟨rfl, hb9⟩; have NT := Lib.hid (seqB N8.out hb9); clear hb9 LI LG GR GL GS GE E6 E7 E8))
          go_wp2_with (first
            | (go_at_call 22; refine (RD.out _ (HT.out.below NT.out) (HK.out.below NT.out)).mono ?_; rintro e wr ⟨rfl, hbr⟩; have NR := Lib.hid (seqB NT.out hbr); clear hbr)
            | (go_at_call 11; refine (AW.out _ (HT.out.below NR.out) (HK.out.below NR.out)).mono ?_; rintro e wa ⟨rfl, hba⟩; have NA := Lib.hid (seqB NR.out hba); clear hba))
          go_ret
          exact ⟨rfl, NA.out⟩
        · have RD := Lib.hid RD0
          obtain ⟨hix, hie, hne1, hne2, hne3, hget⟩ := last_facts q (10 : UInt8)
          rw [← hq] at hix hie hne1 hne2 hne3 hget
          rw [show (((10 : UInt8).toNat : Nat) : Int) = 10 from rfl] at hix
          have hpos : 0 < (mkL s).size := by rw [mkL_size, hq, List.length_append, List.length_singleton]; omega
          have hpos1 : (0 : Int) ≤ ((mkL s).size : Int) - 1 := by omega
          clear RD0 hq
          clear hsz
          generalize mkL s = S at *
          go_enter Tryd.func4, Tryd.ntmps4
          go_upto_region 10 with (first
            | (go_at_call 10; refine LI.out.mono ?_; rintro e w3 ⟨rfl, rfl⟩)
            | (go_at_call 20; refine LG.out.mono ?_; rintro e w4 ⟨rfl, hb4⟩; have N4 := Lib.hid hb4; clear hb4)
            | (go_at_call 21; (with_reducible refine (AL.out _ N4.out).mono ?_); rintro e w5 ⟨rfl, hb5⟩; have N5 := Lib.hid (seqB N4.out hb5); clear hb5 AL)
            | (go_at_call 22; (with_reducible refine (GR.out _ (HT.out.below N5.out) (HK.out.below N5.out)).mono ?_); rintro e w6 ⟨ma, mc, rfl, hms, hb6⟩; have N6 := Lib.hid (seqB N5.out hb6); have E6 := Lib.hid hms; clear hms hb6)
            | (go_at_call 23; (with_reducible refine (GL.out _ N6.out).mono ?_); rintro e w7 ⟨rfl, hb7⟩; have N7 := Lib.hid (seqB N6.out hb7); have E7 := Lib.hid (E6.out.below hb7); clear hb7)
            | (go_at_call 19; refine (GS.out _ _ _ E7.out N7.out).mono ?_; rintro e w8 ⟨rfl, hb8⟩; have N8 := Lib.hid (seqB N7.out hb8); have E8 := Lib.hid (E7.out.below hb8); clear hb8)
            | (go_at_call 14; refine (GE.out _ _ _ E8.out N8.out).mono ?_; rintro e w9 ⟨rfl, hb9⟩; have NT := Lib.hid (seqB N8.out hb9); clear hb9 LI LG GR GL GS GE E6 E7 E8))
          go_wp2_with (first
            | (go_at_call 22; refine (RD.out _ (HT.out.below NT.out) (HK.out.below NT.out)).mono ?_; rintro e wr ⟨rfl, hbr⟩; have NR := Lib.hid (seqB NT.out hbr); clear hbr)
            | (go_at_call 11; refine (AW.out _ (HT.out.below NR.out) (HK.out.below NR.out)).mono ?_; rintro e wa ⟨rfl, hba⟩; have NA := Lib.hid (seqB NR.out hba); clear hba))
          go_ret
          exact ⟨rfl, NA.out⟩
theorem mkL_eta (s : ByteArray) : mkL s.data.toList = s := by
  unfold mkL
  rw [Array.toArray_toList]
theorem eventlogs_str (V : List Ev) (n : Nat) (a : Option Addr) (c : Nat) (s : ByteArray) (w : World) (hT : UT w) (hK : EVT w) (hn : V.length = n) (hmax : n ≤ 9223372036854775807) (hs : EvsIn w a V) :
    Calls Tryd.prog 4 #[.slice a n c, .string s] w fun e w' => e = .returned (.bool true) ∧ Below w.heap.size w w' := by
  have h := eventlogs_any V n a c s.data.toList w hT hK hn hmax hs
  rw [mkL_eta] at h
  exact h
end Go.Proofs.YtldblffhkokhlaaDoor
