/-
  The law on what a view says.
-/
import Derived.Test.YtfhcfamjlhmgiaaDoorV8
import Derived.Laws.AppendOwnNone
set_option linter.unusedVariables false
set_option linter.unusedSimpArgs false
namespace Go.Proofs.YtfhcfamjlhmgiaaDoor
set_option maxRecDepth 100000
open Go.RowKit
theorem sRow_app (a b : List (Int × Int)) : (sRow (a ++ b)).toList = (sRow a).toList ++ (sRow b).toList := by simp [sRow]
theorem sRow_one (l : List (Int × Int)) : ∀ u ∈ (sRow l).toList, u.oneCell' = true := by
  intro u hu
  simp only [sRow, List.toList_toArray, List.mem_flatMap] at hu
  obtain ⟨p, _, hp⟩ := hu
  simp at hp
  rcases hp with rfl | rfl <;> rfl
/-- A row of signs of the call's own. -/
def ownS (w : World) (B : Nat) (v : Value) (L : List (Int × Int)) : Prop := w.ownsRow B 23 2 v L.length (sRow L).toList
theorem signs_of_ownS {w : World} {B : Nat} {v : Value} {L : List (Int × Int)} (h : ownS w B v L) : ∃ a c, v = .slice a L.length c ∧ Signs w a L := by
  unfold ownS at h
  rcases h.2 with ⟨rfl, h0⟩ | ⟨g, cap, cur, rfl, _, hg, _⟩
  · exact ⟨none, 0, by rw [h0], fun j hj => by omega⟩
  · refine ⟨_, cap, rfl, fun j hj => ⟨g, 0, rfl, blk_lt hg, ?_, ?_⟩⟩
    · have := sRow_at L j hj
      rw [Nat.zero_add, h.cellAt (j * 2) (by omega)]; exact this.1
    · have := sRow_at L j hj
      rw [Nat.zero_add, h.cellAt (j * 2 + 1) (by omega)]; exact this.2
theorem ownS_new (w : World) : ownS (w.alloc (.cells #[] 23)) w.heap.size (.slice (some ⟨w.heap.size, 0, none⟩) 0 0) [] :=
  ⟨rfl, .inr ⟨w.heap.size, 0, #[], rfl, Nat.le_refl _, heap_alloc_new _ _, Nat.le_refl _, by decide, rfl, rfl⟩⟩
set_option maxHeartbeats 4000000 in
theorem join_ref (p l : List (Int × Int)) (a b : Option Addr) (c d : Nat) (w : World) (hp : p.length ≤ 1000) (hl : l.length ≤ 1000) (ha : Signs w a p) (hb : Signs w b l) (a0 : a = none → c = 0) (b0 : b = none → d = 0) :
    Calls Tryd.prog 37 #[.slice a p.length c, .slice b l.length d] w fun e w' => ∃ v, e = .returned v ∧ ownS w' w.heap.size v (p ++ l) ∧ Below w.heap.size w w' := by
  obtain ⟨i0, hi, hz0, hz1, hz2⟩ := info_parts infoSign
  have N0 := below_alloc w (.cells #[] 23)
  have H0 := Lib.hid (ownS_new w)
  have hsz : (w.alloc (.cells #[] 23)).heap.size = w.heap.size + 1 := by simp
  have HA := Lib.hid (ha.below N0)
  have HB := Lib.hid (hb.below N0)
  have HB0 := Lib.hid hb
  have hn : a = none → p = [] := fun h => by
    cases p with
    | nil => rfl
    | cons x p => obtain ⟨_, _, e, _⟩ := ha 0 (by simp); rw [h] at e; cases e
  have hm : b = none → l = [] := fun h => by
    cases l with
    | nil => rfl
    | cons x l => obtain ⟨_, _, e, _⟩ := hb 0 (by simp); rw [h] at e; cases e
  clear ha hb
  generalize hW : w.alloc (.cells #[] 23) = W at *
  cases a with
  | none =>
    obtain rfl := hn rfl
    obtain rfl := a0 rfl
    cases b with
    | none =>
      obtain rfl := hm rfl
      obtain rfl := b0 rfl
      clear hn hm a0 b0 HA HB
      go_enter Tryd.func37, Tryd.ntmps37
      go_wp2_with (at_builtin; refine wpList_append_own_none rfl _ _ 34 rfl w.heap.size 23 i0 2 Tryd.underlying34 hi _ 0 [] rfl H0.out rfl ?_)
      go_ret
      exact ⟨_, rfl, H0.out, N0⟩
    | some bd =>
      clear hn hm a0 b0 HA
      go_enter Tryd.func37, Tryd.ntmps37
      go_wp2_with (first
        | (at_builtin; refine wpList_append_own_none rfl _ _ 34 rfl w.heap.size 23 i0 2 Tryd.underlying34 hi _ 0 [] rfl H0.out rfl ?_)
        | (at_builtin; refine wpList_append_own _ rfl _ _ 34 rfl w.heap.size 23 i0 _ 2 16 Tryd.underlying34 hi hz0 hz1 hz2 rfl (by decide) _ 0 [] rfl H0.out bd l.length d (sRow l).toList rfl (sRow_len l) (signs_news HB.out) (sRow_one l) ?c3 ?c4 ?c5 ?_))
      case c3 => unfold maxLen; omega
      case c4 => omega
      case c5 => omega
      intro v' w5 hown5 hgrow5 _
      have N5 := N0.grown hgrow5 (by omega) (fun j hj => by simp [Value.ownBlock] at hj; omega)
      have HO := Lib.hid (show ownS w5 w.heap.size v' ([] ++ l) by rw [List.nil_append]; exact hown5)
      clear hown5 hgrow5
      go_wp2
      go_ret
      exact ⟨_, rfl, HO.out, N5⟩
  | some ad =>
    cases b with
    | none =>
      obtain rfl := hm rfl
      obtain rfl := b0 rfl
      clear hn hm a0 b0 HB
      go_enter Tryd.func37, Tryd.ntmps37
      go_wp2_with (at_builtin; refine wpList_append_own _ rfl _ _ 34 rfl w.heap.size 23 i0 _ 2 16 Tryd.underlying34 hi hz0 hz1 hz2 rfl (by decide) _ 0 [] rfl H0.out ad p.length c (sRow p).toList rfl (sRow_len p) (signs_news HA.out) (sRow_one p) ?c3 ?c4 ?c5 ?_)
      case c3 => unfold maxLen; omega
      case c4 => omega
      case c5 => omega
      intro v' w5 hown5 hgrow5 _
      have N5 := N0.grown hgrow5 (by omega) (fun j hj => by simp [Value.ownBlock] at hj; omega)
      have HO := Lib.hid (show ownS w5 w.heap.size v' (p ++ []) by unfold ownS; rw [List.append_nil]; simpa using hown5)
      have Hown := Lib.hid hown5
      clear hown5 hgrow5
      go_wp2_with (at_builtin; refine wpList_append_own_none rfl _ _ 34 rfl w.heap.size 23 i0 2 Tryd.underlying34 hi _ _ _ rfl Hown.out rfl ?_)
      go_ret
      exact ⟨_, rfl, HO.out, N5⟩
    | some bd =>
      clear hn hm a0 b0
      go_enter Tryd.func37, Tryd.ntmps37
      go_wp2_with (at_builtin; refine wpList_append_own _ rfl _ _ 34 rfl w.heap.size 23 i0 _ 2 16 Tryd.underlying34 hi hz0 hz1 hz2 rfl (by decide) _ 0 [] rfl H0.out ad p.length c (sRow p).toList rfl (sRow_len p) (signs_news HA.out) (sRow_one p) ?c3 ?c4 ?c5 ?_)
      case c3 => unfold maxLen; omega
      case c4 => omega
      case c5 => omega
      intro v' w5 hown5 hgrow5 _
      have N5 := N0.grown hgrow5 (by omega) (fun j hj => by simp [Value.ownBlock] at hj; omega)
      have HB5 := Lib.hid (signs_news (HB0.out.below N5))
      have Hown := Lib.hid (show w5.ownsRow w.heap.size 23 2 v' p.length (sRow p).toList from hown5)
      clear hown5 hgrow5
      go_wp2_with (at_builtin; refine wpList_append_own _ rfl _ _ 34 rfl w.heap.size 23 i0 _ 2 16 Tryd.underlying34 hi hz0 hz1 hz2 rfl (by decide) _ _ _ rfl Hown.out bd l.length d (sRow l).toList rfl (sRow_len l) HB5.out (sRow_one l) ?c3 ?c4 ?c5 ?_)
      case c3 => unfold maxLen; omega
      case c4 => omega
      case c5 => have := N5.size; omega
      intro v6 w6 hown6 hgrow6 _
      have N6 := N5.grown hgrow6 N5.size (fun j hj => (Hown.out.lt j hj).1)
      have HO := Lib.hid (show ownS w6 w.heap.size v6 (p ++ l) by unfold ownS; rw [List.length_append, sRow_app]; simpa using hown6)
      clear hown6 hgrow6
      go_wp2
      go_ret
      exact ⟨_, rfl, HO.out, N6⟩
set_option maxHeartbeats 8000000 in
theorem viewtext_any (p l : List (Int × Int)) (a b : Option Addr) (c d : Nat) (w : World) (hT : Tabs w) (hmp : p.length ≤ 9223372036854775807) (hml : l.length ≤ 9223372036854775807) (ha : Signs w a p) (hb : Signs w b l) (a0 : a = none → c = 0) (b0 : b = none → d = 0) :
    Calls Tryd.prog 9 #[.slice a p.length c, .slice b l.length d] w fun e w' => e = .returned (.bool true) ∧ Below w.heap.size w w' := by
  have AW := Lib.hid fun w hT => vawake_any w hT
  have HV := Lib.hid (⟨hT, ha, hb⟩ : V7 w a b p l)
  clear hT ha hb
  by_cases h1 : 30 < p.length
  · have h1' : (30 : Int) < p.length := by omega
    clear a0 b0
    go_enter Tryd.func9, Tryd.ntmps9
    go_wp2_with (go_at_call 28; refine (AW.out _ HV.out.t).mono ?_; rintro e w1 ⟨rfl, hb1⟩)
    go_ret
    exact ⟨rfl, hb1⟩
  have h1' : ¬ (30 : Int) < p.length := by omega
  by_cases h2 : 60 < l.length
  · have h2' : (60 : Int) < l.length := by omega
    clear a0 b0
    go_enter Tryd.func9, Tryd.ntmps9
    go_wp2_with (go_at_call 28; refine (AW.out _ HV.out.t).mono ?_; rintro e w1 ⟨rfl, hb1⟩)
    go_ret
    exact ⟨rfl, hb1⟩
  have h2' : ¬ (60 : Int) < l.length := by omega
  have A1 := fun w1 (h : V7 w1 a b p l) => sgall_ref p a c w1 (by omega) h.p
  have A2 := fun w1 (h : V7 w1 a b p l) => sgall_ref l b d w1 (by omega) h.l
  cases hP : sgC p
  · rw [hP] at A1
    replace A1 := Lib.hid A1
    clear A2 hP a0 b0
    go_enter Tryd.func9, Tryd.ntmps9
    go_wp2_with (first
      | (go_at_call 30; (with_reducible refine (A1.out _ HV.out).mono ?_); rintro e w2 ⟨rfl, hb2⟩; have K2 := Lib.hid (HV.out.below hb2))
      | (go_at_call 28; refine (AW.out _ K2.out.t).mono ?_; rintro e w3 ⟨rfl, hb3⟩))
    go_ret
    exact ⟨rfl, seqB hb2 hb3⟩
  cases hL : sgC l
  · rw [hP] at A1
    rw [hL] at A2
    replace A1 := Lib.hid A1; replace A2 := Lib.hid A2
    clear hP hL a0 b0
    go_enter Tryd.func9, Tryd.ntmps9
    go_wp2_with (first
      | (go_at_call 30; (with_reducible refine (A1.out _ HV.out).mono ?_); rintro e w2 ⟨rfl, hb2⟩; have K2 := Lib.hid (HV.out.below hb2))
      | (go_at_call 30; (with_reducible refine (A2.out _ K2.out).mono ?_); rintro e w3 ⟨rfl, hb3⟩; have K3 := Lib.hid (K2.out.below hb3))
      | (go_at_call 28; refine (AW.out _ K3.out.t).mono ?_; rintro e w4 ⟨rfl, hb4⟩))
    go_ret
    exact ⟨rfl, seqB (seqB hb2 hb3) hb4⟩
  · have V := fun w1 (h : V7 w1 a b p l) => vof_cells p l a b c d w1 (by omega) (by omega) h hP hL
    have J := fun w1 (h : V7 w1 a b p l) => join_ref p l a b c d w1 (by omega) (by omega) h.p h.l a0 b0
    have hle := vwOf_le p l
    have hsay := vwOf_says p l hP hL
    have hsz := fun k => sayN_size (p ++ l) k
    have hJL : (p ++ l).length = p.length + l.length := List.length_append
    rw [hP] at A1
    rw [hL] at A2
    generalize vwOf p l = X at *
    generalize p ++ l = Jl at *
    have T := fun w1 a c (h : CellsIn w1 a X) => vtext_any X a c w1 (by omega) h
    rw [hsay] at T
    replace A1 := Lib.hid A1; replace A2 := Lib.hid A2; replace V := Lib.hid V; replace J := Lib.hid J; replace T := Lib.hid T
    have Hsz := Lib.hid hsz
    clear hP hL a0 b0 hsay hsz
    go_enter Tryd.func9, Tryd.ntmps9
    go_wp2_with (first
      | (go_at_call 30; (with_reducible refine (A1.out _ HV.out).mono ?_); rintro e w1 ⟨rfl, hb1⟩; have K1 := Lib.hid (HV.out.below hb1))
      | (go_at_call 30; (with_reducible refine (A2.out _ K1.out).mono ?_); rintro e w2 ⟨rfl, hb2⟩; have K2 := Lib.hid (K1.out.below hb2))
      | (go_at_call 29; refine (V.out _ K2.out).mono ?_; rintro e w3 ⟨ca, cc, rfl, hci, hb3⟩; have K3 := Lib.hid (K2.out.below hb3); have C3 := Lib.hid hci; clear hci)
      | (go_at_call 37; refine (J.out _ K3.out).mono ?_; rintro e w4 ⟨x, rfl, hown, hb4⟩; obtain ⟨ja, jc, rfl, hji⟩ := signs_of_ownS hown; have K4 := Lib.hid (K3.out.below hb4); have C4 := Lib.hid (C3.out.below hb4); have J4 := Lib.hid hji; clear hji hown))
    have N4 := seqB (seqB (seqB hb1 hb2) hb3) hb4
    clear hb1 hb2 hb3 hb4 A1 A2 V J
    go_loopw [7, 9] (fun sv iv wr => ∃ k : Nat, k ≤ Jl.length ∧ sv = .string (sayN Jl k) ∧ iv = .int .i64 (k : Int) ∧ Below w4.heap.size w4 wr) (fun _ iv _ => Jl.length - (intOf iv).toNat)
    case atStart => exact ⟨0, Nat.zero_le _, rfl, rfl, Below.refl _ _⟩
    case round =>
      obtain ⟨k, hk, rfl, rfl, hbl⟩ := hrel
      by_cases hlt : k < Jl.length
      · obtain ⟨b1, off, rfl, hblk, c1, c2⟩ := (J4.out.below hbl) k hlt
        have hk1 : (k : Int) < Jl.length := by omega
        have hk0 : (0 : Int) ≤ k := by omega
        have R := fun w => shtext_ref (Jl.getD k (0, 0)).1 w
        have hs1 := Hsz.out k
        have hs2 := shT_size (Jl.getD k (0, 0)).1
        have hnext := Lib.hid (show sayN Jl (k + 1) = sayN Jl k ++ shT (Jl.getD k (0, 0)).1 from rfl)
        generalize (Jl.getD k (0, 0)).1 = v at *
        generalize (Jl.getD k (0, 0)).2 = u at *
        generalize sayN Jl k = s at *
        generalize shT v = t at *
        replace R := Lib.hid R
        go_wp2_with (go_at_call 38; refine (R.out _).mono ?_; rintro e w5 ⟨rfl, hb5⟩)
        go_roundw
        case rel => exact ⟨k + 1, by omega, by rw [hnext.out], by go_num, hbl.trans (hb5.mono hbl.size)⟩
        case measure => (simp [intOf]; try omega)
      · obtain rfl : k = Jl.length := by omega
        have K5 := Lib.hid (K4.out.below hbl)
        have C5 := Lib.hid (C4.out.below hbl)
        generalize sayN Jl Jl.length = s at *
        go_wp2_with (first
          | (go_at_call 28; refine (AW.out _ K5.out.t).mono ?_; rintro e w5 ⟨rfl, hb5⟩; have C6 := Lib.hid (C5.out.below hb5))
          | (go_at_call 39; refine (T.out _ _ _ C6.out).mono ?_; rintro e w6 ⟨rfl, hb6⟩))
        go_ret
        exact ⟨rfl, N4.trans ((seqB (hbl.trans (hb5.mono hbl.size)) hb6).mono N4.size)⟩
end Go.Proofs.YtfhcfamjlhmgiaaDoor
