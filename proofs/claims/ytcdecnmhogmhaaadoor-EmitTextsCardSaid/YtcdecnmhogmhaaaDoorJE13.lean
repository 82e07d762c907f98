/-
  Joined: M29 M30 ArgO.
-/
import Derived.Test.YtcdecnmhogmhaaaDoorJE04
import Derived.Test.YtcdecnmhogmhaaaDoorJE10
import Derived.Test.YtcdecnmhogmhaaaDoorJE12
import Derived.Deep.SlicePairs
import Derived.ChangeArms
import Derived.Lib.LaidTab
import Derived.Lib.LaidU8
import Derived.Lib.SmallJoins
set_option linter.unusedVariables false
set_option linter.unusedSimpArgs false
set_option maxRecDepth 100000
set_option linter.unusedVariables false
set_option linter.unusedSimpArgs false
namespace Go.Proofs.YtcdecnmhogmhaaaDoor
open Go.RowKit Go.Sort
def skP (J : List Ot) (k : Nat) : List Ot := (J.take k).flatMap bone
theorem skP_succ (J : List Ot) (k : Nat) (h : k < J.length) : skP J (k + 1) = skP J k ++ bone (J.getD k ot0) := by
  unfold skP; rw [take_out J k h, List.flatMap_append]; simp
theorem bone_len (o : Ot) : (bone o).length ≤ 1 := by
  unfold bone; split
  · simp
  · exact fl_len _
theorem skP_len (J : List Ot) : ∀ k, k ≤ J.length → (skP J k).length ≤ k
  | 0, _ => Nat.le_refl _
  | k + 1, h => by
    have h1 := skP_len J k (by omega)
    have h2 := bone_len (J.getD k ot0)
    rw [skP_succ J k (by omega), List.length_append]; omega
theorem own_low {w : World} {B B' : Nat} {v : Value} {L : List Ot} (h : ownT w B v L) (hB : B' ≤ B) : ownT w B' v L := by
  unfold ownT at *
  refine ⟨h.1, ?_⟩
  rcases h.2 with h0 | ⟨g, cap, cur, h1, h2, h3⟩
  · exact .inl h0
  · exact .inr ⟨g, cap, cur, h1, Nat.le_trans hB h2, h3⟩
def SkrRes (L : List Ot) (w : World) (e : Ending) (w' : World) : Prop := ∃ v, e = .returned v ∧ ownT w' w.heap.size v (skR L) ∧ Below w.heap.size w w'
set_option maxHeartbeats 8000000 in
theorem eskel_ref (L : List Ot) (a : Option Addr) (c : Nat) (w : World) (hl : L.length ≤ 1000) (hz : sumT L ≤ 1000000) (ho : OutsIn w a L) :
    Calls Tryd.prog 39 #[.slice a L.length c] w (SkrRes L w) := by
  obtain ⟨i0, hi, hz0, hz1, hz2⟩ := info_parts infoOut
  have JN := joined_read L a c w hl hz ho
  have hS : skR L = skP (jn L) (jn L).length := by unfold skP; rw [List.take_length]; rfl
  have hjs := jn_sum L L.length (Nat.le_refl _)
  rw [List.take_length] at hjs
  have hjl : (jn L).length ≤ 1000 := by omega
  have hjt : ∀ k, k < (jn L).length → ((jn L).getD k ot0).2.2.2.size ≤ 1000000 := fun k hk => by
    have := sumT_le (L := jn L) (p := (jn L).getD k ot0) (by rw [List.getD, List.getElem?_eq_getElem hk]; exact List.getElem_mem hk)
    omega
  unfold SkrRes
  rw [hS]
  have HP := Lib.hid (skP_len (jn L))
  generalize jn L = J at *
  have HJT := Lib.hid hjt
  replace JN := Lib.hid JN
  clear hjs hS hjt ho hz hl
  go_enter Tryd.func39, Tryd.ntmps39
  go_wp2_with (go_at_call 37; refine JN.out.mono ?_; rintro e w1 ⟨jb, jd, rfl, hjo, hb1⟩)
  have HO := Lib.hid hjo
  clear hjo
  go_loopw [4, 5] (fun ov iv wr => ∃ k : Nat, k ≤ J.length ∧ iv = .int .i64 (k : Int) ∧ Hid (ownT wr w1.heap.size ov (skP J k)) ∧ Below w1.heap.size w1 wr) (fun _ iv _ => J.length - (intOf iv).toNat)
  case atStart => exact ⟨0, Nat.zero_le _, rfl, Lib.hid (World.ownsRow_nil _ _ _ _), Below.refl _ _⟩
  case round =>
    obtain ⟨k, hk, rfl, hO, hbl⟩ := hrel
    by_cases hlt : k < J.length
    · obtain ⟨bb, off, rfl, hblt, c0, c1, c2, c3⟩ := (HO.out.below hbl) k hlt
      have hk1 : (k : Int) < J.length := by omega
      have hk0 : (0 : Int) ≤ k := by omega
      have hst := skP_succ J k hlt
      have hts := HJT.out k hlt
      have hpl := HP.out k hk
      obtain ⟨kk, n, m, u, hp⟩ : ∃ kk n m t, J.getD k ot0 = (kk, n, m, t) := ⟨_, _, _, _, rfl⟩
      rw [hp] at c0 c1 c2 c3 hst hts
      dsimp only at c0 c1 c2 c3 hts
      have hown := hO.out
      unfold ownT at hown
      generalize skP J k = acc at *
      have fin : ∀ (v' : Value) (w5 : World) (a2 b2 d2 : Int) (t2 : ByteArray), skP J (k + 1) = acc ++ [(a2, b2, d2, t2)] → w5.ownsRow w1.heap.size 61 4 v' (acc.length + 1) (oCells acc ++ [.int .i64 a2, .int .i64 b2, .int .i64 d2, .string t2]) → Hid (ownT w5 w1.heap.size v' (skP J (k + 1))) := fun v' w5 a2 b2 d2 t2 e h => Lib.hid (by rw [e]; exact ownT_push h)
      unfold bone at hst
      dsimp only at hst
      by_cases hkk : kk = 0
      · subst hkk
        rw [if_neg (by omega)] at hst
        have D := fun w => decode_ref u w hts
        have hlen := valsS_len u
        have HC := Lib.hid (show colW u = ((valsS u).map wid).sum from rfl)
        have HST := Lib.hid hst
        clear hst hp
        generalize valsS u = V at *
        replace D := Lib.hid D
        go_wp2_with (go_at_call 41; refine (D.out _).mono ?_; rintro e w2 ⟨v, rfl, hvo, hb2⟩)
        obtain ⟨va, vc, rfl, hrow⟩ := row_ofI hvo
        have HR := Lib.hid hrow
        clear hvo hrow
        go_loopw [7, 8] (fun nv iv wr => ∃ j : Nat, j ≤ V.length ∧ iv = .int .i64 (j : Int) ∧ nv = .int .i64 (((V.take j).map wid).sum) ∧ Below w2.heap.size w2 wr) (fun _ iv _ => V.length - (intOf iv).toNat)
        case atStart => exact ⟨0, Nat.zero_le _, rfl, rfl, Below.refl _ _⟩
        case round =>
          obtain ⟨j, hj, rfl, rfl, hbq⟩ := hrel
          have hrg := take_wid_rng V j
          by_cases hlt2 : j < V.length
          · obtain ⟨b, off2, rfl, hc, hlb⟩ := (HR.out.below hbq) j hlt2
            have hj1 : (j : Int) < V.length := by omega
            have hj0 : (0 : Int) ≤ j := by omega
            have hst2 := take_wid V j hlt2
            have hw := wid_nn (V.getD j 0)
            have W := fun w => width_ref (V.getD j 0) w
            rw [← wid_eq] at W
            generalize V.getD j 0 = x at *
            generalize ((V.take j).map wid).sum = sm at *
            have Hst := Lib.hid hst2
            replace W := Lib.hid W
            clear hst2
            generalize wid x = wx at *
            go_wp2_with (go_at_call 90; refine (W.out _).mono ?_; rintro e w3 ⟨rfl, hb3⟩)
            go_roundw
            case rel => exact ⟨j + 1, by omega, by go_num, by rw [Hst.out], hbq.trans (hb3.mono hbq.size)⟩
            case measure => (simp [intOf]; try omega)
          · obtain rfl : j = V.length := by omega
            have hj1 : ¬ (V.length : Int) < V.length := by omega
            have hcw := HC.out
            rw [List.take_length] at *
            rw [← hcw] at *
            have NQ := hbl.trans ((seqB hb2 hbq).mono hbl.size)
            have HOQ := own_below (own_below hown hb2) hbq
            generalize colW u = cw at *
            by_cases hcp : 0 < cw
            · rw [fl_yes hcp] at HST
              have fn := fun v' w5 h => fin v' w5 0 cw 0 mt HST.out h
              clear fin
              go_wp2_with (at_builtin; refine wpList_append_own _ rfl _ _ 54 rfl w1.heap.size 61 i0 _ 4 40 Tryd.underlying54 hi hz0 hz1 hz2 rfl (by decide) _ _ _ rfl (HOQ.alloc _) ⟨wr.heap.size, 0, none⟩ 1 1 [.int .i64 0, .int .i64 cw, .int .i64 0, .string ⟨#[]⟩] rfl rfl (fun j x hj => app_cells rfl hj) ?g2 ?g3 ?g4 ?g5 ?_)
              case g2 => simp [Value.oneCell']
              case g3 => unfold maxLen; omega
              case g4 => omega
              case g5 => have := NQ.size; simp; omega
              intro v' w5 hown5 hgrow5 _
              have N5 := (NQ.alloc NQ.size (.cells #[.int .i64 0, .int .i64 cw, .int .i64 0, .string ⟨#[]⟩] 61)).grown hgrow5 (by have := NQ.size; simp; omega) (fun j hj => (HOQ.lt j hj).1)
              have F5 := fn v' w5 hown5
              clear hown5 hgrow5 HOQ fn
              go_wp2
              go_roundw
              case rel => exact ⟨k + 1, by omega, by go_num, F5, N5⟩
              case measure => (simp [intOf]; try omega)
            · rw [fl_no hcp, List.append_nil] at HST
              have HOF : Hid (ownT wr w1.heap.size _ (skP J (k + 1))) := Lib.hid (by rw [HST.out]; exact HOQ)
              clear fin
              go_wp2
              go_roundw
              case rel => exact ⟨k + 1, by omega, by go_num, HOF, NQ⟩
              case measure => (simp [intOf]; try omega)
      · rw [if_pos hkk] at hst
        have fn := fun v' w5 h => fin v' w5 kk n m u hst h
        clear fin
        go_wp2_with (at_builtin; refine wpList_append_own _ rfl _ _ 54 rfl w1.heap.size 61 i0 _ 4 40 Tryd.underlying54 hi hz0 hz1 hz2 rfl (by decide) _ _ _ rfl (hown.alloc _) ⟨wr.heap.size, 0, none⟩ 1 1 [.int .i64 kk, .int .i64 n, .int .i64 m, .string u] rfl rfl (fun j x hj => app_cells rfl hj) ?g2 ?g3 ?g4 ?g5 ?_)
        case g2 => simp [Value.oneCell']
        case g3 => unfold maxLen; omega
        case g4 => omega
        case g5 => have := hbl.size; simp; omega
        intro v' w5 hown5 hgrow5 _
        have N5 := (hbl.alloc hbl.size (.cells #[.int .i64 kk, .int .i64 n, .int .i64 m, .string u] 61)).grown hgrow5 (by have := hbl.size; simp; omega) (fun j hj => (hown.lt j hj).1)
        have F5 := fn v' w5 hown5
        clear hown5 hgrow5 hown fn hO
        go_wp2
        go_roundw
        case rel => exact ⟨k + 1, by omega, by go_num, F5, N5⟩
        case measure => (simp [intOf]; try omega)
    · obtain rfl : k = J.length := by omega
      have hk1 : ¬ (J.length : Int) < J.length := by omega
      go_wp2
      go_ret
      exact ⟨_, rfl, own_low hO.out hb1.size, seqB hb1 hbl⟩
end Go.Proofs.YtcdecnmhogmhaaaDoor
set_option linter.unusedVariables false
set_option linter.unusedSimpArgs false
namespace Go.Proofs.YtcdecnmhogmhaaaDoor
open Go.RowKit Go.Sort
def szP (L : List Ot) : Prop := ∀ i, i < L.length → (L.getD i ot0).2.2.2.size ≤ 200
def liP (L : List Ot) : Prop := L.length ≤ 60 ∧ szP L
theorem sumT_upto (L : List Ot) (h : szP L) : ∀ k, k ≤ L.length → sumT (L.take k) ≤ k * 200
  | 0, _ => Nat.le_refl _
  | k + 1, hk => by
    have h1 := sumT_upto L h k (by omega)
    have h2 := h k (by omega)
    rw [take_out L k (by omega), sumT_app, sumT_one]; omega
set_option maxHeartbeats 2000000 in
theorem light_yes (L : List Ot) (a : Option Addr) (c : Nat) (w : World) (h : liP L) (ho : OutsIn w a L) :
    Calls Tryd.prog 27 #[.slice a L.length c] w fun e w' => e = .returned (.bool true) ∧ Below w.heap.size w w' := by
  have HO := Lib.hid ho; have HZ := Lib.hid h.2
  have hl : (L.length : Int) ≤ 60 := by have := h.1; omega
  clear ho h
  go_enter Tryd.func27, Tryd.ntmps27
  go_wp2
  go_loopw [3] (fun iv wr => ∃ k : Nat, k ≤ L.length ∧ iv = .int .i64 (k : Int) ∧ Below w.heap.size w wr) (fun iv _ => L.length - (intOf iv).toNat)
  case atStart => exact ⟨0, Nat.zero_le _, rfl, Below.refl _ _⟩
  case round =>
    obtain ⟨k, hk, rfl, hbl⟩ := hrel
    by_cases hlt : k < L.length
    · obtain ⟨bb, off, rfl, hblt, c0, c1, c2, c3⟩ := (HO.out.below hbl) k hlt
      have hk1 : (k : Int) < L.length := by omega
      have hk0 : (0 : Int) ≤ k := by omega
      have hts : ¬ (200 : Int) < (L.getD k ot0).2.2.2.size := by have := HZ.out k hlt; omega
      generalize L.getD k ot0 = p at *
      obtain ⟨kk, n, m, u⟩ := p
      dsimp only at c0 c1 c2 c3 hts
      go_wp2
      go_roundw
      case rel => exact ⟨k + 1, by omega, by go_num, hbl⟩
      case measure => (simp [intOf]; try omega)
    · obtain rfl : k = L.length := by omega
      have hk1 : ¬ (L.length : Int) < L.length := by omega
      go_wp2
      go_ret
      exact ⟨rfl, hbl⟩
set_option maxHeartbeats 2000000 in
theorem light_no (L : List Ot) (a : Option Addr) (c : Nat) (w : World) (hl : L.length ≤ 9223372036854775807) (h : ¬ liP L) (ho : OutsIn w a L) :
    Calls Tryd.prog 27 #[.slice a L.length c] w fun e w' => e = .returned (.bool false) ∧ Below w.heap.size w w' := by
  have HO := Lib.hid ho; have HN := Lib.hid h
  clear ho h
  go_enter Tryd.func27, Tryd.ntmps27
  go_wp2
  go_loopw [3] (fun iv wr => ∃ k : Nat, k ≤ L.length ∧ iv = .int .i64 (k : Int) ∧ Hid (∀ j, j < k → (L.getD j ot0).2.2.2.size ≤ 200) ∧ Below w.heap.size w wr) (fun iv _ => L.length - (intOf iv).toNat)
  case atStart => exact ⟨0, Nat.zero_le _, rfl, Lib.hid (fun j hj => absurd hj (by omega)), Below.refl _ _⟩
  case round =>
    obtain ⟨k, hk, rfl, hall, hbl⟩ := hrel
    by_cases hlt : k < L.length
    · obtain ⟨bb, off, rfl, hblt, c0, c1, c2, c3⟩ := (HO.out.below hbl) k hlt
      have hk1 : (k : Int) < L.length := by omega
      have hk0 : (0 : Int) ≤ k := by omega
      have hall' : (L.getD k ot0).2.2.2.size ≤ 200 → ∀ j, j < k + 1 → (L.getD j ot0).2.2.2.size ≤ 200 := fun hx j hj => by
        rcases Nat.lt_succ_iff_lt_or_eq.1 hj with h2 | rfl
        · exact hall.out j h2
        · exact hx
      generalize L.getD k ot0 = p at *
      obtain ⟨kk, n, m, u⟩ := p
      dsimp only at c0 c1 c2 c3 hall'
      by_cases hts' : 200 < u.size
      · have hts : (200 : Int) < u.size := by omega
        clear hall'
        go_wp2
        go_ret
        exact ⟨rfl, hbl⟩
      · have hts : ¬ (200 : Int) < u.size := by omega
        have HF := Lib.hid (hall' (by omega))
        clear hall'
        clear hts'
        go_wp2
        go_roundw
        case rel => exact ⟨k + 1, by omega, by go_num, HF, hbl⟩
        case measure => (simp [intOf]; try omega)
    · obtain rfl : k = L.length := by omega
      have hk1 : ¬ (L.length : Int) < L.length := by omega
      have hk2 : ¬ (L.length : Int) ≤ 60 := fun e => HN.out ⟨by omega, hall.out⟩
      go_wp2
      go_ret
      exact ⟨rfl, hbl⟩
set_option maxHeartbeats 16000000 in
theorem emittexts_any (L M : List Ot) (a b : Option Addr) (c d : Nat) (w : World) (hT : ET w) (hl : L.length ≤ 9223372036854775807) (hm : M.length ≤ 9223372036854775807) (ha : OutsIn w a L) (hb : OutsIn w b M) :
    Calls Tryd.prog 6 #[.slice a L.length c, .slice b M.length d] w fun e w' => e = .returned (.bool true) ∧ Below w.heap.size w w' := by
  have AW := Lib.hid (fun w hT => eawake_any w hT)
  have HT := Lib.hid hT; have HA := Lib.hid ha; have HB := Lib.hid hb
  clear hT ha hb
  by_cases h1 : liP L
  · have LL := Lib.hid (fun w ho => light_yes L a c w h1 ho)
    by_cases h2 : liP M
    · have LM := Lib.hid (fun w ho => light_yes M b d w h2 ho)
      obtain ⟨l1, l2⟩ := h1
      have l3 : ∀ i, i < L.length → (L.getD i ot0).2.2.2.size ≤ 1000000 := fun i hi => by have := l2 i hi; omega
      have SA := Lib.hid (fun w h1 h2 => esame_any L M a b c d w hl hm h1 h2)
      have SR := Lib.hid (fun w h1 h2 => esame_ref L M a b c d w hl hm h1 h2)
      have AL := fun w ho => eall_ref L a c w (by omega) l3 ho
      have TX := fun w hT ho => etext_any L a c w hT (by omega) l3 ho
      have CK := Lib.hid (fun k (hk : k < L.length) w hT => echeck_any (L.getD k ot0) w hT (l3 k hk))
      have MY := Lib.hid (fun k (hk : k < L.length) w => emay_ref (L.getD k ot0) w (l3 k hk))
      generalize smO L M = q at *
      have hq : (q != q) = false := by cases q <;> rfl
      have HX : (mayAll L = false ∧ txtR L = ⟨#[]⟩ ∧ txtE L = 2) ∨ (mayAll L = true ∧ txtR L = txOut L ∧ txtE L = 0) := by
        unfold txtR txtE
        cases mayAll L
        · exact .inl ⟨rfl, rfl, rfl⟩
        · exact .inr ⟨rfl, rfl, rfl⟩
      unfold TxPost at TX
      replace HX := Lib.hid HX
      generalize txtR L = tr at *
      generalize txtE L = te at *
      replace TX := Lib.hid TX; replace AL := Lib.hid AL
      have L2 := Lib.hid l2; have L1 := Lib.hid l1
      clear l2 h2 l3 l1
      go_enter Tryd.func6, Tryd.ntmps6
      go_wp2_with (fail)
      go_at_call 27
      refine (LL.out _ HA.out).mono ?_
      rintro e w1 ⟨rfl, hb1⟩
      have T1 := Lib.hid (HT.out.below hb1); have A1 := Lib.hid (HA.out.below hb1); have B1 := Lib.hid (HB.out.below hb1)
      go_wp2_with (fail)
      go_at_call 27
      refine (LM.out _ B1.out).mono ?_
      rintro e w2 ⟨rfl, hb2⟩
      have T2 := Lib.hid (T1.out.below hb2); have A2 := Lib.hid (A1.out.below hb2); have B2 := Lib.hid (B1.out.below hb2)
      go_wp2_with (fail)
      go_at_call 29
      refine (TX.out _ T2.out A2.out).mono ?_
      rintro e w3 ⟨rfl, hb3⟩
      have T3 := Lib.hid (T2.out.below hb3); have A3 := Lib.hid (A2.out.below hb3); have B3 := Lib.hid (B2.out.below hb3)
      go_wp2_with (fail)
      go_at_call 30
      refine (SA.out _ A3.out B3.out).mono ?_
      rintro e w4 ⟨rfl, hb4⟩
      have A4 := Lib.hid (A3.out.below hb4); have B4 := Lib.hid (B3.out.below hb4)
      go_wp2_with (fail)
      go_at_call 31
      refine (SR.out _ A4.out B4.out).mono ?_
      rintro e w5 ⟨rfl, hb5⟩
      have N5 := Lib.hid (seqB (seqB (seqB (seqB hb1 hb2) hb3) hb4) hb5)
      clear A1 A2 A3 A4 B1 B2 B3 B4 T1 T2 T3 hb1 hb2 hb3 hb4 hb5 LL LM SA SR TX
      go_wp2_with (fail)
      go_loopw [7] (fun iv wr => ∃ k : Nat, k ≤ L.length ∧ iv = .int .i64 (k : Int) ∧ Below w.heap.size w wr) (fun iv _ => L.length - (intOf iv).toNat)
      case atStart => exact ⟨0, Nat.zero_le _, rfl, N5.out⟩
      case round =>
        obtain ⟨k, hk, rfl, hbl⟩ := hrel
        by_cases hlt : k < L.length
        · obtain ⟨bb, off, rfl, hblt, c0, c1, c2, c3⟩ := (HA.out.below hbl) k hlt
          have hk1 : (k : Int) < L.length := by omega
          have hk0 : (0 : Int) ≤ k := by omega
          have CKk := CK.out k hlt; have MYk := MY.out k hlt
          obtain ⟨kk, n, m, u, hp⟩ : ∃ kk n m t, L.getD k ot0 = (kk, n, m, t) := ⟨_, _, _, _, rfl⟩
          rw [hp] at c0 c1 c2 c3 CKk MYk
          dsimp only at c0 c1 c2 c3
          have hcm : chk (kk, n, m, u) = 0 ∧ mayP (kk, n, m, u) = true ∨ chk (kk, n, m, u) = 2 ∧ mayP (kk, n, m, u) = false := by
            cases hy : mayP (kk, n, m, u)
            · exact .inr ⟨chk_no hy, rfl⟩
            · exact .inl ⟨chk_yes hy, rfl⟩
          unfold otV at CKk MYk
          dsimp only at CKk MYk
          have ETr := Lib.hid ((HT.out.below hbl).below (Below.refl wr.heap.size wr).drew)
          clear hp CK MY AL HX
          go_upto_region 9 with fail
          rcases hcm with ⟨e1, e2⟩ | ⟨e1, e2⟩
          all_goals
            rw [e1] at CKk; rw [e2] at MYk
            replace CKk := Lib.hid CKk; replace MYk := Lib.hid MYk
            go_region_law (first
              | (go_simp; go_at_call 32; refine (CKk.out _ ET5.out).mono ?_; rintro e w6 ⟨rfl, hb6⟩; have N6 := hbl.trans ((seqB D5 hb6).mono hbl.size))
              | (go_simp; go_at_call 33; refine (MYk.out w5).mono ?_; rintro e w6 ⟨rfl, hb6⟩; have N6 := hbl.trans ((seqB D5 hb6).mono hbl.size))
              | (go_simp; go_at_call 32; refine (CKk.out _ ETr.out).mono ?_; rintro e w5 ⟨rfl, hb5⟩; have D5 := Below.trans (Below.refl _ _).drew hb5; have ET5 := Lib.hid (ETr.out.below hb5); have x0 := (D5.cell (p := ⟨bb, off + k * 4, none⟩) hblt).trans c0; have x1 := (D5.cell (p := ⟨bb, off + k * 4 + 1, none⟩) hblt).trans c1; have x2 := (D5.cell (p := ⟨bb, off + k * 4 + 2, none⟩) hblt).trans c2; have x3 := (D5.cell (p := ⟨bb, off + k * 4 + 3, none⟩) hblt).trans c3)
              | (go_simp; go_at_call 33; refine (MYk.out _).mono ?_; rintro e w5 ⟨rfl, hb5⟩; have D5 := Below.trans (Below.refl _ _).drew hb5; have ET5 := Lib.hid (ETr.out.below hb5); have x0 := (D5.cell (p := ⟨bb, off + k * 4, none⟩) hblt).trans c0; have x1 := (D5.cell (p := ⟨bb, off + k * 4 + 1, none⟩) hblt).trans c1; have x2 := (D5.cell (p := ⟨bb, off + k * 4 + 2, none⟩) hblt).trans c2; have x3 := (D5.cell (p := ⟨bb, off + k * 4 + 3, none⟩) hblt).trans c3))
            all_goals
              go_wp2
              go_roundw
              case rel => exact ⟨k + 1, by omega, by go_num, N6⟩
              case measure => (simp [intOf]; try omega)
        · obtain rfl : k = L.length := by omega
          have hk1 : ¬ (L.length : Int) < L.length := by omega
          have TR := Lib.hid (HT.out.below hbl); have AR := Lib.hid (HA.out.below hbl)
          rcases HX.out with ⟨hy, rfl, rfl⟩ | ⟨hy, rfl, rfl⟩
          · have al := AL.out
            rw [hy] at al
            replace al := Lib.hid al
            clear hy AL HX CK MY
            go_wp2_with (fail)
            go_at_call 34
            refine (al.out _ AR.out).mono ?_
            rintro e w6 ⟨rfl, hb6⟩
            have T6 := Lib.hid (TR.out.below hb6)
            go_wp2_with (fail)
            go_at_call 28
            refine (AW.out _ T6.out).mono ?_
            rintro e w7 ⟨rfl, hb7⟩
            go_wp2_with (fail)
            go_ret
            exact ⟨rfl, hbl.trans ((seqB hb6 hb7).mono hbl.size)⟩
          · have al := AL.out
            rw [hy] at al
            replace al := Lib.hid al
            have l1 := L1.out; have l2 := L2.out
            have hz1 : ∀ i, i < L.length → (L.getD i ot0).2.2.2.size ≤ 1000 := fun i hi => by have := l2 i hi; omega
            have hz6 : ∀ i, i < L.length → (L.getD i ot0).2.2.2.size ≤ 1000000 := fun i hi => by have := l2 i hi; omega
            have hts : (txOut L).size ≤ 800000 := by
              have h := txOut_sz2 hy hz1 L.length (Nat.le_refl _)
              rw [List.take_length] at h; omega
            have hsum : sumT L ≤ 1000000 := by
              have h := sumT_upto L l2 L.length (Nat.le_refl _)
              rw [List.take_length] at h; omega
            have hjl : (jn L).length ≤ 60 := by
              have h := (jn_sum L L.length (Nat.le_refl _)).2
              rw [List.take_length] at h; omega
            have hS : skR L = skP (jn L) (jn L).length := by unfold skP; rw [List.take_length]; rfl
            have hrl : (skR L).length ≤ 60 := by rw [hS]; exact Nat.le_trans (skP_len _ _ (Nat.le_refl _)) hjl
            have PC := fun w hT => parse_yes (txOut L) (jn L) w hT hts (prs_text hy)
            have RT := fun w ho => etext_ref L a c w hy (by omega) hz1 ho
            have JN := fun w ho => joined_read L a c w (by omega) hsum ho
            have SM := fun a b c d w h1 h2 => esame_ref (jn L) (jn L) a b c d w (by omega) (by omega) h1 h2
            rw [smO_self] at SM
            have SE := fun w hT ho => eskel_any L a c w hT (by omega) hz6 ho
            have SR := fun w ho => eskel_ref L a c w (by omega) hsum ho
            have SM2 := fun a b c d w h1 h2 => esame_ref (skR L) (skR L) a b c d w (by omega) (by omega) h1 h2
            rw [smO_self] at SM2
            unfold SkRes at SE
            rw [sk_eq hy] at SE
            unfold SkrRes at SR
            have es := (str_eq (txOut L)).1
            clear hy AL HX CK MY hS hrl hjl hsum hts hz1 hz6 l1 l2
            generalize jn L = J at *
            generalize skR L = K at *
            generalize txOut L = tx at *
            replace PC := Lib.hid PC; replace RT := Lib.hid RT; replace JN := Lib.hid JN; replace SM := Lib.hid SM; replace SE := Lib.hid SE; replace SR := Lib.hid SR; replace SM2 := Lib.hid SM2
            go_wp2_with (fail)
            go_at_call 34
            refine (al.out _ AR.out).mono ?_
            rintro e w6 ⟨rfl, hb6⟩
            have T6 := Lib.hid (TR.out.below hb6); have A6 := Lib.hid (AR.out.below hb6)
            go_wp2_with (fail)
            go_at_call 35
            refine (PC.out _ T6.out).mono ?_
            rintro e w7 ⟨ja, jc, rfl, hji, hb7⟩
            have T7 := Lib.hid (T6.out.below hb7); have A7 := Lib.hid (A6.out.below hb7); have J7 := Lib.hid hji
            clear hji
            go_wp2_with (fail)
            go_at_call 28
            refine (AW.out _ T7.out).mono ?_
            rintro e w8 ⟨rfl, hb8⟩
            have T8 := Lib.hid (T7.out.below hb8); have A8 := Lib.hid (A7.out.below hb8); have J8 := Lib.hid (J7.out.below hb8)
            go_wp2_with (fail)
            go_at_call 36
            refine (RT.out _ A8.out).mono ?_
            rintro e w9 ⟨rfl, hb9⟩
            have T9 := Lib.hid (T8.out.below hb9); have A9 := Lib.hid (A8.out.below hb9); have J9 := Lib.hid (J8.out.below hb9)
            go_wp2_with (fail)
            go_at_call 37
            refine (JN.out _ A9.out).mono ?_
            rintro e w10 ⟨ka, kc, rfl, hki, hb10⟩
            have T10 := Lib.hid (T9.out.below hb10); have A10 := Lib.hid (A9.out.below hb10); have J10 := Lib.hid (J9.out.below hb10); have K10 := Lib.hid hki
            clear hki
            go_wp2_with (fail)
            go_at_call 31
            refine (SM.out _ _ _ _ _ J10.out K10.out).mono ?_
            rintro e w11 ⟨rfl, hb11⟩
            have T11 := Lib.hid (T10.out.below hb11); have A11 := Lib.hid (A10.out.below hb11)
            go_wp2_with (fail)
            go_at_call 38
            refine (SE.out _ T11.out A11.out).mono ?_
            rintro e w12 ⟨v12, rfl, ho12, hb12⟩
            obtain ⟨sa, sc, rfl, hs12⟩ := outs_of_own ho12
            have A12 := Lib.hid (A11.out.below hb12); have S12 := Lib.hid hs12
            clear ho12 hs12
            go_wp2_with (fail)
            go_at_call 39
            refine (SR.out _ A12.out).mono ?_
            rintro e w13 ⟨v13, rfl, ho13, hb13⟩
            obtain ⟨ra, rc, rfl, hr13⟩ := outs_of_own ho13
            have S13 := Lib.hid (S12.out.below hb13); have R13 := Lib.hid hr13
            clear ho13 hr13
            go_wp2_with (fail)
            go_at_call 31
            refine (SM2.out _ _ _ _ _ S13.out R13.out).mono ?_
            rintro e w14 ⟨rfl, hb14⟩
            go_wp2_with (fail)
            go_ret
            exact ⟨rfl, hbl.trans ((seqB (seqB (seqB (seqB (seqB (seqB (seqB (seqB hb6 hb7) hb8) hb9) hb10) hb11) hb12) hb13) hb14).mono hbl.size)⟩
    · have LM := Lib.hid (fun w ho => light_no M b d w hm h2 ho)
      go_enter Tryd.func6, Tryd.ntmps6
      go_wp2_with (fail)
      go_at_call 27
      refine (LL.out _ HA.out).mono ?_
      rintro e w1 ⟨rfl, hb1⟩
      have T1 := Lib.hid (HT.out.below hb1); have B1 := Lib.hid (HB.out.below hb1)
      go_wp2_with (fail)
      go_at_call 27
      refine (LM.out _ B1.out).mono ?_
      rintro e w2 ⟨rfl, hb2⟩
      have T2 := Lib.hid (T1.out.below hb2)
      go_wp2_with (go_at_call 28; refine (AW.out _ T2.out).mono ?_; rintro e w3 ⟨rfl, hb3⟩)
      go_ret
      exact ⟨rfl, seqB (seqB hb1 hb2) hb3⟩
  · have LL := Lib.hid (fun w ho => light_no L a c w hl h1 ho)
    go_enter Tryd.func6, Tryd.ntmps6
    go_wp2_with (first
      | (go_at_call 27; refine (LL.out _ HA.out).mono ?_; rintro e w1 ⟨rfl, hb1⟩; have T1 := Lib.hid (HT.out.below hb1))
      | (go_at_call 28; refine (AW.out _ T1.out).mono ?_; rintro e w3 ⟨rfl, hb3⟩))
    go_ret
    exact ⟨rfl, seqB hb1 hb3⟩
end Go.Proofs.YtcdecnmhogmhaaaDoor
set_option linter.unusedVariables false
set_option linter.unusedSimpArgs false
namespace Go.Proofs.YtcdecnmhogmhaaaDoor
open Go.ChangeShapes Go.WideShapes Go.ChangeAt Go.RowKit Go.Deep Go.Joins
section
variable {H : Type} {enc : TypeId × Value → H} {W : World}
theorem addO_none (b off k : Nat) : (⟨b, off, none⟩ : Addr).add k = ⟨b, off + k, none⟩ := by unfold Addr.add; split <;> simp_all
set_option maxRecDepth 100000 in
theorem cellsIntO : Tryd.prog.cellsOf 3 = 1 := by kernel_rfl
set_option maxRecDepth 100000 in
theorem cellsStrO : Tryd.prog.cellsOf 9 = 1 := by kernel_rfl
set_option maxRecDepth 100000 in
theorem cellsOut : Tryd.prog.cellsOf 61 = 4 := by kernel_rfl
set_option maxRecDepth 100000 in
theorem arg_outs {base : Nat} {v0 : Value} {d0 : DataW H} {p : List MemPlace} (hv : Value.okWide Tryd.prog W .any base 54 v0) (h : DataW.Trod enc Tryd.prog W 0 (fun _ => true) true 54 v0 d0 p) :
    ∃ (l : List Ot) (a : Option Addr) (c : Nat), v0 = .slice a l.length c ∧ OutsIn W a l ∧ l.length ≤ 9223372036854775807 := by
  obtain ⟨a0, len, cap, rfl⟩ := okWide_slice Tryd.underlying54 hv
  obtain ⟨fuel, hf⟩ := h
  rcases open_slice Tryd.underlying54 hf with ⟨hcs, _⟩ | ⟨a, len', cap', m, n, D, Pl, hcs, _, hl, hm, hmm, _, hx⟩
  · simp [Value.cells] at hcs
    obtain ⟨rfl, rfl, rfl⟩ := hcs
    exact ⟨[], none, 0, rfl, fun j hj => absurd hj (Nat.not_lt_zero j), by simp⟩
  · simp [Value.cells] at hcs
    obtain ⟨rfl, rfl, rfl⟩ := hcs
    have hlm : len ≤ m := by rw [hmm]; split <;> omega
    have key : ∀ i, i < len → ∃ q : Ot, W.cell? (a.add (i * 4)) = some (.int .i64 q.1) ∧ W.cell? (a.add (i * 4 + 1)) = some (.int .i64 q.2.1) ∧ W.cell? (a.add (i * 4 + 2)) = some (.int .i64 q.2.2.1) ∧ W.cell? (a.add (i * 4 + 3)) = some (.string q.2.2.2) := by
      intro i hi
      obtain ⟨cs', h1, h2⟩ := hx i (by omega)
      rw [cellsOut] at h1
      obtain ⟨_, hlen, hcell⟩ := World.cells?_some h1
      obtain ⟨xs, k, hk, hxy, _, hxl, hf⟩ := DataW.trod_struct Tryd.underlying61 h2
      match xs, hxl, cs', hlen with
      | [y0, y1, y2, y3], _, [u0, u1, u2, u3], _ =>
        have g0 := hf 0 _ rfl
        have g1 := hf 1 _ rfl
        have g2 := hf 2 _ rfl
        have g3 := hf 3 _ rfl
        simp [cellsIntO, cellsStrO] at g0 g1 g2 g3
        have e0 := hcell 0 (by omega)
        have e1 := hcell 1 (by omega)
        have e2 := hcell 2 (by omega)
        have e3 := hcell 3 (by omega)
        rw [add_add] at e0 e1 e2 e3
        obtain ⟨x0, hx0, _, _⟩ := DataW.trod_int Tryd.underlying3 g0
        obtain ⟨x1, hx1, _, _⟩ := DataW.trod_int Tryd.underlying3 g1
        obtain ⟨x2, hx2, _, _⟩ := DataW.trod_int Tryd.underlying3 g2
        obtain ⟨x3, hx3, _, _⟩ := DataW.trod_string Tryd.underlying9 g3
        obtain rfl : u0 = .int .i64 x0 := by simpa using hx0
        obtain rfl : u1 = .int .i64 x1 := by simpa using hx1
        obtain rfl : u2 = .int .i64 x2 := by simpa using hx2
        obtain rfl : u3 = .string x3 := by simpa using hx3
        exact ⟨(x0, x1, x2, x3), by simpa using e0, by simpa using e1, by simpa using e2, by simpa using e3⟩
    obtain ⟨F, hF⟩ : ∃ F : Nat → Ot, ∀ i, i < len → W.cell? (a.add (i * 4)) = some (.int .i64 (F i).1) ∧ W.cell? (a.add (i * 4 + 1)) = some (.int .i64 (F i).2.1) ∧ W.cell? (a.add (i * 4 + 2)) = some (.int .i64 (F i).2.2.1) ∧ W.cell? (a.add (i * 4 + 3)) = some (.string (F i).2.2.2) :=
      ⟨fun i => if h : i < len then (key i h).choose else ot0, fun i hi => by simp only [dif_pos hi]; exact (key i hi).choose_spec⟩
    clear key
    refine ⟨(List.range len).map F, some a, cap, by simp, ?_, by simp; unfold maxLen at hm; omega⟩
    intro j hj
    have hj2 : j < len := by simpa using hj
    obtain ⟨c0, c1, c2, c3⟩ := hF j hj2
    obtain ⟨b, off, sp⟩ := a
    have hsp : sp = none := by
      obtain ⟨c00, _⟩ := hF 0 (by omega)
      have h1 : W.cell? ⟨b, off, sp⟩ = some (.int .i64 (F 0).1) := by simpa [Addr.add] using c00
      exact cell_spot h1
    subst hsp
    rw [addO_none] at c0 c1 c2 c3
    have hg : ((List.range len).map F).getD j ot0 = F j := by
      rw [List.getD, List.getElem?_map, List.getElem?_range hj2]; rfl
    rw [hg]
    exact ⟨b, off, rfl, block_lt_of_cell c0, c0, c1, c2, c3⟩
end
end Go.Proofs.YtcdecnmhogmhaaaDoor
