import Derived.Test.YtecffaidpiadoaaDoorU14
import Derived.Lib.QuietBelow
namespace Go.Proofs.YtecffaidpiadoaaDoor
open Go.RowKit
theorem toList_len (s : ByteArray) : s.toList.length = s.size := by rw [ByteArray.toList_eq]; exact Array.length_toList
def pB (s : ByteArray) : Bool := decide (0 < s.size) && partB s
theorem partial_any (s : ByteArray) (w : World) (hT : UT w) (hs' : s.size ≤ 1000000) :
    Calls Tryd.prog 21 #[.string s] w fun e w' => e = .returned (.bool (pB s)) ∧ Below w.heap.size w w' := by
  by_cases hs : 0 < s.size
  · have hp : pB s = partB s := by unfold pB; rw [decide_eq_true hs]; rfl
    have F := Lib.hid (fun w hT => full_any s w hT hs hs')
    rw [hp]; clear hp
    generalize partB s = p at *
    have HT := Lib.hid hT; clear hT
    have he2 : ¬ s.toList = [] := by intro h; have := congrArg List.length h; rw [toList_len] at this; have h0 : s.size = 0 := this; omega
    have he : s.toList.isEmpty = false := by simpa using he2
    go_enter Tryd.func21, Tryd.ntmps21
    go_wp2_with (first
            | (go_at_call 45; refine (F.out _ HT.out).mono ?_; rintro e w2 ⟨rfl, hb2⟩))
    go_ret
    exact ⟨by cases p <;> rfl, hb2⟩
  · have hp : pB s = false := by unfold pB; rw [decide_eq_false hs]; rfl
    have he : s = ⟨#[]⟩ := ByteArray.ext (Array.eq_empty_of_size_eq_zero (by have : s.size = 0 := by omega
                                                                             exact this))
    rw [hp]; subst he; clear hp hs hs' hT
    go_enter Tryd.func21, Tryd.ntmps21
    go_wp2
    go_ret
    exact ⟨rfl, Below.refl _ _⟩
theorem partial_ref (s : ByteArray) (w : World) (hs : 0 < s.size) (hs' : s.size ≤ 1000000) :
    Calls Tryd.prog 23 #[.string s] w fun e w' => e = .returned (.bool (partB s)) ∧ Below w.heap.size w w' := by
  have B := Lib.hid (fun w => begins_ref s w hs hs')
  have S := Lib.hid (fun w => size_ref (s[0]) w)
  have hp := partB_iff s
  rw [get_get s 0 hs] at hp
  generalize begS s = b at *
  generalize sizeB (s[0]).toNat = z at *
  have h0 : (0 : Int) < (s.size : Int) := by omega
  by_cases h1 : b = s.size
  · have e1 : ((b : Int) == (s.size : Int)) = true := by rw [h1]; simp
    by_cases h2 : s.size < z
    · have e2 : decide ((s.size : Int) < (z : Int)) = true := decide_eq_true (by omega)
      have h2i : (s.size : Int) < (z : Int) := by omega
      have Hp := Lib.hid (hp.2 ⟨h1, h2⟩); clear hp
      subst h1
      go_enter Tryd.func23, Tryd.ntmps23
      go_wp2_with (first
            | (go_at_call 46; refine (B.out _).mono ?_; rintro e w1 ⟨rfl, k, rfl⟩)
            | (go_at_call 47; refine (S.out _).mono ?_; rintro e w2 ⟨rfl, rfl⟩))
      go_ret
      exact ⟨by rw [Hp.out]; first | rfl | simp [e2], drewN_below (Below.refl _ _) _⟩
    · have e2 : decide ((s.size : Int) < (z : Int)) = false := decide_eq_false (by omega)
      have Hp : Hid (partB s = false) := Lib.hid (by rw [← Bool.not_eq_true]; intro h; exact h2 (hp.1 h).2)
      clear hp
      subst h1
      go_enter Tryd.func23, Tryd.ntmps23
      go_wp2_with (first
            | (go_at_call 46; refine (B.out _).mono ?_; rintro e w1 ⟨rfl, k, rfl⟩)
            | (go_at_call 47; refine (S.out _).mono ?_; rintro e w2 ⟨rfl, rfl⟩))
      go_ret
      exact ⟨by rw [Hp.out]; first | rfl | simp [e2], drewN_below (Below.refl _ _) _⟩
  · have e1 : ((b : Int) == (s.size : Int)) = false := by simp; omega
    have Hp : Hid (partB s = false) := Lib.hid (by rw [← Bool.not_eq_true]; intro h; exact h1 (hp.1 h).1)
    clear hp
    go_enter Tryd.func23, Tryd.ntmps23
    go_wp2_with (first
            | (go_at_call 46; refine (B.out _).mono ?_; rintro e w1 ⟨rfl, k, rfl⟩)
            | (go_at_call 47; refine (S.out _).mono ?_; rintro e w2 ⟨rfl, rfl⟩))
    go_ret
    exact ⟨by rw [Hp.out]; first | rfl | simp [e1], drewN_below (Below.refl _ _) _⟩
theorem row_own {w : World} {B : Nat} {v : Value} {l : List Int} (h : w.ownsRow B 3 1 v l.length (l.map (Value.int .i64))) : ∃ a cap, v = .slice a l.length cap ∧ Row w a l := by
  rcases h.2 with ⟨rfl, h0⟩ | ⟨g, cap, cur, rfl, _, hg, _⟩
  · exact ⟨none, 0, by rw [h0], fun j hj => by omega⟩
  · refine ⟨_, cap, rfl, fun j hj => ⟨g, 0, rfl, ?_, (Array.getElem?_eq_some_iff.1 hg).1⟩⟩
    have := h.cells (g := g) rfl j (.int .i64 (l.getD j 0)) (by simp [List.getElem?_eq_getElem hj, List.getD])
    have hadd : (⟨g, 0, none⟩ : Addr).add j = ⟨g, 0 + j, none⟩ := by unfold Addr.add; split <;> simp_all
    rw [← hadd]; exact this
def lit1 : ByteArray := ⟨#[195, 169, 195]⟩
def lit2 : ByteArray := ⟨#[226, 130, 172, 120]⟩
theorem v1 : valsS lit1 = [233, 1114307] := by decide +kernel
theorem v2 : oneS lit2 = (8364, 3) := by decide +kernel
theorem v3 : (valsS ⟨#[97, 98]⟩).length = 2 := by decide +kernel
theorem v4 : pB ⟨#[226, 130]⟩ = true := by decide +kernel
theorem v5 : rightB 65 = true := by decide +kernel
theorem v6 : encS [233, 1114307] = lit1 := by rw [← v1]; exact encS_vals lit1
theorem dec_lit (w : World) (hT : UT w) : Calls Tryd.prog 12 #[.string lit1] w fun e w' => ∃ b off cap, e = .returned (.slice (some ⟨b, off, none⟩) 2 cap) ∧ w'.cell? ⟨b, off, none⟩ = some (.int .i64 233) ∧ w'.cell? ⟨b, off + 1, none⟩ = some (.int .i64 1114307) ∧ b < w'.heap.size ∧ Hid (Row w' (some ⟨b, off, none⟩) [233, 1114307]) ∧ Below w.heap.size w w' := by
  refine (decode_any lit1 w hT (by decide)).mono ?_
  rintro e w' ⟨v, rfl, hown, hb⟩
  rw [v1] at hown
  obtain ⟨a, cap, rfl, hr⟩ := row_own hown
  obtain ⟨b, off, rfl, h0, hlt⟩ := hr 0 (by decide)
  obtain ⟨b1, off1, e1, h1, _⟩ := hr 1 (by decide)
  cases e1
  exact ⟨b, off, cap, rfl, h0, h1, hlt, Lib.hid hr, hb⟩
set_option maxRecDepth 100000 in
theorem awake_utf (w : World) (hT : UT w) : Calls Tryd.prog 11 #[] w fun e w' => e = .returned (.bool true) ∧ Below w.heap.size w w' := by
  have D := Lib.hid dec_lit
  have O := Lib.hid (fun w hT => one_any lit2 w hT (by decide))
  rw [v2] at O
  have E := Lib.hid (fun a c w hr => encode_any [233, 1114307] a c w (by decide) hr)
  rw [v6] at E
  have C := Lib.hid (fun w => count_utf ⟨#[97, 98]⟩ w (by decide))
  rw [v3] at C
  have P := Lib.hid (fun w hT => partial_any ⟨#[226, 130]⟩ w hT (by decide))
  rw [v4] at P
  have R := Lib.hid (fun w => right_any 65 w)
  rw [v5] at R
  have HT := Lib.hid hT; clear hT
  unfold lit1 at D E
  unfold lit2 at O
  go_enter Tryd.func11, Tryd.ntmps11
  go_wp2_with (first
    | (go_at_call 12; refine (D.out _ HT.out).mono ?_; rintro e w1 ⟨b, off, cap, rfl, hc0, hc1, hlt, hr1, hb1⟩; have T1 := Lib.hid (HT.out.below hb1))
    | (go_at_call 20; refine (O.out _ T1.out).mono ?_; rintro e w2 ⟨rfl, hb2⟩; have T2 := Lib.hid (T1.out.below hb2); have hr2 := Lib.hid (hr1.out.below hb2); have hd0 := (hb2.cell (p := ⟨b, off, none⟩) hlt).trans hc0; have hd1 := (hb2.cell (p := ⟨b, off + 1, none⟩) hlt).trans hc1)
    | (go_at_call 15; refine (E.out _ _ _ hr2.out).mono ?_; rintro e w3 ⟨rfl, hb3⟩; have T3 := Lib.hid (T2.out.below hb3))
    | (go_at_call 16; refine (C.out _).mono ?_; rintro e w4 ⟨rfl, hb4⟩; have T4 := Lib.hid (T3.out.below hb4))
    | (go_at_call 21; refine (P.out _ T4.out).mono ?_; rintro e w5 ⟨rfl, hb5⟩; have T5 := Lib.hid (T4.out.below hb5))
    | (go_at_call 17; refine (R.out _).mono ?_; rintro e w6 ⟨rfl, rfl⟩)
    | fail)
  go_ret
  exact ⟨rfl, seqB (seqB (seqB (seqB hb1 hb2) hb3) hb4) hb5⟩
end Go.Proofs.YtecffaidpiadoaaDoor
