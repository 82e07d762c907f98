/-
  How a value is shown: the program's text, the reference's.
-/
import Derived.Test.YtfhcfamjlhmgiaaDoorC8
import Derived.Test.YtfhcfamjlhmgiaaDoorE3
import Derived.Test.YtfhcfamjlhmgiaaDoorW7
import Derived.Test.YtfhcfamjlhmgiaaDoorSg1
set_option linter.unusedVariables false
set_option linter.unusedSimpArgs false
namespace Go.Proofs.YtfhcfamjlhmgiaaDoor
set_option maxRecDepth 100000
open Go.RowKit
/-- Hex digits, at least so many. -/
def hexL (n l : Int) : List UInt8 := tell 16 20 n.toNat l.toNat
theorem hex_size (n l : Int) : (⟨(hexL n l).toArray⟩ : ByteArray).size ≤ 20 := by
  have := tell_len 16 20 n.toNat l.toNat
  simpa [hexL, ByteArray.size] using this
theorem hexS_L (n l : Int) (h : 0 ≤ n) (h1 : 1 ≤ l) (h2 : l ≤ 16) : hexS n l = hexL n l := by
  unfold hexS hexL; rw [if_neg (by omega)]
  have : lst l = l := by unfold lst; omega
  rw [this]
theorem hexN_L (n l : Int) (h1 : 1 ≤ l) : hexN n l = hexL n l := by
  unfold hexN hexL; rw [show max l 1 = l by omega]
/-- A value's shown text. -/
def shT (v : Int) : ByteArray :=
  if cls v = 0 then ⟨#[]⟩ else if cls v ≤ 3 then txt (oneI v) else if cls v = 4 then ⟨#[94]⟩ ++ txt [v + 64] else if cls v = 5 then ⟨#[94, 63]⟩
  else if cls v = 12 then ⟨#[92, 120]⟩ ++ ⟨(hexL (v - 1114112) 2).toArray⟩ else ⟨#[60, 85, 43]⟩ ++ ⟨(hexL v 4).toArray⟩ ++ ⟨#[62]⟩
theorem told_rng (v : Int) : told v ≠ 0 ∧ told v ≠ 4 ∧ told v ≠ 5 ∧ told v ≠ 12 ∧ told v ≠ 6 := by
  unfold told
  split
  · rename_i j hj
    have hlt := (find_some_lt hj).1
    have key : ∀ j : Fin 53, rng.getD (3 * j.val) 0 ≠ 0 ∧ rng.getD (3 * j.val) 0 ≠ 4 ∧ rng.getD (3 * j.val) 0 ≠ 5 ∧ rng.getD (3 * j.val) 0 ≠ 12 ∧ rng.getD (3 * j.val) 0 ≠ 6 := by decide +kernel
    exact key ⟨j, hlt⟩
  · split <;> omega
/-- What a class tells of its values. -/
theorem cls_what (v : Int) : (cls v = 0 ∧ rght v = false) ∨ (rght v = true ∧ ((cls v = 12 ∧ 1114240 ≤ v ∧ v ≤ 1114367) ∨ (cls v = 4 ∧ 0 ≤ v ∧ v < 32) ∨ (cls v = 5 ∧ v = 127) ∨ (cls v = 6 ∧ 128 ≤ v ∧ v < 160) ∨ (1 ≤ cls v ∧ cls v ≤ 11 ∧ cls v ≠ 4 ∧ cls v ≠ 5 ∧ cls v ≠ 6 ∧ 32 ≤ v ∧ v ≤ 1114111 ∧ (v < 55296 ∨ 57343 < v) ∧ v ≠ 127 ∧ (v < 128 ∨ 160 ≤ v)))) := by
  have h1 := pnt_cases v
  have h2 := stry_cases v
  have ht := told_rng v
  have hr := cls_rng v
  have e : cls v = if rght v = false then 0 else if 1114112 ≤ v then 12 else if v < 32 then 4 else if v = 127 then 5 else if 128 ≤ v ∧ v < 160 then 6 else if v < 160 then 1 else told v := rfl
  have hrr : rght v = (pnt v || stry v) := rfl
  cases hg : rght v
  · left; rw [hg, if_pos rfl] at e; exact ⟨e, rfl⟩
  · right
    refine ⟨rfl, ?_⟩
    rw [hg, if_neg (by simp)] at e
    rw [hg] at hrr
    by_cases c1 : 1114112 ≤ v
    · rw [if_pos c1] at e
      left
      rcases h1 with ⟨a, b⟩ | ⟨a, b⟩
      · omega
      · rcases h2 with ⟨a2, b2, b3⟩ | ⟨a2, b2⟩
        · exact ⟨e, b2, b3⟩
        · rw [a, a2] at hrr; simp at hrr
    · rw [if_neg c1] at e
      have hv : 0 ≤ v ∧ v < 55296 ∨ 57343 < v ∧ v ≤ 1114111 := by
        rcases h1 with ⟨a, b⟩ | ⟨a, b⟩
        · exact b
        · rcases h2 with ⟨a2, b2, b3⟩ | ⟨a2, b2⟩
          · omega
          · rw [a, a2] at hrr; simp at hrr
      by_cases c2 : v < 32
      · rw [if_pos c2] at e; right; left; exact ⟨e, by omega, c2⟩
      rw [if_neg c2] at e
      by_cases c3 : v = 127
      · rw [if_pos c3] at e; right; right; left; exact ⟨e, c3⟩
      rw [if_neg c3] at e
      by_cases c4 : 128 ≤ v ∧ v < 160
      · rw [if_pos c4] at e; right; right; right; left; exact ⟨e, c4.1, c4.2⟩
      rw [if_neg c4] at e
      right; right; right; right
      by_cases c5 : v < 160
      · rw [if_pos c5] at e; rw [e]; omega
      rw [if_neg c5] at e; rw [e] at hr ⊢; omega
/-- The cases of a shown text. -/
theorem sh_cases (v : Int) : (cls v = 0 ∧ shT v = ⟨#[]⟩) ∨ ((cls v = 1 ∨ cls v = 2 ∨ cls v = 3) ∧ 32 ≤ v ∧ v ≤ 1114111 ∧ (v < 55296 ∨ 57343 < v) ∧ shT v = txt (oneI v)) ∨ (cls v = 4 ∧ 0 ≤ v ∧ v < 32 ∧ shT v = ⟨#[94]⟩ ++ txt [v + 64]) ∨
    (cls v = 5 ∧ shT v = ⟨#[94, 63]⟩) ∨ (cls v = 12 ∧ 1114240 ≤ v ∧ v ≤ 1114367 ∧ shT v = ⟨#[92, 120]⟩ ++ ⟨(hexL (v - 1114112) 2).toArray⟩) ∨
    (6 ≤ cls v ∧ cls v ≤ 11 ∧ 128 ≤ v ∧ v ≤ 1114111 ∧ (v < 55296 ∨ 57343 < v) ∧ shT v = ⟨#[60, 85, 43]⟩ ++ ⟨(hexL v 4).toArray⟩ ++ ⟨#[62]⟩) := by
  have e : shT v = if cls v = 0 then ⟨#[]⟩ else if cls v ≤ 3 then txt (oneI v) else if cls v = 4 then ⟨#[94]⟩ ++ txt [v + 64] else if cls v = 5 then ⟨#[94, 63]⟩
    else if cls v = 12 then ⟨#[92, 120]⟩ ++ ⟨(hexL (v - 1114112) 2).toArray⟩ else ⟨#[60, 85, 43]⟩ ++ ⟨(hexL v 4).toArray⟩ ++ ⟨#[62]⟩ := rfl
  have hlow : v < 128 → 7 ≤ cls v → cls v ≤ 11 → False := fun h h2 h3 => by
    have key : ∀ i : Fin 128, ¬ (7 ≤ cls (i.val : Int) ∧ cls (i.val : Int) ≤ 11) := by decide +kernel
    rcases cls_what v with ⟨h0, _⟩ | ⟨_, ⟨h0, h4, h5⟩ | ⟨h0, _⟩ | ⟨h0, _⟩ | ⟨h0, _⟩ | ⟨_, _, _, _, _, h6, _⟩⟩ <;> try omega
    have := key ⟨v.toNat, by omega⟩
    simp only [] at this
    rw [show ((v.toNat : Nat) : Int) = v by omega] at this
    exact this ⟨h2, h3⟩
  rcases cls_what v with ⟨h0, _⟩ | ⟨_, ⟨h0, h4, h5⟩ | ⟨h0, h4, h5⟩ | ⟨h0, h4⟩ | ⟨h0, h4, h5⟩ | ⟨h1, h2, h3, h4, h5, h6, h7, h8, h9, h10⟩⟩
  · left; exact ⟨h0, by rw [e, if_pos h0]⟩
  · right; right; right; right; left; exact ⟨h0, h4, h5, by rw [e, h0, if_neg (by omega), if_neg (by omega), if_neg (by omega), if_neg (by omega), if_pos rfl]⟩
  · right; right; left; exact ⟨h0, h4, h5, by rw [e, h0, if_neg (by omega), if_neg (by omega), if_pos rfl]⟩
  · right; right; right; left; exact ⟨h0, by rw [e, h0, if_neg (by omega), if_neg (by omega), if_neg (by omega), if_pos rfl]⟩
  · right; right; right; right; right
    exact ⟨by omega, by omega, by omega, by omega, by omega, by rw [e, h0, if_neg (by omega), if_neg (by omega), if_neg (by omega), if_neg (by omega), if_neg (by omega)]⟩
  · by_cases c : cls v ≤ 3
    · right; left; exact ⟨by omega, h6, h7, h8, by rw [e, if_neg (by omega), if_pos c]⟩
    · right; right; right; right; right
      refine ⟨by omega, by omega, ?_, by omega, by omega, by rw [e, if_neg (by omega), if_neg c, if_neg h3, if_neg h4, if_neg (by omega)]⟩
      rcases Int.lt_or_le v 128 with hh | hh
      · exact (hlow hh (by omega) h2).elim
      · exact hh
theorem one_enc {v : Int} (h : 32 ≤ v) (h1 : v ≤ 1114111) (h2 : v < 55296 ∨ 57343 < v) : encS [v] = txt (oneI v) := by simp [encS, encI]
theorem ctl_enc {v : Int} (h : 0 ≤ v) (h1 : v < 32) : encS [v + 64] = txt [v + 64] := by
  have hp : ptB (v + 64) = true := (ptB_iff _).2 (by omega)
  simp [encS, encI, oneI_pt hp]
  rw [Lib.encodeRuneZ_one (by omega) (by omega)]
theorem row_one (w : World) (v : Int) : Row (w.alloc (.cells #[.int .i64 v] 3)) (some ⟨w.heap.size, 0, none⟩) [v] := fun j hj => by
  obtain rfl : j = 0 := by simp at hj; omega
  exact ⟨w.heap.size, 0, rfl, by rw [World.cell?_alloc_new]; rfl, by simp⟩
set_option maxHeartbeats 4000000 in
theorem shtext_any (v : Int) (w : World) (hT : Tabs w) : Calls Tryd.prog 24 #[.int .i64 v] w fun e w' => e = .returned (.string (shT v)) ∧ Below w.heap.size w w' := by
  have O := fun w hT => of_any v w hT
  have E := fun x w => encode_any [x] (some ⟨w.heap.size, 0, none⟩) 1 (w.alloc (.cells #[.int .i64 x] 3)) (by simp) (row_one w x)
  have hc := sh_cases v
  generalize cls v = c at *
  have HT := Lib.hid hT; clear hT
  replace O := Lib.hid O
  rcases hc with ⟨h0, hs⟩ | ⟨h0, h1, h2, h3, hs⟩ | ⟨h0, h1, h2, hs⟩ | ⟨h0, hs⟩ | ⟨h0, h1, h2, hs⟩ | ⟨h0, h00, h1, h2, h3, hs⟩
  · subst h0
    have Hs := Lib.hid hs; clear hs E
    go_enter Tryd.func24, Tryd.ntmps24
    go_wp2_with (go_at_call 64; refine (O.out _ HT.out).mono ?_; rintro e w1 ⟨rfl, hb1⟩)
    go_ret
    rw [Hs.out]; exact ⟨rfl, hb1⟩
  · have he := one_enc h1 h2 h3
    have E1 := fun w => E v w
    rw [he] at E1
    have Hs := Lib.hid hs
    replace E1 := Lib.hid E1
    clear hs E he
    rcases h0 with rfl | rfl | rfl
    all_goals
      go_enter Tryd.func24, Tryd.ntmps24
      go_wp2_with (first
        | (go_at_call 64; refine (O.out _ HT.out).mono ?_; rintro e w1 ⟨rfl, hb1⟩)
        | (go_at_call 66; refine (E1.out _).mono ?_; rintro e w2 ⟨rfl, hb2⟩))
      go_ret
      rw [Hs.out]; exact ⟨rfl, seqB hb1 (seqB (below_alloc _ _) hb2)⟩
  · subst h0
    have he := ctl_enc h1 h2
    have E1 := fun w => E (v + 64) w
    rw [he] at E1
    have Hs := Lib.hid hs
    have hsz : (txt [v + 64]).size ≤ 4 := by simp [txt, ByteArray.size]
    generalize txt [v + 64] = u at *
    replace E1 := Lib.hid E1
    clear hs E he
    go_enter Tryd.func24, Tryd.ntmps24
    go_wp2_with (first
      | (go_at_call 64; refine (O.out _ HT.out).mono ?_; rintro e w1 ⟨rfl, hb1⟩)
      | (go_at_call 66; refine (E1.out _).mono ?_; rintro e w2 ⟨rfl, hb2⟩))
    go_ret
    rw [Hs.out]; exact ⟨rfl, seqB hb1 (seqB (below_alloc _ _) hb2)⟩
  · subst h0
    have Hs := Lib.hid hs; clear hs E
    go_enter Tryd.func24, Tryd.ntmps24
    go_wp2_with (go_at_call 64; refine (O.out _ HT.out).mono ?_; rintro e w1 ⟨rfl, hb1⟩)
    go_ret
    rw [Hs.out]; exact ⟨rfl, hb1⟩
  · subst h0
    have Hx := fun w => hex_any (v - 1114112) 2 w (by omega) (by omega)
    rw [hexS_L _ _ (by omega) (by omega) (by omega)] at Hx
    have Hs := Lib.hid hs
    have hsz : (⟨(hexL (v - 1114112) 2).toArray⟩ : ByteArray).size ≤ 20 := hex_size _ _
    generalize (⟨(hexL (v - 1114112) 2).toArray⟩ : ByteArray) = u at *
    replace Hx := Lib.hid Hx
    clear hs E
    go_enter Tryd.func24, Tryd.ntmps24
    go_wp2_with (first
      | (go_at_call 64; refine (O.out _ HT.out).mono ?_; rintro e w1 ⟨rfl, hb1⟩)
      | (go_at_call 67; refine (Hx.out _).mono ?_; rintro e w2 ⟨rfl, hb2⟩))
    go_ret
    rw [Hs.out]; exact ⟨rfl, seqB hb1 hb2⟩
  · have Hx := fun w => hex_any v 4 w (by omega) (by omega)
    rw [hexS_L _ _ (by omega) (by omega) (by omega)] at Hx
    have Hs := Lib.hid hs
    have hsz : (⟨(hexL v 4).toArray⟩ : ByteArray).size ≤ 20 := hex_size _ _
    generalize (⟨(hexL v 4).toArray⟩ : ByteArray) = u at *
    replace Hx := Lib.hid Hx
    have b0 : (c == 0) = false := by rw [beq_eq_false_iff_ne]; omega
    have b1 : (c == 1) = false := by rw [beq_eq_false_iff_ne]; omega
    have b2 : (c == 2) = false := by rw [beq_eq_false_iff_ne]; omega
    have b3 : (c == 3) = false := by rw [beq_eq_false_iff_ne]; omega
    have b4 : (c == 4) = false := by rw [beq_eq_false_iff_ne]; omega
    have b5 : (c == 5) = false := by rw [beq_eq_false_iff_ne]; omega
    have b12 : (c == 12) = false := by rw [beq_eq_false_iff_ne]; omega
    clear hs E
    go_enter Tryd.func24, Tryd.ntmps24
    go_wp2_with (first
      | (go_at_call 64; refine (O.out _ HT.out).mono ?_; rintro e w1 ⟨rfl, hb1⟩)
      | (go_at_call 67; refine (Hx.out _).mono ?_; rintro e w2 ⟨rfl, hb2⟩))
    go_ret
    rw [Hs.out]; exact ⟨rfl, seqB hb1 hb2⟩
end Go.Proofs.YtfhcfamjlhmgiaaDoor
