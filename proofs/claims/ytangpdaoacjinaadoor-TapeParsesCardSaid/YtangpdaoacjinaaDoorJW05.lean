/-
  Joined: U9 U10 U14.
-/
import Derived.Test.YtangpdaoacjinaaDoorJW03
import Derived.Test.YtangpdaoacjinaaDoorJW04
set_option maxRecDepth 100000
set_option linter.unusedVariables false
set_option linter.unusedSimpArgs false
namespace Go.Proofs.YtangpdaoacjinaaDoor
set_option linter.unusedVariables false
set_option linter.unusedSimpArgs false
open Go.RowKit
theorem front (s : ByteArray) (i n : Nat) (hn : n ≤ 4) (h : i + n ≤ s.size) :
    ([(s.get! i).toNat, (s.get! (i + 1)).toNat, (s.get! (i + 2)).toNat, (s.get! (i + 3)).toNat].take n).map Int.ofNat = ((bytesOf s).drop i).take n := by
  apply List.ext_getElem
  · simp [bytesOf_size]; omega
  · intro j h1 h2
    have hj : j < n := by simp at h1; omega
    rw [List.getElem_map, List.getElem_take, List.getElem_take, List.getElem_drop, bytesOf_get s (i + j) (by omega)]
    match j, hj with
    | 0, _ => rfl
    | 1, _ => rfl
    | 2, _ => rfl
    | 3, _ => rfl
    | k + 4, hj => omega
theorem enc_valsF (s : ByteArray) : ∀ f i, s.size ≤ i + f → encI (valsF s f i) = (bytesOf s).drop i := by
  intro f
  induction f with
  | zero =>
    intro i h
    rw [valsF_end s 0 i (by omega), List.drop_of_length_le (by rw [bytesOf_size]; omega)]; rfl
  | succ f ih =>
    intro i h
    by_cases hi : i < s.size
    · have hp := dec_pos s i hi
      rw [valsF_step s f i hi, encI_cons, ih _ (by omega), ← vAt_size s i hi]
      have hv := (val_bytes (s.size - i) (s.get! i).toNat (s.get! (i + 1)).toNat (s.get! (i + 2)).toNat (s.get! (i + 3)).toNat (get0 _ _) (get0 _ _) (get0 _ _) (get0 _ _)).1
      rw [← vAt_val] at hv
      rw [← vAt_size s i hi] at hp
      rw [hv, front s i _ hp.2.1 hp.2.2, ← List.drop_drop, List.take_append_drop]
    · rw [valsF_end s _ i hi, List.drop_of_length_le (by rw [bytesOf_size]; omega)]; rfl
theorem enc_vals (s : ByteArray) : encI (valsS s) = bytesOf s := enc_valsF s _ 0 (by omega)
theorem encS_vals (s : ByteArray) : encS (valsS s) = s := by unfold encS; rw [enc_vals, txt_bytesOf]
theorem vAt_enc (v : Int) (r : List Int) (h : ptB v = true) : vAt (txt (oneI v ++ r)) 0 = (v.toNat, (oneI v).length) := by
  obtain ⟨n, rfl⟩ := nat_of_pt h
  have hp := (ptB_iff _).1 h
  rw [vAt_val, oneI_pt h, txt_size]
  rcases (by omega : n < 128 ∨ (128 ≤ n ∧ n < 2048) ∨ (2048 ≤ n ∧ n < 65536) ∨ (65536 ≤ n ∧ n ≤ 1114111)) with h1 | h1 | h1 | h1
  · rw [Lib.encodeRuneZ_one (by omega) (by omega)]
    rw [txt_get _ 0 (by simp)]
    have e0 : ((([(n : Int)] ++ r)[0]'(by simp)).toNat.toUInt8).toNat = n := u8n _ _ rfl (by omega)
    rw [e0, bytes_val1 _ n _ _ _ h1]; simp
  · rw [Lib.encodeRuneZ_two (by omega) (by omega)]
    rw [txt_get _ 0 (by simp), txt_get _ (0 + 1) (by simp)]
    have e0 : ((([192 + (n : Int) / 64, 128 + (n : Int) % 64] ++ r)[0]'(by simp)).toNat.toUInt8).toNat = 192 + n / 64 := u8n _ _ (by show 192 + (n : Int) / 64 = _; omega) (by omega)
    have e1 : ((([192 + (n : Int) / 64, 128 + (n : Int) % 64] ++ r)[0 + 1]'(by simp)).toNat.toUInt8).toNat = 128 + n % 64 := u8n _ _ (by show 128 + (n : Int) % 64 = _; omega) (by omega)
    rw [e0, e1, bytes_val2 _ n _ _ h1.1 h1.2 (by simp)]; simp
  · rw [Lib.encodeRuneZ_three (by omega)]
    rw [txt_get _ 0 (by simp), txt_get _ (0 + 1) (by simp), txt_get _ (0 + 2) (by simp)]
    have e0 : ((([224 + (n : Int) / 4096, 128 + (n : Int) / 64 % 64, 128 + (n : Int) % 64] ++ r)[0]'(by simp)).toNat.toUInt8).toNat = 224 + n / 4096 := u8n _ _ (by show 224 + (n : Int) / 4096 = _; omega) (by omega)
    have e1 : ((([224 + (n : Int) / 4096, 128 + (n : Int) / 64 % 64, 128 + (n : Int) % 64] ++ r)[0 + 1]'(by simp)).toNat.toUInt8).toNat = 128 + n / 64 % 64 := u8n _ _ (by show 128 + (n : Int) / 64 % 64 = _; omega) (by omega)
    have e2 : ((([224 + (n : Int) / 4096, 128 + (n : Int) / 64 % 64, 128 + (n : Int) % 64] ++ r)[0 + 2]'(by simp)).toNat.toUInt8).toNat = 128 + n % 64 := u8n _ _ (by show 128 + (n : Int) % 64 = _; omega) (by omega)
    rw [e0, e1, e2, bytes_val3 _ n _ h1.1 h1.2 (by omega) (by simp)]; simp
  · rw [Lib.encodeRuneZ_four (by omega) (by omega)]
    rw [txt_get _ 0 (by simp), txt_get _ (0 + 1) (by simp), txt_get _ (0 + 2) (by simp), txt_get _ (0 + 3) (by simp)]
    have e0 : ((([240 + (n : Int) / 262144, 128 + (n : Int) / 4096 % 64, 128 + (n : Int) / 64 % 64, 128 + (n : Int) % 64] ++ r)[0]'(by simp)).toNat.toUInt8).toNat = 240 + n / 262144 := u8n _ _ (by show 240 + (n : Int) / 262144 = _; omega) (by omega)
    have e1 : ((([240 + (n : Int) / 262144, 128 + (n : Int) / 4096 % 64, 128 + (n : Int) / 64 % 64, 128 + (n : Int) % 64] ++ r)[0 + 1]'(by simp)).toNat.toUInt8).toNat = 128 + n / 4096 % 64 := u8n _ _ (by show 128 + (n : Int) / 4096 % 64 = _; omega) (by omega)
    have e2 : ((([240 + (n : Int) / 262144, 128 + (n : Int) / 4096 % 64, 128 + (n : Int) / 64 % 64, 128 + (n : Int) % 64] ++ r)[0 + 2]'(by simp)).toNat.toUInt8).toNat = 128 + n / 64 % 64 := u8n _ _ (by show 128 + (n : Int) / 64 % 64 = _; omega) (by omega)
    have e3 : ((([240 + (n : Int) / 262144, 128 + (n : Int) / 4096 % 64, 128 + (n : Int) / 64 % 64, 128 + (n : Int) % 64] ++ r)[0 + 3]'(by simp)).toNat.toUInt8).toNat = 128 + n % 64 := u8n _ _ (by show 128 + (n : Int) % 64 = _; omega) (by omega)
    rw [e0, e1, e2, e3, bytes_val4 _ n h1.1 h1.2 (by simp)]; simp
theorem vals_enc1 (v : Int) (r : List Int) (h : ptB v = true) : valsS (txt (oneI v ++ r)) = v :: valsS (txt r) := by
  have hl : 1 ≤ (oneI v).length := by rw [oneI_pt h]; exact (Lib.encodeRuneZ_length v).1
  rw [valsS_cons _ (by rw [txt_size]; simp; omega), vAt_enc v r h, txt_ext]
  obtain ⟨n, rfl⟩ := nat_of_pt h
  simp
theorem vals_encs (a : List Int) (r : List Int) (h : ∀ v ∈ a, ptB v = true) : valsS (txt (encI a ++ r)) = a ++ valsS (txt r) := by
  induction a with
  | nil => rfl
  | cons v a ih =>
    rw [encI_cons, List.append_assoc, vals_enc1 v _ (h v (by simp)), ih (fun x hx => h x (by simp [hx]))]; rfl
theorem valsS_enc (a : List Int) (h : ∀ v ∈ a, ptB v = true) : valsS (encS a) = a := by
  have := vals_encs a [] h
  rw [List.append_nil] at this
  rw [encS, this, valsS_nil (txt []) (by rw [txt_size]; simp), List.append_nil]
/-- Values of a text: each may be. -/
theorem vals_right (s : ByteArray) : ∀ f i, ∀ v ∈ valsF s f i, ptB v = true ∨ stB v = true := by
  intro f
  induction f with
  | zero => intro i v hv; rw [valsF] at hv; cases hv
  | succ f ih =>
    intro i v hv
    by_cases hi : i < s.size
    · rw [valsF_step s f i hi] at hv
      rcases List.mem_cons.1 hv with rfl | hv
      · have hb := (val_bytes (s.size - i) (s.get! i).toNat (s.get! (i + 1)).toNat (s.get! (i + 2)).toNat (s.get! (i + 3)).toNat (get0 _ _) (get0 _ _) (get0 _ _) (get0 _ _)).1
        rw [← vAt_val] at hb
        have hp := dec_pos s i hi
        rw [← vAt_size s i hi] at hp
        cases h1 : ptB ((vAt s i).1 : Int)
        · cases h2 : stB ((vAt s i).1 : Int)
          · rw [oneI_no h1 h2] at hb
            have := congrArg List.length hb
            simp at this; omega
          · right; rfl
        · left; rfl
      · exact ih _ v hv
    · rw [valsF_end s _ i hi] at hv; cases hv
theorem pt_of_le {s : ByteArray} {v : Int} (h : v ∈ valsS s) (hl : v ≤ 1114111) : ptB v = true := by
  rcases vals_right s _ _ v h with h1 | h1
  · exact h1
  · have := (stB_iff v).1 h1; omega
theorem vals_join (s t : ByteArray) (h : ∀ v ∈ valsS s, v ≤ 1114111) : valsS (s ++ t) = valsS s ++ valsS t := by
  have e : s ++ t = txt (encI (valsS s) ++ bytesOf t) := by
    rw [enc_vals]
    conv => lhs; rw [← txt_bytesOf s, ← txt_bytesOf t]
    apply ByteArray.ext
    simp [txt]
  rw [e, vals_encs _ _ (fun v hv => pt_of_le hv (h v hv)), txt_bytesOf]
/-- How many. -/
theorem valsF_count (s : ByteArray) : ∀ f i, (valsF s f i).length = Lib.runeCountFrom s f i := by
  intro f
  induction f with
  | zero => intro i; rfl
  | succ f ih =>
    intro i
    by_cases hi : i < s.size
    · rw [valsF_step s f i hi, Lib.runeCountFrom, if_pos hi, ← ih]; simp; omega
    · rw [valsF_end s _ i hi, Lib.runeCountFrom_end s _ _ hi]; rfl
theorem vals_count (s : ByteArray) : (valsS s).length = Lib.runeCount s := valsF_count s _ _
end Go.Proofs.YtangpdaoacjinaaDoor
set_option linter.unusedVariables false
set_option linter.unusedSimpArgs false
namespace Go.Proofs.YtangpdaoacjinaaDoor
open Go.RowKit
end Go.Proofs.YtangpdaoacjinaaDoor
set_option linter.unusedVariables false
set_option linter.unusedSimpArgs false
namespace Go.Proofs.YtangpdaoacjinaaDoor
open Go.RowKit
/-- Is a text that is not empty a code point's beginning? -/
def partB (s : ByteArray) : Bool := decide (begS s = s.size) && decide (s.size < sizeB (s.get! 0).toNat)
theorem partB_iff (s : ByteArray) : partB s = true ↔ (begS s = s.size ∧ s.size < sizeB (s.get! 0).toNat) := by unfold partB; rw [Bool.and_eq_true, decide_eq_true_eq, decide_eq_true_eq]
theorem part_cl (n b0 b1 b2 b3 z lo hi : Nat) (hn : 1 ≤ n) (hz : sizeB b0 = z) (h1 : 2 ≤ z) (hm : ∀ c, mayB b0 c 1 = true ↔ lo ≤ c ∧ c ≤ hi) :
    (begB n b0 b1 b2 b3 = n ∧ n < z) ↔ (n < z ∧ (1 < n → lo ≤ b1 ∧ b1 ≤ hi) ∧ (2 < n → 128 ≤ b2 ∧ b2 ≤ 191)) := by
  have h4 : z ≤ 4 := by rw [← hz]; exact sizeB_le b0
  have m1 := hm b1
  have m2 : mayB b0 b2 2 = true ↔ 128 ≤ b2 ∧ b2 ≤ 191 := by rw [mayB_iff]; omega
  subst hz
  by_cases c1 : 1 < n
  · by_cases c2 : mayB b0 b1 1 = true
    · have g1 := m1.1 c2
      by_cases c3 : 2 < n
      · by_cases c5 : 2 < sizeB b0
        · by_cases c4 : mayB b0 b2 2 = true
          · have g2 := m2.1 c4
            by_cases c6 : n < sizeB b0
            · rw [beg3 ⟨by omega, c1, c2⟩ ⟨c5, c3, c4⟩ (fun h => by have := h.1; have := h.2.1; omega)]; omega
            · omega
          · have g2 : ¬ (128 ≤ b2 ∧ b2 ≤ 191) := fun h => c4 (m2.2 h)
            rw [beg2 ⟨by omega, c1, c2⟩ (by simp [c4])]; omega
        · omega
      · by_cases c6 : n < sizeB b0
        · rw [beg2 ⟨by omega, c1, c2⟩ (fun h => by have := h.1; have := h.2.1; omega)]; omega
        · omega
    · have g1 : ¬ (lo ≤ b1 ∧ b1 ≤ hi) := fun h => c2 (m1.2 h)
      rw [beg1 (by simp [c2])]; omega
  · rw [beg1 (fun h => by have := h.2.1; omega)]; omega
theorem may_cl (b0 c : Nat) : mayB b0 c 1 = true ↔ (128 ≤ c ∧ c ≤ 191) ∧ ¬ (b0 = 224 ∧ c < 160 ∨ b0 = 237 ∧ 159 < c ∨ b0 = 240 ∧ c < 144 ∨ b0 = 244 ∧ 143 < c) := by rw [mayB_iff]; omega
theorem cl_cases (b0 : Nat) : (Lib.firstT b0 = 240 ∧ sizeB b0 = 1) ∨ (Lib.firstT b0 = 241 ∧ sizeB b0 = 0)
    ∨ (Lib.firstT b0 = 2 ∧ sizeB b0 = 2 ∧ ∀ c, mayB b0 c 1 = true ↔ 128 ≤ c ∧ c ≤ 191) ∨ (Lib.firstT b0 = 19 ∧ sizeB b0 = 3 ∧ ∀ c, mayB b0 c 1 = true ↔ 160 ≤ c ∧ c ≤ 191)
    ∨ (Lib.firstT b0 = 3 ∧ sizeB b0 = 3 ∧ ∀ c, mayB b0 c 1 = true ↔ 128 ≤ c ∧ c ≤ 191) ∨ (Lib.firstT b0 = 35 ∧ sizeB b0 = 3 ∧ ∀ c, mayB b0 c 1 = true ↔ 128 ≤ c ∧ c ≤ 159)
    ∨ (Lib.firstT b0 = 52 ∧ sizeB b0 = 4 ∧ ∀ c, mayB b0 c 1 = true ↔ 144 ≤ c ∧ c ≤ 191) ∨ (Lib.firstT b0 = 4 ∧ sizeB b0 = 4 ∧ ∀ c, mayB b0 c 1 = true ↔ 128 ≤ c ∧ c ≤ 191)
    ∨ (Lib.firstT b0 = 68 ∧ sizeB b0 = 4 ∧ ∀ c, mayB b0 c 1 = true ↔ 128 ≤ c ∧ c ≤ 143) := by
  have hm := fun c => may_cl b0 c
  rcases (by omega : b0 < 128 ∨ (128 ≤ b0 ∧ b0 < 194) ∨ (194 ≤ b0 ∧ b0 < 224) ∨ b0 = 224 ∨ (225 ≤ b0 ∧ b0 < 237) ∨ b0 = 237 ∨ (238 ≤ b0 ∧ b0 < 240) ∨ b0 = 240 ∨ (241 ≤ b0 ∧ b0 < 244) ∨ b0 = 244 ∨ 245 ≤ b0) with h | h | h | h | h | h | h | h | h | h | h
  · left; unfold Lib.firstT sizeB; rw [if_pos h, if_pos h]; exact ⟨rfl, rfl⟩
  · right; left; unfold Lib.firstT sizeB; simp only [show ¬ b0 < 128 by omega, show b0 < 194 by omega, show ¬ (194 ≤ b0 ∧ b0 ≤ 223) by omega, show ¬ (224 ≤ b0 ∧ b0 ≤ 239) by omega, show ¬ (240 ≤ b0 ∧ b0 ≤ 244) by omega, if_true, if_false]; exact ⟨trivial, trivial⟩
  · right; right; left; refine ⟨?_, ?_, fun c => by rw [hm c]; omega⟩
    · unfold Lib.firstT; simp only [show ¬ b0 < 128 by omega, show ¬ b0 < 194 by omega, show b0 < 224 by omega, if_true, if_false]
    · unfold sizeB; simp only [show ¬ b0 < 128 by omega, show (194 ≤ b0 ∧ b0 ≤ 223) by omega, and_self, if_true, if_false]
  · right; right; right; left; subst h; exact ⟨by decide, by decide, fun c => by rw [hm c]; omega⟩
  · right; right; right; right; left; refine ⟨?_, ?_, fun c => by rw [hm c]; omega⟩
    · unfold Lib.firstT; simp only [show ¬ b0 < 128 by omega, show ¬ b0 < 194 by omega, show ¬ b0 < 224 by omega, show ¬ b0 = 224 by omega, show b0 < 237 by omega, if_true, if_false]
    · unfold sizeB; rw [if_neg (by omega), if_neg (by omega), if_pos (by omega)]
  · right; right; right; right; right; left; subst h; exact ⟨by decide, by decide, fun c => by rw [hm c]; omega⟩
  · right; right; right; right; left; refine ⟨?_, ?_, fun c => by rw [hm c]; omega⟩
    · unfold Lib.firstT; simp only [show ¬ b0 < 128 by omega, show ¬ b0 < 194 by omega, show ¬ b0 < 224 by omega, show ¬ b0 = 224 by omega, show ¬ b0 < 237 by omega, show ¬ b0 = 237 by omega, show b0 < 240 by omega, if_true, if_false]
    · unfold sizeB; rw [if_neg (by omega), if_neg (by omega), if_pos (by omega)]
  · right; right; right; right; right; right; left; subst h; exact ⟨by decide, by decide, fun c => by rw [hm c]; omega⟩
  · right; right; right; right; right; right; right; left; refine ⟨?_, ?_, fun c => by rw [hm c]; omega⟩
    · unfold Lib.firstT; simp only [show ¬ b0 < 128 by omega, show ¬ b0 < 194 by omega, show ¬ b0 < 224 by omega, show ¬ b0 = 224 by omega, show ¬ b0 < 237 by omega, show ¬ b0 = 237 by omega, show ¬ b0 < 240 by omega, show ¬ b0 = 240 by omega, show b0 < 244 by omega, if_true, if_false]
    · unfold sizeB; rw [if_neg (by omega), if_neg (by omega), if_neg (by omega), if_pos (by omega)]
  · right; right; right; right; right; right; right; right; subst h; exact ⟨by decide, by decide, fun c => by rw [hm c]; omega⟩
  · right; left; unfold Lib.firstT sizeB; simp only [show ¬ b0 < 128 by omega, show ¬ b0 < 194 by omega, show ¬ b0 < 224 by omega, show ¬ b0 = 224 by omega, show ¬ b0 < 237 by omega, show ¬ b0 = 237 by omega, show ¬ b0 < 240 by omega, show ¬ b0 = 240 by omega, show ¬ b0 < 244 by omega, show ¬ b0 = 244 by omega, show ¬ (194 ≤ b0 ∧ b0 ≤ 223) by omega, show ¬ (224 ≤ b0 ∧ b0 ≤ 239) by omega, show ¬ (240 ≤ b0 ∧ b0 ≤ 244) by omega, if_true, if_false]; exact ⟨trivial, trivial⟩
theorem ret_nn {a b : Bool} (h : b = !a) : Ending.returned (.bool b) = .returned (.bool (!a)) := by rw [h]
set_option maxRecDepth 100000 in
set_option maxHeartbeats 4000000 in
theorem full_any (s : ByteArray) (w : World) (hT : UT w) (hs : 0 < s.size) (hs' : s.size ≤ 1000000) :
    Calls Tryd.prog 302 #[.string s] w fun e w' => e = .returned (.bool (!partB s)) ∧ Below w.heap.size w w' := by
  have hp := partB_iff s
  rw [begS_B] at hp
  have g0 := get_get s 0 hs
  have l0 := (s.get! 0).toNat_lt; have l1 := (s.get! 1).toNat_lt; have l2 := (s.get! 2).toNat_lt
  have hc0 := hT.1.1 (s.get! 0).toNat l0
  have hb0 : Below w.heap.size w w := Below.refl _ _
  have HT := Lib.hid hT; clear hT
  have hz0 : (0 : Int) < (s.size : Int) := by omega
  have hcl := cl_cases (s.get! 0).toNat
  have g1 := fun h => get_get s 1 h
  have g2 := fun h => get_get s 2 h
  generalize s.get! 0 = x0 at *
  generalize s.get! 1 = x1 at *
  generalize s.get! 2 = x2 at *
  generalize (s.get! 3).toNat = x3 at *
  have hs0 : s[0]'(by omega) = x0 := g0.symm
  have hfalse : ∀ (z : Nat), sizeB x0.toNat = z → ¬ s.size < z → partB s = false := by
    intro z hz hn; rw [← Bool.not_eq_true]; intro h; have := (hp.1 h).2; omega
  rcases hcl with ⟨hX, hz⟩ | ⟨hX, hz⟩ | ⟨hX, hz, hm⟩ | ⟨hX, hz, hm⟩ | ⟨hX, hz, hm⟩ | ⟨hX, hz, hm⟩ | ⟨hX, hz, hm⟩ | ⟨hX, hz, hm⟩ | ⟨hX, hz, hm⟩
  · have hf := hfalse 1 hz (by omega)
    rw [hf]
    rw [hX] at hc0
    clear hf hfalse hp hX hz g0 g1 g2 l1 l2
    go_enter Tryd.func302, Tryd.ntmps302
    go_wp2
    go_ret
    exact ⟨rfl, Below.refl _ _⟩
  · have hf := hfalse 0 hz (by omega)
    rw [hf]
    rw [hX] at hc0
    clear hf hfalse hp hX hz g0 g1 g2 l1 l2
    have hz1 : (1 : Int) ≤ (s.size : Int) := by omega
    go_enter Tryd.func302, Tryd.ntmps302
    go_wp2
    go_ret
    exact ⟨rfl, Below.refl _ _⟩
  · have hiff := (part_cl s.size x0.toNat x1.toNat x2.toNat x3 2 128 191 hs hz (by omega) hm)
    rw [hX] at hc0
    rw [hz] at hp
    by_cases hn : s.size < 2
    · have hP := hp.trans hiff
      have hf : ¬ (s.size < 2 ∧ (1 < s.size → 128 ≤ x1.toNat ∧ x1.toNat ≤ 191) ∧ (2 < s.size → 128 ≤ x2.toNat ∧ x2.toNat ≤ 191)) → partB s = false := by
        intro h; rw [← Bool.not_eq_true]; intro h2; exact h (hP.1 h2)
      have ht := hP.2
      have ha0 := (HT.out.1.2 0 (by omega)).1
      have ha1 := (HT.out.1.2 0 (by omega)).2
      simp only [Lib.accLo, Lib.accHi, Nat.reduceMul, Nat.reduceAdd, Nat.reduceEqDiff, if_true, if_false] at ha0 ha1
      have hnz : (s.size : Int) < 2 := by omega
      have Hf := Lib.hid hf; have Ht := Lib.hid ht
      clear hf ht hP hp hiff hfalse hX hz hm g0 l1 l2
      have hk : s.size = 1 := by omega
      have hq : ¬ ((1 : Int) < (s.size : Int)) := by omega
      have hq2 : ¬ ((2 : Int) < (s.size : Int)) := by omega
      replace Ht := Lib.hid (Ht.out ⟨by omega, by omega, by omega⟩)
      clear Hf g1 g2
      go_enter Tryd.func302, Tryd.ntmps302
      go_wp2
      go_quiet (fail)
      go_wp2
      go_ret
      exact ⟨ret_nn (by rw [Ht.out]; rfl), seqB (below_alloc _ _) (drewN_below (Below.refl _ _) _)⟩
    · have hf := hfalse 2 hz hn
      rw [hf]
      clear hf hfalse hp hiff hX hz hm g0 g1 g2 l1 l2
      have hz1 : (2 : Int) ≤ (s.size : Int) := by omega
      go_enter Tryd.func302, Tryd.ntmps302
      go_wp2
      go_ret
      exact ⟨rfl, Below.refl _ _⟩
  · have hiff := (part_cl s.size x0.toNat x1.toNat x2.toNat x3 3 160 191 hs hz (by omega) hm)
    rw [hX] at hc0
    rw [hz] at hp
    by_cases hn : s.size < 3
    · have hP := hp.trans hiff
      have hf : ¬ (s.size < 3 ∧ (1 < s.size → 160 ≤ x1.toNat ∧ x1.toNat ≤ 191) ∧ (2 < s.size → 128 ≤ x2.toNat ∧ x2.toNat ≤ 191)) → partB s = false := by
        intro h; rw [← Bool.not_eq_true]; intro h2; exact h (hP.1 h2)
      have ht := hP.2
      have ha0 := (HT.out.1.2 1 (by omega)).1
      have ha1 := (HT.out.1.2 1 (by omega)).2
      simp only [Lib.accLo, Lib.accHi, Nat.reduceMul, Nat.reduceAdd, Nat.reduceEqDiff, if_true, if_false] at ha0 ha1
      have hnz : (s.size : Int) < 3 := by omega
      have Hf := Lib.hid hf; have Ht := Lib.hid ht
      clear hf ht hP hp hiff hfalse hX hz hm g0 l1 l2
      rcases (by omega : s.size = 1 ∨ s.size = 2) with hk | hk
      · have hq : ¬ ((1 : Int) < (s.size : Int)) := by omega
        have hq2 : ¬ ((2 : Int) < (s.size : Int)) := by omega
        replace Ht := Lib.hid (Ht.out ⟨by omega, by omega, by omega⟩)
        clear Hf g1 g2
        go_enter Tryd.func302, Tryd.ntmps302
        go_wp2
        go_quiet (fail)
        go_wp2
        go_ret
        exact ⟨ret_nn (by rw [Ht.out]; rfl), seqB (below_alloc _ _) (drewN_below (Below.refl _ _) _)⟩
      · have hq : (1 : Int) < (s.size : Int) := by omega
        have hq2 : ¬ ((2 : Int) < (s.size : Int)) := by omega
        have hs1 : s[1]'(by omega) = x1 := (g1 (by omega)).symm
        clear g1 g2
        rcases (by omega : (x1.toNat < 160) ∨ (¬ x1.toNat < 160 ∧ 191 < x1.toNat) ∨ (160 ≤ x1.toNat ∧ x1.toNat ≤ 191)) with c1 | ⟨c1, c2⟩ | ⟨c1, c2⟩
        · have d1 : (x1.toNat : Int) < 160 := by omega
          replace Hf := Lib.hid (Hf.out (by omega))
          clear Ht c1
          go_enter Tryd.func302, Tryd.ntmps302
          go_wp2
          go_quiet (fail)
          go_wp2
          go_ret
          exact ⟨ret_nn (by rw [Hf.out]; rfl), seqB (below_alloc _ _) (drewN_below (Below.refl _ _) _)⟩
        · have d1 : (160 : Int) ≤ (x1.toNat : Int) := by omega
          have d2 : (191 : Int) < (x1.toNat : Int) := by omega
          replace Hf := Lib.hid (Hf.out (by omega))
          clear Ht c1 c2
          go_enter Tryd.func302, Tryd.ntmps302
          go_wp2
          go_quiet (fail)
          go_wp2
          go_ret
          exact ⟨ret_nn (by rw [Hf.out]; rfl), seqB (below_alloc _ _) (drewN_below (Below.refl _ _) _)⟩
        · have d1 : (160 : Int) ≤ (x1.toNat : Int) := by omega
          have d2 : (x1.toNat : Int) ≤ 191 := by omega
          replace Ht := Lib.hid (Ht.out (by omega))
          clear Hf c1 c2
          go_enter Tryd.func302, Tryd.ntmps302
          go_wp2
          go_quiet (fail)
          go_wp2
          go_ret
          exact ⟨ret_nn (by rw [Ht.out]; rfl), seqB (below_alloc _ _) (drewN_below (Below.refl _ _) _)⟩
    · have hf := hfalse 3 hz hn
      rw [hf]
      clear hf hfalse hp hiff hX hz hm g0 g1 g2 l1 l2
      have hz1 : (3 : Int) ≤ (s.size : Int) := by omega
      go_enter Tryd.func302, Tryd.ntmps302
      go_wp2
      go_ret
      exact ⟨rfl, Below.refl _ _⟩
  · have hiff := (part_cl s.size x0.toNat x1.toNat x2.toNat x3 3 128 191 hs hz (by omega) hm)
    rw [hX] at hc0
    rw [hz] at hp
    by_cases hn : s.size < 3
    · have hP := hp.trans hiff
      have hf : ¬ (s.size < 3 ∧ (1 < s.size → 128 ≤ x1.toNat ∧ x1.toNat ≤ 191) ∧ (2 < s.size → 128 ≤ x2.toNat ∧ x2.toNat ≤ 191)) → partB s = false := by
        intro h; rw [← Bool.not_eq_true]; intro h2; exact h (hP.1 h2)
      have ht := hP.2
      have ha0 := (HT.out.1.2 0 (by omega)).1
      have ha1 := (HT.out.1.2 0 (by omega)).2
      simp only [Lib.accLo, Lib.accHi, Nat.reduceMul, Nat.reduceAdd, Nat.reduceEqDiff, if_true, if_false] at ha0 ha1
      have hnz : (s.size : Int) < 3 := by omega
      have Hf := Lib.hid hf; have Ht := Lib.hid ht
      clear hf ht hP hp hiff hfalse hX hz hm g0 l1 l2
      rcases (by omega : s.size = 1 ∨ s.size = 2) with hk | hk
      · have hq : ¬ ((1 : Int) < (s.size : Int)) := by omega
        have hq2 : ¬ ((2 : Int) < (s.size : Int)) := by omega
        replace Ht := Lib.hid (Ht.out ⟨by omega, by omega, by omega⟩)
        clear Hf g1 g2
        go_enter Tryd.func302, Tryd.ntmps302
        go_wp2
        go_quiet (fail)
        go_wp2
        go_ret
        exact ⟨ret_nn (by rw [Ht.out]; rfl), seqB (below_alloc _ _) (drewN_below (Below.refl _ _) _)⟩
      · have hq : (1 : Int) < (s.size : Int) := by omega
        have hq2 : ¬ ((2 : Int) < (s.size : Int)) := by omega
        have hs1 : s[1]'(by omega) = x1 := (g1 (by omega)).symm
        clear g1 g2
        rcases (by omega : (x1.toNat < 128) ∨ (¬ x1.toNat < 128 ∧ 191 < x1.toNat) ∨ (128 ≤ x1.toNat ∧ x1.toNat ≤ 191)) with c1 | ⟨c1, c2⟩ | ⟨c1, c2⟩
        · have d1 : (x1.toNat : Int) < 128 := by omega
          replace Hf := Lib.hid (Hf.out (by omega))
          clear Ht c1
          go_enter Tryd.func302, Tryd.ntmps302
          go_wp2
          go_quiet (fail)
          go_wp2
          go_ret
          exact ⟨ret_nn (by rw [Hf.out]; rfl), seqB (below_alloc _ _) (drewN_below (Below.refl _ _) _)⟩
        · have d1 : (128 : Int) ≤ (x1.toNat : Int) := by omega
          have d2 : (191 : Int) < (x1.toNat : Int) := by omega
          replace Hf := Lib.hid (Hf.out (by omega))
          clear Ht c1 c2
          go_enter Tryd.func302, Tryd.ntmps302
          go_wp2
          go_quiet (fail)
          go_wp2
          go_ret
          exact ⟨ret_nn (by rw [Hf.out]; rfl), seqB (below_alloc _ _) (drewN_below (Below.refl _ _) _)⟩
        · have d1 : (128 : Int) ≤ (x1.toNat : Int) := by omega
          have d2 : (x1.toNat : Int) ≤ 191 := by omega
          replace Ht := Lib.hid (Ht.out (by omega))
          clear Hf c1 c2
          go_enter Tryd.func302, Tryd.ntmps302
          go_wp2
          go_quiet (fail)
          go_wp2
          go_ret
          exact ⟨ret_nn (by rw [Ht.out]; rfl), seqB (below_alloc _ _) (drewN_below (Below.refl _ _) _)⟩
    · have hf := hfalse 3 hz hn
      rw [hf]
      clear hf hfalse hp hiff hX hz hm g0 g1 g2 l1 l2
      have hz1 : (3 : Int) ≤ (s.size : Int) := by omega
      go_enter Tryd.func302, Tryd.ntmps302
      go_wp2
      go_ret
      exact ⟨rfl, Below.refl _ _⟩
  · have hiff := (part_cl s.size x0.toNat x1.toNat x2.toNat x3 3 128 159 hs hz (by omega) hm)
    rw [hX] at hc0
    rw [hz] at hp
    by_cases hn : s.size < 3
    · have hP := hp.trans hiff
      have hf : ¬ (s.size < 3 ∧ (1 < s.size → 128 ≤ x1.toNat ∧ x1.toNat ≤ 159) ∧ (2 < s.size → 128 ≤ x2.toNat ∧ x2.toNat ≤ 191)) → partB s = false := by
        intro h; rw [← Bool.not_eq_true]; intro h2; exact h (hP.1 h2)
      have ht := hP.2
      have ha0 := (HT.out.1.2 2 (by omega)).1
      have ha1 := (HT.out.1.2 2 (by omega)).2
      simp only [Lib.accLo, Lib.accHi, Nat.reduceMul, Nat.reduceAdd, Nat.reduceEqDiff, if_true, if_false] at ha0 ha1
      have hnz : (s.size : Int) < 3 := by omega
      have Hf := Lib.hid hf; have Ht := Lib.hid ht
      clear hf ht hP hp hiff hfalse hX hz hm g0 l1 l2
      rcases (by omega : s.size = 1 ∨ s.size = 2) with hk | hk
      · have hq : ¬ ((1 : Int) < (s.size : Int)) := by omega
        have hq2 : ¬ ((2 : Int) < (s.size : Int)) := by omega
        replace Ht := Lib.hid (Ht.out ⟨by omega, by omega, by omega⟩)
        clear Hf g1 g2
        go_enter Tryd.func302, Tryd.ntmps302
        go_wp2
        go_quiet (fail)
        go_wp2
        go_ret
        exact ⟨ret_nn (by rw [Ht.out]; rfl), seqB (below_alloc _ _) (drewN_below (Below.refl _ _) _)⟩
      · have hq : (1 : Int) < (s.size : Int) := by omega
        have hq2 : ¬ ((2 : Int) < (s.size : Int)) := by omega
        have hs1 : s[1]'(by omega) = x1 := (g1 (by omega)).symm
        clear g1 g2
        rcases (by omega : (x1.toNat < 128) ∨ (¬ x1.toNat < 128 ∧ 159 < x1.toNat) ∨ (128 ≤ x1.toNat ∧ x1.toNat ≤ 159)) with c1 | ⟨c1, c2⟩ | ⟨c1, c2⟩
        · have d1 : (x1.toNat : Int) < 128 := by omega
          replace Hf := Lib.hid (Hf.out (by omega))
          clear Ht c1
          go_enter Tryd.func302, Tryd.ntmps302
          go_wp2
          go_quiet (fail)
          go_wp2
          go_ret
          exact ⟨ret_nn (by rw [Hf.out]; rfl), seqB (below_alloc _ _) (drewN_below (Below.refl _ _) _)⟩
        · have d1 : (128 : Int) ≤ (x1.toNat : Int) := by omega
          have d2 : (159 : Int) < (x1.toNat : Int) := by omega
          replace Hf := Lib.hid (Hf.out (by omega))
          clear Ht c1 c2
          go_enter Tryd.func302, Tryd.ntmps302
          go_wp2
          go_quiet (fail)
          go_wp2
          go_ret
          exact ⟨ret_nn (by rw [Hf.out]; rfl), seqB (below_alloc _ _) (drewN_below (Below.refl _ _) _)⟩
        · have d1 : (128 : Int) ≤ (x1.toNat : Int) := by omega
          have d2 : (x1.toNat : Int) ≤ 159 := by omega
          replace Ht := Lib.hid (Ht.out (by omega))
          clear Hf c1 c2
          go_enter Tryd.func302, Tryd.ntmps302
          go_wp2
          go_quiet (fail)
          go_wp2
          go_ret
          exact ⟨ret_nn (by rw [Ht.out]; rfl), seqB (below_alloc _ _) (drewN_below (Below.refl _ _) _)⟩
    · have hf := hfalse 3 hz hn
      rw [hf]
      clear hf hfalse hp hiff hX hz hm g0 g1 g2 l1 l2
      have hz1 : (3 : Int) ≤ (s.size : Int) := by omega
      go_enter Tryd.func302, Tryd.ntmps302
      go_wp2
      go_ret
      exact ⟨rfl, Below.refl _ _⟩
  · have hiff := (part_cl s.size x0.toNat x1.toNat x2.toNat x3 4 144 191 hs hz (by omega) hm)
    rw [hX] at hc0
    rw [hz] at hp
    by_cases hn : s.size < 4
    · have hP := hp.trans hiff
      have hf : ¬ (s.size < 4 ∧ (1 < s.size → 144 ≤ x1.toNat ∧ x1.toNat ≤ 191) ∧ (2 < s.size → 128 ≤ x2.toNat ∧ x2.toNat ≤ 191)) → partB s = false := by
        intro h; rw [← Bool.not_eq_true]; intro h2; exact h (hP.1 h2)
      have ht := hP.2
      have ha0 := (HT.out.1.2 3 (by omega)).1
      have ha1 := (HT.out.1.2 3 (by omega)).2
      simp only [Lib.accLo, Lib.accHi, Nat.reduceMul, Nat.reduceAdd, Nat.reduceEqDiff, if_true, if_false] at ha0 ha1
      have hnz : (s.size : Int) < 4 := by omega
      have Hf := Lib.hid hf; have Ht := Lib.hid ht
      clear hf ht hP hp hiff hfalse hX hz hm g0 l1 l2
      rcases (by omega : s.size = 1 ∨ s.size = 2 ∨ s.size = 3) with hk | hk | hk
      · have hq : ¬ ((1 : Int) < (s.size : Int)) := by omega
        have hq2 : ¬ ((2 : Int) < (s.size : Int)) := by omega
        replace Ht := Lib.hid (Ht.out ⟨by omega, by omega, by omega⟩)
        clear Hf g1 g2
        go_enter Tryd.func302, Tryd.ntmps302
        go_wp2
        go_quiet (fail)
        go_wp2
        go_ret
        exact ⟨ret_nn (by rw [Ht.out]; rfl), seqB (below_alloc _ _) (drewN_below (Below.refl _ _) _)⟩
      · have hq : (1 : Int) < (s.size : Int) := by omega
        have hq2 : ¬ ((2 : Int) < (s.size : Int)) := by omega
        have hs1 : s[1]'(by omega) = x1 := (g1 (by omega)).symm
        clear g1 g2
        rcases (by omega : (x1.toNat < 144) ∨ (¬ x1.toNat < 144 ∧ 191 < x1.toNat) ∨ (144 ≤ x1.toNat ∧ x1.toNat ≤ 191)) with c1 | ⟨c1, c2⟩ | ⟨c1, c2⟩
        · have d1 : (x1.toNat : Int) < 144 := by omega
          replace Hf := Lib.hid (Hf.out (by omega))
          clear Ht c1
          go_enter Tryd.func302, Tryd.ntmps302
          go_wp2
          go_quiet (fail)
          go_wp2
          go_ret
          exact ⟨ret_nn (by rw [Hf.out]; rfl), seqB (below_alloc _ _) (drewN_below (Below.refl _ _) _)⟩
        · have d1 : (144 : Int) ≤ (x1.toNat : Int) := by omega
          have d2 : (191 : Int) < (x1.toNat : Int) := by omega
          replace Hf := Lib.hid (Hf.out (by omega))
          clear Ht c1 c2
          go_enter Tryd.func302, Tryd.ntmps302
          go_wp2
          go_quiet (fail)
          go_wp2
          go_ret
          exact ⟨ret_nn (by rw [Hf.out]; rfl), seqB (below_alloc _ _) (drewN_below (Below.refl _ _) _)⟩
        · have d1 : (144 : Int) ≤ (x1.toNat : Int) := by omega
          have d2 : (x1.toNat : Int) ≤ 191 := by omega
          replace Ht := Lib.hid (Ht.out (by omega))
          clear Hf c1 c2
          go_enter Tryd.func302, Tryd.ntmps302
          go_wp2
          go_quiet (fail)
          go_wp2
          go_ret
          exact ⟨ret_nn (by rw [Ht.out]; rfl), seqB (below_alloc _ _) (drewN_below (Below.refl _ _) _)⟩
      · have hq : (1 : Int) < (s.size : Int) := by omega
        have hq2 : (2 : Int) < (s.size : Int) := by omega
        have hs1 : s[1]'(by omega) = x1 := (g1 (by omega)).symm
        have hs2 : s[2]'(by omega) = x2 := (g2 (by omega)).symm
        clear g1 g2
        rcases (by omega : (x1.toNat < 144) ∨ (¬ x1.toNat < 144 ∧ 191 < x1.toNat) ∨ (144 ≤ x1.toNat ∧ x1.toNat ≤ 191)) with c1 | ⟨c1, c2⟩ | ⟨c1, c2⟩
        · have d1 : (x1.toNat : Int) < 144 := by omega
          replace Hf := Lib.hid (Hf.out (by omega))
          clear Ht c1
          go_enter Tryd.func302, Tryd.ntmps302
          go_wp2
          go_quiet (fail)
          go_wp2
          go_ret
          exact ⟨ret_nn (by rw [Hf.out]; rfl), seqB (below_alloc _ _) (drewN_below (Below.refl _ _) _)⟩
        · have d1 : (144 : Int) ≤ (x1.toNat : Int) := by omega
          have d2 : (191 : Int) < (x1.toNat : Int) := by omega
          replace Hf := Lib.hid (Hf.out (by omega))
          clear Ht c1 c2
          go_enter Tryd.func302, Tryd.ntmps302
          go_wp2
          go_quiet (fail)
          go_wp2
          go_ret
          exact ⟨ret_nn (by rw [Hf.out]; rfl), seqB (below_alloc _ _) (drewN_below (Below.refl _ _) _)⟩
        · have d1 : (144 : Int) ≤ (x1.toNat : Int) := by omega
          have d2 : (x1.toNat : Int) ≤ 191 := by omega
          rcases (by omega : (x2.toNat < 128) ∨ (¬ x2.toNat < 128 ∧ 191 < x2.toNat) ∨ (128 ≤ x2.toNat ∧ x2.toNat ≤ 191)) with c3 | ⟨c3, c4⟩ | ⟨c3, c4⟩
          · have d3 : (x2.toNat : Int) < 128 := by omega
            replace Hf := Lib.hid (Hf.out (by omega))
            clear Ht c1 c2 c3
            go_enter Tryd.func302, Tryd.ntmps302
            go_wp2
            go_quiet (fail)
            go_wp2
            go_ret
            exact ⟨ret_nn (by rw [Hf.out]; rfl), seqB (below_alloc _ _) (drewN_below (Below.refl _ _) _)⟩
          · have d3 : (128 : Int) ≤ (x2.toNat : Int) := by omega
            have d4 : (191 : Int) < (x2.toNat : Int) := by omega
            replace Hf := Lib.hid (Hf.out (by omega))
            clear Ht c1 c2 c3 c4
            go_enter Tryd.func302, Tryd.ntmps302
            go_wp2
            go_quiet (fail)
            go_wp2
            go_ret
            exact ⟨ret_nn (by rw [Hf.out]; rfl), seqB (below_alloc _ _) (drewN_below (Below.refl _ _) _)⟩
          · have d3 : (128 : Int) ≤ (x2.toNat : Int) := by omega
            have d4 : (x2.toNat : Int) ≤ 191 := by omega
            replace Ht := Lib.hid (Ht.out (by omega))
            clear Hf c1 c2 c3 c4
            go_enter Tryd.func302, Tryd.ntmps302
            go_wp2
            go_quiet (fail)
            go_wp2
            go_ret
            exact ⟨ret_nn (by rw [Ht.out]; rfl), seqB (below_alloc _ _) (drewN_below (Below.refl _ _) _)⟩
    · have hf := hfalse 4 hz hn
      rw [hf]
      clear hf hfalse hp hiff hX hz hm g0 g1 g2 l1 l2
      have hz1 : (4 : Int) ≤ (s.size : Int) := by omega
      go_enter Tryd.func302, Tryd.ntmps302
      go_wp2
      go_ret
      exact ⟨rfl, Below.refl _ _⟩
  · have hiff := (part_cl s.size x0.toNat x1.toNat x2.toNat x3 4 128 191 hs hz (by omega) hm)
    rw [hX] at hc0
    rw [hz] at hp
    by_cases hn : s.size < 4
    · have hP := hp.trans hiff
      have hf : ¬ (s.size < 4 ∧ (1 < s.size → 128 ≤ x1.toNat ∧ x1.toNat ≤ 191) ∧ (2 < s.size → 128 ≤ x2.toNat ∧ x2.toNat ≤ 191)) → partB s = false := by
        intro h; rw [← Bool.not_eq_true]; intro h2; exact h (hP.1 h2)
      have ht := hP.2
      have ha0 := (HT.out.1.2 0 (by omega)).1
      have ha1 := (HT.out.1.2 0 (by omega)).2
      simp only [Lib.accLo, Lib.accHi, Nat.reduceMul, Nat.reduceAdd, Nat.reduceEqDiff, if_true, if_false] at ha0 ha1
      have hnz : (s.size : Int) < 4 := by omega
      have Hf := Lib.hid hf; have Ht := Lib.hid ht
      clear hf ht hP hp hiff hfalse hX hz hm g0 l1 l2
      rcases (by omega : s.size = 1 ∨ s.size = 2 ∨ s.size = 3) with hk | hk | hk
      · have hq : ¬ ((1 : Int) < (s.size : Int)) := by omega
        have hq2 : ¬ ((2 : Int) < (s.size : Int)) := by omega
        replace Ht := Lib.hid (Ht.out ⟨by omega, by omega, by omega⟩)
        clear Hf g1 g2
        go_enter Tryd.func302, Tryd.ntmps302
        go_wp2
        go_quiet (fail)
        go_wp2
        go_ret
        exact ⟨ret_nn (by rw [Ht.out]; rfl), seqB (below_alloc _ _) (drewN_below (Below.refl _ _) _)⟩
      · have hq : (1 : Int) < (s.size : Int) := by omega
        have hq2 : ¬ ((2 : Int) < (s.size : Int)) := by omega
        have hs1 : s[1]'(by omega) = x1 := (g1 (by omega)).symm
        clear g1 g2
        rcases (by omega : (x1.toNat < 128) ∨ (¬ x1.toNat < 128 ∧ 191 < x1.toNat) ∨ (128 ≤ x1.toNat ∧ x1.toNat ≤ 191)) with c1 | ⟨c1, c2⟩ | ⟨c1, c2⟩
        · have d1 : (x1.toNat : Int) < 128 := by omega
          replace Hf := Lib.hid (Hf.out (by omega))
          clear Ht c1
          go_enter Tryd.func302, Tryd.ntmps302
          go_wp2
          go_quiet (fail)
          go_wp2
          go_ret
          exact ⟨ret_nn (by rw [Hf.out]; rfl), seqB (below_alloc _ _) (drewN_below (Below.refl _ _) _)⟩
        · have d1 : (128 : Int) ≤ (x1.toNat : Int) := by omega
          have d2 : (191 : Int) < (x1.toNat : Int) := by omega
          replace Hf := Lib.hid (Hf.out (by omega))
          clear Ht c1 c2
          go_enter Tryd.func302, Tryd.ntmps302
          go_wp2
          go_quiet (fail)
          go_wp2
          go_ret
          exact ⟨ret_nn (by rw [Hf.out]; rfl), seqB (below_alloc _ _) (drewN_below (Below.refl _ _) _)⟩
        · have d1 : (128 : Int) ≤ (x1.toNat : Int) := by omega
          have d2 : (x1.toNat : Int) ≤ 191 := by omega
          replace Ht := Lib.hid (Ht.out (by omega))
          clear Hf c1 c2
          go_enter Tryd.func302, Tryd.ntmps302
          go_wp2
          go_quiet (fail)
          go_wp2
          go_ret
          exact ⟨ret_nn (by rw [Ht.out]; rfl), seqB (below_alloc _ _) (drewN_below (Below.refl _ _) _)⟩
      · have hq : (1 : Int) < (s.size : Int) := by omega
        have hq2 : (2 : Int) < (s.size : Int) := by omega
        have hs1 : s[1]'(by omega) = x1 := (g1 (by omega)).symm
        have hs2 : s[2]'(by omega) = x2 := (g2 (by omega)).symm
        clear g1 g2
        rcases (by omega : (x1.toNat < 128) ∨ (¬ x1.toNat < 128 ∧ 191 < x1.toNat) ∨ (128 ≤ x1.toNat ∧ x1.toNat ≤ 191)) with c1 | ⟨c1, c2⟩ | ⟨c1, c2⟩
        · have d1 : (x1.toNat : Int) < 128 := by omega
          replace Hf := Lib.hid (Hf.out (by omega))
          clear Ht c1
          go_enter Tryd.func302, Tryd.ntmps302
          go_wp2
          go_quiet (fail)
          go_wp2
          go_ret
          exact ⟨ret_nn (by rw [Hf.out]; rfl), seqB (below_alloc _ _) (drewN_below (Below.refl _ _) _)⟩
        · have d1 : (128 : Int) ≤ (x1.toNat : Int) := by omega
          have d2 : (191 : Int) < (x1.toNat : Int) := by omega
          replace Hf := Lib.hid (Hf.out (by omega))
          clear Ht c1 c2
          go_enter Tryd.func302, Tryd.ntmps302
          go_wp2
          go_quiet (fail)
          go_wp2
          go_ret
          exact ⟨ret_nn (by rw [Hf.out]; rfl), seqB (below_alloc _ _) (drewN_below (Below.refl _ _) _)⟩
        · have d1 : (128 : Int) ≤ (x1.toNat : Int) := by omega
          have d2 : (x1.toNat : Int) ≤ 191 := by omega
          rcases (by omega : (x2.toNat < 128) ∨ (¬ x2.toNat < 128 ∧ 191 < x2.toNat) ∨ (128 ≤ x2.toNat ∧ x2.toNat ≤ 191)) with c3 | ⟨c3, c4⟩ | ⟨c3, c4⟩
          · have d3 : (x2.toNat : Int) < 128 := by omega
            replace Hf := Lib.hid (Hf.out (by omega))
            clear Ht c1 c2 c3
            go_enter Tryd.func302, Tryd.ntmps302
            go_wp2
            go_quiet (fail)
            go_wp2
            go_ret
            exact ⟨ret_nn (by rw [Hf.out]; rfl), seqB (below_alloc _ _) (drewN_below (Below.refl _ _) _)⟩
          · have d3 : (128 : Int) ≤ (x2.toNat : Int) := by omega
            have d4 : (191 : Int) < (x2.toNat : Int) := by omega
            replace Hf := Lib.hid (Hf.out (by omega))
            clear Ht c1 c2 c3 c4
            go_enter Tryd.func302, Tryd.ntmps302
            go_wp2
            go_quiet (fail)
            go_wp2
            go_ret
            exact ⟨ret_nn (by rw [Hf.out]; rfl), seqB (below_alloc _ _) (drewN_below (Below.refl _ _) _)⟩
          · have d3 : (128 : Int) ≤ (x2.toNat : Int) := by omega
            have d4 : (x2.toNat : Int) ≤ 191 := by omega
            replace Ht := Lib.hid (Ht.out (by omega))
            clear Hf c1 c2 c3 c4
            go_enter Tryd.func302, Tryd.ntmps302
            go_wp2
            go_quiet (fail)
            go_wp2
            go_ret
            exact ⟨ret_nn (by rw [Ht.out]; rfl), seqB (below_alloc _ _) (drewN_below (Below.refl _ _) _)⟩
    · have hf := hfalse 4 hz hn
      rw [hf]
      clear hf hfalse hp hiff hX hz hm g0 g1 g2 l1 l2
      have hz1 : (4 : Int) ≤ (s.size : Int) := by omega
      go_enter Tryd.func302, Tryd.ntmps302
      go_wp2
      go_ret
      exact ⟨rfl, Below.refl _ _⟩
  · have hiff := (part_cl s.size x0.toNat x1.toNat x2.toNat x3 4 128 143 hs hz (by omega) hm)
    rw [hX] at hc0
    rw [hz] at hp
    by_cases hn : s.size < 4
    · have hP := hp.trans hiff
      have hf : ¬ (s.size < 4 ∧ (1 < s.size → 128 ≤ x1.toNat ∧ x1.toNat ≤ 143) ∧ (2 < s.size → 128 ≤ x2.toNat ∧ x2.toNat ≤ 191)) → partB s = false := by
        intro h; rw [← Bool.not_eq_true]; intro h2; exact h (hP.1 h2)
      have ht := hP.2
      have ha0 := (HT.out.1.2 4 (by omega)).1
      have ha1 := (HT.out.1.2 4 (by omega)).2
      simp only [Lib.accLo, Lib.accHi, Nat.reduceMul, Nat.reduceAdd, Nat.reduceEqDiff, if_true, if_false] at ha0 ha1
      have hnz : (s.size : Int) < 4 := by omega
      have Hf := Lib.hid hf; have Ht := Lib.hid ht
      clear hf ht hP hp hiff hfalse hX hz hm g0 l1 l2
      rcases (by omega : s.size = 1 ∨ s.size = 2 ∨ s.size = 3) with hk | hk | hk
      · have hq : ¬ ((1 : Int) < (s.size : Int)) := by omega
        have hq2 : ¬ ((2 : Int) < (s.size : Int)) := by omega
        replace Ht := Lib.hid (Ht.out ⟨by omega, by omega, by omega⟩)
        clear Hf g1 g2
        go_enter Tryd.func302, Tryd.ntmps302
        go_wp2
        go_quiet (fail)
        go_wp2
        go_ret
        exact ⟨ret_nn (by rw [Ht.out]; rfl), seqB (below_alloc _ _) (drewN_below (Below.refl _ _) _)⟩
      · have hq : (1 : Int) < (s.size : Int) := by omega
        have hq2 : ¬ ((2 : Int) < (s.size : Int)) := by omega
        have hs1 : s[1]'(by omega) = x1 := (g1 (by omega)).symm
        clear g1 g2
        rcases (by omega : (x1.toNat < 128) ∨ (¬ x1.toNat < 128 ∧ 143 < x1.toNat) ∨ (128 ≤ x1.toNat ∧ x1.toNat ≤ 143)) with c1 | ⟨c1, c2⟩ | ⟨c1, c2⟩
        · have d1 : (x1.toNat : Int) < 128 := by omega
          replace Hf := Lib.hid (Hf.out (by omega))
          clear Ht c1
          go_enter Tryd.func302, Tryd.ntmps302
          go_wp2
          go_quiet (fail)
          go_wp2
          go_ret
          exact ⟨ret_nn (by rw [Hf.out]; rfl), seqB (below_alloc _ _) (drewN_below (Below.refl _ _) _)⟩
        · have d1 : (128 : Int) ≤ (x1.toNat : Int) := by omega
          have d2 : (143 : Int) < (x1.toNat : Int) := by omega
          replace Hf := Lib.hid (Hf.out (by omega))
          clear Ht c1 c2
          go_enter Tryd.func302, Tryd.ntmps302
          go_wp2
          go_quiet (fail)
          go_wp2
          go_ret
          exact ⟨ret_nn (by rw [Hf.out]; rfl), seqB (below_alloc _ _) (drewN_below (Below.refl _ _) _)⟩
        · have d1 : (128 : Int) ≤ (x1.toNat : Int) := by omega
          have d2 : (x1.toNat : Int) ≤ 143 := by omega
          replace Ht := Lib.hid (Ht.out (by omega))
          clear Hf c1 c2
          go_enter Tryd.func302, Tryd.ntmps302
          go_wp2
          go_quiet (fail)
          go_wp2
          go_ret
          exact ⟨ret_nn (by rw [Ht.out]; rfl), seqB (below_alloc _ _) (drewN_below (Below.refl _ _) _)⟩
      · have hq : (1 : Int) < (s.size : Int) := by omega
        have hq2 : (2 : Int) < (s.size : Int) := by omega
        have hs1 : s[1]'(by omega) = x1 := (g1 (by omega)).symm
        have hs2 : s[2]'(by omega) = x2 := (g2 (by omega)).symm
        clear g1 g2
        rcases (by omega : (x1.toNat < 128) ∨ (¬ x1.toNat < 128 ∧ 143 < x1.toNat) ∨ (128 ≤ x1.toNat ∧ x1.toNat ≤ 143)) with c1 | ⟨c1, c2⟩ | ⟨c1, c2⟩
        · have d1 : (x1.toNat : Int) < 128 := by omega
          replace Hf := Lib.hid (Hf.out (by omega))
          clear Ht c1
          go_enter Tryd.func302, Tryd.ntmps302
          go_wp2
          go_quiet (fail)
          go_wp2
          go_ret
          exact ⟨ret_nn (by rw [Hf.out]; rfl), seqB (below_alloc _ _) (drewN_below (Below.refl _ _) _)⟩
        · have d1 : (128 : Int) ≤ (x1.toNat : Int) := by omega
          have d2 : (143 : Int) < (x1.toNat : Int) := by omega
          replace Hf := Lib.hid (Hf.out (by omega))
          clear Ht c1 c2
          go_enter Tryd.func302, Tryd.ntmps302
          go_wp2
          go_quiet (fail)
          go_wp2
          go_ret
          exact ⟨ret_nn (by rw [Hf.out]; rfl), seqB (below_alloc _ _) (drewN_below (Below.refl _ _) _)⟩
        · have d1 : (128 : Int) ≤ (x1.toNat : Int) := by omega
          have d2 : (x1.toNat : Int) ≤ 143 := by omega
          rcases (by omega : (x2.toNat < 128) ∨ (¬ x2.toNat < 128 ∧ 191 < x2.toNat) ∨ (128 ≤ x2.toNat ∧ x2.toNat ≤ 191)) with c3 | ⟨c3, c4⟩ | ⟨c3, c4⟩
          · have d3 : (x2.toNat : Int) < 128 := by omega
            replace Hf := Lib.hid (Hf.out (by omega))
            clear Ht c1 c2 c3
            go_enter Tryd.func302, Tryd.ntmps302
            go_wp2
            go_quiet (fail)
            go_wp2
            go_ret
            exact ⟨ret_nn (by rw [Hf.out]; rfl), seqB (below_alloc _ _) (drewN_below (Below.refl _ _) _)⟩
          · have d3 : (128 : Int) ≤ (x2.toNat : Int) := by omega
            have d4 : (191 : Int) < (x2.toNat : Int) := by omega
            replace Hf := Lib.hid (Hf.out (by omega))
            clear Ht c1 c2 c3 c4
            go_enter Tryd.func302, Tryd.ntmps302
            go_wp2
            go_quiet (fail)
            go_wp2
            go_ret
            exact ⟨ret_nn (by rw [Hf.out]; rfl), seqB (below_alloc _ _) (drewN_below (Below.refl _ _) _)⟩
          · have d3 : (128 : Int) ≤ (x2.toNat : Int) := by omega
            have d4 : (x2.toNat : Int) ≤ 191 := by omega
            replace Ht := Lib.hid (Ht.out (by omega))
            clear Hf c1 c2 c3 c4
            go_enter Tryd.func302, Tryd.ntmps302
            go_wp2
            go_quiet (fail)
            go_wp2
            go_ret
            exact ⟨ret_nn (by rw [Ht.out]; rfl), seqB (below_alloc _ _) (drewN_below (Below.refl _ _) _)⟩
    · have hf := hfalse 4 hz hn
      rw [hf]
      clear hf hfalse hp hiff hX hz hm g0 g1 g2 l1 l2
      have hz1 : (4 : Int) ≤ (s.size : Int) := by omega
      go_enter Tryd.func302, Tryd.ntmps302
      go_wp2
      go_ret
      exact ⟨rfl, Below.refl _ _⟩
end Go.Proofs.YtangpdaoacjinaaDoor
