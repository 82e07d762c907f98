import Derived.Test.YtecffaidpiadoaaDoorU8
namespace Go.Proofs.YtecffaidpiadoaaDoor
open Go.RowKit
def bytesOf (s : ByteArray) : List Int := s.data.toList.map fun b => (b.toNat : Int)
theorem u8_nat {x : Int} (h0 : 0 ≤ x) (h1 : x < 256) : (x.toNat.toUInt8).toNat = x.toNat := by
  have : x.toNat < 256 := by omega
  rw [Nat.toUInt8, UInt8.toNat_ofNat']; omega
theorem txt_size (l : List Int) : (txt l).size = l.length := by simp [txt, ByteArray.size]
theorem txt_get (l : List Int) (i : Nat) (h : i < l.length) : (txt l).get! i = (l[i]).toNat.toUInt8 := by
  rw [get_get _ i (by rw [txt_size]; exact h)]
  show ((l.map fun x => x.toNat.toUInt8).toArray)[i]'(by simpa using h) = _
  simp
theorem txt_ext (l : List Int) (n : Nat) : (txt l).extract n (txt l).size = txt (l.drop n) := by
  apply ByteArray.ext
  rw [ByteArray.data_extract, txt_size]
  simp only [txt]
  rw [List.extract_toArray]
  congr 1
  rw [List.extract_eq_take_drop]
  exact List.take_of_length_le (by simp) |>.trans (by rw [List.map_drop])
theorem txt_bytesOf (s : ByteArray) : txt (bytesOf s) = s := by
  apply ByteArray.ext
  apply Array.toList_inj.1
  simp only [txt, bytesOf, List.map_map]
  rw [show ((fun x : Int => x.toNat.toUInt8) ∘ fun b : UInt8 => (b.toNat : Int)) = id from by funext b; simp]
  simp
theorem bytesOf_size (s : ByteArray) : (bytesOf s).length = s.size := by unfold bytesOf; rw [List.length_map]; exact Array.length_toList
theorem bytesOf_byte (s : ByteArray) : ∀ x ∈ bytesOf s, 0 ≤ x ∧ x < 256 := by
  intro x hx
  obtain ⟨b, _, rfl⟩ := List.mem_map.1 hx
  have := b.toNat_lt
  omega
theorem bytesOf_txt (l : List Int) (h : ∀ x ∈ l, 0 ≤ x ∧ x < 256) : bytesOf (txt l) = l := by
  simp only [bytesOf, txt, List.map_map]
  conv => rhs; rw [← List.map_id l]
  apply List.map_congr_left
  intro x hx
  have := h x hx
  simp only [Function.comp, id]
  rw [u8_nat this.1 this.2]; omega
theorem bytesOf_get (s : ByteArray) (i : Nat) (h : i < s.size) : (bytesOf s)[i]'(by rw [bytesOf_size]; exact h) = ((s.get! i).toNat : Int) := by
  rw [get_get s i h]; simp [bytesOf]; rfl
theorem front (s : ByteArray) (i n : Nat) (hn : n ≤ 4) (h : i + n ≤ s.size) :
    ([(s.get! i).toNat, (s.get! (i + 1)).toNat, (s.get! (i + 2)).toNat, (s.get! (i + 3)).toNat].take n).map Int.ofNat = ((bytesOf s).drop i).take n := by
  apply List.ext_getElem
  · simp [bytesOf_size]; omega
  · intro j h1 h2
    have hj : j < n := by simp at h1; omega
    rw [List.getElem_map, List.getElem_take, List.getElem_take, List.getElem_drop, bytesOf_get s (i + j) (by omega)]
    match j, hj with
    | 0, _ => rfl
    | 1, _ => rfl
    | 2, _ => rfl
    | 3, _ => rfl
    | k + 4, hj => omega
theorem enc_valsF (s : ByteArray) : ∀ f i, s.size ≤ i + f → encI (valsF s f i) = (bytesOf s).drop i := by
  intro f
  induction f with
  | zero =>
    intro i h
    rw [valsF_end s 0 i (by omega), List.drop_of_length_le (by rw [bytesOf_size]; omega)]; rfl
  | succ f ih =>
    intro i h
    by_cases hi : i < s.size
    · have hp := dec_pos s i hi
      rw [valsF_step s f i hi, encI_cons, ih _ (by omega), ← vAt_size s i hi]
      have hv := (val_bytes (s.size - i) (s.get! i).toNat (s.get! (i + 1)).toNat (s.get! (i + 2)).toNat (s.get! (i + 3)).toNat (get0 _ _) (get0 _ _) (get0 _ _) (get0 _ _)).1
      rw [← vAt_val] at hv
      rw [← vAt_size s i hi] at hp
      rw [hv, front s i _ hp.2.1 hp.2.2, ← List.drop_drop, List.take_append_drop]
    · rw [valsF_end s _ i hi, List.drop_of_length_le (by rw [bytesOf_size]; omega)]; rfl
theorem enc_vals (s : ByteArray) : encI (valsS s) = bytesOf s := enc_valsF s _ 0 (by omega)
theorem encS_vals (s : ByteArray) : encS (valsS s) = s := by unfold encS; rw [enc_vals, txt_bytesOf]
theorem nat_of_pt {v : Int} (h : ptB v = true) : ∃ n : Nat, v = n := ⟨v.toNat, by have := (ptB_iff v).1 h; omega⟩
theorem u8n (x : Int) (n : Nat) (h : x = n) (h1 : n < 256) : (x.toNat.toUInt8).toNat = n := by rw [u8_nat (by omega) (by omega)]; omega
theorem vAt_enc (v : Int) (r : List Int) (h : ptB v = true) : vAt (txt (oneI v ++ r)) 0 = (v.toNat, (oneI v).length) := by
  obtain ⟨n, rfl⟩ := nat_of_pt h
  have hp := (ptB_iff _).1 h
  rw [vAt_val, oneI_pt h, txt_size]
  rcases (by omega : n < 128 ∨ (128 ≤ n ∧ n < 2048) ∨ (2048 ≤ n ∧ n < 65536) ∨ (65536 ≤ n ∧ n ≤ 1114111)) with h1 | h1 | h1 | h1
  · rw [Lib.encodeRuneZ_one (by omega) (by omega)]
    rw [txt_get _ 0 (by simp)]
    have e0 : ((([(n : Int)] ++ r)[0]'(by simp)).toNat.toUInt8).toNat = n := u8n _ _ rfl (by omega)
    rw [e0, bytes_val1 _ n _ _ _ h1]; simp
  · rw [Lib.encodeRuneZ_two (by omega) (by omega)]
    rw [txt_get _ 0 (by simp), txt_get _ (0 + 1) (by simp)]
    have e0 : ((([192 + (n : Int) / 64, 128 + (n : Int) % 64] ++ r)[0]'(by simp)).toNat.toUInt8).toNat = 192 + n / 64 := u8n _ _ (by show 192 + (n : Int) / 64 = _; omega) (by omega)
    have e1 : ((([192 + (n : Int) / 64, 128 + (n : Int) % 64] ++ r)[0 + 1]'(by simp)).toNat.toUInt8).toNat = 128 + n % 64 := u8n _ _ (by show 128 + (n : Int) % 64 = _; omega) (by omega)
    rw [e0, e1, bytes_val2 _ n _ _ h1.1 h1.2 (by simp)]; simp
  · rw [Lib.encodeRuneZ_three (by omega)]
    rw [txt_get _ 0 (by simp), txt_get _ (0 + 1) (by simp), txt_get _ (0 + 2) (by simp)]
    have e0 : ((([224 + (n : Int) / 4096, 128 + (n : Int) / 64 % 64, 128 + (n : Int) % 64] ++ r)[0]'(by simp)).toNat.toUInt8).toNat = 224 + n / 4096 := u8n _ _ (by show 224 + (n : Int) / 4096 = _; omega) (by omega)
    have e1 : ((([224 + (n : Int) / 4096, 128 + (n : Int) / 64 % 64, 128 + (n : Int) % 64] ++ r)[0 + 1]'(by simp)).toNat.toUInt8).toNat = 128 + n / 64 % 64 := u8n _ _ (by show 128 + (n : Int) / 64 % 64 = _; omega) (by omega)
    have e2 : ((([224 + (n : Int) / 4096, 128 + (n : Int) / 64 % 64, 128 + (n : Int) % 64] ++ r)[0 + 2]'(by simp)).toNat.toUInt8).toNat = 128 + n % 64 := u8n _ _ (by show 128 + (n : Int) % 64 = _; omega) (by omega)
    rw [e0, e1, e2, bytes_val3 _ n _ h1.1 h1.2 (by omega) (by simp)]; simp
  · rw [Lib.encodeRuneZ_four (by omega) (by omega)]
    rw [txt_get _ 0 (by simp), txt_get _ (0 + 1) (by simp), txt_get _ (0 + 2) (by simp), txt_get _ (0 + 3) (by simp)]
    have e0 : ((([240 + (n : Int) / 262144, 128 + (n : Int) / 4096 % 64, 128 + (n : Int) / 64 % 64, 128 + (n : Int) % 64] ++ r)[0]'(by simp)).toNat.toUInt8).toNat = 240 + n / 262144 := u8n _ _ (by show 240 + (n : Int) / 262144 = _; omega) (by omega)
    have e1 : ((([240 + (n : Int) / 262144, 128 + (n : Int) / 4096 % 64, 128 + (n : Int) / 64 % 64, 128 + (n : Int) % 64] ++ r)[0 + 1]'(by simp)).toNat.toUInt8).toNat = 128 + n / 4096 % 64 := u8n _ _ (by show 128 + (n : Int) / 4096 % 64 = _; omega) (by omega)
    have e2 : ((([240 + (n : Int) / 262144, 128 + (n : Int) / 4096 % 64, 128 + (n : Int) / 64 % 64, 128 + (n : Int) % 64] ++ r)[0 + 2]'(by simp)).toNat.toUInt8).toNat = 128 + n / 64 % 64 := u8n _ _ (by show 128 + (n : Int) / 64 % 64 = _; omega) (by omega)
    have e3 : ((([240 + (n : Int) / 262144, 128 + (n : Int) / 4096 % 64, 128 + (n : Int) / 64 % 64, 128 + (n : Int) % 64] ++ r)[0 + 3]'(by simp)).toNat.toUInt8).toNat = 128 + n % 64 := u8n _ _ (by show 128 + (n : Int) % 64 = _; omega) (by omega)
    rw [e0, e1, e2, e3, bytes_val4 _ n h1.1 h1.2 (by simp)]; simp
theorem vals_enc1 (v : Int) (r : List Int) (h : ptB v = true) : valsS (txt (oneI v ++ r)) = v :: valsS (txt r) := by
  have hl : 1 ≤ (oneI v).length := by rw [oneI_pt h]; exact (Lib.encodeRuneZ_length v).1
  rw [valsS_cons _ (by rw [txt_size]; simp; omega), vAt_enc v r h, txt_ext]
  obtain ⟨n, rfl⟩ := nat_of_pt h
  simp
theorem vals_encs (a : List Int) (r : List Int) (h : ∀ v ∈ a, ptB v = true) : valsS (txt (encI a ++ r)) = a ++ valsS (txt r) := by
  induction a with
  | nil => rfl
  | cons v a ih =>
    rw [encI_cons, List.append_assoc, vals_enc1 v _ (h v (by simp)), ih (fun x hx => h x (by simp [hx]))]; rfl
theorem valsS_enc (a : List Int) (h : ∀ v ∈ a, ptB v = true) : valsS (encS a) = a := by
  have := vals_encs a [] h
  rw [List.append_nil] at this
  rw [encS, this, valsS_nil (txt []) (by rw [txt_size]; simp), List.append_nil]
/-- Values of a text: each may be. -/
theorem vals_right (s : ByteArray) : ∀ f i, ∀ v ∈ valsF s f i, ptB v = true ∨ stB v = true := by
  intro f
  induction f with
  | zero => intro i v hv; rw [valsF] at hv; cases hv
  | succ f ih =>
    intro i v hv
    by_cases hi : i < s.size
    · rw [valsF_step s f i hi] at hv
      rcases List.mem_cons.1 hv with rfl | hv
      · have hb := (val_bytes (s.size - i) (s.get! i).toNat (s.get! (i + 1)).toNat (s.get! (i + 2)).toNat (s.get! (i + 3)).toNat (get0 _ _) (get0 _ _) (get0 _ _) (get0 _ _)).1
        rw [← vAt_val] at hb
        have hp := dec_pos s i hi
        rw [← vAt_size s i hi] at hp
        cases h1 : ptB ((vAt s i).1 : Int)
        · cases h2 : stB ((vAt s i).1 : Int)
          · rw [oneI_no h1 h2] at hb
            have := congrArg List.length hb
            simp at this; omega
          · right; rfl
        · left; rfl
      · exact ih _ v hv
    · rw [valsF_end s _ i hi] at hv; cases hv
theorem pt_of_le {s : ByteArray} {v : Int} (h : v ∈ valsS s) (hl : v ≤ 1114111) : ptB v = true := by
  rcases vals_right s _ _ v h with h1 | h1
  · exact h1
  · have := (stB_iff v).1 h1; omega
theorem vals_join (s t : ByteArray) (h : ∀ v ∈ valsS s, v ≤ 1114111) : valsS (s ++ t) = valsS s ++ valsS t := by
  have e : s ++ t = txt (encI (valsS s) ++ bytesOf t) := by
    rw [enc_vals]
    conv => lhs; rw [← txt_bytesOf s, ← txt_bytesOf t]
    apply ByteArray.ext
    simp [txt]
  rw [e, vals_encs _ _ (fun v hv => pt_of_le hv (h v hv)), txt_bytesOf]
/-- How many. -/
theorem valsF_count (s : ByteArray) : ∀ f i, (valsF s f i).length = Lib.runeCountFrom s f i := by
  intro f
  induction f with
  | zero => intro i; rfl
  | succ f ih =>
    intro i
    by_cases hi : i < s.size
    · rw [valsF_step s f i hi, Lib.runeCountFrom, if_pos hi, ← ih]; simp; omega
    · rw [valsF_end s _ i hi, Lib.runeCountFrom_end s _ _ hi]; rfl
theorem vals_count (s : ByteArray) : (valsS s).length = Lib.runeCount s := valsF_count s _ _
end Go.Proofs.YtecffaidpiadoaaDoor
