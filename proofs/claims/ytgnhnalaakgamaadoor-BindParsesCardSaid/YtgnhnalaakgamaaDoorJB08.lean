/-
  Joined: U7 U8 U9 G0 G1 G2 M1 G3 Ky2 Sh1 Sh2 Sh8 M6 Ky3.
-/
import Derived.Test.YtgnhnalaakgamaaDoorJB01
import Derived.Test.YtgnhnalaakgamaaDoorJB02
import Derived.Test.YtgnhnalaakgamaaDoorJB03
import Derived.Test.YtgnhnalaakgamaaDoorJB05
import Derived.Test.YtgnhnalaakgamaaDoorJB07
import Derived.Lib.RuneBytes
import Derived.Deep.QuietTactic
import Derived.BigQuiet
import Derived.Deep.Cut
import Derived.Laws.CopyOwn
import Derived.BigRegion
import Derived.Laws.Rows
import Derived.Deep.RegionHeld3
import Derived.Test.YtgnhnalaakgamaaDoorProg
import Derived.Shelf.Strings.BuilderX
import Derived.Lib.Builder
import Derived.Lib.AppendStr
import Derived.Laws.Externs
set_option maxRecDepth 100000
set_option linter.unusedVariables false
set_option linter.unusedSimpArgs false
namespace Go.Proofs.YtgnhnalaakgamaaDoor
set_option linter.unusedVariables false
set_option linter.unusedSimpArgs false
open Go.RowKit
theorem ext_size (s : ByteArray) (n : Nat) : (s.extract n s.size).size = s.size - n := by simp
theorem ext_get (s : ByteArray) (n j : Nat) (h : n + j < s.size) : (s.extract n s.size).get! j = s.get! (n + j) := by
  rw [get_get _ j (by rw [ext_size]; omega), get_get _ (n + j) h]
  simp [ByteArray.getElem_extract]
theorem vAt_tail (s : ByteArray) (n j : Nat) (h : n + j < s.size) : vAt (s.extract n s.size) j = vAt s (n + j) := by
  unfold vAt; rw [Lib.tail_decode, ext_get s n j h]
theorem valsF_tail (s : ByteArray) (n : Nat) : ∀ f j, valsF (s.extract n s.size) f j = valsF s f (n + j) := by
  intro f
  induction f with
  | zero => intro j; rfl
  | succ f ih =>
    intro j
    by_cases h : n + j < s.size
    · rw [valsF_step _ f j (by rw [ext_size]; omega), valsF_step s f (n + j) h, vAt_tail s n j h, Lib.tail_decode, ih, Nat.add_assoc]
    · rw [valsF_end _ _ _ (by rw [ext_size]; omega), valsF_end _ _ _ h]
theorem valsF_fuel (s : ByteArray) : ∀ f f' i, s.size ≤ i + f → s.size ≤ i + f' → valsF s f i = valsF s f' i := by
  intro f
  induction f with
  | zero => intro f' i h h'; rw [valsF_end s 0 i (by omega), valsF_end s f' i (by omega)]
  | succ f ih =>
    intro f' i h h'
    by_cases hi : i < s.size
    · obtain ⟨g, rfl⟩ : ∃ g, f' = g + 1 := ⟨f' - 1, by omega⟩
      have := (dec_pos s i hi).1
      rw [valsF_step s f i hi, valsF_step s g i hi, ih g _ (by omega) (by omega)]
    · rw [valsF_end _ _ _ hi, valsF_end _ _ _ hi]
theorem valsS_cons (s : ByteArray) (h : 0 < s.size) : valsS s = ((vAt s 0).1 : Int) :: valsS (s.extract (vAt s 0).2 s.size) := by
  have hp := dec_pos s 0 h
  obtain ⟨f, hf⟩ : ∃ f, s.size = f + 1 := ⟨s.size - 1, by omega⟩
  unfold valsS
  rw [vAt_size s 0 h, valsF_tail, Nat.add_zero]
  have e : valsF s s.size 0 = valsF s (f + 1) 0 := by rw [hf]
  rw [e, valsF_step s f 0 h, Nat.zero_add]
  rw [valsF_fuel s f (s.extract (Utf8.decode s 0).2 s.size).size _ (by omega) (by rw [ext_size]; omega)]
theorem valsS_nil (s : ByteArray) (h : ¬ 0 < s.size) : valsS s = [] := by unfold valsS; exact valsF_end s _ 0 h
theorem valsS_len (s : ByteArray) : (valsS s).length ≤ s.size := by
  rcases valsF_len s s.size 0 with h | h
  · exact h
  · unfold valsS; rw [h]; simp
def strSize : Value → Nat
  | .string t => t.size
  | _ => 0
structure DrInv (s : ByteArray) (w : World) (t : ByteArray) (acc : List Int) (v : Value) (wr : World) : Prop where
  sz : t.size + acc.length ≤ s.size
  own : wr.ownsRow w.heap.size 3 1 v acc.length (acc.map (Value.int .i64))
  ac : acc ++ valsS t = valsS s
  bl : Below w.heap.size w wr
theorem cut_nat (t : ByteArray) (n : Nat) : t.extract (n : Int).toNat t.size = t.extract n t.size := rfl
theorem cell_k (w : World) (k : Nat) (x : Int) : ((w.drewN k).alloc (Obj.cells #[Value.int IntKind.i64 x] 3)).cell? ({ block := w.heap.size, off := 0 } : Addr) = some (Value.int .i64 x) := cell_new (w.drewN k) _ _
end Go.Proofs.YtgnhnalaakgamaaDoor
set_option linter.unusedVariables false
set_option linter.unusedSimpArgs false
namespace Go.Proofs.YtgnhnalaakgamaaDoor
open Go.RowKit
/-- The value at the front is the bytes that it took. -/
theorem val_bytes (n b0 b1 b2 b3 : Nat) (h0 : b0 < 256) (h1 : b1 < 256) (h2 : b2 < 256) (h3 : b3 < 256) :
    oneI ((valN n b0 b1 b2 b3).1 : Int) = ([b0, b1, b2, b3].take (valN n b0 b1 b2 b3).2).map Int.ofNat ∧ (valN n b0 b1 b2 b3).2 ≤ max n 1 := by
  have bad : valN n b0 b1 b2 b3 = (1114112 + b0, 1) → 128 ≤ b0 → oneI ((valN n b0 b1 b2 b3).1 : Int) = ([b0, b1, b2, b3].take (valN n b0 b1 b2 b3).2).map Int.ofNat ∧ (valN n b0 b1 b2 b3).2 ≤ max n 1 := by
    intro h hb; rw [h]
    refine ⟨?_, by simp; omega⟩
    rw [oneI_st ((stB_iff _).2 (by simp; omega))]
    simp; omega
  by_cases c0 : b0 < 128
  · have hv : valN n b0 b1 b2 b3 = (b0, 1) := val_ok (b0, 1) (by unfold Lib.decodeN; rw [if_pos c0]) (Or.inl (by simp; omega))
    rw [hv]
    refine ⟨?_, by simp; omega⟩
    rw [oneI_pt ((ptB_iff _).2 (Or.inl (by simp; omega))), Lib.encodeRuneZ_one (by simp) (by simp; omega)]
    simp
  · by_cases c1 : b0 / 32 = 6 ∧ (1 < n ∧ b1 / 64 = 2)
    · by_cases c2 : b0 % 32 * 64 + b1 % 64 ≥ 128
      · have hv : valN n b0 b1 b2 b3 = (b0 % 32 * 64 + b1 % 64, 2) := val_ok _ (by unfold Lib.decodeN; rw [if_neg c0, if_pos c1, if_pos c2]) (Or.inl (by simp; omega))
        rw [hv]
        refine ⟨?_, by simp; omega⟩
        rw [oneI_pt ((ptB_iff _).2 (Or.inl (by simp; omega))), Lib.encodeRuneZ_two (by simp; omega) (by simp; omega)]
        simp; omega
      · exact bad (val_bad (by unfold Lib.decodeN; rw [if_neg c0, if_pos c1, if_neg c2])) (by omega)
    · by_cases c3 : b0 / 16 = 14 ∧ (1 < n ∧ b1 / 64 = 2) ∧ (2 < n ∧ b2 / 64 = 2)
      · by_cases c2 : b0 % 16 * 4096 + b1 % 64 * 64 + b2 % 64 ≥ 2048 ∧ (b0 % 16 * 4096 + b1 % 64 * 64 + b2 % 64 < 55296 ∨ (57344 ≤ b0 % 16 * 4096 + b1 % 64 * 64 + b2 % 64 ∧ b0 % 16 * 4096 + b1 % 64 * 64 + b2 % 64 ≤ 1114111))
        · have hv : valN n b0 b1 b2 b3 = (b0 % 16 * 4096 + b1 % 64 * 64 + b2 % 64, 3) := val_ok _ (by unfold Lib.decodeN; rw [if_neg c0, if_neg c1, if_pos c3, if_pos c2]) (Or.inr (by simp))
          rw [hv]
          refine ⟨?_, by simp; omega⟩
          rw [oneI_pt ((ptB_iff _).2 (by simp; omega)), Lib.encodeRuneZ_three (by simp; omega)]
          simp; omega
        · exact bad (val_bad (by unfold Lib.decodeN; rw [if_neg c0, if_neg c1, if_pos c3, if_neg c2])) (by omega)
      · by_cases c4 : b0 / 8 = 30 ∧ (1 < n ∧ b1 / 64 = 2) ∧ (2 < n ∧ b2 / 64 = 2) ∧ (3 < n ∧ b3 / 64 = 2)
        · by_cases c2 : b0 % 8 * 262144 + b1 % 64 * 4096 + b2 % 64 * 64 + b3 % 64 ≥ 65536 ∧ (b0 % 8 * 262144 + b1 % 64 * 4096 + b2 % 64 * 64 + b3 % 64 < 55296 ∨ (57344 ≤ b0 % 8 * 262144 + b1 % 64 * 4096 + b2 % 64 * 64 + b3 % 64 ∧ b0 % 8 * 262144 + b1 % 64 * 4096 + b2 % 64 * 64 + b3 % 64 ≤ 1114111))
          · have hv : valN n b0 b1 b2 b3 = (b0 % 8 * 262144 + b1 % 64 * 4096 + b2 % 64 * 64 + b3 % 64, 4) := val_ok _ (by unfold Lib.decodeN; rw [if_neg c0, if_neg c1, if_neg c3, if_pos c4, if_pos c2]) (Or.inr (by simp))
            rw [hv]
            refine ⟨?_, by simp; omega⟩
            rw [oneI_pt ((ptB_iff _).2 (by simp; omega)), Lib.encodeRuneZ_four (by simp; omega) (by simp; omega)]
            simp; omega
          · exact bad (val_bad (by unfold Lib.decodeN; rw [if_neg c0, if_neg c1, if_neg c3, if_pos c4, if_neg c2])) (by omega)
        · exact bad (val_bad (by unfold Lib.decodeN; rw [if_neg c0, if_neg c1, if_neg c3, if_neg c4])) (by omega)
/-- .. and what a code point's bytes begin is that code point. -/
theorem bytes_val1 (n v b1 b2 b3 : Nat) (h : v < 128) : valN n v b1 b2 b3 = (v, 1) := val_ok (v, 1) (by unfold Lib.decodeN; rw [if_pos h]) (Or.inl (by simp; omega))
theorem bytes_val2 (n v b2 b3 : Nat) (h : 128 ≤ v) (h' : v < 2048) (hn : 2 ≤ n) : valN n (192 + v / 64) (128 + v % 64) b2 b3 = (v, 2) := by
  have e : (192 + v / 64) % 32 * 64 + (128 + v % 64) % 64 = v := by omega
  refine val_ok (v, 2) ?_ (Or.inl (by simp; omega))
  unfold Lib.decodeN
  rw [if_neg (by omega), if_pos (by omega), e, if_pos (by omega)]
theorem bytes_val3 (n v b3 : Nat) (h : 2048 ≤ v) (h' : v < 65536) (hs : v < 55296 ∨ 57344 ≤ v) (hn : 3 ≤ n) : valN n (224 + v / 4096) (128 + v / 64 % 64) (128 + v % 64) b3 = (v, 3) := by
  have e : (224 + v / 4096) % 16 * 4096 + (128 + v / 64 % 64) % 64 * 64 + (128 + v % 64) % 64 = v := by omega
  refine val_ok (v, 3) ?_ (Or.inr (by simp))
  unfold Lib.decodeN
  rw [if_neg (by omega), if_neg (by omega), if_pos (by omega), e, if_pos (by omega)]
theorem bytes_val4 (n v : Nat) (h : 65536 ≤ v) (h' : v ≤ 1114111) (hn : 4 ≤ n) : valN n (240 + v / 262144) (128 + v / 4096 % 64) (128 + v / 64 % 64) (128 + v % 64) = (v, 4) := by
  have e : (240 + v / 262144) % 8 * 262144 + (128 + v / 4096 % 64) % 64 * 4096 + (128 + v / 64 % 64) % 64 * 64 + (128 + v % 64) % 64 = v := by omega
  refine val_ok (v, 4) ?_ (Or.inr (by simp))
  unfold Lib.decodeN
  rw [if_neg (by omega), if_neg (by omega), if_neg (by omega), if_pos (by omega), e, if_pos (by omega)]
end Go.Proofs.YtgnhnalaakgamaaDoor
namespace Go.Proofs.YtgnhnalaakgamaaDoor
open Go.RowKit
theorem front (s : ByteArray) (i n : Nat) (hn : n ≤ 4) (h : i + n ≤ s.size) :
    ([(s.get! i).toNat, (s.get! (i + 1)).toNat, (s.get! (i + 2)).toNat, (s.get! (i + 3)).toNat].take n).map Int.ofNat = ((bytesOf s).drop i).take n := by
  apply List.ext_getElem
  · simp [bytesOf_size]; omega
  · intro j h1 h2
    have hj : j < n := by simp at h1; omega
    rw [List.getElem_map, List.getElem_take, List.getElem_take, List.getElem_drop, bytesOf_get s (i + j) (by omega)]
    match j, hj with
    | 0, _ => rfl
    | 1, _ => rfl
    | 2, _ => rfl
    | 3, _ => rfl
    | k + 4, hj => omega
theorem enc_valsF (s : ByteArray) : ∀ f i, s.size ≤ i + f → encI (valsF s f i) = (bytesOf s).drop i := by
  intro f
  induction f with
  | zero =>
    intro i h
    rw [valsF_end s 0 i (by omega), List.drop_of_length_le (by rw [bytesOf_size]; omega)]; rfl
  | succ f ih =>
    intro i h
    by_cases hi : i < s.size
    · have hp := dec_pos s i hi
      rw [valsF_step s f i hi, encI_cons, ih _ (by omega), ← vAt_size s i hi]
      have hv := (val_bytes (s.size - i) (s.get! i).toNat (s.get! (i + 1)).toNat (s.get! (i + 2)).toNat (s.get! (i + 3)).toNat (get0 _ _) (get0 _ _) (get0 _ _) (get0 _ _)).1
      rw [← vAt_val] at hv
      rw [← vAt_size s i hi] at hp
      rw [hv, front s i _ hp.2.1 hp.2.2, ← List.drop_drop, List.take_append_drop]
    · rw [valsF_end s _ i hi, List.drop_of_length_le (by rw [bytesOf_size]; omega)]; rfl
theorem enc_vals (s : ByteArray) : encI (valsS s) = bytesOf s := enc_valsF s _ 0 (by omega)
theorem encS_vals (s : ByteArray) : encS (valsS s) = s := by unfold encS; rw [enc_vals, txt_bytesOf]
theorem vAt_enc (v : Int) (r : List Int) (h : ptB v = true) : vAt (txt (oneI v ++ r)) 0 = (v.toNat, (oneI v).length) := by
  obtain ⟨n, rfl⟩ := nat_of_pt h
  have hp := (ptB_iff _).1 h
  rw [vAt_val, oneI_pt h, txt_size]
  rcases (by omega : n < 128 ∨ (128 ≤ n ∧ n < 2048) ∨ (2048 ≤ n ∧ n < 65536) ∨ (65536 ≤ n ∧ n ≤ 1114111)) with h1 | h1 | h1 | h1
  · rw [Lib.encodeRuneZ_one (by omega) (by omega)]
    rw [txt_get _ 0 (by simp)]
    have e0 : ((([(n : Int)] ++ r)[0]'(by simp)).toNat.toUInt8).toNat = n := u8n _ _ rfl (by omega)
    rw [e0, bytes_val1 _ n _ _ _ h1]; simp
  · rw [Lib.encodeRuneZ_two (by omega) (by omega)]
    rw [txt_get _ 0 (by simp), txt_get _ (0 + 1) (by simp)]
    have e0 : ((([192 + (n : Int) / 64, 128 + (n : Int) % 64] ++ r)[0]'(by simp)).toNat.toUInt8).toNat = 192 + n / 64 := u8n _ _ (by show 192 + (n : Int) / 64 = _; omega) (by omega)
    have e1 : ((([192 + (n : Int) / 64, 128 + (n : Int) % 64] ++ r)[0 + 1]'(by simp)).toNat.toUInt8).toNat = 128 + n % 64 := u8n _ _ (by show 128 + (n : Int) % 64 = _; omega) (by omega)
    rw [e0, e1, bytes_val2 _ n _ _ h1.1 h1.2 (by simp)]; simp
  · rw [Lib.encodeRuneZ_three (by omega)]
    rw [txt_get _ 0 (by simp), txt_get _ (0 + 1) (by simp), txt_get _ (0 + 2) (by simp)]
    have e0 : ((([224 + (n : Int) / 4096, 128 + (n : Int) / 64 % 64, 128 + (n : Int) % 64] ++ r)[0]'(by simp)).toNat.toUInt8).toNat = 224 + n / 4096 := u8n _ _ (by show 224 + (n : Int) / 4096 = _; omega) (by omega)
    have e1 : ((([224 + (n : Int) / 4096, 128 + (n : Int) / 64 % 64, 128 + (n : Int) % 64] ++ r)[0 + 1]'(by simp)).toNat.toUInt8).toNat = 128 + n / 64 % 64 := u8n _ _ (by show 128 + (n : Int) / 64 % 64 = _; omega) (by omega)
    have e2 : ((([224 + (n : Int) / 4096, 128 + (n : Int) / 64 % 64, 128 + (n : Int) % 64] ++ r)[0 + 2]'(by simp)).toNat.toUInt8).toNat = 128 + n % 64 := u8n _ _ (by show 128 + (n : Int) % 64 = _; omega) (by omega)
    rw [e0, e1, e2, bytes_val3 _ n _ h1.1 h1.2 (by omega) (by simp)]; simp
  · rw [Lib.encodeRuneZ_four (by omega) (by omega)]
    rw [txt_get _ 0 (by simp), txt_get _ (0 + 1) (by simp), txt_get _ (0 + 2) (by simp), txt_get _ (0 + 3) (by simp)]
    have e0 : ((([240 + (n : Int) / 262144, 128 + (n : Int) / 4096 % 64, 128 + (n : Int) / 64 % 64, 128 + (n : Int) % 64] ++ r)[0]'(by simp)).toNat.toUInt8).toNat = 240 + n / 262144 := u8n _ _ (by show 240 + (n : Int) / 262144 = _; omega) (by omega)
    have e1 : ((([240 + (n : Int) / 262144, 128 + (n : Int) / 4096 % 64, 128 + (n : Int) / 64 % 64, 128 + (n : Int) % 64] ++ r)[0 + 1]'(by simp)).toNat.toUInt8).toNat = 128 + n / 4096 % 64 := u8n _ _ (by show 128 + (n : Int) / 4096 % 64 = _; omega) (by omega)
    have e2 : ((([240 + (n : Int) / 262144, 128 + (n : Int) / 4096 % 64, 128 + (n : Int) / 64 % 64, 128 + (n : Int) % 64] ++ r)[0 + 2]'(by simp)).toNat.toUInt8).toNat = 128 + n / 64 % 64 := u8n _ _ (by show 128 + (n : Int) / 64 % 64 = _; omega) (by omega)
    have e3 : ((([240 + (n : Int) / 262144, 128 + (n : Int) / 4096 % 64, 128 + (n : Int) / 64 % 64, 128 + (n : Int) % 64] ++ r)[0 + 3]'(by simp)).toNat.toUInt8).toNat = 128 + n % 64 := u8n _ _ (by show 128 + (n : Int) % 64 = _; omega) (by omega)
    rw [e0, e1, e2, e3, bytes_val4 _ n h1.1 h1.2 (by simp)]; simp
theorem vals_enc1 (v : Int) (r : List Int) (h : ptB v = true) : valsS (txt (oneI v ++ r)) = v :: valsS (txt r) := by
  have hl : 1 ≤ (oneI v).length := by rw [oneI_pt h]; exact (Lib.encodeRuneZ_length v).1
  rw [valsS_cons _ (by rw [txt_size]; simp; omega), vAt_enc v r h, txt_ext]
  obtain ⟨n, rfl⟩ := nat_of_pt h
  simp
theorem vals_encs (a : List Int) (r : List Int) (h : ∀ v ∈ a, ptB v = true) : valsS (txt (encI a ++ r)) = a ++ valsS (txt r) := by
  induction a with
  | nil => rfl
  | cons v a ih =>
    rw [encI_cons, List.append_assoc, vals_enc1 v _ (h v (by simp)), ih (fun x hx => h x (by simp [hx]))]; rfl
theorem valsS_enc (a : List Int) (h : ∀ v ∈ a, ptB v = true) : valsS (encS a) = a := by
  have := vals_encs a [] h
  rw [List.append_nil] at this
  rw [encS, this, valsS_nil (txt []) (by rw [txt_size]; simp), List.append_nil]
/-- Values of a text: each may be. -/
theorem vals_right (s : ByteArray) : ∀ f i, ∀ v ∈ valsF s f i, ptB v = true ∨ stB v = true := by
  intro f
  induction f with
  | zero => intro i v hv; rw [valsF] at hv; cases hv
  | succ f ih =>
    intro i v hv
    by_cases hi : i < s.size
    · rw [valsF_step s f i hi] at hv
      rcases List.mem_cons.1 hv with rfl | hv
      · have hb := (val_bytes (s.size - i) (s.get! i).toNat (s.get! (i + 1)).toNat (s.get! (i + 2)).toNat (s.get! (i + 3)).toNat (get0 _ _) (get0 _ _) (get0 _ _) (get0 _ _)).1
        rw [← vAt_val] at hb
        have hp := dec_pos s i hi
        rw [← vAt_size s i hi] at hp
        cases h1 : ptB ((vAt s i).1 : Int)
        · cases h2 : stB ((vAt s i).1 : Int)
          · rw [oneI_no h1 h2] at hb
            have := congrArg List.length hb
            simp at this; omega
          · right; rfl
        · left; rfl
      · exact ih _ v hv
    · rw [valsF_end s _ i hi] at hv; cases hv
theorem pt_of_le {s : ByteArray} {v : Int} (h : v ∈ valsS s) (hl : v ≤ 1114111) : ptB v = true := by
  rcases vals_right s _ _ v h with h1 | h1
  · exact h1
  · have := (stB_iff v).1 h1; omega
theorem vals_join (s t : ByteArray) (h : ∀ v ∈ valsS s, v ≤ 1114111) : valsS (s ++ t) = valsS s ++ valsS t := by
  have e : s ++ t = txt (encI (valsS s) ++ bytesOf t) := by
    rw [enc_vals]
    conv => lhs; rw [← txt_bytesOf s, ← txt_bytesOf t]
    apply ByteArray.ext
    simp [txt]
  rw [e, vals_encs _ _ (fun v hv => pt_of_le hv (h v hv)), txt_bytesOf]
/-- How many. -/
theorem valsF_count (s : ByteArray) : ∀ f i, (valsF s f i).length = Lib.runeCountFrom s f i := by
  intro f
  induction f with
  | zero => intro i; rfl
  | succ f ih =>
    intro i
    by_cases hi : i < s.size
    · rw [valsF_step s f i hi, Lib.runeCountFrom, if_pos hi, ← ih]; simp; omega
    · rw [valsF_end s _ i hi, Lib.runeCountFrom_end s _ _ hi]; rfl
theorem vals_count (s : ByteArray) : (valsS s).length = Lib.runeCount s := valsF_count s _ _
end Go.Proofs.YtgnhnalaakgamaaDoor
set_option linter.unusedVariables false
set_option linter.unusedSimpArgs false
namespace Go.Proofs.YtgnhnalaakgamaaDoor
open Go.RowKit
abbrev Sn := Int × Int
/-- A buffer's signs. -/
def gsL (R : List Sn) (a e : Nat) : List Sn := R.take a ++ R.drop e
theorem gsL_len (R : List Sn) (a e : Nat) (h1 : a ≤ e) (h2 : e ≤ R.length) : (gsL R a e).length = R.length - (e - a) := by
  unfold gsL; rw [List.length_append, List.length_take, List.length_drop]; omega
/-- What a call of a buffer leaves: all blocks but its own two. -/
structure Kept (p : Nat) (v : Value) (w w' : World) : Prop where
  os : w'.os = w.os
  tape : w'.tape = w.tape
  output : w'.output = w.output
  size : w.heap.size ≤ w'.heap.size
  block : ∀ k, k < w.heap.size → k ≠ p → some k ≠ v.ownBlock → w'.heap[k]? = w.heap[k]?
theorem Kept.of {p : Nat} {v : Value} {w w' : World} (h : Below w.heap.size w w') : Kept p v w w' := ⟨h.os, h.tape, h.output, h.size, fun k hk _ _ => h.block k hk⟩
theorem Kept.set {p : Nat} {v : Value} {w w' : World} (h : Kept p v w w') (i : Nat) (u : Value) : Kept p v w (w'.setCell ⟨p, i, none⟩ u) :=
  ⟨h.os, h.tape, h.output, by have := h.size; simpa [World.setCell] using this, fun k hk hne hv => (Below.heap_setCell _ _ _ _ hne).trans (h.block k hk hne hv)⟩
theorem Kept.drew {p : Nat} {v : Value} {w w' : World} (h : Kept p v w w') (n : Nat) : Kept p v w (w'.drewN n) := by
  induction n with
  | zero => exact h
  | succ n ih => exact ⟨ih.os, ih.tape, ih.output, ih.size, ih.block⟩
theorem Kept.trans {p : Nat} {v v' : Value} {w w1 w2 : World} (h : Kept p v w w1) (k : Kept p v' w1 w2) (hv : v'.ownBlock = v.ownBlock ∨ ∀ r, v'.ownBlock = some r → w.heap.size ≤ r) : Kept p v w w2 :=
  ⟨k.os.trans h.os, k.tape.trans h.tape, k.output.trans h.output, Nat.le_trans h.size k.size, fun j hj hne hjv => by
    refine (k.block j (Nat.lt_of_lt_of_le hj h.size) hne (fun e => ?_)).trans (h.block j hj hne hjv)
    rcases hv with hv | hv
    · exact hjv (e.trans hv)
    · have := hv j e.symm; omega⟩
/-- Behind a call of a buffer that is not as old as B, what is older stays. -/
theorem Kept.below {p : Nat} {v : Value} {B : Nat} {w0 w w' : World} (h : Kept p v w w') (hb : Below B w0 w) (hB : B ≤ w.heap.size) (hp : B ≤ p) (hv : ∀ r, v.ownBlock = some r → B ≤ r) : Below B w0 w' :=
  hb.trans ⟨h.os, h.tape, h.output, h.size, fun k hk => h.block k (by omega) (by omega) (fun e => by have := hv k e.symm; omega)⟩
end Go.Proofs.YtgnhnalaakgamaaDoor
set_option linter.unusedVariables false
set_option linter.unusedSimpArgs false
namespace Go.Proofs.YtgnhnalaakgamaaDoor
open Go.RowKit
end Go.Proofs.YtgnhnalaakgamaaDoor
set_option linter.unusedVariables false
set_option linter.unusedSimpArgs false
namespace Go.Proofs.YtgnhnalaakgamaaDoor
open Go.RowKit
def gmE (l : List Sn) (M stay : Int) : Int := if sgC l = true then (if M - stay < l.length then 8 else 0) else 2
end Go.Proofs.YtgnhnalaakgamaaDoor
set_option linter.unusedVariables false
set_option linter.unusedSimpArgs false
namespace Go.Proofs.YtgnhnalaakgamaaDoor
open Go.RowKit
def mt : ByteArray := ⟨#[]⟩
def bL (s : ByteArray) : List UInt8 := s.data.toList
def mkB (l : List UInt8) : ByteArray := ⟨l.toArray⟩
theorem mkB_bL (s : ByteArray) : mkB (bL s) = s := by apply ByteArray.ext; simp [mkB, bL]
theorem bL_mkB (l : List UInt8) : bL (mkB l) = l := by simp [mkB, bL]
theorem bL_app (a b : ByteArray) : bL (a ++ b) = bL a ++ bL b := by unfold bL; rw [ByteArray.data_append]; simp
theorem bL_ext (s : ByteArray) (a b : Nat) : bL (s.extract a b) = ((bL s).take b).drop a := by
  unfold bL; rw [ByteArray.data_extract, Array.toList_extract, List.extract_eq_take_drop, List.drop_take]
theorem bL_inj {a b : ByteArray} (h : bL a = bL b) : a = b := by rw [← mkB_bL a, ← mkB_bL b, h]
theorem bL_len (s : ByteArray) : (bL s).length = s.size := by unfold bL; exact Array.length_toList
theorem bL_mt : bL mt = [] := rfl
theorem app_mt (s : ByteArray) : s ++ mt = s := bL_inj (by rw [bL_app, bL_mt, List.append_nil])
theorem mt_app (s : ByteArray) : mt ++ s = s := bL_inj (by rw [bL_app, bL_mt, List.nil_append])
theorem size0 {s : ByteArray} (h : s.size = 0) : s = mt := bL_inj (by rw [bL_mt]; apply List.eq_nil_of_length_eq_zero; rw [bL_len]; exact h)
theorem ext_all (s : ByteArray) : s.extract 0 s.size = s := bL_inj (by rw [bL_ext, ← bL_len, List.take_length, List.drop_zero])
theorem ext_front (a b : ByteArray) : (a ++ b).extract 0 a.size = a := bL_inj (by rw [bL_ext, bL_app, ← bL_len, List.take_left, List.drop_zero])
theorem ext_back (a b : ByteArray) : (a ++ b).extract a.size (a ++ b).size = b := bL_inj (by rw [bL_ext, ← bL_len (a ++ b), List.take_length, bL_app, ← bL_len a, List.drop_left])
theorem ext_join (s : ByteArray) (n : Nat) (h : n ≤ s.size) : s.extract 0 n ++ s.extract n s.size = s := bL_inj (by rw [bL_app, bL_ext, bL_ext, ← bL_len, List.take_length, List.drop_zero, List.take_append_drop])
theorem ba_asc (a b c : ByteArray) : a ++ b ++ c = a ++ (b ++ c) := bL_inj (by simp only [bL_app, List.append_assoc])
theorem bytesOf_bL (s : ByteArray) : bytesOf s = (bL s).map fun b => (b.toNat : Int) := rfl
theorem bytesOf_ext (s : ByteArray) (a b : Nat) : bytesOf (s.extract a b) = ((bytesOf s).take b).drop a := by rw [bytesOf_bL, bL_ext, List.map_drop, List.map_take]; rfl
/-- Is a value shown as it is? -/
def shwB (v : Int) : Bool := decide (1 ≤ cls v) && decide (cls v ≤ 3)
theorem shwB_pt {v : Int} (h : shwB v = true) : ptB v = true := by
  unfold shwB at h
  simp only [Bool.and_eq_true, decide_eq_true_eq] at h
  unfold cls at h
  rw [ptB_iff]
  rcases pnt_cases v with ⟨h1, h2⟩ | ⟨h1, h2⟩
  · omega
  · rcases stry_cases v with ⟨h3, h4⟩ | ⟨h3, h4⟩
    · have hr : rght v = true := by unfold rght; rw [h3]; simp
      rw [if_neg (by rw [hr]; simp), if_pos (by omega)] at h
      omega
    · have hr : rght v = false := by unfold rght; rw [h1, h3]; rfl
      rw [if_pos hr] at h
      omega
theorem pt_le {v : Int} (h : ptB v = true) : v ≤ 1114111 := by have := (ptB_iff v).1 h; omega
theorem shwB_low (v : Int) (h : v < 32) : shwB v = false := by
  unfold shwB
  by_cases h0 : v < 0
  · have : cls v = 0 := by
      unfold cls
      rw [if_pos]
      rcases pnt_cases v with ⟨h1, h2⟩ | ⟨h1, h2⟩
      · omega
      · rcases stry_cases v with ⟨h3, h4⟩ | ⟨h3, h4⟩
        · omega
        · unfold rght; rw [h1, h3]; rfl
    rw [this]; rfl
  · have : cls v = 4 := by
      unfold cls
      rw [if_neg, if_neg (by omega), if_pos h]
      rcases pnt_cases v with ⟨h1, h2⟩ | ⟨h1, h2⟩
      · unfold rght; rw [h1]; simp
      · omega
    rw [this]; rfl
/-- How long a text's beginning is that is shown as it is. -/
def tl (s : ByteArray) : Nat := (encI ((valsS s).takeWhile shwB)).length
def allW (t : ByteArray) : Bool := (valsS t).all shwB
theorem enc_split (s : ByteArray) : bytesOf s = encI ((valsS s).takeWhile shwB) ++ encI ((valsS s).dropWhile shwB) := by
  rw [← encI_append, List.takeWhile_append_dropWhile, enc_vals]
theorem tl_le (s : ByteArray) : tl s ≤ s.size := by
  have := congrArg List.length (enc_split s)
  rw [bytesOf_size, List.length_append] at this
  unfold tl; omega
theorem tl_take (s : ByteArray) : s.extract 0 (tl s) = encS ((valsS s).takeWhile shwB) := by
  rw [← txt_bytesOf (s.extract 0 (tl s)), bytesOf_ext, enc_split s, List.drop_zero]
  unfold tl encS
  rw [List.take_left]
theorem tl_drop (s : ByteArray) : s.extract (tl s) s.size = encS ((valsS s).dropWhile shwB) := by
  rw [← txt_bytesOf (s.extract (tl s) s.size), bytesOf_ext, List.take_of_length_le (by rw [bytesOf_size]; exact Nat.le_refl _), enc_split s]
  unfold tl encS
  rw [List.drop_left]
theorem pts_take (s : ByteArray) : ∀ v ∈ (valsS s).takeWhile shwB, ptB v = true := fun v hv => shwB_pt (List.all_eq_true.1 List.all_takeWhile v hv)
theorem vals_take (s : ByteArray) : valsS (s.extract 0 (tl s)) = (valsS s).takeWhile shwB := by rw [tl_take]; exact valsS_enc _ (pts_take s)
theorem vals_drop (s : ByteArray) : valsS (s.extract (tl s) s.size) = (valsS s).dropWhile shwB := by
  rw [tl_drop]
  have h := vals_encs ((valsS s).takeWhile shwB) (encI ((valsS s).dropWhile shwB)) (pts_take s)
  rw [← enc_split, txt_bytesOf] at h
  have h2 := List.takeWhile_append_dropWhile (p := shwB) (l := valsS s)
  exact List.append_cancel_left (h.symm.trans h2.symm)
theorem tw_dw {α : Type} (p : α → Bool) : ∀ l : List α, (l.dropWhile p).takeWhile p = []
  | [] => rfl
  | a :: l => by
    cases h : p a
    · rw [List.dropWhile_cons, h]; simp [List.takeWhile_cons, h]
    · rw [List.dropWhile_cons, h]; simpa using tw_dw p l
theorem tl_rest (s : ByteArray) : tl (s.extract (tl s) s.size) = 0 := by
  show (encI ((valsS (s.extract (tl s) s.size)).takeWhile shwB)).length = 0
  rw [vals_drop, tw_dw]; rfl
theorem allW_take (s : ByteArray) : allW (s.extract 0 (tl s)) = true := by unfold allW; rw [vals_take]; exact List.all_takeWhile
theorem allW_pt {t : ByteArray} (h : allW t = true) : ∀ v ∈ valsS t, v ≤ 1114111 := fun v hv => pt_le (shwB_pt (List.all_eq_true.1 h v hv))
theorem tl_app (t r : ByteArray) (h : allW t = true) : tl (t ++ r) = t.size + tl r := by
  have hp : ∀ v ∈ valsS t, shwB v = true := List.all_eq_true.1 h
  unfold tl
  rw [vals_join t r (allW_pt h), List.takeWhile_append_of_pos hp, encI_append, List.length_append, enc_vals, bytesOf_size]
theorem vals_mt : valsS mt = [] := rfl
theorem tl_mt : tl mt = 0 := rfl
theorem tl_all {t : ByteArray} (h : allW t = true) : tl t = t.size := by
  have := tl_app t mt h
  rw [app_mt, tl_mt] at this; exact this
theorem allW_of {s : ByteArray} (h : tl s = s.size) : allW s = true := by
  have := allW_take s
  rw [h, ext_all] at this; exact this
theorem allW_app {t r : ByteArray} (h : allW t = true) (h2 : allW r = true) : allW (t ++ r) = true := by
  unfold allW at *
  rw [vals_join t r (allW_pt h), List.all_append, h, h2]; rfl
theorem vAt_low (s : ByteArray) (h : (s.get! 0).toNat < 128) : vAt s 0 = ((s.get! 0).toNat, 1) := by
  rw [vAt_val]; exact bytes_val1 _ _ _ _ _ h
theorem tl_low (s : ByteArray) (h : 0 < s.size) (hc : (s.get! 0).toNat < 32) : tl s = 0 := by
  unfold tl
  rw [valsS_cons s h, vAt_low s (by omega), List.takeWhile_cons, if_neg (by rw [shwB_low _ (by omega)]; simp)]; rfl
end Go.Proofs.YtgnhnalaakgamaaDoor
set_option linter.unusedVariables false
set_option linter.unusedSimpArgs false
namespace Go.Proofs.YtgnhnalaakgamaaDoor
open Go.RowKit
theorem run_copy_w {P : Program} (w : World) (dT sT ty elem : TypeId) (g o dLen dCap : Nat) (a : Addr) (sLen sCap : Nat) (cur : Array Value) (t : TypeId) (cs : List Value) (size n : Nat)
    (hu : P.underlying dT = some (.slice elem)) (hs : (P.info? elem).map (·.size) = some size)
    (hg : w.heap[g]? = some (.cells cur t (0, 0))) (hn : n = Nat.min sLen dLen) (hl : cs.length = n * size)
    (hsrc : ∀ j v, cs[j]? = some v → w.cell? (a.add j) = some v) (hfit : o + cs.length ≤ cur.size) (h1 : ∀ v ∈ cs, v.oneCell' = true) :
    (Builtin.copy_ #[dT, sT] ty #[.slice (some ⟨g, o, none⟩) dLen dCap, .slice (some a) sLen sCap]).run P w =
      .ok (goInt n) (w.setRow g (cur.toList.take o ++ cs ++ cur.toList.drop (o + cs.length)).toArray) := by
  have hld := run_loadCells_list (P := P) w a cs hsrc
  have hst := run_storeCells_at P g o t cs 0 cur w hg (by simpa using hfit) h1
  cases hq : P.info? elem with
  | none => simp [hq] at hs
  | some i =>
    have hi : i.size = size := by simpa [hq] using hs
    rw [hl] at hld
    simp [Builtin.copy_, run_underlying hu, Builtin.lenOf, Builtin.firstCells, sizeOf, typeInfo, hq, hi, ← hn, hld, hst]
theorem run_copy_none {P : Program} (w : World) (dT sT ty elem : TypeId) (s : Option Addr) (sLen sCap : Nat) (hu : P.underlying dT = some (.slice elem)) (hs : ((P.info? elem).map (·.size)).isSome = true) :
    (Builtin.copy_ #[dT, sT] ty #[.slice none 0 0, .slice s sLen sCap]).run P w = .ok (goInt 0) w := by
  cases hq : P.info? elem with
  | none => simp [hq] at hs
  | some i => cases s <;> simp [Builtin.copy_, run_underlying hu, Builtin.lenOf, Builtin.firstCells, sizeOf, typeInfo, hq, loadCells, loadCellsFrom]
/-- A row's cells. -/
def sC (L : List Sn) : List Value := L.flatMap fun p => [Value.int .i64 p.1, Value.int .i64 p.2]
theorem sRow_sC (L : List Sn) : sRow L = (sC L).toArray := rfl
theorem sC_len (L : List Sn) : (sC L).length = L.length * 2 := by
  unfold sC; induction L with
  | nil => rfl
  | cons x R ih => simp only [List.flatMap_cons, List.length_append, List.length_cons, List.length_nil, ih]; omega
theorem sC_append (A B : List Sn) : sC (A ++ B) = sC A ++ sC B := by simp [sC]
theorem sC_take (L : List Sn) (k : Nat) : (sC L).take (k * 2) = sC (L.take k) := by
  induction L generalizing k with
  | nil => simp [sC]
  | cons x L ih =>
    cases k with
    | zero => simp [sC]
    | succ k =>
      have h := ih k
      rw [show (k + 1) * 2 = k * 2 + 1 + 1 by omega]
      show Value.int .i64 x.1 :: Value.int .i64 x.2 :: (sC L).take (k * 2) = _
      rw [h]; rfl
theorem sC_drop (L : List Sn) (k : Nat) : (sC L).drop (k * 2) = sC (L.drop k) := by
  induction L generalizing k with
  | nil => simp [sC]
  | cons x L ih =>
    cases k with
    | zero => simp [sC]
    | succ k =>
      have h := ih k
      rw [show (k + 1) * 2 = k * 2 + 1 + 1 by omega]
      show (sC L).drop (k * 2) = _
      rw [h]; rfl
theorem sC_cell (L : List Sn) : ∀ v ∈ sC L, v.oneCell' = true := by
  intro v hv
  unfold sC at hv
  rw [List.mem_flatMap] at hv
  obtain ⟨p, _, hp⟩ := hv
  simp at hp
  rcases hp with rfl | rfl <;> rfl
/-- What a copy makes of a row. -/
def cpL (D : List Sn) (o : Nat) (L : List Sn) : List Sn := D.take o ++ L ++ D.drop (o + L.length)
theorem cp_row (D : List Sn) (o : Nat) (L : List Sn) : ((sRow D).toList.take (o * 2) ++ sC L ++ (sRow D).toList.drop (o * 2 + (sC L).length)).toArray = sRow (cpL D o L) := by
  rw [sRow_sC, sRow_sC, sC_len, show o * 2 + L.length * 2 = (o + L.length) * 2 by omega]
  congr 1
  rw [sC_take, sC_drop]; unfold cpL; rw [sC_append, sC_append]
theorem cpL_len (D : List Sn) (o : Nat) (L : List Sn) (h : o + L.length ≤ D.length) : (cpL D o L).length = D.length := by
  unfold cpL; simp only [List.length_append, List.length_take, List.length_drop]; omega
theorem addG (b off k : Nat) : (⟨b, off, none⟩ : Addr).add k = ⟨b, off + k, none⟩ := by unfold Addr.add; split <;> simp_all
theorem signs_of_row {w : World} {r x n : Nat} {S : List Sn} {t : TypeId} {f : Nat × Nat} (h : w.heap[r]? = some (.cells (sRow S) t f)) (hx : x + n ≤ S.length) : Signs w (some ⟨r, x * 2, none⟩) ((S.drop x).take n) := fun i hi => by
  have hl : ((S.drop x).take n).length = n := by rw [List.length_take, List.length_drop]; omega
  rw [hl] at hi
  have hc := sg_cells h (k := x + i) (by omega)
  have hg : ((S.drop x).take n).getD i (0, 0) = S.getD (x + i) (0, 0) := by
    simp only [List.getD, List.getElem?_take, if_pos hi, List.getElem?_drop]
  rw [hg]
  exact ⟨r, x * 2, rfl, blk_lt h, by rw [show x * 2 + i * 2 = (x + i) * 2 by omega]; exact hc.1, by rw [show x * 2 + i * 2 + 1 = (x + i) * 2 + 1 by omega]; exact hc.2⟩
end Go.Proofs.YtgnhnalaakgamaaDoor
set_option linter.unusedVariables false
set_option linter.unusedSimpArgs false
namespace Go.Proofs.YtgnhnalaakgamaaDoor
open Go.RowKit
def rowL (r : KRow) : List Value := [.int .i64 r.1, .int .i64 r.2.1, .string ⟨r.2.2.1.toArray⟩, .string ⟨r.2.2.2.toArray⟩]
def rowV (r : KRow) : Value := .agg #[.int .i64 r.1, .int .i64 r.2.1, .string ⟨r.2.2.1.toArray⟩, .string ⟨r.2.2.2.toArray⟩]
def kCells : List Value := kTab.flatMap rowL
/-- The table lies in memory. -/
structure KT (w : World) : Prop where
  cell : ∀ i, i < 52 → w.cell? ⟨1, i, none⟩ = kCells[i]?
  lt : 1 < w.heap.size
theorem KT.below {w w' : World} (h : KT w) (hb : Below w.heap.size w w') : KT w' :=
  ⟨fun i hi => (hb.cell (p := ⟨1, i, none⟩) h.lt).trans (h.cell i hi), Nat.lt_of_lt_of_le h.lt hb.size⟩
theorem undK : Tryd.prog.underlying 103 = some (.array 13 90) := by kernel_rfl
theorem infoK : (Tryd.prog.info? 103).map (·.size) = some 52 := by kernel_rfl
theorem infoR : (Tryd.prog.info? 90).map (·.size) = some 4 := by kernel_rfl
/-- A whole variable, out of its cells. -/
theorem run_loadVar_cells {P : Program} (w : World) (g : Nat) (ty : TypeId) (cs : List Value) (d : TypeDesc) (hg : ∀ j v, cs[j]? = some v → w.cell? ⟨g, j, none⟩ = some v)
    (hu : P.underlying ty = some d) (hd : (match d with | .struct _ | .array _ _ => true | _ => false) = true) (hi : (P.info? ty).map (·.size) = some cs.length) :
    (loadVar ty ⟨g, 0, none⟩).run P w = .ok (.agg cs.toArray) w := by
  have hl : (loadCells ⟨g, 0, none⟩ cs.length).run P w = .ok cs.toArray w :=
    run_loadCells_list (P := P) w ⟨g, 0, none⟩ cs (fun j v hv => by
      have hadd : (⟨g, 0, none⟩ : Addr).add j = ⟨g, j, none⟩ := by unfold Addr.add; split <;> simp_all
      rw [hadd]; exact hg j v hv)
  cases hq : P.info? ty with
  | none => simp [hq] at hi
  | some i =>
    have hs : i.size = cs.length := by simpa [hq] using hi
    have hagg : (isAgg ty).run P w = .ok true w := by
      unfold isAgg
      rw [Sem.run_bind, run_underlying hu w]
      cases d <;> simp_all
    simp [loadVar, Sem.run_bind, hagg, sizeOf, typeInfo, hq, hs, hl]
theorem kLoad (w : World) (h : KT w) : (loadVar 103 ⟨1, 0, none⟩).run Tryd.prog w = .ok (.agg kCells.toArray) w :=
  run_loadVar_cells w _ _ kCells _ (fun j v hv => by
    have hj : j < 52 := by
      have := (List.getElem?_eq_some_iff.1 hv).1
      exact this
    rw [h.cell j hj]; exact hv) undK rfl infoK
theorem kLoad2 (w : World) (h : KT w) : (loadCellsFrom ⟨1, 0, none⟩ 0 52 #[]).run Tryd.prog w = .ok kCells.toArray w := by
  have := run_loadCells_list (P := Tryd.prog) w ⟨1, 0, none⟩ kCells (fun j v hv => by
      have hadd : (⟨1, 0, none⟩ : Addr).add j = ⟨1, j, none⟩ := by unfold Addr.add; split <;> simp_all
      have hj : j < 52 := (List.getElem?_eq_some_iff.1 hv).1
      rw [hadd, h.cell j hj]; exact hv)
  have e : kCells.length = 52 := rfl
  simpa [loadCells, e] using this
/-- The walk's step where the whole table is loaded. -/
theorem wpList_load_kt {ops : Array Oper} {rest : List Oper} {dst : Option Tmp} {ty : TypeId} {pos : String} {after : Array Edge} {a : Act} {w : World} {Q : Exit → Act → World → Prop} (hT : KT w)
    (h : wpList Tryd.prog ops Q rest (a.put dst (.agg kCells.toArray)) w) :
    wpList Tryd.prog ops Q ({ dst := dst, op := .load 103 (.global 1), type := ty, pos := pos, after := after, guard := none } :: rest) a w := by
  refine wpList_plain rfl fun _ hK => ?_
  have hx : a.eval (.global 1) = .pointer (some ⟨1, 0, none⟩) := rfl
  unfold Oper.wp execOp
  simp only [hx, Instr.loadAt, Instr.sureAddr, Sem.run_bind, Sem.run_pure, Result.andThen_ok, kLoad w hT]
  exact hK _ _ h
theorem kIdx (k : Nat) (hk : k < 13) (w : World) : (Instr.index 103 (.agg kCells.toArray) (.int .i64 (k : Int))).run Tryd.prog w = .ok (rowV (kTab.getD k kr0)) w := by
  have hagg : (isAgg 90).run Tryd.prog w = .ok true w := by kernel_rfl
  have hsz : (sizeOf 90).run Tryd.prog w = .ok 4 w := by kernel_rfl
  have hex : List.take 4 (List.drop (k * 4) kCells) = rowL (kTab.getD k kr0) := by
    match k, hk with
    | 0, _ => rfl
    | 1, _ => rfl
    | 2, _ => rfl
    | 3, _ => rfl
    | 4, _ => rfl
    | 5, _ => rfl
    | 6, _ => rfl
    | 7, _ => rfl
    | 8, _ => rfl
    | 9, _ => rfl
    | 10, _ => rfl
    | 11, _ => rfl
    | 12, _ => rfl
  have h0 : (0 : Int) ≤ k := by omega
  have h1 : (k : Int) < 13 := by omega
  simp only [Instr.index, asIntOf, Sem.run_bind, run_underlying undK, Sem.run_pure, Result.andThen, Result.andThen_ok]
  simp only [h0, h1, true_and, if_true, part, Sem.run_bind, hsz, hagg, Result.andThen, Result.andThen_ok, Sem.run_pure, Int.toNat_natCast]
  simp [hex, rowV, h1]
  simp [rowL]
/-- From a row on: which is a key's. -/
def kFrom (kind v : Int) (k : Nat) : Option KRow := (kTab.drop k).find? (kIs kind v)
theorem kFrom_end (kind v : Int) : kFrom kind v 13 = none := rfl
theorem kTab_len : kTab.length = 13 := rfl
theorem kFrom_step (kind v : Int) (k : Nat) (hk : k < 13) : kFrom kind v k = if (kTab.getD k kr0).1 = kind ∧ (kTab.getD k kr0).2.1 = v then some (kTab.getD k kr0) else kFrom kind v (k + 1) := by
  unfold kFrom
  have hk' : k < kTab.length := hk
  rw [List.drop_eq_getElem_cons hk', List.find?_cons]
  have e : kTab.getD k kr0 = kTab[k] := by rw [List.getD, List.getElem?_eq_getElem hk']; rfl
  rw [e]
  unfold kIs
  by_cases h : (kTab[k]).1 = kind ∧ (kTab[k]).2.1 = v
  · rw [if_pos h, show ((kTab[k]).1 == kind && (kTab[k]).2.1 == v) = true by rw [h.1, h.2]; simp]
  · rw [if_neg h]
    have hb : ((kTab[k]).1 == kind && (kTab[k]).2.1 == v) = false := by
      cases hx : ((kTab[k]).1 == kind && (kTab[k]).2.1 == v) with
      | false => rfl
      | true => exact absurd (by simpa using hx) h
    rw [hb]
set_option maxRecDepth 100000 in
theorem kfinder_any (kind : Int) (w : World) : Calls Tryd.prog 48 #[.int .i64 kind] w fun e w' => e = .returned (.func (.func 65) #[] #[.pointer (some ⟨w.heap.size, 0, none⟩)]) ∧ w.alloc (.cells #[.int .i64 kind] 3) = w' := by
  have hmf : ∀ (fn : Fn) (first cap : Array Value) (w : World), (Instr.makeFunc fn first cap).run Tryd.prog w = .ok (.func fn first cap) w := fun _ _ _ _ => rfl
  go_enter Tryd.func48, Tryd.ntmps48
  go_wp2
  go_ret
  exact ⟨rfl, rfl⟩
end Go.Proofs.YtgnhnalaakgamaaDoor
set_option linter.unusedVariables false
set_option linter.unusedSimpArgs false
namespace Go.Proofs.YtgnhnalaakgamaaDoor
open Go.RowKit
/-- Hex digits, at least so many. -/
def hexL (n l : Int) : List UInt8 := tell 16 20 n.toNat l.toNat
theorem hex_size (n l : Int) : (⟨(hexL n l).toArray⟩ : ByteArray).size ≤ 20 := by
  have := tell_len 16 20 n.toNat l.toNat
  simpa [hexL, ByteArray.size] using this
theorem hexS_L (n l : Int) (h : 0 ≤ n) (h1 : 1 ≤ l) (h2 : l ≤ 16) : hexS n l = hexL n l := by
  unfold hexS hexL; rw [if_neg (by omega)]
  have : lst l = l := by unfold lst; omega
  rw [this]
theorem hexN_L (n l : Int) (h1 : 1 ≤ l) : hexN n l = hexL n l := by
  unfold hexN hexL; rw [show max l 1 = l by omega]
/-- A value's shown text. -/
def shT (v : Int) : ByteArray :=
  if cls v = 0 then ⟨#[]⟩ else if cls v ≤ 3 then txt (oneI v) else if cls v = 4 then ⟨#[94]⟩ ++ txt [v + 64] else if cls v = 5 then ⟨#[94, 63]⟩
  else if cls v = 12 then ⟨#[92, 120]⟩ ++ ⟨(hexL (v - 1114112) 2).toArray⟩ else ⟨#[60, 85, 43]⟩ ++ ⟨(hexL v 4).toArray⟩ ++ ⟨#[62]⟩
theorem told_rng (v : Int) : told v ≠ 0 ∧ told v ≠ 4 ∧ told v ≠ 5 ∧ told v ≠ 12 ∧ told v ≠ 6 := by
  unfold told
  split
  · rename_i j hj
    have hlt := (find_some_lt hj).1
    have key : ∀ j : Fin 53, rng.getD (3 * j.val) 0 ≠ 0 ∧ rng.getD (3 * j.val) 0 ≠ 4 ∧ rng.getD (3 * j.val) 0 ≠ 5 ∧ rng.getD (3 * j.val) 0 ≠ 12 ∧ rng.getD (3 * j.val) 0 ≠ 6 := by decide +kernel
    exact key ⟨j, hlt⟩
  · split <;> omega
/-- What a class tells of its values. -/
theorem cls_what (v : Int) : (cls v = 0 ∧ rght v = false) ∨ (rght v = true ∧ ((cls v = 12 ∧ 1114240 ≤ v ∧ v ≤ 1114367) ∨ (cls v = 4 ∧ 0 ≤ v ∧ v < 32) ∨ (cls v = 5 ∧ v = 127) ∨ (cls v = 6 ∧ 128 ≤ v ∧ v < 160) ∨ (1 ≤ cls v ∧ cls v ≤ 11 ∧ cls v ≠ 4 ∧ cls v ≠ 5 ∧ cls v ≠ 6 ∧ 32 ≤ v ∧ v ≤ 1114111 ∧ (v < 55296 ∨ 57343 < v) ∧ v ≠ 127 ∧ (v < 128 ∨ 160 ≤ v)))) := by
  have h1 := pnt_cases v
  have h2 := stry_cases v
  have ht := told_rng v
  have hr := cls_rng v
  have e : cls v = if rght v = false then 0 else if 1114112 ≤ v then 12 else if v < 32 then 4 else if v = 127 then 5 else if 128 ≤ v ∧ v < 160 then 6 else if v < 160 then 1 else told v := rfl
  have hrr : rght v = (pnt v || stry v) := rfl
  cases hg : rght v
  · left; rw [hg, if_pos rfl] at e; exact ⟨e, rfl⟩
  · right
    refine ⟨rfl, ?_⟩
    rw [hg, if_neg (by simp)] at e
    rw [hg] at hrr
    by_cases c1 : 1114112 ≤ v
    · rw [if_pos c1] at e
      left
      rcases h1 with ⟨a, b⟩ | ⟨a, b⟩
      · omega
      · rcases h2 with ⟨a2, b2, b3⟩ | ⟨a2, b2⟩
        · exact ⟨e, b2, b3⟩
        · rw [a, a2] at hrr; simp at hrr
    · rw [if_neg c1] at e
      have hv : 0 ≤ v ∧ v < 55296 ∨ 57343 < v ∧ v ≤ 1114111 := by
        rcases h1 with ⟨a, b⟩ | ⟨a, b⟩
        · exact b
        · rcases h2 with ⟨a2, b2, b3⟩ | ⟨a2, b2⟩
          · omega
          · rw [a, a2] at hrr; simp at hrr
      by_cases c2 : v < 32
      · rw [if_pos c2] at e; right; left; exact ⟨e, by omega, c2⟩
      rw [if_neg c2] at e
      by_cases c3 : v = 127
      · rw [if_pos c3] at e; right; right; left; exact ⟨e, c3⟩
      rw [if_neg c3] at e
      by_cases c4 : 128 ≤ v ∧ v < 160
      · rw [if_pos c4] at e; right; right; right; left; exact ⟨e, c4.1, c4.2⟩
      rw [if_neg c4] at e
      right; right; right; right
      by_cases c5 : v < 160
      · rw [if_pos c5] at e; rw [e]; omega
      rw [if_neg c5] at e; rw [e] at hr ⊢; omega
/-- The cases of a shown text. -/
theorem sh_cases (v : Int) : (cls v = 0 ∧ shT v = ⟨#[]⟩) ∨ ((cls v = 1 ∨ cls v = 2 ∨ cls v = 3) ∧ 32 ≤ v ∧ v ≤ 1114111 ∧ (v < 55296 ∨ 57343 < v) ∧ shT v = txt (oneI v)) ∨ (cls v = 4 ∧ 0 ≤ v ∧ v < 32 ∧ shT v = ⟨#[94]⟩ ++ txt [v + 64]) ∨
    (cls v = 5 ∧ shT v = ⟨#[94, 63]⟩) ∨ (cls v = 12 ∧ 1114240 ≤ v ∧ v ≤ 1114367 ∧ shT v = ⟨#[92, 120]⟩ ++ ⟨(hexL (v - 1114112) 2).toArray⟩) ∨
    (6 ≤ cls v ∧ cls v ≤ 11 ∧ 128 ≤ v ∧ v ≤ 1114111 ∧ (v < 55296 ∨ 57343 < v) ∧ shT v = ⟨#[60, 85, 43]⟩ ++ ⟨(hexL v 4).toArray⟩ ++ ⟨#[62]⟩) := by
  have e : shT v = if cls v = 0 then ⟨#[]⟩ else if cls v ≤ 3 then txt (oneI v) else if cls v = 4 then ⟨#[94]⟩ ++ txt [v + 64] else if cls v = 5 then ⟨#[94, 63]⟩
    else if cls v = 12 then ⟨#[92, 120]⟩ ++ ⟨(hexL (v - 1114112) 2).toArray⟩ else ⟨#[60, 85, 43]⟩ ++ ⟨(hexL v 4).toArray⟩ ++ ⟨#[62]⟩ := rfl
  have hlow : v < 128 → 7 ≤ cls v → cls v ≤ 11 → False := fun h h2 h3 => by
    have key : ∀ i : Fin 128, ¬ (7 ≤ cls (i.val : Int) ∧ cls (i.val : Int) ≤ 11) := by decide +kernel
    rcases cls_what v with ⟨h0, _⟩ | ⟨_, ⟨h0, h4, h5⟩ | ⟨h0, _⟩ | ⟨h0, _⟩ | ⟨h0, _⟩ | ⟨_, _, _, _, _, h6, _⟩⟩ <;> try omega
    have := key ⟨v.toNat, by omega⟩
    simp only [] at this
    rw [show ((v.toNat : Nat) : Int) = v by omega] at this
    exact this ⟨h2, h3⟩
  rcases cls_what v with ⟨h0, _⟩ | ⟨_, ⟨h0, h4, h5⟩ | ⟨h0, h4, h5⟩ | ⟨h0, h4⟩ | ⟨h0, h4, h5⟩ | ⟨h1, h2, h3, h4, h5, h6, h7, h8, h9, h10⟩⟩
  · left; exact ⟨h0, by rw [e, if_pos h0]⟩
  · right; right; right; right; left; exact ⟨h0, h4, h5, by rw [e, h0, if_neg (by omega), if_neg (by omega), if_neg (by omega), if_neg (by omega), if_pos rfl]⟩
  · right; right; left; exact ⟨h0, h4, h5, by rw [e, h0, if_neg (by omega), if_neg (by omega), if_pos rfl]⟩
  · right; right; right; left; exact ⟨h0, by rw [e, h0, if_neg (by omega), if_neg (by omega), if_neg (by omega), if_pos rfl]⟩
  · right; right; right; right; right
    exact ⟨by omega, by omega, by omega, by omega, by omega, by rw [e, h0, if_neg (by omega), if_neg (by omega), if_neg (by omega), if_neg (by omega), if_neg (by omega)]⟩
  · by_cases c : cls v ≤ 3
    · right; left; exact ⟨by omega, h6, h7, h8, by rw [e, if_neg (by omega), if_pos c]⟩
    · right; right; right; right; right
      refine ⟨by omega, by omega, ?_, by omega, by omega, by rw [e, if_neg (by omega), if_neg c, if_neg h3, if_neg h4, if_neg (by omega)]⟩
      rcases Int.lt_or_le v 128 with hh | hh
      · exact (hlow hh (by omega) h2).elim
      · exact hh
theorem one_enc {v : Int} (h : 32 ≤ v) (h1 : v ≤ 1114111) (h2 : v < 55296 ∨ 57343 < v) : encS [v] = txt (oneI v) := by simp [encS, encI]
theorem ctl_enc {v : Int} (h : 0 ≤ v) (h1 : v < 32) : encS [v + 64] = txt [v + 64] := by
  have hp : ptB (v + 64) = true := (ptB_iff _).2 (by omega)
  simp [encS, encI, oneI_pt hp]
  rw [Lib.encodeRuneZ_one (by omega) (by omega)]
theorem row_one (w : World) (v : Int) : Row (w.alloc (.cells #[.int .i64 v] 3)) (some ⟨w.heap.size, 0, none⟩) [v] := fun j hj => by
  obtain rfl : j = 0 := by simp at hj; omega
  exact ⟨w.heap.size, 0, rfl, by rw [World.cell?_alloc_new]; rfl, by simp⟩
end Go.Proofs.YtgnhnalaakgamaaDoor
set_option linter.unusedVariables false
set_option linter.unusedSimpArgs false
namespace Go.Proofs.YtgnhnalaakgamaaDoor
open Go.RowKit
theorem hx16 {n : Int} (h : n ≤ 2000000) : n.toNat < 16 ^ 16 := Nat.lt_of_le_of_lt (show n.toNat ≤ 2000000 by omega) (by decide)
theorem right_cls {v : Int} (h1 : 32 ≤ v) (h2 : v ≤ 1114111) (h3 : v < 55296 ∨ 57343 < v) : rightB v = true := by
  unfold rightB; rw [Bool.or_eq_true]; left; rw [ptB_iff]; omega
/-- A value's columns. -/
def shC (v : Int) : Int := if 3 < cls v then ((shT v).size : Int) else wid v
theorem shC_big {v : Int} (h : 3 < cls v) : shC v = ((shT v).size : Int) := by unfold shC; rw [if_pos h]
theorem shC_small {v : Int} (h : ¬ 3 < cls v) : shC v = wid v := by unfold shC; rw [if_neg h]
theorem shT_size (v : Int) : (shT v).size ≤ 30 := by
  have hh := fun n l => hex_size n l
  rcases sh_cases v with ⟨_, hs⟩ | ⟨_, _, _, _, hs⟩ | ⟨_, _, _, hs⟩ | ⟨_, hs⟩ | ⟨_, _, _, hs⟩ | ⟨_, _, _, _, _, hs⟩
  · rw [hs]; decide
  · rw [hs, txt_size]; have := oneI_len v; omega
  · rw [hs, ByteArray.size_append, txt_size]; show 1 + 1 ≤ 30; omega
  · rw [hs]; decide
  · rw [hs, ByteArray.size_append]; have := hh (v - 1114112) 2; show 2 + _ ≤ 30; omega
  · rw [hs, ByteArray.size_append, ByteArray.size_append]; have := hh v 4; show 3 + _ + 1 ≤ 30; omega
/-- A sign's looks. -/
def lkI (v l : Int) : Int := (if 3 < cls v then 1 else 0) + (if l = 2 ∨ l = 3 ∨ l = 4 then 2 else 0) + (if cls v = 3 then 4 else 0)
theorem lk_rng (v l : Int) : 0 ≤ lkI v l ∧ lkI v l ≤ 7 := by unfold lkI; repeat' split
                                                             all_goals omega
end Go.Proofs.YtgnhnalaakgamaaDoor
set_option linter.unusedVariables false
set_option linter.unusedSimpArgs false
namespace Go.Proofs.YtgnhnalaakgamaaDoor
open Go.RowKit
def u8l (l : List Int) : List UInt8 := l.map fun x => x.toNat.toUInt8
theorem txt_list (l : List Int) : txt l = ⟨(u8l l).toArray⟩ := rfl
/-- The cases of a shown text, as lists. -/
theorem sh_lists (v : Int) : (cls v = 0 ∧ shT v = ⟨([] : List UInt8).toArray⟩) ∨ ((cls v = 1 ∨ cls v = 2 ∨ cls v = 3) ∧ 32 ≤ v ∧ v ≠ 127 ∧ v ≤ 1114111 ∧ (v < 55296 ∨ 57343 < v) ∧ shT v = ⟨(u8l (oneI v)).toArray⟩) ∨ (cls v = 4 ∧ 0 ≤ v ∧ v < 32 ∧ shT v = ⟨([94] ++ u8l [v + 64]).toArray⟩) ∨
    (cls v = 5 ∧ v = 127 ∧ shT v = ⟨[94, 63].toArray⟩) ∨ (cls v = 12 ∧ 1114240 ≤ v ∧ v ≤ 1114367 ∧ shT v = ⟨([92, 120] ++ hexL (v - 1114112) 2).toArray⟩) ∨
    (6 ≤ cls v ∧ cls v ≤ 11 ∧ 128 ≤ v ∧ v ≤ 1114111 ∧ (v < 55296 ∨ 57343 < v) ∧ shT v = ⟨([60, 85, 43] ++ hexL v 4 ++ [62]).toArray⟩) := by
  have hw := cls_what v
  rcases sh_cases v with ⟨h0, hs⟩ | ⟨h0, h1, h2, h3, hs⟩ | ⟨h0, h1, h2, hs⟩ | ⟨h0, hs⟩ | ⟨h0, h1, h2, hs⟩ | ⟨h0, h00, h1, h2, h3, hs⟩
  · left; exact ⟨h0, hs⟩
  · right; left
    refine ⟨h0, h1, ?_, h2, h3, hs⟩
    rcases hw with ⟨a, _⟩ | ⟨_, ⟨a, _⟩ | ⟨a, _⟩ | ⟨a, _⟩ | ⟨a, _⟩ | ⟨_, _, _, _, _, _, _, _, a, _⟩⟩ <;> omega
  · right; right; left; exact ⟨h0, h1, h2, by rw [hs, txt_list]; exact ba_app [94] _⟩
  · right; right; right; left
    refine ⟨h0, ?_, hs⟩
    rcases hw with ⟨a, _⟩ | ⟨_, ⟨a, _⟩ | ⟨a, _⟩ | ⟨a, b⟩ | ⟨a, _⟩ | ⟨_, _, _, _, _, _, _, _, a, _⟩⟩ <;> omega
  · right; right; right; right; left; exact ⟨h0, h1, h2, by rw [hs]; exact ba_app [92, 120] _⟩
  · right; right; right; right; right
    exact ⟨h0, h00, h1, h2, h3, by rw [hs]; rw [show (⟨#[60, 85, 43]⟩ : ByteArray) = ⟨([60, 85, 43] : List UInt8).toArray⟩ from rfl, show (⟨#[62]⟩ : ByteArray) = ⟨([62] : List UInt8).toArray⟩ from rfl, ba_app, ba_app]⟩
theorem dg_ok (k : Nat) : 48 ≤ (dg (k % 16)).toNat ∧ (dg (k % 16)).toNat ≤ 70 := by
  have key : ∀ j : Fin 16, 48 ≤ (dg j).toNat ∧ (dg j).toNat ≤ 70 := by decide
  exact key ⟨k % 16, Nat.mod_lt _ (by omega)⟩
theorem tell_ok : ∀ f n l, ∀ c ∈ tell 16 f n l, 48 ≤ c.toNat ∧ c.toNat ≤ 70
  | 0, _, _, c, h => by simp [tell] at h
  | f + 1, n, l, c, h => by
    rw [tell] at h
    split at h
    · simp at h
    · rw [List.mem_append] at h
      rcases h with h | h
      · exact tell_ok f _ _ c h
      · have : c = dg (n % 16) := by simpa using h
        rw [this]; exact dg_ok n
/-- How many digits there are. -/
theorem tell_len2 : ∀ f d n l, n < 16 ^ d → l ≤ d → d ≤ f → l ≤ (tell 16 f n l).length ∧ (tell 16 f n l).length ≤ d
  | 0, d, n, l, h, hl, hd => by simp [tell]; omega
  | f + 1, d, n, l, h, hl, hd => by
    rw [tell]
    split
    · rename_i h0; simp; omega
    · rename_i h0
      cases d with
      | zero => simp at h; omega
      | succ d =>
        have := tell_len2 f d (n / 16) (l - 1) (pow_step 16 d n (by omega) h) (by omega) (by omega)
        simp only [List.length_append, List.length_cons, List.length_nil]
        omega
theorem hexL_len (n l : Int) (d : Nat) (h : n.toNat < 16 ^ d) (hl : l.toNat ≤ d) (hd : d ≤ 20) : l.toNat ≤ (hexL n l).length ∧ (hexL n l).length ≤ d := tell_len2 20 d _ _ h hl hd
theorem u8l_len (l : List Int) : (u8l l).length = l.length := by simp [u8l]
theorem size_list (l : List UInt8) : (⟨l.toArray⟩ : ByteArray).size = l.length := by simp [ByteArray.size]
theorem shC_rng (v : Int) (h : cls v ≠ 0) : 1 ≤ shC v ∧ shC v ≤ 10 ∧ (3 < cls v → 2 ≤ shC v) := by
  have hw : wid v = if cls v = 2 then 2 else if cls v = 1 ∨ cls v = 3 then 1 else 0 := rfl
  rcases sh_lists v with ⟨h0, hs⟩ | ⟨h0, _, _, _, _, hs⟩ | ⟨h0, h1, h2, hs⟩ | ⟨h0, _, hs⟩ | ⟨h0, h1, h2, hs⟩ | ⟨h0, h00, h1, h2, h3, hs⟩
  · exact absurd h0 h
  · rw [shC_small (by omega), hw]
    refine ⟨?_, ?_, by omega⟩ <;> (split <;> (try split) <;> omega)
  · rw [shC_big (by omega), hs, size_list]; simp [u8l]
  · rw [shC_big (by omega), hs, size_list]; simp
  · rw [shC_big (by omega), hs, size_list]
    have := hexL_len (v - 1114112) 2 2 (by show _ < 256; omega) (by decide) (by omega)
    simp only [List.length_append, List.length_cons, List.length_nil]
    have e : (2 : Int).toNat = 2 := rfl
    omega
  · rw [shC_big (by omega), hs, size_list]
    have := hexL_len v 4 6 (by show _ < 16777216; omega) (by decide) (by omega)
    simp only [List.length_append, List.length_cons, List.length_nil]
    have e : (4 : Int).toNat = 4 := rfl
    omega
theorem shT_ne (v : Int) (h : cls v ≠ 0) : shT v ≠ ⟨#[]⟩ := by
  intro e
  have hsz : (shT v).size = 0 := by rw [e]; rfl
  rcases sh_lists v with ⟨h0, hs⟩ | ⟨h0, a, b, c, d, hs⟩ | ⟨h0, h1, h2, hs⟩ | ⟨h0, _, hs⟩ | ⟨h0, h1, h2, hs⟩ | ⟨h0, h00, h1, h2, h3, hs⟩
  · exact h h0
  · rw [hs, size_list, u8l_len] at hsz
    rw [oneI_pt ((ptB_iff v).2 (by omega))] at hsz
    rcases (by omega : v ≤ 127 ∨ (128 ≤ v ∧ v ≤ 2047) ∨ ((2048 ≤ v ∧ v < 55296) ∨ (57343 < v ∧ v ≤ 65535)) ∨ 65536 ≤ v) with k | ⟨k, k2⟩ | k | k
    · rw [Lib.encodeRuneZ_one (by omega) k] at hsz; simp at hsz
    · rw [Lib.encodeRuneZ_two k k2] at hsz; simp at hsz
    · rw [Lib.encodeRuneZ_three k] at hsz; simp at hsz
    · rw [Lib.encodeRuneZ_four k c] at hsz; simp at hsz
  · rw [hs, size_list] at hsz; simp at hsz
  · rw [hs, size_list] at hsz; simp at hsz
  · rw [hs, size_list] at hsz; simp at hsz
  · rw [hs, size_list] at hsz; simp at hsz
theorem rght_rightB (v : Int) : rightB v = rght v := by
  rw [Bool.eq_iff_iff]
  unfold rightB rght
  rw [Bool.or_eq_true, Bool.or_eq_true, ptB_iff, stB_iff]
  rcases pnt_cases v with ⟨a, b⟩ | ⟨a, b⟩ <;> rcases stry_cases v with ⟨c, d⟩ | ⟨c, d⟩ <;> rw [a, c] <;> simp <;> omega
theorem right_no {v : Int} (h : rightB v = false) : cls v = 0 ∧ shC v = 0 ∧ shT v = ⟨#[]⟩ := by
  rw [rght_rightB] at h
  have h0 : cls v = 0 := by unfold cls; rw [if_pos h]
  refine ⟨h0, ?_, ?_⟩
  · rw [shC_small (by omega)]; unfold wid; rw [h0]; rfl
  · unfold shT; rw [if_pos h0]
theorem right_yes {v : Int} (h : rightB v = true) : cls v ≠ 0 := by
  rw [rght_rightB] at h
  rcases cls_what v with ⟨_, h1⟩ | ⟨_, h1⟩
  · rw [h] at h1; cases h1
  · omega
theorem u8_val (x : Int) (h0 : 0 ≤ x) (h1 : x < 256) : ((x.toNat.toUInt8).toNat : Int) = x := by rw [u8_nat h0 h1]; omega
/-- No byte of a shown text is a control. -/
theorem sh_bytes (v : Int) : ∀ c ∈ (shT v).data.toList, 32 ≤ c.toNat ∧ c.toNat ≠ 127 := by
  intro c hc
  rcases sh_lists v with ⟨h0, hs⟩ | ⟨h0, a, b, k, d, hs⟩ | ⟨h0, h1, h2, hs⟩ | ⟨h0, _, hs⟩ | ⟨h0, h1, h2, hs⟩ | ⟨h0, h00, h1, h2, h3, hs⟩
  · rw [hs] at hc; simp at hc
  · rw [hs] at hc
    have hc' : c ∈ u8l (oneI v) := hc
    rw [u8l, List.mem_map] at hc'
    obtain ⟨x, hx, rfl⟩ := hc'
    rw [oneI_pt ((ptB_iff v).2 (by omega))] at hx
    have key : 32 ≤ x ∧ x ≠ 127 ∧ x < 256 := by
      rcases (by omega : v ≤ 127 ∨ (128 ≤ v ∧ v ≤ 2047) ∨ ((2048 ≤ v ∧ v < 55296) ∨ (57343 < v ∧ v ≤ 65535)) ∨ 65536 ≤ v) with e | ⟨e, e2⟩ | e | e
      · rw [Lib.encodeRuneZ_one (by omega) e] at hx; simp at hx; omega
      · rw [Lib.encodeRuneZ_two e e2] at hx; simp at hx; rcases hx with rfl | rfl <;> omega
      · rw [Lib.encodeRuneZ_three e] at hx; simp at hx; rcases hx with rfl | rfl | rfl <;> omega
      · rw [Lib.encodeRuneZ_four e k] at hx; simp at hx; rcases hx with rfl | rfl | rfl | rfl <;> omega
    have := u8_val x (by omega) key.2.2
    omega
  · rw [hs] at hc
    have hc' : c ∈ [94] ++ u8l [v + 64] := hc
    simp [u8l] at hc'
    rcases hc' with rfl | rfl
    · decide
    · have := u8_val (v + 64) (by omega) (by omega); simp at this ⊢; omega
  · rw [hs] at hc
    have hc' : c ∈ ([94, 63] : List UInt8) := hc
    simp at hc'
    rcases hc' with rfl | rfl <;> decide
  · rw [hs] at hc
    have hc' : c ∈ [92, 120] ++ hexL (v - 1114112) 2 := hc
    rw [List.mem_append] at hc'
    rcases hc' with hc' | hc'
    · simp at hc'; rcases hc' with rfl | rfl <;> decide
    · have := tell_ok _ _ _ c hc'; omega
  · rw [hs] at hc
    have hc' : c ∈ [60, 85, 43] ++ hexL v 4 ++ [62] := hc
    rw [List.mem_append, List.mem_append] at hc'
    rcases hc' with (hc' | hc') | hc'
    · simp at hc'; rcases hc' with rfl | rfl | rfl <;> decide
    · have := tell_ok _ _ _ c hc'; omega
    · simp at hc'; rw [hc']; decide
theorem sh_byte (v : Int) (k : Nat) (h : k < (shT v).size) : 32 ≤ (shT v)[k].toNat ∧ (shT v)[k].toNat ≠ 127 := by
  refine sh_bytes v _ ?_
  show (shT v).data[k] ∈ (shT v).data.toList
  rw [Array.mem_toList_iff]; exact Array.getElem_mem _
theorem hexL_inj {n m l : Int} (h0 : 0 ≤ n) (h1 : 0 ≤ m) (hn : n ≤ 2000000) (hm : m ≤ 2000000) (h : hexL n l = hexL m l) : n = m := by
  have a := dv_tell 16 (by omega) (by omega) 20 n.toNat l.toNat (Nat.lt_of_le_of_lt (show n.toNat ≤ 2000000 by omega) (by decide))
  have b := dv_tell 16 (by omega) (by omega) 20 m.toNat l.toNat (Nat.lt_of_le_of_lt (show m.toNat ≤ 2000000 by omega) (by decide))
  unfold hexL at h
  rw [h, b] at a
  omega
theorem u8l_inj {a b : List Int} (ha : ∀ x ∈ a, 0 ≤ x ∧ x < 256) (hb : ∀ x ∈ b, 0 ≤ x ∧ x < 256) (h : u8l a = u8l b) : a = b := by
  have e : txt a = txt b := by rw [txt_list, txt_list, h]
  rw [← bytesOf_txt a ha, ← bytesOf_txt b hb, e]
theorem oneI_inj {v w : Int} (h1 : 0 ≤ v ∧ v < 55296 ∨ 57343 < v ∧ v ≤ 1114111) (h2 : 0 ≤ w ∧ w < 55296 ∨ 57343 < w ∧ w ≤ 1114111) (h : oneI v = oneI w) : v = w := by
  rw [oneI_pt ((ptB_iff v).2 h1), oneI_pt ((ptB_iff w).2 h2)] at h
  have f : ∀ v : Int, (0 ≤ v ∧ v < 55296 ∨ 57343 < v ∧ v ≤ 1114111) → (v ≤ 127 ∧ Lib.encodeRuneZ v = [v]) ∨ (128 ≤ v ∧ v ≤ 2047 ∧ Lib.encodeRuneZ v = [192 + v / 64, 128 + v % 64]) ∨ (2048 ≤ v ∧ v ≤ 65535 ∧ Lib.encodeRuneZ v = [224 + v / 4096, 128 + v / 64 % 64, 128 + v % 64]) ∨ (65536 ≤ v ∧ Lib.encodeRuneZ v = [240 + v / 262144, 128 + v / 4096 % 64, 128 + v / 64 % 64, 128 + v % 64]) := fun v hv => by
    rcases (by omega : v ≤ 127 ∨ (128 ≤ v ∧ v ≤ 2047) ∨ ((2048 ≤ v ∧ v < 55296) ∨ (57343 < v ∧ v ≤ 65535)) ∨ 65536 ≤ v) with k | ⟨k, k2⟩ | k | k
    · left; exact ⟨k, Lib.encodeRuneZ_one (by omega) k⟩
    · right; left; exact ⟨k, k2, Lib.encodeRuneZ_two k k2⟩
    · right; right; left; exact ⟨by omega, by omega, Lib.encodeRuneZ_three k⟩
    · right; right; right; exact ⟨k, Lib.encodeRuneZ_four k (by omega)⟩
  rcases f v h1 with ⟨a, e⟩ | ⟨a, a2, e⟩ | ⟨a, a2, e⟩ | ⟨a, e⟩ <;> rcases f w h2 with ⟨b, e'⟩ | ⟨b, b2, e'⟩ | ⟨b, b2, e'⟩ | ⟨b, e'⟩ <;> rw [e, e'] at h <;> simp at h <;> omega
theorem list_of {a b : List UInt8} (h : (⟨a.toArray⟩ : ByteArray) = ⟨b.toArray⟩) : a = b := by simpa using h
/-- Unlike values are shown by unlike texts, or just one of them is dangerous. -/
theorem sh_apart {v w : Int} (hv : cls v ≠ 0) (hw : cls w ≠ 0) (hd : (3 < cls v) ↔ (3 < cls w)) (h : shT v = shT w) : v = w := by
  rcases sh_lists v with ⟨h0, hs⟩ | ⟨h0, a, b, k, d, hs⟩ | ⟨h0, h1, h2, hs⟩ | ⟨h0, h1, hs⟩ | ⟨h0, h1, h2, hs⟩ | ⟨h0, h00, h1, h2, h3, hs⟩
  · exact absurd h0 hv
  · rcases sh_lists w with ⟨h0', hs'⟩ | ⟨h0', a', b', k', d', hs'⟩ | ⟨h0', h1', h2', hs'⟩ | ⟨h0', h1', hs'⟩ | ⟨h0', h1', h2', hs'⟩ | ⟨h0', h00', h1', h2', h3', hs'⟩ <;> try omega
    rw [hs, hs'] at h
    exact oneI_inj (by omega) (by omega) (u8l_inj (oneI_byte v) (oneI_byte w) (list_of h))
  · rcases sh_lists w with ⟨h0', hs'⟩ | ⟨h0', a', b', k', d', hs'⟩ | ⟨h0', h1', h2', hs'⟩ | ⟨h0', h1', hs'⟩ | ⟨h0', h1', h2', hs'⟩ | ⟨h0', h00', h1', h2', h3', hs'⟩ <;> try omega
    all_goals
      rw [hs, hs'] at h
      have e := list_of h
      simp [u8l] at e
    · have x : ((UInt8.ofNat (v + 64).toNat).toNat : Int) = v + 64 := u8_val (v + 64) (by omega) (by omega)
      have y : ((UInt8.ofNat (w + 64).toNat).toNat : Int) = w + 64 := u8_val (w + 64) (by omega) (by omega)
      rw [e] at x
      omega
    · have x : ((UInt8.ofNat (v + 64).toNat).toNat : Int) = v + 64 := u8_val (v + 64) (by omega) (by omega)
      rw [e] at x
      have : ((63 : UInt8).toNat : Int) = 63 := rfl
      omega
  · rcases sh_lists w with ⟨h0', hs'⟩ | ⟨h0', a', b', k', d', hs'⟩ | ⟨h0', h1', h2', hs'⟩ | ⟨h0', h1', hs'⟩ | ⟨h0', h1', h2', hs'⟩ | ⟨h0', h00', h1', h2', h3', hs'⟩ <;> try omega
    all_goals
      rw [hs, hs'] at h
      have e := list_of h
      simp [u8l] at e
    have y : ((UInt8.ofNat (w + 64).toNat).toNat : Int) = w + 64 := u8_val (w + 64) (by omega) (by omega)
    rw [← e] at y
    have : ((63 : UInt8).toNat : Int) = 63 := rfl
    omega
  · rcases sh_lists w with ⟨h0', hs'⟩ | ⟨h0', a', b', k', d', hs'⟩ | ⟨h0', h1', h2', hs'⟩ | ⟨h0', h1', hs'⟩ | ⟨h0', h1', h2', hs'⟩ | ⟨h0', h00', h1', h2', h3', hs'⟩ <;> try omega
    all_goals
      rw [hs, hs'] at h
      have e := list_of h
      simp at e
    have := hexL_inj (by omega) (by omega) (by omega) (by omega) e
    omega
  · rcases sh_lists w with ⟨h0', hs'⟩ | ⟨h0', a', b', k', d', hs'⟩ | ⟨h0', h1', h2', hs'⟩ | ⟨h0', h1', hs'⟩ | ⟨h0', h1', h2', hs'⟩ | ⟨h0', h00', h1', h2', h3', hs'⟩ <;> try omega
    all_goals
      rw [hs, hs'] at h
      have e := list_of h
      simp at e
    exact hexL_inj (by omega) (by omega) (by omega) (by omega) e
end Go.Proofs.YtgnhnalaakgamaaDoor
set_option linter.unusedVariables false
set_option linter.unusedSimpArgs false
namespace Go.Proofs.YtgnhnalaakgamaaDoor
open Go.RowKit
/-- A builder of the call's own, at block b, that holds some bytes. -/
abbrev BldAt (B b : Nat) (p : Value) (bs : List Value) (w : World) : Prop := Lib.BuilderAt 45 5 B b p bs w
abbrev IsBld (B b : Nat) (bs : List Value) (w : World) : Prop := Lib.IsBuilder 45 5 B b bs w
theorem sizeBld : (Tryd.prog.info? 45).map (fun i => i.size) = some 2 := by kernel_rfl
theorem liesBld : liesAt Tryd.prog Tryd.prog.depth 45 (2 / Tryd.prog.cellsOf 45) 0 45 1 = true := by kernel_rfl
theorem infoU8 : (Tryd.prog.info? 5).map (fun i => (i.zero, i.size, i.bytes)) = some (some (.int .u8 0), 1, 1) := by kernel_rfl
set_option maxHeartbeats 1000000 in
set_option maxRecDepth 100000 in
theorem bcheck_used (b : Nat) (w : World) (h0 : w.cell? ⟨b, 0, none⟩ = some (.pointer (some ⟨b, 0, none⟩))) :
    Calls Tryd.prog 28 #[.pointer (some ⟨b, 0, none⟩)] w fun e w' => e = .returned (.tuple #[]) ∧ w = w' := by
  obtain ⟨j, hj, _⟩ := Option.map_eq_some_iff.1 sizeBld
  go_enter Tryd.func28, Tryd.ntmps28
  go_wp2
  rw [Lib.run_neq_ptr_same w _ Tryd.underlying42 hj]
  go_wp2
  go_end0
  exact ⟨rfl, rfl⟩
set_option maxHeartbeats 1000000 in
set_option maxRecDepth 100000 in
theorem bcheck_fresh (b : Nat) (w : World) (h0 : w.cell? ⟨b, 0, none⟩ = some (.pointer none)) (hsh : w.shape? b = some (45, 2)) (hfz : w.frozen? ⟨b, 0, none⟩ = false) :
    Calls Tryd.prog 28 #[.pointer (some ⟨b, 0, none⟩)] w fun e w' => e = .returned (.tuple #[]) ∧ w' = w.setCell ⟨b, 0, none⟩ (.pointer (some ⟨b, 0, none⟩)) := by
  obtain ⟨j, hj, hjs⟩ := Option.map_eq_some_iff.1 sizeBld
  go_enter Tryd.func28, Tryd.ntmps28
  go_wp2
  rw [Lib.run_to_unsafe w ⟨b, 0, none⟩ Tryd.underlying42 Tryd.underlying85 hj (by rw [hjs]; decide) hsh (Nat.zero_lt_succ 1)]
  simp only [Result.andThen]
  rw [Oper.upon_value]
  go_wp2
  rw [run_callFunc_extern Tryd.func44 (by kernel_rfl) (by kernel_rfl) (by kernel_rfl) (e := Extern.AbiNoEscape.same) (by kernel_rfl)]
  rw [Lib.run_noEscape]
  simp only [Result.andThen]
  rw [Oper.upon_value]
  go_wp2
  rw [Lib.run_from_unsafe w ⟨b, 0, none⟩ Tryd.underlying85 Tryd.underlying42 hj hsh liesBld]
  simp only [Result.andThen]
  rw [Oper.upon_value]
  go_wp2
  go_end0
  exact ⟨rfl, rfl⟩
theorem bcheck_any (B b : Nat) (bs : List Value) (w : World) (h : IsBld B b bs w) :
    Calls Tryd.prog 28 #[.pointer (some ⟨b, 0, none⟩)] w fun e w' => e = .returned (.tuple #[]) ∧ BldAt B b (.pointer (some ⟨b, 0, none⟩)) bs w' ∧ Below B w w' := by
  rcases h with h | h
  · refine (bcheck_fresh b w h.cell0 h.shape h.frozen0).mono ?_
    rintro e w' ⟨rfl, rfl⟩
    exact ⟨rfl, h.used _, (Below.refl B w).setCell (p := ⟨b, 0, none⟩) h.1 _⟩
  · refine (bcheck_used b w h.cell0).mono ?_
    rintro e w' ⟨rfl, rfl⟩
    exact ⟨rfl, h, Below.refl B _⟩
set_option maxHeartbeats 2000000 in
set_option maxRecDepth 100000 in
theorem bwrite_any (B b : Nat) (bs : List Value) (s : ByteArray) (w : World) (h : IsBld B b bs w) (hlen : bs.length + s.size ≤ 140737488355328) (hBw : B ≤ w.heap.size) :
    Calls Tryd.prog 15 #[.pointer (some ⟨b, 0, none⟩), .string s] w fun e w' => e = .returned (.tuple #[.int .i64 s.size, .nilIface]) ∧ BldAt B b (.pointer (some ⟨b, 0, none⟩)) (bs ++ Lib.strCells s) w' ∧ Below B w w' := by
  obtain ⟨i0, hi, hz0, hz1, hz2⟩ := info_parts infoU8
  have C := Lib.hid (bcheck_any B b bs w h)
  clear h
  go_enter Tryd.func15, Tryd.ntmps15
  go_wp2_with (go_at_call 28; refine C.out.mono ?_)
  rintro e w1 ⟨rfl, ⟨hB, v, hbk, hown, hne⟩, hb1⟩
  have c0 := Lib.cell_of_heap hbk 0; have c1 := Lib.cell_of_heap hbk 1
  dsimp at c0 c1
  go_wp2_with (at_builtin; refine Lib.wpList_append_own_string _ rfl _ _ 43 9 rfl B 5 i0 Tryd.underlying43 Tryd.underlying9 hi hz0 hz1 hz2 _ _ _ rfl hown s rfl ?g3 ?g4 ?g5 ?_)
  case g3 => unfold maxLen; omega
  case g4 => omega
  case g5 => have := hb1.size; omega
  intro v' w2 hown' hgrow _
  have hlt := blk_lt hbk
  have hb2 : w2.heap[b]? = some (.cells #[.pointer (some ⟨b, 0, none⟩), v] 45 (0, 0)) := (hgrow.block b hlt (fun e => hne e.symm)).trans hbk
  have d0 := Lib.cell_of_heap hb2 0
  have d1 := Lib.cell_of_heap hb2 1
  have f1 : w2.frozen? ⟨b, 1, none⟩ = false := Lib.frozen_of_heap hb2 1
  dsimp at d0 d1
  obtain ⟨ao, n', cap, rfl⟩ : ∃ ao n' cap, v' = .slice ao n' cap := by
    rcases hown'.2 with ⟨hv, _⟩ | ⟨g, cap, cur, hv, _⟩
    · exact ⟨_, _, _, hv⟩
    · exact ⟨_, _, _, hv⟩
  go_wp2
  go_ret2
  refine ⟨rfl, ?_, ?_⟩
  · exact Lib.BuilderAt.put (T := 45) (e := 5) hB hb2 (bs' := bs ++ Lib.strCells s) (by simpa [Lib.strCells_length] using hown') (by decide)
  · exact (hb1.grown hgrow (by have := hb1.size; omega) (fun k hk => (hown.lt k hk).1)).setCell (p := ⟨b, 1, none⟩) hB _
end Go.Proofs.YtgnhnalaakgamaaDoor
set_option linter.unusedVariables false
set_option linter.unusedSimpArgs false
namespace Go.Proofs.YtgnhnalaakgamaaDoor
open Go.RowKit
theorem rowV_eq (a b : Int) (c d : List UInt8) : rowV (a, b, c, d) = .agg #[.int .i64 a, .int .i64 b, .string ⟨c.toArray⟩, .string ⟨d.toArray⟩] := rfl
theorem kFrom_hit {kind v : Int} {k : Nat} {r : KRow} (h : kFrom kind v k = kFind kind v) (hk : k < 13) (e : kTab.getD k kr0 = r) (h1 : r.1 = kind) (h2 : r.2.1 = v) : kFind kind v = some r := by
  rw [← h, kFrom_step kind v k hk, e, if_pos ⟨h1, h2⟩]
theorem kFrom_miss {kind v : Int} {k : Nat} {r : KRow} (h : kFrom kind v k = kFind kind v) (hk : k < 13) (e : kTab.getD k kr0 = r) (h1 : ¬ (r.1 = kind ∧ r.2.1 = v)) : kFrom kind v (k + 1) = kFind kind v := by
  rw [← h, kFrom_step kind v k hk, e, if_neg h1]
/-- Four stores into a block. -/
theorem four_set {w : World} {b : Nat} {x0 x1 x2 x3 : Value} {T : TypeId} {f : Nat × Nat} (h : w.heap[b]? = some (.cells #[x0, x1, x2, x3] T f)) (v0 v1 v2 v3 : Value) :
    ((((w.setCell ⟨b, 0, none⟩ v0).setCell ⟨b, 1, none⟩ v1).setCell ⟨b, 2, none⟩ v2).setCell ⟨b, 3, none⟩ v3).heap[b]? = some (.cells #[v0, v1, v2, v3] T f) :=
  blk_set (blk_set (blk_set (blk_set h 0 _) 1 _) 2 _) 3 _
theorem four_below (w w0 : World) (b : Nat) (v0 v1 v2 v3 : Value) (hb : w0.heap.size ≤ b) (h : Below w0.heap.size w0 w) :
    Below w0.heap.size w0 ((((w.setCell ⟨b, 0, none⟩ v0).setCell ⟨b, 1, none⟩ v1).setCell ⟨b, 2, none⟩ v2).setCell ⟨b, 3, none⟩ v3) :=
  (((h.setCell (p := ⟨b, 0, none⟩) hb v0).setCell (p := ⟨b, 1, none⟩) hb v1).setCell (p := ⟨b, 2, none⟩) hb v2).setCell (p := ⟨b, 3, none⟩) hb v3
set_option maxHeartbeats 4000000 in
set_option maxRecDepth 100000 in
theorem kfind_any (v kind : Int) (p : Nat) (w : World) (hK : KT w) (hp : w.cell? ⟨p, 0, none⟩ = some (.int .i64 kind)) :
    Calls Tryd.prog 65 #[.int .i64 v, .pointer (some ⟨p, 0, none⟩)] w fun e w' => e = .returned (.tuple #[rowV (kRowOf kind v), .bool (kFind kind v).isSome]) ∧ Below w.heap.size w w' := by
  have B0 := below_alloc w (.cells #[.int .i64 0, .int .i64 0, .string ⟨#[]⟩, .string ⟨#[]⟩] 90)
  have hq := Lib.hid (heap_alloc_new w (.cells #[.int .i64 0, .int .i64 0, .string ⟨#[]⟩, .string ⟨#[]⟩] 90))
  have hpl : p < w.heap.size := block_lt_of_cell hp
  have hld := Lib.hid (hK.below B0)
  have hp0 := Lib.hid ((B0.cell (p := ⟨p, 0, none⟩) hpl).trans hp)
  have hs0 := B0.size
  clear hK hp
  go_enter Tryd.func65, Tryd.ntmps65
  go_wp2_with (with_reducible refine wpList_load_kt hld.out ?_)
  clear hld
  go_loopw [8] (fun iv wr => ∃ k : Nat, k ≤ 13 ∧ iv = .int .i64 (k : Int) ∧ Hid (kFrom kind v k = kFind kind v) ∧ Below (w.alloc (.cells #[.int .i64 0, .int .i64 0, .string ⟨#[]⟩, .string ⟨#[]⟩] 90)).heap.size (w.alloc (.cells #[.int .i64 0, .int .i64 0, .string ⟨#[]⟩, .string ⟨#[]⟩] 90)) wr) (fun iv _ => 13 - (intOf iv).toNat)
  case atStart => exact ⟨0, by omega, rfl, Lib.hid rfl, Below.refl _ _⟩
  case round =>
    obtain ⟨k, hk, rfl, HE, hb⟩ := hrel
    have hql : w.heap.size < (w.alloc (.cells #[.int .i64 0, .int .i64 0, .string ⟨#[]⟩, .string ⟨#[]⟩] 90)).heap.size := blk_lt hq.out
    have hqr := blk_below hq.out hb
    have hpr : wr.cell? ⟨p, 0, none⟩ = some (.int .i64 kind) := (hb.cell (p := ⟨p, 0, none⟩) (by show p < _; omega)).trans hp0.out
    have hsz := hb.size
    by_cases hlt : k < 13
    · have hk0 : (0 : Int) ≤ k := by omega
      have hk1 : (k : Int) < 13 := by omega
      have hix := fun w => kIdx k hlt w
      obtain ⟨r, hr⟩ : ∃ r, kTab.getD k kr0 = r := ⟨_, rfl⟩
      rw [hr] at hix
      obtain ⟨a, b, c, d⟩ := r
      rw [rowV_eq] at hix
      have B1 := below_alloc wr (.cells #[.int .i64 a, .int .i64 b, .string ⟨c.toArray⟩, .string ⟨d.toArray⟩] 90)
      have hpr1 := (B1.cell (p := ⟨p, 0, none⟩) (by show p < _; omega)).trans hpr
      by_cases h1 : a = kind
      · by_cases h2 : b = v
        · have HF := Lib.hid (kFrom_hit HE.out hlt hr h1 h2)
          have hq1 := blk_below hqr B1
          have HN := seqB B0 (hb.trans (B1.mono hsz))
          clear HE hr hqr
          subst h1; subst h2
          have zf := fun i => frozen_of_row _ w.heap.size i _ _ hq1
          have zz := fun i => cell_of_row _ _ i _ _ _ hq1
          have z0 := zz 0; have z1 := zz 1; have z2 := zz 2; have z3 := zz 3
          dsimp at z0 z1 z2 z3
          have hql1 := blk_lt hq1
          have hfin := Lib.hid (four_set hq1 (.int .i64 a) (.int .i64 b) (.string ⟨c.toArray⟩) (.string ⟨d.toArray⟩))
          have NF := Lib.hid (four_below _ w w.heap.size (.int .i64 a) (.int .i64 b) (.string ⟨c.toArray⟩) (.string ⟨d.toArray⟩) (Nat.le_refl _) HN)
          clear zz hq1 HN
          go_wp2
          generalize hWF : World.setCell _ _ _ = WF
          have hqf : WF.heap[w.heap.size]? = some (.cells #[.int .i64 a, .int .i64 b, .string ⟨c.toArray⟩, .string ⟨d.toArray⟩] 90 (0, 0)) := by rw [← hWF]; exact hfin.out
          have hN : Below w.heap.size w WF := by rw [← hWF]; exact NF.out
          have y := fun i => cell_of_row _ _ i _ _ _ hqf
          have y0 := y 0; have y1 := y 1; have y2 := y 2; have y3 := y 3
          dsimp at y0 y1 y2 y3
          clear y hqf hWF
          refine bodyPost_ret (v := .tuple #[.agg #[.int .i64 a, .int .i64 b, .string ⟨c.toArray⟩, .string ⟨d.toArray⟩], .bool true]) (by simp [results, Tryd.results65, go_sem, y0, y1, y2, y3]) rfl ?_
          unfold kRowOf
          rw [HF.out]
          exact ⟨rfl, hN⟩
        · have HF := Lib.hid (kFrom_miss HE.out hlt hr (fun h => h2 h.2))
          clear HE hr hqr
          subst h1
          go_wp2
          go_roundw
          case rel => exact ⟨k + 1, by omega, by go_num, HF, hb.trans (B1.mono hsz)⟩
          case measure => (simp [intOf]; try omega)
      · have HF := Lib.hid (kFrom_miss HE.out hlt hr (fun h => h1 h.1))
        clear HE hr hqr
        go_wp2
        go_roundw
        case rel => exact ⟨k + 1, by omega, by go_num, HF, hb.trans (B1.mono hsz)⟩
        case measure => (simp [intOf]; try omega)
    · obtain rfl : k = 13 := by omega
      have HF : Hid (kFind kind v = none) := Lib.hid (by rw [← HE.out]; rfl)
      have HN := seqB B0 hb
      have zf := fun i => frozen_of_row _ w.heap.size i _ _ hqr
      have zz := fun i => cell_of_row _ _ i _ _ _ hqr
      have z0 := zz 0; have z1 := zz 1; have z2 := zz 2; have z3 := zz 3
      dsimp at z0 z1 z2 z3
      have hql1 := blk_lt hqr
      have hfin := Lib.hid (four_set hqr (.int .i64 0) (.int .i64 0) (.string ⟨#[]⟩) (.string ⟨#[]⟩))
      have NF := Lib.hid (four_below _ w w.heap.size (.int .i64 0) (.int .i64 0) (.string ⟨#[]⟩) (.string ⟨#[]⟩) (Nat.le_refl _) HN)
      clear zz hqr HN HE
      go_wp2
      generalize hWF : World.setCell _ _ _ = WF
      have hqf : WF.heap[w.heap.size]? = some (.cells #[.int .i64 0, .int .i64 0, .string ⟨#[]⟩, .string ⟨#[]⟩] 90 (0, 0)) := by rw [← hWF]; exact hfin.out
      have hN : Below w.heap.size w WF := by rw [← hWF]; exact NF.out
      have y := fun i => cell_of_row _ _ i _ _ _ hqf
      have y0 := y 0; have y1 := y 1; have y2 := y 2; have y3 := y 3
      dsimp at y0 y1 y2 y3
      clear y hqf hWF
      refine bodyPost_ret (v := .tuple #[.agg #[.int .i64 0, .int .i64 0, .string ⟨#[]⟩, .string ⟨#[]⟩], .bool false]) (by simp [results, Tryd.results65, go_sem, y0, y1, y2, y3]) rfl ?_
      unfold kRowOf
      rw [HF.out]
      exact ⟨rfl, hN⟩
end Go.Proofs.YtgnhnalaakgamaaDoor
