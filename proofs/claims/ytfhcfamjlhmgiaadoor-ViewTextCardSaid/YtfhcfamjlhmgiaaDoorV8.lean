/-
  What views say: the shown texts; joined signs.
-/
import Derived.Test.YtfhcfamjlhmgiaaDoorV7
set_option linter.unusedVariables false
set_option linter.unusedSimpArgs false
namespace Go.Proofs.YtfhcfamjlhmgiaaDoor
set_option maxRecDepth 100000
open Go.RowKit
theorem encS_append (a b : List Int) : encS (a ++ b) = encS a ++ encS b := by
  unfold encS
  rw [encI_append, txt_list, txt_list, txt_list, ba_app]
  unfold u8l; rw [List.map_append]
theorem u8_ascii (x : Int) (h0 : 0 ≤ x) (h1 : x < 128) : oneI x = [x] := by
  rw [oneI_pt ((ptB_iff x).2 (by omega)), Lib.encodeRuneZ_one h0 (by omega)]
theorem encI_ascii : ∀ (l : List UInt8), (∀ c ∈ l, c.toNat < 128) → encI (l.map fun c => (c.toNat : Int)) = l.map fun c => (c.toNat : Int)
  | [], _ => rfl
  | c :: l, h => by
    have h1 := h c (by simp)
    have e : encI ((c :: l).map fun c => (c.toNat : Int)) = oneI (c.toNat : Int) ++ encI (l.map fun c => (c.toNat : Int)) := rfl
    rw [e, encI_ascii l (fun x hx => h x (by simp [hx])), u8_ascii _ (by omega) (by omega)]; rfl
theorem u8l_back (l : List UInt8) : u8l (l.map fun c => (c.toNat : Int)) = l := by
  unfold u8l
  rw [List.map_map]
  conv => rhs; rw [← List.map_id l]
  refine List.map_congr_left fun c _ => ?_
  show ((c.toNat : Int).toNat).toUInt8 = c
  rw [Int.toNat_natCast]
  exact UInt8.ofNat_toNat
theorem encS_ascii (l : List UInt8) (h : ∀ c ∈ l, c.toNat < 128) : encS (l.map fun c => (c.toNat : Int)) = ⟨l.toArray⟩ := by
  unfold encS; rw [encI_ascii l h, txt_list, u8l_back]
/-- The bytes of a shown text of a dangerous value are plain. -/
theorem sh_ascii (v : Int) (hd : 3 < cls v) : ∀ c ∈ (shT v).data.toList, c.toNat < 128 := by
  intro c hc
  rcases sh_lists v with ⟨h0, hs⟩ | ⟨h0, a, b, k, d, hs⟩ | ⟨h0, h1, h2, hs⟩ | ⟨h0, _, hs⟩ | ⟨h0, h1, h2, hs⟩ | ⟨h0, h00, h1, h2, h3, hs⟩
  · omega
  · omega
  · rw [hs] at hc
    have hc' : c ∈ [94] ++ u8l [v + 64] := hc
    simp [u8l] at hc'
    rcases hc' with rfl | rfl
    · decide
    · have := u8_val (v + 64) (by omega) (by omega); simp at this ⊢; omega
  · rw [hs] at hc
    have hc' : c ∈ ([94, 63] : List UInt8) := hc
    simp at hc'
    rcases hc' with rfl | rfl <;> decide
  · rw [hs] at hc
    have hc' : c ∈ [92, 120] ++ hexL (v - 1114112) 2 := hc
    rw [List.mem_append] at hc'
    rcases hc' with hc' | hc'
    · simp at hc'; rcases hc' with rfl | rfl <;> decide
    · have := tell_ok _ _ _ c hc'; omega
  · rw [hs] at hc
    have hc' : c ∈ [60, 85, 43] ++ hexL v 4 ++ [62] := hc
    rw [List.mem_append, List.mem_append] at hc'
    rcases hc' with (hc' | hc') | hc'
    · simp at hc'; rcases hc' with rfl | rfl | rfl <;> decide
    · have := tell_ok _ _ _ c hc'; omega
    · simp at hc'; rw [hc']; decide
theorem tkL_txV (s : ByteArray) (a o f : Int) (h : ∀ c ∈ s.data.toList, 0 < c.toNat) : txV (tkL s a o f s.size) = s.data.toList.map fun c => (c.toNat : Int) := by
  have key : ∀ k, k ≤ s.size → txV (tkL s a o f k) = (s.data.toList.take k).map fun c => (c.toNat : Int) := by
    intro k
    induction k with
    | zero => intro _; rfl
    | succ k ih =>
      intro hk
      have hk' : k < s.data.toList.length := by rw [Array.length_toList]; exact hk
      have hg : s.get! k = s.data.toList[k] := by
        rw [get_get s k (by omega), Array.getElem_toList]; rfl
      have hp := h _ (List.getElem_mem hk')
      rw [tkL_succ, txV_append, ih (by omega), List.take_add_one, List.getElem?_eq_getElem hk', List.map_append]
      congr 1
      show txO ((s.get! k).toNat : Int) ++ [] = _
      rw [List.append_nil, hg]
      unfold txO; rw [if_pos (by omega)]; rfl
  have := key s.size (Nat.le_refl _)
  rw [this, List.take_of_length_le (by rw [Array.length_toList]; exact Nat.le_refl _)]
/-- A sign's cells say its shown text. -/
theorem shK_says (v l o : Int) (h : cls v ≠ 0) : encS (txV (shK v l o)) = shT v := by
  have one : 32 ≤ v → shT v = ⟨(u8l (oneI v)).toArray⟩ → encS [v] = shT v := fun h1 h2 => by
    rw [h2]; unfold encS
    have e : encI [v] = oneI v := by simp [encI]
    rw [e]; rfl
  have big : 32 ≤ v → txO v = [v] := fun h1 => by unfold txO; rw [if_pos (by omega)]
  have neg : txO (-1) = [] := rfl
  have facts : cls v ≤ 3 → 32 ≤ v ∧ shT v = ⟨(u8l (oneI v)).toArray⟩ := fun h3 => by
    rcases sh_lists v with ⟨h0, hs⟩ | ⟨h0, a, b, k, d, hs⟩ | ⟨h0, h1, h2, hs⟩ | ⟨h0, _, hs⟩ | ⟨h0, h1, h2, hs⟩ | ⟨h0, h00, h1, h2, h3, hs⟩
    · exact absurd h0 h
    · exact ⟨a, hs⟩
    all_goals omega
  rcases cells_casesR v l o with ⟨h0, _⟩ | ⟨h2, hs⟩ | ⟨h2, hs⟩ | ⟨h2, hs⟩
  · exact absurd h0 h
  · obtain ⟨f1, f2⟩ := facts (by omega)
    rw [hs]
    show encS (txO v ++ (txO (-1) ++ [])) = _
    rw [big f1, neg]; exact one f1 f2
  · obtain ⟨f1, f2⟩ := facts (by omega)
    rw [hs]
    show encS (txO v ++ []) = _
    rw [big f1]; exact one f1 f2
  · rw [hs, tkL_txV _ _ _ _ (fun c hc => by have := sh_bytes v c hc; omega), encS_ascii _ (sh_ascii v h2)]
/-- The shown texts of the first k signs, joined. -/
def sayN (l : List (Int × Int)) : Nat → ByteArray
  | 0 => ⟨#[]⟩
  | k + 1 => sayN l k ++ shT (l.getD k (0, 0)).1
theorem sayN_vw (l : List (Int × Int)) (f : Nat → Int) (h : sgC l = true) : ∀ k, k ≤ l.length → encS (txV (vwG l f k)) = sayN l k
  | 0, _ => rfl
  | k + 1, hk => by
    rw [vwG_succ, txV_append, encS_append, sayN_vw l f h k (by omega), shK_says _ _ _ (sgC_at h (by omega))]; rfl
theorem sayN_left (p l : List (Int × Int)) : ∀ k, k ≤ p.length → sayN (p ++ l) k = sayN p k
  | 0, _ => rfl
  | k + 1, hk => by
    have e : (p ++ l).getD k (0, 0) = p.getD k (0, 0) := by simp only [List.getD]; rw [List.getElem?_append_left (by omega)]
    rw [sayN, sayN, sayN_left p l k (by omega), e]
theorem ba_assoc (a b c : ByteArray) : (a ++ b) ++ c = a ++ (b ++ c) := by
  apply ByteArray.ext
  simp only [ByteArray.data_append, Array.append_assoc]
theorem sayN_right (p l : List (Int × Int)) : ∀ k, k ≤ l.length → sayN (p ++ l) (p.length + k) = sayN p p.length ++ sayN l k
  | 0, _ => by
    rw [Nat.add_zero, sayN_left p l _ (Nat.le_refl _)]
    apply ByteArray.ext
    rw [ByteArray.data_append]; simp [sayN]
  | k + 1, hk => by
    have e : (p ++ l).getD (p.length + k) (0, 0) = l.getD k (0, 0) := by simp only [List.getD]; rw [List.getElem?_append_right (by omega), Nat.add_sub_cancel_left]
    rw [← Nat.add_assoc, sayN, sayN_right p l k (by omega), e, ba_assoc]; rfl
/-- What a view says. -/
theorem vwOf_says (p l : List (Int × Int)) (hp : sgC p = true) (hl : sgC l = true) : encS (txV (vwOf p l)) = sayN (p ++ l) (p ++ l).length := by
  unfold vwOf
  rw [txV_append, encS_append, sayN_vw p _ hp _ (Nat.le_refl _), sayN_vw l _ hl _ (Nat.le_refl _), List.length_append, sayN_right p l _ (Nat.le_refl _)]
theorem sayN_size (l : List (Int × Int)) : ∀ k, (sayN l k).size ≤ 30 * k
  | 0 => by simp [sayN]; rfl
  | k + 1 => by
    have h1 := sayN_size l k
    have h2 := shT_size (l.getD k (0, 0)).1
    rw [sayN, ByteArray.size_append]; omega
theorem sRow_len (l : List (Int × Int)) : (sRow l).toList.length = l.length * 2 := by
  simp only [sRow, List.toList_toArray]
  induction l with
  | nil => rfl
  | cons x l ih => simp only [List.flatMap_cons, List.length_append, List.length_cons, List.length_nil, ih]; omega
/-- Signs that lie somewhere, as the cells that append reads. -/
theorem signs_news {w : World} {ad : Addr} {l : List (Int × Int)} (h : Signs w (some ad) l) : ∀ j u, (sRow l).toList[j]? = some u → w.cell? (ad.add j) = some u := by
  intro j u hj
  have hlen := sRow_len l
  have hj2 : j < l.length * 2 := by
    rw [← hlen]
    exact (List.getElem?_eq_some_iff.1 hj).1
  obtain ⟨b, off, e, _, h1, h2⟩ := h (j / 2) (by omega)
  injection e with e
  subst e
  have hadd : (⟨b, off, none⟩ : Addr).add j = ⟨b, off + j, none⟩ := by unfold Addr.add; split <;> simp_all
  have hs := sRow_at l (j / 2) (by omega)
  have hj' : (l.flatMap fun p => [Value.int .i64 p.1, Value.int .i64 p.2])[j]? = some u := hj
  rw [hadd]
  rcases (by omega : j = j / 2 * 2 ∨ j = j / 2 * 2 + 1) with k | k
  · rw [k, hs.1] at hj'; rw [← hj', ← h1]; congr 2; omega
  · rw [k, hs.2] at hj'; rw [← hj', ← h2]; congr 2; omega
end Go.Proofs.YtfhcfamjlhmgiaaDoor
