/-
  Views of unlike lines are unlike.
-/
import Derived.Test.YtfhcfamjlhmgiaaDoorV8
set_option linter.unusedVariables false
set_option linter.unusedSimpArgs false
namespace Go.Proofs.YtfhcfamjlhmgiaaDoor
set_option maxRecDepth 100000
open Go.RowKit
/-- What is seen of a cell. -/
def seen (c : Cl) : Int × Int := (c.1, c.2.1)
theorem shS_seen {x y : List Cl} (h : shS x y = true) : x.map seen = y.map seen := by
  unfold shS at h
  rw [Bool.and_eq_true, List.all_eq_true] at h
  have hl : x.length = y.length := by simpa using h.1
  apply List.ext_getElem (by simpa using hl)
  intro j h1 h2
  have h3 := h.2 j (by simpa using h1)
  have h1' : j < x.length := by simpa using h1
  simp only [List.getD, List.getElem?_eq_getElem h1', List.getElem?_eq_getElem (hl ▸ h1'), Option.getD_some] at h3
  unfold clE at h3
  rw [Bool.and_eq_true, beq_iff_eq, beq_iff_eq] at h3
  simp only [List.getElem_map, seen, h3.1, h3.2]
theorem tkL_seen (s : ByteArray) (a o f : Int) : (tkL s a o f s.size).map seen = (s.data.toList.map fun c => (c.toNat : Int)).map fun b => (b, a) := by
  apply List.ext_getElem (by simp [tkL_len])
  intro j h1 h2
  have hj : j < s.size := by simpa [tkL_len] using h1
  simp only [tkL, List.getElem_map, List.getElem_range, seen]
  rw [get_get s j hj, Array.getElem_toList]; rfl
/-- What is seen of a sign. -/
def sgV (v a : Int) : List (Int × Int) :=
  if 3 < cls v then ((shT v).data.toList.map fun c => (c.toNat : Int)).map fun b => (b, a) else if cls v = 2 then [(v, a), (-1, a)] else if cls v = 0 then [] else [(v, a)]
theorem shK_seen (v l o : Int) : (shK v l o).map seen = sgV v (lkI v l) := by
  unfold sgV
  rcases cells_casesR v l o with ⟨h0, hs⟩ | ⟨h2, hs⟩ | ⟨h2, hs⟩ | ⟨h2, hs⟩ <;> rw [hs]
  · rw [if_neg (by omega), if_neg (by omega), if_pos h0]; rfl
  · rw [if_neg (by omega), if_pos h2]; rfl
  · rw [if_neg (by omega), if_neg (by omega), if_neg (by omega)]; rfl
  · rw [if_pos h2, tkL_seen]
theorem vwG_seen (l : List (Int × Int)) (f : Nat → Int) : ∀ k, k ≤ l.length → (vwG l f k).map seen = (l.take k).flatMap fun q => sgV q.1 (lkI q.1 q.2)
  | 0, _ => by simp [vwG]
  | k + 1, hk => by
    rw [vwG_succ, List.map_append, vwG_seen l f k (by omega), shK_seen, List.take_add_one, List.getElem?_eq_getElem (by omega), List.flatMap_append]
    simp [List.getD, List.getElem?_eq_getElem (show k < l.length by omega)]
theorem look_odd (v l : Int) : lkI v l % 2 = if 3 < cls v then 1 else 0 := by
  unfold lkI; repeat' split
  all_goals omega
theorem dg_ne (k : Nat) : (dg (k % 16)).toNat ≠ 62 := by
  have key : ∀ j : Fin 16, (dg j).toNat ≠ 62 := by decide
  exact key ⟨k % 16, Nat.mod_lt _ (by omega)⟩
theorem tell_no62 : ∀ f n l, ∀ c ∈ tell 16 f n l, c.toNat ≠ 62
  | 0, _, _, c, h => by simp [tell] at h
  | f + 1, n, l, c, h => by
    rw [tell] at h
    split at h
    · simp at h
    · rw [List.mem_append] at h
      rcases h with h | h
      · exact tell_no62 f _ _ c h
      · have : c = dg (n % 16) := by simpa using h
        rw [this]; exact dg_ne n
/-- A dangerous value's shown text: two bytes; four; or up to the first of 62. -/
def Form (L : List Int) : Prop := (∃ c, L = [94, c]) ∨ (∃ a b, L = [92, 120, a, b]) ∨ ∃ h : List Int, (∀ c ∈ h, c ≠ 62) ∧ L = [60, 85, 43] ++ h ++ [62]
def bsI (v : Int) : List Int := (shT v).data.toList.map fun c => (c.toNat : Int)
theorem form_of (v : Int) (hd : 3 < cls v) : Form (bsI v) := by
  unfold bsI
  rcases sh_lists v with ⟨h0, hs⟩ | ⟨h0, a, b, k, d, hs⟩ | ⟨h0, h1, h2, hs⟩ | ⟨h0, _, hs⟩ | ⟨h0, h1, h2, hs⟩ | ⟨h0, h00, h1, h2, h3, hs⟩
  · omega
  · omega
  · rw [hs]; exact Or.inl ⟨_, rfl⟩
  · rw [hs]; exact Or.inl ⟨_, rfl⟩
  · rw [hs]
    right; left
    have hl := hexL_len (v - 1114112) 2 2 (by show _ < 256; omega) (by decide) (by omega)
    have e : (2 : Int).toNat = 2 := rfl
    match hh : hexL (v - 1114112) 2, hl with
    | [a, b], _ => exact ⟨_, _, rfl⟩
    | [], hl => simp at hl
    | [_], hl => simp at hl
    | _ :: _ :: _ :: _, hl => simp at hl
  · rw [hs]
    right; right
    refine ⟨(hexL v 4).map fun c => (c.toNat : Int), ?_, ?_⟩
    · intro c hc
      rw [List.mem_map] at hc
      obtain ⟨x, hx, rfl⟩ := hc
      have := tell_no62 _ _ _ x hx
      omega
    · show List.map _ ([60, 85, 43] ++ hexL v 4 ++ [62]) = _
      rw [List.map_append, List.map_append]; rfl
theorem upto_62 : ∀ (h k A B : List Int), (∀ c ∈ h, c ≠ 62) → (∀ c ∈ k, c ≠ 62) → h ++ 62 :: A = k ++ 62 :: B → h = k
  | [], [], _, _, _, _, _ => rfl
  | [], y :: k, A, B, _, h2, e => by
    simp at e
    exact absurd e.1.symm (h2 y (by simp))
  | x :: h, [], A, B, h1, _, e => by
    simp at e
    exact absurd e.1 (h1 x (by simp))
  | x :: h, y :: k, A, B, h1, h2, e => by
    simp only [List.cons_append, List.cons.injEq] at e
    rw [e.1, upto_62 h k A B (fun c hc => h1 c (by simp [hc])) (fun c hc => h2 c (by simp [hc])) e.2]
/-- No such text begins another. -/
theorem form_apart {L M A B : List Int} (hL : Form L) (hM : Form M) (e : L ++ A = M ++ B) : L = M := by
  rcases hL with ⟨c, rfl⟩ | ⟨a, b, rfl⟩ | ⟨h, hh, rfl⟩ <;> rcases hM with ⟨c', rfl⟩ | ⟨a', b', rfl⟩ | ⟨h', hh', rfl⟩ <;> simp at e ⊢
  · exact e.1
  · exact ⟨e.1, e.2.1⟩
  · exact upto_62 h h' A B hh hh' e
theorem bsI_inj {v u : Int} (h : bsI v = bsI u) : shT v = shT u := by
  unfold bsI at h
  have key : ∀ a b : List UInt8, (a.map fun c => (c.toNat : Int)) = (b.map fun c => (c.toNat : Int)) → a = b := by
    intro a
    induction a with
    | nil => intro b e; cases b with
             | nil => rfl
             | cons y b => simp at e
    | cons x a ih =>
      intro b e
      cases b with
      | nil => simp at e
      | cons y b =>
        simp only [List.map_cons, List.cons.injEq] at e
        have e1 : x.toNat = y.toNat := by omega
        rw [UInt8.toNat_inj.1 e1, ih b e.2]
  have h2 := key _ _ h
  exact ByteArray.ext (Array.toList_inj.1 h2)
theorem sgV_pos {v : Int} (h : cls v ≠ 0) (a : Int) : ∃ x r, sgV v a = (x, a) :: r := by
  unfold sgV
  split
  · have hne := shT_ne v h
    cases hl : (shT v).data.toList with
    | nil => exact absurd (ByteArray.ext (Array.toList_inj.1 (by rw [hl]))) hne
    | cons x l => exact ⟨_, _, rfl⟩
  · split
    · exact ⟨_, _, rfl⟩
    · first | exact ⟨_, _, rfl⟩ | (rw [if_neg h]; exact ⟨_, _, rfl⟩)
/-- Signs that look the same in front of anything have the same value and the same looks. -/
theorem sgV_apart {v u a b : Int} {A B : List (Int × Int)} (hv : cls v ≠ 0) (hu : cls u ≠ 0) (ha : a % 2 = if 3 < cls v then 1 else 0) (hb : b % 2 = if 3 < cls u then 1 else 0) (e : sgV v a ++ A = sgV u b ++ B) : v = u ∧ a = b := by
  obtain ⟨x, r, h1⟩ := sgV_pos hv a
  obtain ⟨y, s, h2⟩ := sgV_pos hu b
  have hab : a = b := by
    rw [h1, h2] at e
    simp at e; exact e.1.2
  subst hab
  refine ⟨?_, rfl⟩
  have hd : (3 < cls v) ↔ (3 < cls u) := by
    rw [ha] at hb
    by_cases k : 3 < cls v <;> by_cases k2 : 3 < cls u <;> simp [k, k2] at hb ⊢
  by_cases k : 3 < cls v
  · have k2 := hd.1 k
    unfold sgV at e
    rw [if_pos k, if_pos k2] at e
    have e2 := congrArg (List.map Prod.fst) e
    have id1 : ∀ L : List Int, (L.map fun b => (b, a)).map Prod.fst = L := fun L => by
      rw [List.map_map]
      conv => rhs; rw [← List.map_id L]
      exact List.map_congr_left fun _ _ => rfl
    rw [List.map_append, List.map_append, id1, id1] at e2
    have e3 : bsI v ++ A.map Prod.fst = bsI u ++ B.map Prod.fst := e2
    exact sh_apart hv hu hd (bsI_inj (form_apart (form_of v k) (form_of u k2) e3))
  · have k2 : ¬ 3 < cls u := fun h => k (hd.2 h)
    have g : ∀ w : Int, cls w ≠ 0 → ¬ 3 < cls w → ∃ r, sgV w a = (w, a) :: r := fun w h0 h3 => by
      unfold sgV
      rw [if_neg h3]
      split
      · exact ⟨_, rfl⟩
      · first | exact ⟨_, rfl⟩ | (rw [if_neg h0]; exact ⟨_, rfl⟩)
    obtain ⟨r1, g1⟩ := g v hv k
    obtain ⟨r2, g2⟩ := g u hu k2
    rw [g1, g2] at e
    simp at e; exact e.1
theorem lines_apart : ∀ (x y : List (Int × Int)), (∀ q ∈ x, cls q.1 ≠ 0) → (∀ q ∈ y, cls q.1 ≠ 0) → (x.flatMap fun q => sgV q.1 (lkI q.1 q.2)) = (y.flatMap fun q => sgV q.1 (lkI q.1 q.2)) → x.map (·.1) = y.map (·.1)
  | [], [], _, _, _ => rfl
  | [], q :: y, _, h2, e => by
    obtain ⟨z, r, h⟩ := sgV_pos (h2 q (by simp)) (lkI q.1 q.2)
    rw [List.flatMap_nil, List.flatMap_cons, h] at e; cases e
  | q :: x, [], h1, _, e => by
    obtain ⟨z, r, h⟩ := sgV_pos (h1 q (by simp)) (lkI q.1 q.2)
    rw [List.flatMap_nil, List.flatMap_cons, h] at e; cases e
  | q :: x, q' :: y, h1, h2, e => by
    rw [List.flatMap_cons, List.flatMap_cons] at e
    have k := sgV_apart (h1 q (by simp)) (h2 q' (by simp)) (look_odd _ _) (look_odd _ _) e
    have e2 : sgV q.1 (lkI q.1 q.2) = sgV q'.1 (lkI q'.1 q'.2) := by rw [k.2, k.1]
    rw [e2] at e
    have ih := lines_apart x y (fun z hz => h1 z (by simp [hz])) (fun z hz => h2 z (by simp [hz])) (List.append_cancel_left e)
    simp [k.1, ih]
theorem sgC_mem {l : List (Int × Int)} (h : sgC l = true) : ∀ q ∈ l, cls q.1 ≠ 0 := by
  intro q hq
  have h2 := (List.all_eq_true.1 h) _ hq
  refine right_yes ?_
  unfold sgR at h2
  rw [Bool.and_eq_true, Bool.and_eq_true] at h2
  exact h2.2.2
/-- Two lines behind one prompt that are shown the same have the same values. -/
theorem vw_apart {p x y : List (Int × Int)} (hx : sgC x = true) (hy : sgC y = true) (h : shS (vwOf p x) (vwOf p y) = true) : x.map (·.1) = y.map (·.1) := by
  have e := shS_seen h
  unfold vwOf at e
  rw [List.map_append, List.map_append] at e
  have e2 := List.append_cancel_left e
  rw [vwG_seen _ _ _ (Nat.le_refl _), vwG_seen _ _ _ (Nat.le_refl _), List.take_length, List.take_length] at e2
  exact lines_apart x y (sgC_mem hx) (sgC_mem hy) e2
end Go.Proofs.YtfhcfamjlhmgiaaDoor
