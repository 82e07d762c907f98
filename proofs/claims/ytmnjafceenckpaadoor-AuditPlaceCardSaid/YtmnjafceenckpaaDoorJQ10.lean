/-
  Joined: Ky2 Sh1 Sh2 Sh8 M6 U15 Ky3 Ky4 M2 M3.
-/
import Derived.Test.YtmnjafceenckpaaDoorJQ01
import Derived.Test.YtmnjafceenckpaaDoorJQ02
import Derived.Test.YtmnjafceenckpaaDoorJQ05
import Derived.Test.YtmnjafceenckpaaDoorJQ07
import Derived.Test.YtmnjafceenckpaaDoorJQ09
import Derived.Laws.Rows
import Derived.Deep.RegionHeld3
import Derived.Test.YtmnjafceenckpaaDoorProg
import Derived.Shelf.Strings.BuilderX
import Derived.Lib.Builder
import Derived.Lib.AppendStr
import Derived.Laws.Externs
import Derived.Lib.QuietBelow
import Derived.Deep.Cut
import Derived.Lib.IndexMore
set_option linter.unusedVariables false
set_option linter.unusedSimpArgs false
set_option maxRecDepth 100000
set_option linter.unusedVariables false
set_option linter.unusedSimpArgs false
namespace Go.Proofs.YtmnjafceenckpaaDoor
open Go.RowKit
def rowL (r : KRow) : List Value := [.int .i64 r.1, .int .i64 r.2.1, .string ⟨r.2.2.1.toArray⟩, .string ⟨r.2.2.2.toArray⟩]
def rowV (r : KRow) : Value := .agg #[.int .i64 r.1, .int .i64 r.2.1, .string ⟨r.2.2.1.toArray⟩, .string ⟨r.2.2.2.toArray⟩]
def kCells : List Value := kTab.flatMap rowL
/-- A whole variable, out of its cells. -/
theorem run_loadVar_cells {P : Program} (w : World) (g : Nat) (ty : TypeId) (cs : List Value) (d : TypeDesc) (hg : ∀ j v, cs[j]? = some v → w.cell? ⟨g, j, none⟩ = some v)
    (hu : P.underlying ty = some d) (hd : (match d with | .struct _ | .array _ _ => true | _ => false) = true) (hi : (P.info? ty).map (·.size) = some cs.length) :
    (loadVar ty ⟨g, 0, none⟩).run P w = .ok (.agg cs.toArray) w := by
  have hl : (loadCells ⟨g, 0, none⟩ cs.length).run P w = .ok cs.toArray w :=
    run_loadCells_list (P := P) w ⟨g, 0, none⟩ cs (fun j v hv => by
      have hadd : (⟨g, 0, none⟩ : Addr).add j = ⟨g, j, none⟩ := by unfold Addr.add; split <;> simp_all
      rw [hadd]; exact hg j v hv)
  cases hq : P.info? ty with
  | none => simp [hq] at hi
  | some i =>
    have hs : i.size = cs.length := by simpa [hq] using hi
    have hagg : (isAgg ty).run P w = .ok true w := by
      unfold isAgg
      rw [Sem.run_bind, run_underlying hu w]
      cases d <;> simp_all
    simp [loadVar, Sem.run_bind, hagg, sizeOf, typeInfo, hq, hs, hl]
/-- From a row on: which is a key's. -/
def kFrom (kind v : Int) (k : Nat) : Option KRow := (kTab.drop k).find? (kIs kind v)
theorem kFrom_end (kind v : Int) : kFrom kind v 13 = none := rfl
theorem kTab_len : kTab.length = 13 := rfl
theorem kFrom_step (kind v : Int) (k : Nat) (hk : k < 13) : kFrom kind v k = if (kTab.getD k kr0).1 = kind ∧ (kTab.getD k kr0).2.1 = v then some (kTab.getD k kr0) else kFrom kind v (k + 1) := by
  unfold kFrom
  have hk' : k < kTab.length := hk
  rw [List.drop_eq_getElem_cons hk', List.find?_cons]
  have e : kTab.getD k kr0 = kTab[k] := by rw [List.getD, List.getElem?_eq_getElem hk']; rfl
  rw [e]
  unfold kIs
  by_cases h : (kTab[k]).1 = kind ∧ (kTab[k]).2.1 = v
  · rw [if_pos h, show ((kTab[k]).1 == kind && (kTab[k]).2.1 == v) = true by rw [h.1, h.2]; simp]
  · rw [if_neg h]
    have hb : ((kTab[k]).1 == kind && (kTab[k]).2.1 == v) = false := by
      cases hx : ((kTab[k]).1 == kind && (kTab[k]).2.1 == v) with
      | false => rfl
      | true => exact absurd (by simpa using hx) h
    rw [hb]
end Go.Proofs.YtmnjafceenckpaaDoor
set_option linter.unusedVariables false
set_option linter.unusedSimpArgs false
namespace Go.Proofs.YtmnjafceenckpaaDoor
open Go.RowKit
/-- Hex digits, at least so many. -/
def hexL (n l : Int) : List UInt8 := tell 16 20 n.toNat l.toNat
theorem hex_size (n l : Int) : (⟨(hexL n l).toArray⟩ : ByteArray).size ≤ 20 := by
  have := tell_len 16 20 n.toNat l.toNat
  simpa [hexL, ByteArray.size] using this
theorem hexS_L (n l : Int) (h : 0 ≤ n) (h1 : 1 ≤ l) (h2 : l ≤ 16) : hexS n l = hexL n l := by
  unfold hexS hexL; rw [if_neg (by omega)]
  have : lst l = l := by unfold lst; omega
  rw [this]
theorem hexN_L (n l : Int) (h1 : 1 ≤ l) : hexN n l = hexL n l := by
  unfold hexN hexL; rw [show max l 1 = l by omega]
/-- A value's shown text. -/
def shT (v : Int) : ByteArray :=
  if cls v = 0 then ⟨#[]⟩ else if cls v ≤ 3 then txt (oneI v) else if cls v = 4 then ⟨#[94]⟩ ++ txt [v + 64] else if cls v = 5 then ⟨#[94, 63]⟩
  else if cls v = 12 then ⟨#[92, 120]⟩ ++ ⟨(hexL (v - 1114112) 2).toArray⟩ else ⟨#[60, 85, 43]⟩ ++ ⟨(hexL v 4).toArray⟩ ++ ⟨#[62]⟩
theorem told_rng (v : Int) : told v ≠ 0 ∧ told v ≠ 4 ∧ told v ≠ 5 ∧ told v ≠ 12 ∧ told v ≠ 6 := by
  unfold told
  split
  · rename_i j hj
    have hlt := (find_some_lt hj).1
    have key : ∀ j : Fin 53, rng.getD (3 * j.val) 0 ≠ 0 ∧ rng.getD (3 * j.val) 0 ≠ 4 ∧ rng.getD (3 * j.val) 0 ≠ 5 ∧ rng.getD (3 * j.val) 0 ≠ 12 ∧ rng.getD (3 * j.val) 0 ≠ 6 := by decide +kernel
    exact key ⟨j, hlt⟩
  · split <;> omega
/-- What a class tells of its values. -/
theorem cls_what (v : Int) : (cls v = 0 ∧ rght v = false) ∨ (rght v = true ∧ ((cls v = 12 ∧ 1114240 ≤ v ∧ v ≤ 1114367) ∨ (cls v = 4 ∧ 0 ≤ v ∧ v < 32) ∨ (cls v = 5 ∧ v = 127) ∨ (cls v = 6 ∧ 128 ≤ v ∧ v < 160) ∨ (1 ≤ cls v ∧ cls v ≤ 11 ∧ cls v ≠ 4 ∧ cls v ≠ 5 ∧ cls v ≠ 6 ∧ 32 ≤ v ∧ v ≤ 1114111 ∧ (v < 55296 ∨ 57343 < v) ∧ v ≠ 127 ∧ (v < 128 ∨ 160 ≤ v)))) := by
  have h1 := pnt_cases v
  have h2 := stry_cases v
  have ht := told_rng v
  have hr := cls_rng v
  have e : cls v = if rght v = false then 0 else if 1114112 ≤ v then 12 else if v < 32 then 4 else if v = 127 then 5 else if 128 ≤ v ∧ v < 160 then 6 else if v < 160 then 1 else told v := rfl
  have hrr : rght v = (pnt v || stry v) := rfl
  cases hg : rght v
  · left; rw [hg, if_pos rfl] at e; exact ⟨e, rfl⟩
  · right
    refine ⟨rfl, ?_⟩
    rw [hg, if_neg (by simp)] at e
    rw [hg] at hrr
    by_cases c1 : 1114112 ≤ v
    · rw [if_pos c1] at e
      left
      rcases h1 with ⟨a, b⟩ | ⟨a, b⟩
      · omega
      · rcases h2 with ⟨a2, b2, b3⟩ | ⟨a2, b2⟩
        · exact ⟨e, b2, b3⟩
        · rw [a, a2] at hrr; simp at hrr
    · rw [if_neg c1] at e
      have hv : 0 ≤ v ∧ v < 55296 ∨ 57343 < v ∧ v ≤ 1114111 := by
        rcases h1 with ⟨a, b⟩ | ⟨a, b⟩
        · exact b
        · rcases h2 with ⟨a2, b2, b3⟩ | ⟨a2, b2⟩
          · omega
          · rw [a, a2] at hrr; simp at hrr
      by_cases c2 : v < 32
      · rw [if_pos c2] at e; right; left; exact ⟨e, by omega, c2⟩
      rw [if_neg c2] at e
      by_cases c3 : v = 127
      · rw [if_pos c3] at e; right; right; left; exact ⟨e, c3⟩
      rw [if_neg c3] at e
      by_cases c4 : 128 ≤ v ∧ v < 160
      · rw [if_pos c4] at e; right; right; right; left; exact ⟨e, c4.1, c4.2⟩
      rw [if_neg c4] at e
      right; right; right; right
      by_cases c5 : v < 160
      · rw [if_pos c5] at e; rw [e]; omega
      rw [if_neg c5] at e; rw [e] at hr ⊢; omega
/-- The cases of a shown text. -/
theorem sh_cases (v : Int) : (cls v = 0 ∧ shT v = ⟨#[]⟩) ∨ ((cls v = 1 ∨ cls v = 2 ∨ cls v = 3) ∧ 32 ≤ v ∧ v ≤ 1114111 ∧ (v < 55296 ∨ 57343 < v) ∧ shT v = txt (oneI v)) ∨ (cls v = 4 ∧ 0 ≤ v ∧ v < 32 ∧ shT v = ⟨#[94]⟩ ++ txt [v + 64]) ∨
    (cls v = 5 ∧ shT v = ⟨#[94, 63]⟩) ∨ (cls v = 12 ∧ 1114240 ≤ v ∧ v ≤ 1114367 ∧ shT v = ⟨#[92, 120]⟩ ++ ⟨(hexL (v - 1114112) 2).toArray⟩) ∨
    (6 ≤ cls v ∧ cls v ≤ 11 ∧ 128 ≤ v ∧ v ≤ 1114111 ∧ (v < 55296 ∨ 57343 < v) ∧ shT v = ⟨#[60, 85, 43]⟩ ++ ⟨(hexL v 4).toArray⟩ ++ ⟨#[62]⟩) := by
  have e : shT v = if cls v = 0 then ⟨#[]⟩ else if cls v ≤ 3 then txt (oneI v) else if cls v = 4 then ⟨#[94]⟩ ++ txt [v + 64] else if cls v = 5 then ⟨#[94, 63]⟩
    else if cls v = 12 then ⟨#[92, 120]⟩ ++ ⟨(hexL (v - 1114112) 2).toArray⟩ else ⟨#[60, 85, 43]⟩ ++ ⟨(hexL v 4).toArray⟩ ++ ⟨#[62]⟩ := rfl
  have hlow : v < 128 → 7 ≤ cls v → cls v ≤ 11 → False := fun h h2 h3 => by
    have key : ∀ i : Fin 128, ¬ (7 ≤ cls (i.val : Int) ∧ cls (i.val : Int) ≤ 11) := by decide +kernel
    rcases cls_what v with ⟨h0, _⟩ | ⟨_, ⟨h0, h4, h5⟩ | ⟨h0, _⟩ | ⟨h0, _⟩ | ⟨h0, _⟩ | ⟨_, _, _, _, _, h6, _⟩⟩ <;> try omega
    have := key ⟨v.toNat, by omega⟩
    simp only [] at this
    rw [show ((v.toNat : Nat) : Int) = v by omega] at this
    exact this ⟨h2, h3⟩
  rcases cls_what v with ⟨h0, _⟩ | ⟨_, ⟨h0, h4, h5⟩ | ⟨h0, h4, h5⟩ | ⟨h0, h4⟩ | ⟨h0, h4, h5⟩ | ⟨h1, h2, h3, h4, h5, h6, h7, h8, h9, h10⟩⟩
  · left; exact ⟨h0, by rw [e, if_pos h0]⟩
  · right; right; right; right; left; exact ⟨h0, h4, h5, by rw [e, h0, if_neg (by omega), if_neg (by omega), if_neg (by omega), if_neg (by omega), if_pos rfl]⟩
  · right; right; left; exact ⟨h0, h4, h5, by rw [e, h0, if_neg (by omega), if_neg (by omega), if_pos rfl]⟩
  · right; right; right; left; exact ⟨h0, by rw [e, h0, if_neg (by omega), if_neg (by omega), if_neg (by omega), if_pos rfl]⟩
  · right; right; right; right; right
    exact ⟨by omega, by omega, by omega, by omega, by omega, by rw [e, h0, if_neg (by omega), if_neg (by omega), if_neg (by omega), if_neg (by omega), if_neg (by omega)]⟩
  · by_cases c : cls v ≤ 3
    · right; left; exact ⟨by omega, h6, h7, h8, by rw [e, if_neg (by omega), if_pos c]⟩
    · right; right; right; right; right
      refine ⟨by omega, by omega, ?_, by omega, by omega, by rw [e, if_neg (by omega), if_neg c, if_neg h3, if_neg h4, if_neg (by omega)]⟩
      rcases Int.lt_or_le v 128 with hh | hh
      · exact (hlow hh (by omega) h2).elim
      · exact hh
theorem one_enc {v : Int} (h : 32 ≤ v) (h1 : v ≤ 1114111) (h2 : v < 55296 ∨ 57343 < v) : encS [v] = txt (oneI v) := by simp [encS, encI]
theorem ctl_enc {v : Int} (h : 0 ≤ v) (h1 : v < 32) : encS [v + 64] = txt [v + 64] := by
  have hp : ptB (v + 64) = true := (ptB_iff _).2 (by omega)
  simp [encS, encI, oneI_pt hp]
  rw [Lib.encodeRuneZ_one (by omega) (by omega)]
theorem row_one (w : World) (v : Int) : Row (w.alloc (.cells #[.int .i64 v] 3)) (some ⟨w.heap.size, 0, none⟩) [v] := fun j hj => by
  obtain rfl : j = 0 := by simp at hj; omega
  exact ⟨w.heap.size, 0, rfl, by rw [World.cell?_alloc_new]; rfl, by simp⟩
end Go.Proofs.YtmnjafceenckpaaDoor
set_option linter.unusedVariables false
set_option linter.unusedSimpArgs false
namespace Go.Proofs.YtmnjafceenckpaaDoor
open Go.RowKit
theorem hx16 {n : Int} (h : n ≤ 2000000) : n.toNat < 16 ^ 16 := Nat.lt_of_le_of_lt (show n.toNat ≤ 2000000 by omega) (by decide)
theorem right_cls {v : Int} (h1 : 32 ≤ v) (h2 : v ≤ 1114111) (h3 : v < 55296 ∨ 57343 < v) : rightB v = true := by
  unfold rightB; rw [Bool.or_eq_true]; left; rw [ptB_iff]; omega
/-- A value's columns. -/
def shC (v : Int) : Int := if 3 < cls v then ((shT v).size : Int) else wid v
theorem shC_big {v : Int} (h : 3 < cls v) : shC v = ((shT v).size : Int) := by unfold shC; rw [if_pos h]
theorem shC_small {v : Int} (h : ¬ 3 < cls v) : shC v = wid v := by unfold shC; rw [if_neg h]
theorem shT_size (v : Int) : (shT v).size ≤ 30 := by
  have hh := fun n l => hex_size n l
  rcases sh_cases v with ⟨_, hs⟩ | ⟨_, _, _, _, hs⟩ | ⟨_, _, _, hs⟩ | ⟨_, hs⟩ | ⟨_, _, _, hs⟩ | ⟨_, _, _, _, _, hs⟩
  · rw [hs]; decide
  · rw [hs, txt_size]; have := oneI_len v; omega
  · rw [hs, ByteArray.size_append, txt_size]; show 1 + 1 ≤ 30; omega
  · rw [hs]; decide
  · rw [hs, ByteArray.size_append]; have := hh (v - 1114112) 2; show 2 + _ ≤ 30; omega
  · rw [hs, ByteArray.size_append, ByteArray.size_append]; have := hh v 4; show 3 + _ + 1 ≤ 30; omega
/-- A sign's looks. -/
def lkI (v l : Int) : Int := (if 3 < cls v then 1 else 0) + (if l = 2 ∨ l = 3 ∨ l = 4 then 2 else 0) + (if cls v = 3 then 4 else 0)
theorem lk_rng (v l : Int) : 0 ≤ lkI v l ∧ lkI v l ≤ 7 := by unfold lkI; repeat' split
                                                             all_goals omega
end Go.Proofs.YtmnjafceenckpaaDoor
set_option linter.unusedVariables false
set_option linter.unusedSimpArgs false
namespace Go.Proofs.YtmnjafceenckpaaDoor
open Go.RowKit
def u8l (l : List Int) : List UInt8 := l.map fun x => x.toNat.toUInt8
theorem txt_list (l : List Int) : txt l = ⟨(u8l l).toArray⟩ := rfl
/-- The cases of a shown text, as lists. -/
theorem sh_lists (v : Int) : (cls v = 0 ∧ shT v = ⟨([] : List UInt8).toArray⟩) ∨ ((cls v = 1 ∨ cls v = 2 ∨ cls v = 3) ∧ 32 ≤ v ∧ v ≠ 127 ∧ v ≤ 1114111 ∧ (v < 55296 ∨ 57343 < v) ∧ shT v = ⟨(u8l (oneI v)).toArray⟩) ∨ (cls v = 4 ∧ 0 ≤ v ∧ v < 32 ∧ shT v = ⟨([94] ++ u8l [v + 64]).toArray⟩) ∨
    (cls v = 5 ∧ v = 127 ∧ shT v = ⟨[94, 63].toArray⟩) ∨ (cls v = 12 ∧ 1114240 ≤ v ∧ v ≤ 1114367 ∧ shT v = ⟨([92, 120] ++ hexL (v - 1114112) 2).toArray⟩) ∨
    (6 ≤ cls v ∧ cls v ≤ 11 ∧ 128 ≤ v ∧ v ≤ 1114111 ∧ (v < 55296 ∨ 57343 < v) ∧ shT v = ⟨([60, 85, 43] ++ hexL v 4 ++ [62]).toArray⟩) := by
  have hw := cls_what v
  rcases sh_cases v with ⟨h0, hs⟩ | ⟨h0, h1, h2, h3, hs⟩ | ⟨h0, h1, h2, hs⟩ | ⟨h0, hs⟩ | ⟨h0, h1, h2, hs⟩ | ⟨h0, h00, h1, h2, h3, hs⟩
  · left; exact ⟨h0, hs⟩
  · right; left
    refine ⟨h0, h1, ?_, h2, h3, hs⟩
    rcases hw with ⟨a, _⟩ | ⟨_, ⟨a, _⟩ | ⟨a, _⟩ | ⟨a, _⟩ | ⟨a, _⟩ | ⟨_, _, _, _, _, _, _, _, a, _⟩⟩ <;> omega
  · right; right; left; exact ⟨h0, h1, h2, by rw [hs, txt_list]; exact ba_app [94] _⟩
  · right; right; right; left
    refine ⟨h0, ?_, hs⟩
    rcases hw with ⟨a, _⟩ | ⟨_, ⟨a, _⟩ | ⟨a, _⟩ | ⟨a, b⟩ | ⟨a, _⟩ | ⟨_, _, _, _, _, _, _, _, a, _⟩⟩ <;> omega
  · right; right; right; right; left; exact ⟨h0, h1, h2, by rw [hs]; exact ba_app [92, 120] _⟩
  · right; right; right; right; right
    exact ⟨h0, h00, h1, h2, h3, by rw [hs]; rw [show (⟨#[60, 85, 43]⟩ : ByteArray) = ⟨([60, 85, 43] : List UInt8).toArray⟩ from rfl, show (⟨#[62]⟩ : ByteArray) = ⟨([62] : List UInt8).toArray⟩ from rfl, ba_app, ba_app]⟩
theorem dg_ok (k : Nat) : 48 ≤ (dg (k % 16)).toNat ∧ (dg (k % 16)).toNat ≤ 70 := by
  have key : ∀ j : Fin 16, 48 ≤ (dg j).toNat ∧ (dg j).toNat ≤ 70 := by decide
  exact key ⟨k % 16, Nat.mod_lt _ (by omega)⟩
theorem tell_ok : ∀ f n l, ∀ c ∈ tell 16 f n l, 48 ≤ c.toNat ∧ c.toNat ≤ 70
  | 0, _, _, c, h => by simp [tell] at h
  | f + 1, n, l, c, h => by
    rw [tell] at h
    split at h
    · simp at h
    · rw [List.mem_append] at h
      rcases h with h | h
      · exact tell_ok f _ _ c h
      · have : c = dg (n % 16) := by simpa using h
        rw [this]; exact dg_ok n
/-- How many digits there are. -/
theorem tell_len2 : ∀ f d n l, n < 16 ^ d → l ≤ d → d ≤ f → l ≤ (tell 16 f n l).length ∧ (tell 16 f n l).length ≤ d
  | 0, d, n, l, h, hl, hd => by simp [tell]; omega
  | f + 1, d, n, l, h, hl, hd => by
    rw [tell]
    split
    · rename_i h0; simp; omega
    · rename_i h0
      cases d with
      | zero => simp at h; omega
      | succ d =>
        have := tell_len2 f d (n / 16) (l - 1) (pow_step 16 d n (by omega) h) (by omega) (by omega)
        simp only [List.length_append, List.length_cons, List.length_nil]
        omega
theorem hexL_len (n l : Int) (d : Nat) (h : n.toNat < 16 ^ d) (hl : l.toNat ≤ d) (hd : d ≤ 20) : l.toNat ≤ (hexL n l).length ∧ (hexL n l).length ≤ d := tell_len2 20 d _ _ h hl hd
theorem u8l_len (l : List Int) : (u8l l).length = l.length := by simp [u8l]
theorem size_list (l : List UInt8) : (⟨l.toArray⟩ : ByteArray).size = l.length := by simp [ByteArray.size]
theorem shC_rng (v : Int) (h : cls v ≠ 0) : 1 ≤ shC v ∧ shC v ≤ 10 ∧ (3 < cls v → 2 ≤ shC v) := by
  have hw : wid v = if cls v = 2 then 2 else if cls v = 1 ∨ cls v = 3 then 1 else 0 := rfl
  rcases sh_lists v with ⟨h0, hs⟩ | ⟨h0, _, _, _, _, hs⟩ | ⟨h0, h1, h2, hs⟩ | ⟨h0, _, hs⟩ | ⟨h0, h1, h2, hs⟩ | ⟨h0, h00, h1, h2, h3, hs⟩
  · exact absurd h0 h
  · rw [shC_small (by omega), hw]
    refine ⟨?_, ?_, by omega⟩ <;> (split <;> (try split) <;> omega)
  · rw [shC_big (by omega), hs, size_list]; simp [u8l]
  · rw [shC_big (by omega), hs, size_list]; simp
  · rw [shC_big (by omega), hs, size_list]
    have := hexL_len (v - 1114112) 2 2 (by show _ < 256; omega) (by decide) (by omega)
    simp only [List.length_append, List.length_cons, List.length_nil]
    have e : (2 : Int).toNat = 2 := rfl
    omega
  · rw [shC_big (by omega), hs, size_list]
    have := hexL_len v 4 6 (by show _ < 16777216; omega) (by decide) (by omega)
    simp only [List.length_append, List.length_cons, List.length_nil]
    have e : (4 : Int).toNat = 4 := rfl
    omega
theorem shT_ne (v : Int) (h : cls v ≠ 0) : shT v ≠ ⟨#[]⟩ := by
  intro e
  have hsz : (shT v).size = 0 := by rw [e]; rfl
  rcases sh_lists v with ⟨h0, hs⟩ | ⟨h0, a, b, c, d, hs⟩ | ⟨h0, h1, h2, hs⟩ | ⟨h0, _, hs⟩ | ⟨h0, h1, h2, hs⟩ | ⟨h0, h00, h1, h2, h3, hs⟩
  · exact h h0
  · rw [hs, size_list, u8l_len] at hsz
    rw [oneI_pt ((ptB_iff v).2 (by omega))] at hsz
    rcases (by omega : v ≤ 127 ∨ (128 ≤ v ∧ v ≤ 2047) ∨ ((2048 ≤ v ∧ v < 55296) ∨ (57343 < v ∧ v ≤ 65535)) ∨ 65536 ≤ v) with k | ⟨k, k2⟩ | k | k
    · rw [Lib.encodeRuneZ_one (by omega) k] at hsz; simp at hsz
    · rw [Lib.encodeRuneZ_two k k2] at hsz; simp at hsz
    · rw [Lib.encodeRuneZ_three k] at hsz; simp at hsz
    · rw [Lib.encodeRuneZ_four k c] at hsz; simp at hsz
  · rw [hs, size_list] at hsz; simp at hsz
  · rw [hs, size_list] at hsz; simp at hsz
  · rw [hs, size_list] at hsz; simp at hsz
  · rw [hs, size_list] at hsz; simp at hsz
theorem rght_rightB (v : Int) : rightB v = rght v := by
  rw [Bool.eq_iff_iff]
  unfold rightB rght
  rw [Bool.or_eq_true, Bool.or_eq_true, ptB_iff, stB_iff]
  rcases pnt_cases v with ⟨a, b⟩ | ⟨a, b⟩ <;> rcases stry_cases v with ⟨c, d⟩ | ⟨c, d⟩ <;> rw [a, c] <;> simp <;> omega
theorem right_no {v : Int} (h : rightB v = false) : cls v = 0 ∧ shC v = 0 ∧ shT v = ⟨#[]⟩ := by
  rw [rght_rightB] at h
  have h0 : cls v = 0 := by unfold cls; rw [if_pos h]
  refine ⟨h0, ?_, ?_⟩
  · rw [shC_small (by omega)]; unfold wid; rw [h0]; rfl
  · unfold shT; rw [if_pos h0]
theorem right_yes {v : Int} (h : rightB v = true) : cls v ≠ 0 := by
  rw [rght_rightB] at h
  rcases cls_what v with ⟨_, h1⟩ | ⟨_, h1⟩
  · rw [h] at h1; cases h1
  · omega
theorem u8_val (x : Int) (h0 : 0 ≤ x) (h1 : x < 256) : ((x.toNat.toUInt8).toNat : Int) = x := by rw [u8_nat h0 h1]; omega
/-- No byte of a shown text is a control. -/
theorem sh_bytes (v : Int) : ∀ c ∈ (shT v).data.toList, 32 ≤ c.toNat ∧ c.toNat ≠ 127 := by
  intro c hc
  rcases sh_lists v with ⟨h0, hs⟩ | ⟨h0, a, b, k, d, hs⟩ | ⟨h0, h1, h2, hs⟩ | ⟨h0, _, hs⟩ | ⟨h0, h1, h2, hs⟩ | ⟨h0, h00, h1, h2, h3, hs⟩
  · rw [hs] at hc; simp at hc
  · rw [hs] at hc
    have hc' : c ∈ u8l (oneI v) := hc
    rw [u8l, List.mem_map] at hc'
    obtain ⟨x, hx, rfl⟩ := hc'
    rw [oneI_pt ((ptB_iff v).2 (by omega))] at hx
    have key : 32 ≤ x ∧ x ≠ 127 ∧ x < 256 := by
      rcases (by omega : v ≤ 127 ∨ (128 ≤ v ∧ v ≤ 2047) ∨ ((2048 ≤ v ∧ v < 55296) ∨ (57343 < v ∧ v ≤ 65535)) ∨ 65536 ≤ v) with e | ⟨e, e2⟩ | e | e
      · rw [Lib.encodeRuneZ_one (by omega) e] at hx; simp at hx; omega
      · rw [Lib.encodeRuneZ_two e e2] at hx; simp at hx; rcases hx with rfl | rfl <;> omega
      · rw [Lib.encodeRuneZ_three e] at hx; simp at hx; rcases hx with rfl | rfl | rfl <;> omega
      · rw [Lib.encodeRuneZ_four e k] at hx; simp at hx; rcases hx with rfl | rfl | rfl | rfl <;> omega
    have := u8_val x (by omega) key.2.2
    omega
  · rw [hs] at hc
    have hc' : c ∈ [94] ++ u8l [v + 64] := hc
    simp [u8l] at hc'
    rcases hc' with rfl | rfl
    · decide
    · have := u8_val (v + 64) (by omega) (by omega); simp at this ⊢; omega
  · rw [hs] at hc
    have hc' : c ∈ ([94, 63] : List UInt8) := hc
    simp at hc'
    rcases hc' with rfl | rfl <;> decide
  · rw [hs] at hc
    have hc' : c ∈ [92, 120] ++ hexL (v - 1114112) 2 := hc
    rw [List.mem_append] at hc'
    rcases hc' with hc' | hc'
    · simp at hc'; rcases hc' with rfl | rfl <;> decide
    · have := tell_ok _ _ _ c hc'; omega
  · rw [hs] at hc
    have hc' : c ∈ [60, 85, 43] ++ hexL v 4 ++ [62] := hc
    rw [List.mem_append, List.mem_append] at hc'
    rcases hc' with (hc' | hc') | hc'
    · simp at hc'; rcases hc' with rfl | rfl | rfl <;> decide
    · have := tell_ok _ _ _ c hc'; omega
    · simp at hc'; rw [hc']; decide
theorem sh_byte (v : Int) (k : Nat) (h : k < (shT v).size) : 32 ≤ (shT v)[k].toNat ∧ (shT v)[k].toNat ≠ 127 := by
  refine sh_bytes v _ ?_
  show (shT v).data[k] ∈ (shT v).data.toList
  rw [Array.mem_toList_iff]; exact Array.getElem_mem _
theorem hexL_inj {n m l : Int} (h0 : 0 ≤ n) (h1 : 0 ≤ m) (hn : n ≤ 2000000) (hm : m ≤ 2000000) (h : hexL n l = hexL m l) : n = m := by
  have a := dv_tell 16 (by omega) (by omega) 20 n.toNat l.toNat (Nat.lt_of_le_of_lt (show n.toNat ≤ 2000000 by omega) (by decide))
  have b := dv_tell 16 (by omega) (by omega) 20 m.toNat l.toNat (Nat.lt_of_le_of_lt (show m.toNat ≤ 2000000 by omega) (by decide))
  unfold hexL at h
  rw [h, b] at a
  omega
theorem u8l_inj {a b : List Int} (ha : ∀ x ∈ a, 0 ≤ x ∧ x < 256) (hb : ∀ x ∈ b, 0 ≤ x ∧ x < 256) (h : u8l a = u8l b) : a = b := by
  have e : txt a = txt b := by rw [txt_list, txt_list, h]
  rw [← bytesOf_txt a ha, ← bytesOf_txt b hb, e]
theorem oneI_inj {v w : Int} (h1 : 0 ≤ v ∧ v < 55296 ∨ 57343 < v ∧ v ≤ 1114111) (h2 : 0 ≤ w ∧ w < 55296 ∨ 57343 < w ∧ w ≤ 1114111) (h : oneI v = oneI w) : v = w := by
  rw [oneI_pt ((ptB_iff v).2 h1), oneI_pt ((ptB_iff w).2 h2)] at h
  have f : ∀ v : Int, (0 ≤ v ∧ v < 55296 ∨ 57343 < v ∧ v ≤ 1114111) → (v ≤ 127 ∧ Lib.encodeRuneZ v = [v]) ∨ (128 ≤ v ∧ v ≤ 2047 ∧ Lib.encodeRuneZ v = [192 + v / 64, 128 + v % 64]) ∨ (2048 ≤ v ∧ v ≤ 65535 ∧ Lib.encodeRuneZ v = [224 + v / 4096, 128 + v / 64 % 64, 128 + v % 64]) ∨ (65536 ≤ v ∧ Lib.encodeRuneZ v = [240 + v / 262144, 128 + v / 4096 % 64, 128 + v / 64 % 64, 128 + v % 64]) := fun v hv => by
    rcases (by omega : v ≤ 127 ∨ (128 ≤ v ∧ v ≤ 2047) ∨ ((2048 ≤ v ∧ v < 55296) ∨ (57343 < v ∧ v ≤ 65535)) ∨ 65536 ≤ v) with k | ⟨k, k2⟩ | k | k
    · left; exact ⟨k, Lib.encodeRuneZ_one (by omega) k⟩
    · right; left; exact ⟨k, k2, Lib.encodeRuneZ_two k k2⟩
    · right; right; left; exact ⟨by omega, by omega, Lib.encodeRuneZ_three k⟩
    · right; right; right; exact ⟨k, Lib.encodeRuneZ_four k (by omega)⟩
  rcases f v h1 with ⟨a, e⟩ | ⟨a, a2, e⟩ | ⟨a, a2, e⟩ | ⟨a, e⟩ <;> rcases f w h2 with ⟨b, e'⟩ | ⟨b, b2, e'⟩ | ⟨b, b2, e'⟩ | ⟨b, e'⟩ <;> rw [e, e'] at h <;> simp at h <;> omega
theorem list_of {a b : List UInt8} (h : (⟨a.toArray⟩ : ByteArray) = ⟨b.toArray⟩) : a = b := by simpa using h
/-- Unlike values are shown by unlike texts, or just one of them is dangerous. -/
theorem sh_apart {v w : Int} (hv : cls v ≠ 0) (hw : cls w ≠ 0) (hd : (3 < cls v) ↔ (3 < cls w)) (h : shT v = shT w) : v = w := by
  rcases sh_lists v with ⟨h0, hs⟩ | ⟨h0, a, b, k, d, hs⟩ | ⟨h0, h1, h2, hs⟩ | ⟨h0, h1, hs⟩ | ⟨h0, h1, h2, hs⟩ | ⟨h0, h00, h1, h2, h3, hs⟩
  · exact absurd h0 hv
  · rcases sh_lists w with ⟨h0', hs'⟩ | ⟨h0', a', b', k', d', hs'⟩ | ⟨h0', h1', h2', hs'⟩ | ⟨h0', h1', hs'⟩ | ⟨h0', h1', h2', hs'⟩ | ⟨h0', h00', h1', h2', h3', hs'⟩ <;> try omega
    rw [hs, hs'] at h
    exact oneI_inj (by omega) (by omega) (u8l_inj (oneI_byte v) (oneI_byte w) (list_of h))
  · rcases sh_lists w with ⟨h0', hs'⟩ | ⟨h0', a', b', k', d', hs'⟩ | ⟨h0', h1', h2', hs'⟩ | ⟨h0', h1', hs'⟩ | ⟨h0', h1', h2', hs'⟩ | ⟨h0', h00', h1', h2', h3', hs'⟩ <;> try omega
    all_goals
      rw [hs, hs'] at h
      have e := list_of h
      simp [u8l] at e
    · have x : ((UInt8.ofNat (v + 64).toNat).toNat : Int) = v + 64 := u8_val (v + 64) (by omega) (by omega)
      have y : ((UInt8.ofNat (w + 64).toNat).toNat : Int) = w + 64 := u8_val (w + 64) (by omega) (by omega)
      rw [e] at x
      omega
    · have x : ((UInt8.ofNat (v + 64).toNat).toNat : Int) = v + 64 := u8_val (v + 64) (by omega) (by omega)
      rw [e] at x
      have : ((63 : UInt8).toNat : Int) = 63 := rfl
      omega
  · rcases sh_lists w with ⟨h0', hs'⟩ | ⟨h0', a', b', k', d', hs'⟩ | ⟨h0', h1', h2', hs'⟩ | ⟨h0', h1', hs'⟩ | ⟨h0', h1', h2', hs'⟩ | ⟨h0', h00', h1', h2', h3', hs'⟩ <;> try omega
    all_goals
      rw [hs, hs'] at h
      have e := list_of h
      simp [u8l] at e
    have y : ((UInt8.ofNat (w + 64).toNat).toNat : Int) = w + 64 := u8_val (w + 64) (by omega) (by omega)
    rw [← e] at y
    have : ((63 : UInt8).toNat : Int) = 63 := rfl
    omega
  · rcases sh_lists w with ⟨h0', hs'⟩ | ⟨h0', a', b', k', d', hs'⟩ | ⟨h0', h1', h2', hs'⟩ | ⟨h0', h1', hs'⟩ | ⟨h0', h1', h2', hs'⟩ | ⟨h0', h00', h1', h2', h3', hs'⟩ <;> try omega
    all_goals
      rw [hs, hs'] at h
      have e := list_of h
      simp at e
    have := hexL_inj (by omega) (by omega) (by omega) (by omega) e
    omega
  · rcases sh_lists w with ⟨h0', hs'⟩ | ⟨h0', a', b', k', d', hs'⟩ | ⟨h0', h1', h2', hs'⟩ | ⟨h0', h1', hs'⟩ | ⟨h0', h1', h2', hs'⟩ | ⟨h0', h00', h1', h2', h3', hs'⟩ <;> try omega
    all_goals
      rw [hs, hs'] at h
      have e := list_of h
      simp at e
    exact hexL_inj (by omega) (by omega) (by omega) (by omega) e
end Go.Proofs.YtmnjafceenckpaaDoor
set_option linter.unusedVariables false
set_option linter.unusedSimpArgs false
namespace Go.Proofs.YtmnjafceenckpaaDoor
open Go.RowKit
theorem infoU8 : (Tryd.prog.info? 5).map (fun i => (i.zero, i.size, i.bytes)) = some (some (.int .u8 0), 1, 1) := by kernel_rfl
end Go.Proofs.YtmnjafceenckpaaDoor
namespace Go.Proofs.YtmnjafceenckpaaDoor
open Go.RowKit
theorem toList_len (s : ByteArray) : s.toList.length = s.size := by rw [ByteArray.toList_eq]; exact Array.length_toList
def pB (s : ByteArray) : Bool := decide (0 < s.size) && partB s
theorem row_own {w : World} {B : Nat} {v : Value} {l : List Int} (h : w.ownsRow B 3 1 v l.length (l.map (Value.int .i64))) : ∃ a cap, v = .slice a l.length cap ∧ Row w a l := by
  rcases h.2 with ⟨rfl, h0⟩ | ⟨g, cap, cur, rfl, _, hg, _⟩
  · exact ⟨none, 0, by rw [h0], fun j hj => by omega⟩
  · refine ⟨_, cap, rfl, fun j hj => ⟨g, 0, rfl, ?_, (Array.getElem?_eq_some_iff.1 hg).1⟩⟩
    have := h.cells (g := g) rfl j (.int .i64 (l.getD j 0)) (by simp [List.getElem?_eq_getElem hj, List.getD])
    have hadd : (⟨g, 0, none⟩ : Addr).add j = ⟨g, 0 + j, none⟩ := by unfold Addr.add; split <;> simp_all
    rw [← hadd]; exact this
def lit1 : ByteArray := ⟨#[195, 169, 195]⟩
def lit2 : ByteArray := ⟨#[226, 130, 172, 120]⟩
theorem v1 : valsS lit1 = [233, 1114307] := by decide +kernel
theorem v2 : oneS lit2 = (8364, 3) := by decide +kernel
theorem v3 : (valsS ⟨#[97, 98]⟩).length = 2 := by decide +kernel
theorem v4 : pB ⟨#[226, 130]⟩ = true := by decide +kernel
theorem v5 : rightB 65 = true := by decide +kernel
theorem v6 : encS [233, 1114307] = lit1 := by rw [← v1]; exact encS_vals lit1
end Go.Proofs.YtmnjafceenckpaaDoor
set_option linter.unusedVariables false
set_option linter.unusedSimpArgs false
namespace Go.Proofs.YtmnjafceenckpaaDoor
open Go.RowKit
theorem rowV_eq (a b : Int) (c d : List UInt8) : rowV (a, b, c, d) = .agg #[.int .i64 a, .int .i64 b, .string ⟨c.toArray⟩, .string ⟨d.toArray⟩] := rfl
theorem kFrom_hit {kind v : Int} {k : Nat} {r : KRow} (h : kFrom kind v k = kFind kind v) (hk : k < 13) (e : kTab.getD k kr0 = r) (h1 : r.1 = kind) (h2 : r.2.1 = v) : kFind kind v = some r := by
  rw [← h, kFrom_step kind v k hk, e, if_pos ⟨h1, h2⟩]
theorem kFrom_miss {kind v : Int} {k : Nat} {r : KRow} (h : kFrom kind v k = kFind kind v) (hk : k < 13) (e : kTab.getD k kr0 = r) (h1 : ¬ (r.1 = kind ∧ r.2.1 = v)) : kFrom kind v (k + 1) = kFind kind v := by
  rw [← h, kFrom_step kind v k hk, e, if_neg h1]
/-- Four stores into a block. -/
theorem four_set {w : World} {b : Nat} {x0 x1 x2 x3 : Value} {T : TypeId} {f : Nat × Nat} (h : w.heap[b]? = some (.cells #[x0, x1, x2, x3] T f)) (v0 v1 v2 v3 : Value) :
    ((((w.setCell ⟨b, 0, none⟩ v0).setCell ⟨b, 1, none⟩ v1).setCell ⟨b, 2, none⟩ v2).setCell ⟨b, 3, none⟩ v3).heap[b]? = some (.cells #[v0, v1, v2, v3] T f) :=
  blk_set (blk_set (blk_set (blk_set h 0 _) 1 _) 2 _) 3 _
theorem four_below (w w0 : World) (b : Nat) (v0 v1 v2 v3 : Value) (hb : w0.heap.size ≤ b) (h : Below w0.heap.size w0 w) :
    Below w0.heap.size w0 ((((w.setCell ⟨b, 0, none⟩ v0).setCell ⟨b, 1, none⟩ v1).setCell ⟨b, 2, none⟩ v2).setCell ⟨b, 3, none⟩ v3) :=
  (((h.setCell (p := ⟨b, 0, none⟩) hb v0).setCell (p := ⟨b, 1, none⟩) hb v1).setCell (p := ⟨b, 2, none⟩) hb v2).setCell (p := ⟨b, 3, none⟩) hb v3
end Go.Proofs.YtmnjafceenckpaaDoor
set_option linter.unusedVariables false
set_option linter.unusedSimpArgs false
namespace Go.Proofs.YtmnjafceenckpaaDoor
open Go.RowKit
theorem kcell (w : World) (v : Value) (t : TypeId) : (w.alloc (.cells #[v] t)).cell? ⟨w.heap.size, 0, none⟩ = some v := by rw [World.cell?_alloc_new]; rfl
theorem may_sign (v : Int) : kmB 1 v = (decide (32 ≤ v) && decide (v ≠ 127) && rightB v) := by unfold kmB; rw [if_pos rfl]
theorem may_ctrl (v : Int) : kmB 2 v = ctB v := by unfold kmB; rw [if_neg (by decide), if_pos rfl]
theorem may_meta (v : Int) : kmB 3 v = (decide (0 ≤ v ∧ v < 128) && !lnB v) := by unfold kmB; rw [if_neg (by decide), if_neg (by decide), if_pos rfl]
theorem may_other (kind v : Int) (h1 : kind ≠ 1) (h2 : kind ≠ 2) (h3 : kind ≠ 3) : kmB kind v = (kFind kind v).isSome := by unfold kmB; rw [if_neg h1, if_neg h2, if_neg h3]
/-- A key as a value. -/
def kyV (k : Ky) : Value := .agg #[.int .i64 k.1, .int .i64 k.2.1, .string k.2.2.1, .bool k.2.2.2]
theorem key_paste (v : Int) (t : ByteArray) (c : Bool) : keyB (15, v, t, c) = (decide (v = 0) && decide (t.size ≤ 65536)) := by unfold keyB; rw [if_pos rfl]
theorem key_other (kind v : Int) (t : ByteArray) (c : Bool) (h : kind ≠ 15) : keyB (kind, v, t, c) = (decide (t.size = 0) && !c && kmB kind v) := by unfold keyB; rw [if_neg h]
theorem kstr_ne {s t : ByteArray} (h : ¬ s = t) : (s.toList == t.toList) = false ∧ (s.toList != t.toList) = true ∧ ¬ s.toList = t.toList := by
  have h1 : ¬ s.toList = t.toList := by rw [ByteArray.toList_eq, ByteArray.toList_eq]; intro e; exact h (ByteArray.ext (Array.ext' e))
  exact ⟨by simpa using h1, by simpa using h1, h1⟩
theorem kstr_nil {t : ByteArray} (h : ¬ t = ⟨#[]⟩) : ¬ t.toList = [] := by
  have h1 := (kstr_ne h).2.2
  rwa [show (⟨#[]⟩ : ByteArray).toList = [] by rw [ByteArray.toList_eq]] at h1
def ckE (k : Ky) : Int := if keyB k then 0 else 2
theorem ckE_yes {k : Ky} (h : keyB k = true) : ckE k = 0 := by unfold ckE; rw [h]; rfl
theorem ckE_no {k : Ky} (h : keyB k = false) : ckE k = 2 := by unfold ckE; rw [h]; rfl
end Go.Proofs.YtmnjafceenckpaaDoor
set_option linter.unusedVariables false
set_option linter.unusedSimpArgs false
namespace Go.Proofs.YtmnjafceenckpaaDoor
open Go.RowKit
def sideI (n : Int) : Bool := decide (1 ≤ n) && decide (n ≤ 1000)
/-- What is sent of looks, ahead of the letter. -/
def lkL : List (List UInt8) := [[48], [48, 59, 55], [48, 59, 52], [48, 59, 55, 59, 52], [48, 59, 49], [48, 59, 55, 59, 49], [48, 59, 52, 59, 49], [48, 59, 55, 59, 52, 59, 49]]
def lkT (n : Int) : List UInt8 := lkL.getD n.toNat []
/-- A piece's bytes. -/
def byL (o : Ot) : List UInt8 :=
  if o.1 = 0 then bL o.2.2.2 else if o.1 = 6 then [7] else if o.1 = 7 then [13] else if o.1 = 8 then [10]
  else if o.1 = 1 then 27 :: 91 :: (decS o.2.1 ++ 59 :: (decS o.2.2.1 ++ [72])) else if o.1 = 2 then [27, 91, 50, 74] else if o.1 = 3 then [27, 91, 75]
  else if o.1 = 4 then 27 :: 91 :: (lkT o.2.1 ++ [109]) else if o.2.1 = 1 then [27, 91, 63, 50, 48, 48, 52, 104] else [27, 91, 63, 50, 48, 48, 52, 108]
def bt (o : Ot) : ByteArray := mkB (byL o)
/-- May a piece be? -/
def mayP (o : Ot) : Bool :=
  if o.1 = 0 then decide (o.2.1 = 0) && (decide (o.2.2.1 = 0) && (decide (0 < o.2.2.2.size) && allW o.2.2.2))
  else decide (o.2.2.2.size = 0) && (if o.1 = 1 then sideI o.2.1 && sideI o.2.2.1 else decide (o.2.2.1 = 0) && (if o.1 = 4 then decide (0 ≤ o.2.1) && decide (o.2.1 ≤ 7) else if o.1 = 5 then decide (o.2.1 = 0) || decide (o.2.1 = 1) else (decide (2 ≤ o.1) && decide (o.1 ≤ 8)) && decide (o.2.1 = 0)))
/-- The kinds of pieces that may be. -/
inductive Pc : Ot → Prop where
  | text (t : ByteArray) (h : 0 < t.size) (hw : allW t = true) : Pc (0, 0, 0, t)
  | move (n m : Int) (h1 : 1 ≤ n) (h2 : n ≤ 1000) (h3 : 1 ≤ m) (h4 : m ≤ 1000) : Pc (1, n, m, mt)
  | erase : Pc (2, 0, 0, mt)
  | rest : Pc (3, 0, 0, mt)
  | looks (n : Int) (h1 : 0 ≤ n) (h2 : n ≤ 7) : Pc (4, n, 0, mt)
  | paste1 : Pc (5, 1, 0, mt)
  | paste0 : Pc (5, 0, 0, mt)
  | bell : Pc (6, 0, 0, mt)
  | cr : Pc (7, 0, 0, mt)
  | lf : Pc (8, 0, 0, mt)
theorem pc_of {o : Ot} (h : mayP o = true) : Pc o := by
  obtain ⟨k, n, m, t⟩ := o
  unfold mayP at h
  dsimp only at h
  split at h
  · rename_i hk
    simp only [Bool.and_eq_true, decide_eq_true_eq] at h
    obtain ⟨rfl, rfl, h1, h2⟩ := h
    rw [hk]; exact .text t h1 h2
  · rename_i hk
    rw [Bool.and_eq_true, decide_eq_true_eq] at h
    obtain ⟨h0, h⟩ := h
    obtain rfl := size0 h0
    split at h
    · rename_i h1
      unfold sideI at h
      simp only [Bool.and_eq_true, decide_eq_true_eq] at h
      obtain ⟨⟨a, b⟩, c, d⟩ := h
      rw [h1]; exact .move n m a b c d
    · rename_i h1
      rw [Bool.and_eq_true, decide_eq_true_eq] at h
      obtain ⟨rfl, h⟩ := h
      split at h
      · rename_i h4
        simp only [Bool.and_eq_true, decide_eq_true_eq] at h
        rw [h4]; exact .looks n h.1 h.2
      · rename_i h4
        split at h
        · rename_i h5
          simp only [Bool.or_eq_true, decide_eq_true_eq] at h
          rw [h5]
          rcases h with rfl | rfl
          · exact .paste0
          · exact .paste1
        · rename_i h5
          simp only [Bool.and_eq_true, decide_eq_true_eq] at h
          obtain ⟨⟨a, b⟩, rfl⟩ := h
          have : k = 2 ∨ k = 3 ∨ k = 6 ∨ k = 7 ∨ k = 8 := by omega
          rcases this with rfl | rfl | rfl | rfl | rfl
          · exact .erase
          · exact .rest
          · exact .bell
          · exact .cr
          · exact .lf
theorem mt_size : mt.size = 0 := rfl
theorem may_of {o : Ot} (h : Pc o) : mayP o = true := by
  cases h with
  | text t h hw => unfold mayP; rw [if_pos rfl]; simp [h, hw]
  | move n m h1 h2 h3 h4 => simp [mayP, sideI, h1, h2, h3, h4, mt_size]
  | looks n h1 h2 => simp [mayP, h1, h2, mt_size]
  | _ => rfl
theorem by_text (t : ByteArray) (n m : Int) : bt (0, n, m, t) = t := by unfold bt byL; rw [if_pos rfl]; exact mkB_bL t
/-- The reading of controls. -/
def ltF (s : ByteArray) : Nat → Nat → Option Nat
  | 0, _ => none
  | f + 1, i => if i < s.size ∧ i ≤ 11 then if 64 ≤ (s.get! i).toNat then some i else ltF s f (i + 1) else none
def ltr (s : ByteArray) : Option Nat := ltF s 10 2
def lkF (body : List UInt8) : Option Nat := (List.range 8).find? fun n => lkL.getD n [] == body
/-- Which piece a letter is of. -/
def ctl (body : ByteArray) (e : Nat) : Ot × Bool :=
  if e = 72 then ((1, undR (Lib.cut (bL body) [59]).1, undR (Lib.cut (bL body) [59]).2.1, mt), decide (undE (Lib.cut (bL body) [59]).1 = 0) && decide (undE (Lib.cut (bL body) [59]).2.1 = 0))
  else if e = 74 then ((2, 0, 0, mt), true) else if e = 75 then ((3, 0, 0, mt), true)
  else if e = 109 then (match lkF (bL body) with | some n => ((4, (n : Int), 0, mt), true) | none => (ot0, false))
  else if e = 104 then ((5, 1, 0, mt), true) else if e = 108 then ((5, 0, 0, mt), true) else (ot0, false)
/-- The piece of a control. -/
def oneC (s : ByteArray) : Ot × Nat :=
  match ltr s with
  | none => (ot0, 0)
  | some e => if (ctl (s.extract 2 e) (s.get! e).toNat).2 = true ∧ mayP (ctl (s.extract 2 e) (s.get! e).toNat).1 = true ∧ bt (ctl (s.extract 2 e) (s.get! e).toNat).1 = s.extract 0 (e + 1) then ((ctl (s.extract 2 e) (s.get! e).toNat).1, e + 1) else (ot0, 0)
/-- The piece that a text begins with. -/
def oneP (s : ByteArray) : Ot × Nat :=
  if 0 < tl s then ((0, 0, 0, s.extract 0 (tl s)), tl s) else if s.size = 0 then (ot0, 0)
  else if (s.get! 0).toNat = 7 then ((6, 0, 0, mt), 1) else if (s.get! 0).toNat = 13 then ((7, 0, 0, mt), 1) else if (s.get! 0).toNat = 10 then ((8, 0, 0, mt), 1)
  else if Lib.hasPrefix (bL s) [27, 91] = false then (ot0, 0) else oneC s
theorem ctl_kind {b : ByteArray} {e : Nat} (h : (ctl b e).2 = true) : (ctl b e).1.1 ≠ 0 := by
  unfold ctl at h ⊢
  by_cases a1 : e = 72
  · rw [if_pos a1]; show (1 : Int) ≠ 0; decide
  rw [if_neg a1] at h ⊢
  by_cases a2 : e = 74
  · rw [if_pos a2]; show (2 : Int) ≠ 0; decide
  rw [if_neg a2] at h ⊢
  by_cases a3 : e = 75
  · rw [if_pos a3]; show (3 : Int) ≠ 0; decide
  rw [if_neg a3] at h ⊢
  by_cases a4 : e = 109
  · rw [if_pos a4] at h ⊢
    cases hl : lkF (bL b) with
    | none => rw [hl] at h; cases h
    | some n => show (4 : Int) ≠ 0; decide
  rw [if_neg a4] at h ⊢
  by_cases a5 : e = 104
  · rw [if_pos a5]; show (5 : Int) ≠ 0; decide
  rw [if_neg a5] at h ⊢
  by_cases a6 : e = 108
  · rw [if_pos a6]; show (5 : Int) ≠ 0; decide
  rw [if_neg a6] at h; cases h
theorem ltF_some {s : ByteArray} : ∀ f i e, ltF s f i = some e → i ≤ e ∧ e < s.size ∧ e ≤ 11
  | 0, _, _, h => by simp [ltF] at h
  | f + 1, i, e, h => by
    rw [ltF] at h
    split at h
    · rename_i hi
      split at h
      · obtain rfl := Option.some.inj h; omega
      · have := ltF_some f (i + 1) e h; omega
    · cases h
theorem extOne (s : ByteArray) (h : 0 < s.size) : s.extract 0 1 = mkB [s.get! 0] := by
  apply bL_inj
  rw [bL_ext, bL_mkB, List.drop_zero]
  have h1 : 0 < (bL s).length := by rw [bL_len]; exact h
  rw [List.take_succ_eq_append_getElem h1, List.take_zero, List.nil_append, get_get s 0 h]; rfl
theorem one_sound {s : ByteArray} (h : (oneP s).2 ≠ 0) : mayP (oneP s).1 = true ∧ bt (oneP s).1 = s.extract 0 (oneP s).2 ∧ (oneP s).2 ≤ s.size ∧ ((oneP s).1.1 = 0 → 0 < tl s ∧ (oneP s).2 = tl s) := by
  unfold oneP at h ⊢
  split
  · rename_i ht
    refine ⟨?_, by_text _ _ _, tl_le s, fun _ => ⟨ht, rfl⟩⟩
    refine may_of (.text _ ?_ (allW_take s))
    have := tl_le s
    rw [ByteArray.size_extract]; omega
  · rename_i ht
    rw [if_neg ht] at h
    split
    · rename_i h0; rw [if_pos h0] at h; exact absurd rfl h
    · rename_i h0
      have hs : 0 < s.size := by omega
      have hc : (s.get! 0) = UInt8.ofNat (s.get! 0).toNat := by simp
      split
      · rename_i h7
        rw [h7] at hc
        refine ⟨rfl, ?_, hs, fun e => absurd e (by decide)⟩
        rw [extOne s hs, hc]; rfl
      · split
        · rename_i _ h13
          rw [h13] at hc
          refine ⟨rfl, ?_, hs, fun e => absurd e (by decide)⟩
          rw [extOne s hs, hc]; rfl
        · split
          · rename_i _ _ h10
            rw [h10] at hc
            refine ⟨rfl, ?_, hs, fun e => absurd e (by decide)⟩
            rw [extOne s hs, hc]; rfl
          · rename_i h7 h13 h10
            rw [if_neg h0, if_neg h7, if_neg h13, if_neg h10] at h
            split
            · rename_i hp; rw [if_pos hp] at h; exact absurd rfl h
            · rename_i hp
              rw [if_neg hp] at h
              unfold oneC at h ⊢
              cases hl : ltr s with
              | none => rw [hl] at h; exact absurd rfl h
              | some e =>
                rw [hl] at h
                dsimp only at h ⊢
                have he := ltF_some _ _ _ hl
                split
                · rename_i hh
                  refine ⟨hh.2.1, hh.2.2, by omega, fun hk => ?_⟩
                  exact absurd hk (ctl_kind hh.1)
                · rename_i hh; rw [if_neg hh] at h; exact absurd rfl h
theorem get_bL (s : ByteArray) (k : Nat) (h : k < s.size) : s.get! k = (bL s).getD k 0 := by
  rw [get_get s k h, List.getD, List.getElem?_eq_getElem (by rw [bL_len]; exact h)]; rfl
theorem size_mkB (l : List UInt8) (r : ByteArray) : (mkB l ++ r).size = l.length + r.size := by rw [← bL_len, bL_app, bL_mkB, List.length_append, bL_len]
theorem get_mkB (l : List UInt8) (r : ByteArray) (k : Nat) (h : k < l.length) : (mkB l ++ r).get! k = l.getD k 0 := by
  rw [get_bL _ _ (by rw [size_mkB]; omega), bL_app, bL_mkB, List.getD, List.getD, List.getElem?_append_left h]
theorem ltF_at {s : ByteArray} : ∀ j f i, (∀ k, k < j → (s.get! (i + k)).toNat < 64) → 64 ≤ (s.get! (i + j)).toNat → i + j < s.size → i + j ≤ 11 → j < f → ltF s f i = some (i + j)
  | _, 0, _, _, _, _, _, hf => absurd hf (by omega)
  | 0, f + 1, i, _, h2, h3, h4, _ => by
    have h2' : 64 ≤ (s.get! i).toNat := h2
    rw [ltF, if_pos ⟨h3, h4⟩, if_pos h2']; rfl
  | j + 1, f + 1, i, h1, h2, h3, h4, hf => by
    have h0 := h1 0 (by omega)
    rw [Nat.add_zero] at h0
    rw [ltF, if_pos ⟨by omega, by omega⟩, if_neg (by omega), ltF_at j f (i + 1) (fun k hk => by have := h1 (k + 1) (by omega); rwa [show i + 1 + k = i + (k + 1) by omega]) (by rw [show i + 1 + j = i + (j + 1) by omega]; exact h2) (by omega) (by omega) (by omega)]
    rw [show i + 1 + j = i + (j + 1) by omega]
/-- A control is read. -/
theorem one_ctl {o : Ot} {body : List UInt8} {x : UInt8} (r : ByteArray) (hb : ∀ c ∈ body, c.toNat < 64) (hx : 64 ≤ x.toNat) (hl : body.length ≤ 9) (hc : ctl (mkB body) x.toNat = (o, true)) (ho : mayP o = true) (he : bt o = mkB (27 :: 91 :: (body ++ [x]))) :
    oneP (bt o ++ r) = (o, (bt o).size) := by
  have hbt : (bt o).size = body.length + 3 := by rw [he, ← bL_len, bL_mkB]; simp
  have hsz : (bt o ++ r).size = body.length + 3 + r.size := by rw [he, size_mkB]; simp
  have hg : ∀ k, k < body.length + 3 → (bt o ++ r).get! k = (27 :: 91 :: (body ++ [x])).getD k 0 := fun k hk => by
    rw [he]; exact get_mkB _ _ _ (by simp; omega)
  have hL : bL (bt o ++ r) = 27 :: 91 :: (body ++ (x :: bL r)) := by rw [bL_app, he, bL_mkB]; simp
  have g0 : ((bt o ++ r).get! 0).toNat = 27 := by rw [hg 0 (by omega)]; rfl
  have ht : tl (bt o ++ r) = 0 := tl_low _ (by omega) (by omega)
  have gb : ∀ k, k < body.length → ((bt o ++ r).get! (2 + k)).toNat < 64 := fun k hk => by
    rw [hg (2 + k) (by omega), show 2 + k = k + 1 + 1 by omega]
    show ((body ++ [x]).getD k 0).toNat < 64
    rw [List.getD, List.getElem?_append_left hk, List.getElem?_eq_getElem hk]
    exact hb _ (List.getElem_mem hk)
  have gx : (bt o ++ r).get! (2 + body.length) = x := by
    rw [hg (2 + body.length) (by omega), show 2 + body.length = body.length + 1 + 1 by omega]
    show (body ++ [x]).getD body.length 0 = x
    rw [List.getD, List.getElem?_append_right (Nat.le_refl _), Nat.sub_self]; rfl
  have hlt : ltr (bt o ++ r) = some (2 + body.length) := ltF_at body.length 10 2 gb (by rw [gx]; exact hx) (by omega) (by omega) (by omega)
  have e1 : (bt o ++ r).extract 2 (2 + body.length) = mkB body := bL_inj (by rw [bL_ext, hL, bL_mkB, Nat.add_comm]; simp)
  have e2 : (bt o ++ r).extract 0 (2 + body.length + 1) = bt o := by
    have := ext_front (bt o) r
    rw [hbt] at this
    rw [show 2 + body.length + 1 = body.length + 3 by omega]; exact this
  unfold oneP
  rw [if_neg (by omega), if_neg (by omega), if_neg (by omega), if_neg (by omega), if_neg (by omega), if_neg (by rw [hL]; simp [Lib.hasPrefix])]
  unfold oneC
  rw [hlt]
  dsimp only
  rw [e1, gx, e2, hc, hbt]
  dsimp only
  rw [if_pos ⟨rfl, ho, rfl⟩, show 2 + body.length + 1 = body.length + 3 by omega]
theorem index_at (a b : List UInt8) (h : ∀ c ∈ a, c ≠ 59) : Lib.index (a ++ 59 :: b) [59] = a.length := by
  induction a with
  | nil => simp [Lib.index]
  | cons x a ih =>
    have hx : x ≠ 59 := h x (List.mem_cons_self)
    have ih' := ih fun c hc => h c (List.mem_cons_of_mem _ hc)
    have hp : ([59] : List UInt8).isPrefixOf (x :: (a ++ 59 :: b)) = false := by
      simp [List.isPrefixOf]; exact fun e => hx e.symm
    rw [List.cons_append, Lib.index, if_neg (by rw [hp]; simp), ih', if_neg (by simp)]
    simp
theorem cut_at (a b : List UInt8) (h : ∀ c ∈ a, c ≠ 59) : Lib.cut (a ++ 59 :: b) [59] = (a, b, true) := by
  unfold Lib.cut
  rw [index_at a b h, if_pos (by omega)]
  simp
theorem dec_small (n : Int) (h1 : 1 ≤ n) (h2 : n ≤ 1000) : (decS n).length ≤ 4 ∧ ∀ c ∈ decS n, c.toNat < 64 ∧ c ≠ 59 := by
  have key : ∀ k : Fin 1001, ((decS (k.val : Int)).length ≤ 4 ∧ ((decS (k.val : Int)).all fun c => decide (c.toNat < 64) && decide (c ≠ 59)) = true) := by decide +kernel
  obtain ⟨k, rfl⟩ := Int.eq_ofNat_of_zero_le (show 0 ≤ n by omega)
  have := key ⟨k, by omega⟩
  refine ⟨this.1, fun c hc => ?_⟩
  have h := List.all_eq_true.1 this.2 c hc
  simpa using h
theorem one_byte {o : Ot} {x : UInt8} (r : ByteArray) (hx : x.toNat < 32) (he : bt o = mkB [x]) (h : (7 = x.toNat ∧ o = (6, 0, 0, mt)) ∨ (13 = x.toNat ∧ o = (7, 0, 0, mt)) ∨ (10 = x.toNat ∧ o = (8, 0, 0, mt))) : oneP (bt o ++ r) = (o, (bt o).size) := by
  have hsz : (bt o ++ r).size = 1 + r.size := by rw [he, size_mkB]; rfl
  have hbt : (bt o).size = 1 := by rw [he]; rfl
  have g0 : (bt o ++ r).get! 0 = x := by rw [he, get_mkB _ _ _ (by simp)]; rfl
  have ht : tl (bt o ++ r) = 0 := tl_low _ (by omega) (by rw [g0]; exact hx)
  unfold oneP
  rw [if_neg (by omega), if_neg (by omega), g0, hbt]
  rcases h with ⟨h, rfl⟩ | ⟨h, rfl⟩ | ⟨h, rfl⟩
  · rw [if_pos h.symm]
  · rw [if_neg (by omega), if_pos h.symm]
  · rw [if_neg (by omega), if_neg (by omega), if_pos h.symm]
theorem lk_small : ∀ k : Fin 8, (lkT (k.val : Int)).length ≤ 9 ∧ ((lkT (k.val : Int)).all fun c => decide (c.toNat < 64)) = true ∧ lkF (lkT (k.val : Int)) = some k.val := by decide +kernel
theorem one_full {o : Ot} (r : ByteArray) (ho : mayP o = true) (hr : o.1 = 0 → tl r = 0) : oneP (bt o ++ r) = (o, (bt o).size) := by
  have hpc := pc_of ho
  cases hpc with
  | text t h hw =>
    have e : bt (0, 0, 0, t) = t := by_text t 0 0
    rw [e]
    unfold oneP
    rw [tl_app t r hw, hr rfl, Nat.add_zero, if_pos h, ext_front]
  | move n m h1 h2 h3 h4 =>
    obtain ⟨a1, a2⟩ := dec_small n h1 h2
    obtain ⟨b1, b2⟩ := dec_small m h3 h4
    refine one_ctl (body := decS n ++ 59 :: decS m) (x := 72) r ?_ (by decide) (by simp; omega) ?_ ho ?_
    · intro c hc
      rcases List.mem_append.1 hc with hc | hc
      · exact (a2 c hc).1
      · rcases List.mem_cons.1 hc with rfl | hc
        · decide
        · exact (b2 c hc).1
    · unfold ctl
      rw [if_pos (by decide), bL_mkB, cut_at _ _ fun c hc => (a2 c hc).2]
      dsimp only
      rw [(und_dec n (by omega) (by omega)).1, (und_dec n (by omega) (by omega)).2, (und_dec m (by omega) (by omega)).1, (und_dec m (by omega) (by omega)).2]; rfl
    · unfold bt byL
      dsimp only
      rw [if_neg (by decide), if_neg (by decide), if_neg (by decide), if_neg (by decide), if_pos rfl, List.append_assoc]; rfl
  | erase => exact one_ctl (body := [50]) (x := 74) r (by decide) (by decide) (by decide) (by decide) ho rfl
  | rest => exact one_ctl (body := []) (x := 75) r (by decide) (by decide) (by decide) (by decide) ho rfl
  | looks n h1 h2 =>
    obtain ⟨k, rfl⟩ := Int.eq_ofNat_of_zero_le h1
    have hk := lk_small ⟨k, by omega⟩
    dsimp only at hk
    refine one_ctl (body := lkT (k : Int)) (x := 109) r (fun c hc => ?_) (by decide) hk.1 ?_ ho rfl
    · have := List.all_eq_true.1 hk.2.1 c hc; simpa using this
    · unfold ctl
      rw [if_neg (by decide), if_neg (by decide), if_neg (by decide), if_pos (by decide), bL_mkB, hk.2.2]
  | paste1 => exact one_ctl (body := [63, 50, 48, 48, 52]) (x := 104) r (by decide) (by decide) (by decide) (by decide) ho rfl
  | paste0 => exact one_ctl (body := [63, 50, 48, 48, 52]) (x := 108) r (by decide) (by decide) (by decide) (by decide) ho rfl
  | bell => exact one_byte (x := 7) r (by decide) rfl (Or.inl ⟨rfl, rfl⟩)
  | cr => exact one_byte (x := 13) r (by decide) rfl (Or.inr (Or.inl ⟨rfl, rfl⟩))
  | lf => exact one_byte (x := 10) r (by decide) rfl (Or.inr (Or.inr ⟨rfl, rfl⟩))
theorem bt_pos {o : Ot} (ho : mayP o = true) : 0 < (bt o).size := by
  have hpc := pc_of ho
  cases hpc with
  | text t h hw => rw [by_text]; exact h
  | move n m h1 h2 h3 h4 => rw [← bL_len]; unfold bt byL; rw [bL_mkB]; simp
  | looks n h1 h2 => rw [← bL_len]; unfold bt byL; rw [bL_mkB]; simp
  | _ => decide
/-- A piece that is no text begins with a control. -/
theorem bt_low {o : Ot} (ho : mayP o = true) (hk : o.1 ≠ 0) (r : ByteArray) : tl (bt o ++ r) = 0 := by
  have key : ∀ (x : UInt8) (l : List UInt8), byL o = x :: l → x.toNat < 32 → tl (bt o ++ r) = 0 := fun x l h hx => by
    refine tl_low _ (by unfold bt; rw [size_mkB, h]; simp; omega) ?_
    unfold bt
    rw [get_mkB _ _ _ (by rw [h]; simp), h]; exact hx
  have hpc := pc_of ho
  cases hpc with
  | text t h hw => exact absurd rfl hk
  | bell => exact key 7 _ rfl (by decide)
  | cr => exact key 13 _ rfl (by decide)
  | lf => exact key 10 _ rfl (by decide)
  | _ => exact key 27 _ rfl (by decide)
end Go.Proofs.YtmnjafceenckpaaDoor
set_option linter.unusedVariables false
set_option linter.unusedSimpArgs false
namespace Go.Proofs.YtmnjafceenckpaaDoor
open Go.RowKit
def mayAll (l : List Ot) : Bool := l.all mayP
/-- The bytes of pieces. -/
def txOut : List Ot → ByteArray
  | [] => mt
  | o :: l => bt o ++ txOut l
theorem txO_app (a b : List Ot) : txOut (a ++ b) = txOut a ++ txOut b := by
  induction a with
  | nil => exact (mt_app _).symm
  | cons x a ih => show bt x ++ txOut (a ++ b) = _; rw [ih]; show _ = bt x ++ txOut a ++ txOut b; rw [ba_asc]
theorem txO_one (o : Ot) : txOut [o] = bt o := app_mt _
/-- No two texts side by side. -/
def noad : List Ot → Bool
  | [] => true
  | o :: l => (match l with | [] => true | p :: _ => !(decide (o.1 = 0) && decide (p.1 = 0))) && noad l
/-- The pieces of a text. -/
def prs : Nat → ByteArray → Option (List Ot)
  | 0, s => if s.size = 0 then some [] else none
  | f + 1, s => if s.size = 0 then some [] else if (oneP s).2 = 0 then none else (prs f (s.extract (oneP s).2 s.size)).map ((oneP s).1 :: ·)
theorem tail_size (s : ByteArray) (n : Nat) : (s.extract n s.size).size = s.size - n := by rw [ByteArray.size_extract]; omega
theorem prs_fuel : ∀ f g s, s.size ≤ f → s.size ≤ g → prs f s = prs g s
  | 0, 0, _, _, _ => rfl
  | 0, g + 1, s, h, _ => by rw [prs, prs, if_pos (by omega), if_pos (by omega)]
  | f + 1, 0, s, _, h => by rw [prs, prs, if_pos (by omega), if_pos (by omega)]
  | f + 1, g + 1, s, h, h' => by
    rw [prs, prs]
    split
    · rfl
    · split
      · rfl
      · rename_i hn
        rw [prs_fuel f g _ (by rw [tail_size]; omega) (by rw [tail_size]; omega)]
def prsS (s : ByteArray) : Option (List Ot) := prs s.size s
theorem prsS_nil {s : ByteArray} (h : s.size = 0) : prsS s = some [] := by unfold prsS; rw [h, prs, if_pos h]
theorem prsS_none {s : ByteArray} (h : 0 < s.size) (hn : (oneP s).2 = 0) : prsS s = none := by
  unfold prsS
  obtain ⟨f, hf⟩ : ∃ f, s.size = f + 1 := ⟨s.size - 1, by omega⟩
  rw [hf, prs, if_neg (by omega), if_pos hn]
theorem prsS_some {s : ByteArray} (h : 0 < s.size) (hn : (oneP s).2 ≠ 0) : prsS s = (prsS (s.extract (oneP s).2 s.size)).map ((oneP s).1 :: ·) := by
  unfold prsS
  obtain ⟨f, hf⟩ : ∃ f, s.size = f + 1 := ⟨s.size - 1, by omega⟩
  have e : prs s.size s = prs (f + 1) s := by rw [hf]
  rw [e, prs, if_neg (by omega), if_neg hn, prs_fuel f _ _ (by rw [tail_size]; omega) (Nat.le_refl _)]
theorem prs_sound : ∀ f s L, s.size ≤ f → prs f s = some L → mayAll L = true ∧ txOut L = s ∧ noad L = true ∧ (tl s = 0 → ∀ o l, L = o :: l → o.1 ≠ 0)
  | 0, s, L, hs, h => by
    rw [prs, if_pos (by omega)] at h
    obtain rfl := Option.some.inj h
    exact ⟨rfl, (size0 (by omega)).symm, rfl, fun _ o l e => by cases e⟩
  | f + 1, s, L, hs, h => by
    rw [prs] at h
    split at h
    · rename_i h0
      obtain rfl := Option.some.inj h
      exact ⟨rfl, (size0 h0).symm, rfl, fun _ o l e => by cases e⟩
    · split at h
      · cases h
      · rename_i h0 hn
        obtain ⟨hm, hb, hle, hk⟩ := one_sound hn
        cases hr : prs f (s.extract (oneP s).2 s.size) with
        | none => rw [hr] at h; cases h
        | some R =>
          rw [hr] at h
          obtain rfl := Option.some.inj h
          obtain ⟨i1, i2, i3, i4⟩ := prs_sound f _ R (by rw [tail_size]; omega) hr
          refine ⟨?_, ?_, ?_, ?_⟩
          · unfold mayAll at i1 ⊢; rw [List.all_cons, hm, i1]; rfl
          · show bt _ ++ txOut R = s
            rw [i2, hb, ext_join s _ hle]
          · unfold noad
            rw [i3, Bool.and_true]
            cases R with
            | nil => rfl
            | cons p R' =>
              dsimp only
              by_cases h1 : (oneP s).1.1 = 0
              · have ht : tl (s.extract (oneP s).2 s.size) = 0 := by rw [(hk h1).2]; exact tl_rest s
                have := i4 ht p R' rfl
                rw [decide_eq_true h1, decide_eq_false this]; rfl
              · rw [decide_eq_false h1]; rfl
          · intro ht o l e
            obtain ⟨rfl, rfl⟩ := List.cons.inj e
            intro h1
            have := (hk h1).1; omega
theorem prsS_sound {s : ByteArray} {L : List Ot} (h : prsS s = some L) : mayAll L = true ∧ txOut L = s ∧ noad L = true := by
  obtain ⟨h1, h2, h3, _⟩ := prs_sound _ _ _ (Nat.le_refl _) h
  exact ⟨h1, h2, h3⟩
theorem prsS_full : ∀ L, mayAll L = true → noad L = true → prsS (txOut L) = some L
  | [], _, _ => rfl
  | o :: L, h1, h2 => by
    unfold mayAll at h1
    rw [List.all_cons, Bool.and_eq_true] at h1
    unfold noad at h2
    rw [Bool.and_eq_true] at h2
    have hp := bt_pos h1.1
    have ht : o.1 = 0 → tl (txOut L) = 0 := fun h0 => by
      cases L with
      | nil => rfl
      | cons p L' =>
        have h3 := h2.1
        dsimp only at h3
        rw [decide_eq_true h0, Bool.true_and] at h3
        have h4 : p.1 ≠ 0 := by simpa using h3
        have h5 : mayP p = true := by have := h1.2; rw [List.all_cons, Bool.and_eq_true] at this; exact this.1
        exact bt_low h5 h4 _
    have e := one_full (txOut L) h1.1 ht
    show prsS (bt o ++ txOut L) = _
    have hs : (bt o ++ txOut L).size = (bt o).size + (txOut L).size := ByteArray.size_append
    rw [prsS_some (by omega) (by rw [e]; show (bt o).size ≠ 0; omega), e]
    dsimp only
    rw [ext_back, prsS_full L h1.2 h2.2]; rfl
/-- Joined: texts side by side are one. -/
def jn1 (acc : List Ot) (o : Ot) : List Ot :=
  match acc.getLast? with
  | some x => if o.1 = 0 ∧ x.1 = 0 then acc.dropLast ++ [(x.1, x.2.1, x.2.2.1, x.2.2.2 ++ o.2.2.2)] else acc ++ [o]
  | none => acc ++ [o]
def jn (l : List Ot) : List Ot := l.foldl jn1 []
theorem jn_snoc (l : List Ot) (o : Ot) : jn (l ++ [o]) = jn1 (jn l) o := by unfold jn; rw [List.foldl_append]; rfl
theorem snocO {P : List Ot → Prop} (h0 : P []) (h1 : ∀ l o, P l → P (l ++ [o])) : ∀ l, P l := by
  intro l
  have h : ∀ r : List Ot, P r.reverse := by
    intro r
    induction r with
    | nil => exact h0
    | cons c r ih => rw [List.reverse_cons]; exact h1 _ _ ih
  have := h l.reverse
  rwa [List.reverse_reverse] at this
theorem last_form {acc : List Ot} {x : Ot} (h : acc.getLast? = some x) : acc = acc.dropLast ++ [x] := by
  obtain ⟨ys, rfl⟩ := List.getLast?_eq_some_iff.1 h
  rw [List.dropLast_concat]
theorem jn1_cases (acc : List Ot) (o : Ot) : (∃ b x, acc = b ++ [x] ∧ o.1 = 0 ∧ x.1 = 0 ∧ jn1 acc o = b ++ [(x.1, x.2.1, x.2.2.1, x.2.2.2 ++ o.2.2.2)]) ∨ (jn1 acc o = acc ++ [o] ∧ ∀ b x, acc = b ++ [x] → ¬ (x.1 = 0 ∧ o.1 = 0)) := by
  unfold jn1
  cases h : acc.getLast? with
  | none =>
    right
    refine ⟨rfl, fun b x e => ?_⟩
    rw [e] at h; simp at h
  | some x =>
    dsimp only
    have hf := last_form h
    by_cases hk : o.1 = 0 ∧ x.1 = 0
    · left
      exact ⟨acc.dropLast, x, hf, hk.1, hk.2, by rw [if_pos hk]⟩
    · right
      refine ⟨by rw [if_neg hk], fun b y e hc => ?_⟩
      rw [e] at h
      simp at h
      subst h
      exact hk ⟨hc.2, hc.1⟩
theorem mayAll_app (a b : List Ot) : mayAll (a ++ b) = (mayAll a && mayAll b) := by unfold mayAll; rw [List.all_append]
theorem mayAll_one (o : Ot) : mayAll [o] = mayP o := by unfold mayAll; simp
theorem may_text {o : Ot} (h : mayP o = true) (hk : o.1 = 0) : o = (0, 0, 0, o.2.2.2) ∧ 0 < o.2.2.2.size ∧ allW o.2.2.2 = true := by
  have hpc := pc_of h
  cases hpc with
  | text t h1 h2 => exact ⟨rfl, h1, h2⟩
  | move n m h1 h2 h3 h4 => exact absurd hk (show ¬ (1 : Int) = 0 by decide)
  | looks n h1 h2 => exact absurd hk (show ¬ (4 : Int) = 0 by decide)
  | _ => exact absurd hk (by decide)
theorem jn_may : ∀ l, mayAll l = true → mayAll (jn l) = true := by
  refine snocO (fun _ => rfl) (fun l o ih h => ?_)
  rw [mayAll_app, Bool.and_eq_true, mayAll_one] at h
  have hj := ih h.1
  rw [jn_snoc]
  rcases jn1_cases (jn l) o with ⟨b, x, e, h1, h2, e2⟩ | ⟨e2, _⟩
  · rw [e2, mayAll_app, mayAll_one]
    rw [e, mayAll_app, mayAll_one, Bool.and_eq_true] at hj
    obtain ⟨ex, x1, x2⟩ := may_text hj.2 h2
    obtain ⟨eo, o1, o2⟩ := may_text h.2 h1
    rw [hj.1, Bool.true_and]
    have e1 : x.2.1 = 0 ∧ x.2.2.1 = 0 := by rw [ex]; exact ⟨rfl, rfl⟩
    rw [h2, e1.1, e1.2]
    exact may_of (.text _ (by rw [ByteArray.size_append]; omega) (allW_app x2 o2))
  · rw [e2, mayAll_app, mayAll_one, hj, h.2]; rfl
theorem jn_tx : ∀ l, txOut (jn l) = txOut l := by
  refine snocO rfl (fun l o ih => ?_)
  rw [jn_snoc, txO_app, txO_one, ← ih]
  rcases jn1_cases (jn l) o with ⟨b, x, e, h1, h2, e2⟩ | ⟨e2, _⟩
  · rw [e2, e, txO_app, txO_app, txO_one, txO_one, ba_asc]
    congr 1
    obtain ⟨k, n, m, t⟩ := o
    obtain ⟨k', n', m', t'⟩ := x
    dsimp only at h1 h2 ⊢
    subst h1; subst h2
    rw [by_text, by_text, by_text]
  · rw [e2, txO_app, txO_one]
theorem noad_snoc : ∀ (b : List Ot) (o : Ot), noad (b ++ [o]) = true ↔ (noad b = true ∧ ∀ c x, b = c ++ [x] → ¬ (x.1 = 0 ∧ o.1 = 0))
  | [], o => by simp [noad]
  | [y], o => by
    simp only [List.cons_append, List.nil_append, noad, Bool.and_true, Bool.true_and]
    constructor
    · intro h
      refine ⟨trivial, fun c x e => ?_⟩
      have hcx : y = x := by
        cases c with
        | nil => simpa using e
        | cons a c => have := congrArg List.length e; simp at this
      subst hcx
      simp at h
      exact fun hc => h.elim (fun h => h hc.1) (fun h => h hc.2)
    · intro h
      have := h.2 [] y rfl
      simp
      by_cases h1 : y.1 = 0
      · exact Or.inr fun h2 => this ⟨h1, h2⟩
      · exact Or.inl h1
  | y :: z :: b, o => by
    have ih := noad_snoc (z :: b) o
    have e1 : noad (y :: z :: b ++ [o]) = (!(decide (y.1 = 0) && decide (z.1 = 0)) && noad (z :: b ++ [o])) := rfl
    have e2 : noad (y :: z :: b) = (!(decide (y.1 = 0) && decide (z.1 = 0)) && noad (z :: b)) := rfl
    rw [e1, e2, Bool.and_eq_true, Bool.and_eq_true, ih]
    constructor
    · rintro ⟨h1, h2, h3⟩
      refine ⟨⟨h1, h2⟩, fun c x e => ?_⟩
      cases c with
      | nil => have := congrArg List.length e; simp at this
      | cons a c =>
        rw [List.cons_append] at e
        exact h3 c x (List.cons.inj e).2
    · rintro ⟨⟨h1, h2⟩, h3⟩
      exact ⟨h1, h2, fun c x e => h3 (y :: c) x (by rw [List.cons_append, e])⟩
theorem jn_noad : ∀ l, noad (jn l) = true := by
  refine snocO rfl (fun l o ih => ?_)
  rw [jn_snoc]
  rcases jn1_cases (jn l) o with ⟨b, x, e, h1, h2, e2⟩ | ⟨e2, h3⟩
  · rw [e2, noad_snoc]
    rw [e, noad_snoc] at ih
    exact ⟨ih.1, fun c y hy => ih.2 c y hy⟩
  · rw [e2, noad_snoc]; exact ⟨ih, h3⟩
theorem jn_id : ∀ l, noad l = true → jn l = l := by
  refine snocO (fun _ => rfl) (fun l o ih h => ?_)
  rw [noad_snoc] at h
  rw [jn_snoc, ih h.1]
  rcases jn1_cases l o with ⟨b, x, e, h1, h2, e2⟩ | ⟨e2, h3⟩
  · exact absurd ⟨h2, h1⟩ (h.2 b x e)
  · exact e2
/-- The bytes of pieces, read again. -/
theorem prs_text {l : List Ot} (h : mayAll l = true) : prsS (txOut l) = some (jn l) := by
  rw [← jn_tx l]; exact prsS_full _ (jn_may l h) (jn_noad l)
theorem prs_join {s : ByteArray} {L : List Ot} (h : prsS s = some L) : jn L = L := jn_id L (prsS_sound h).2.2
theorem prs_both {s t : ByteArray} {L M : List Ot} (h : prsS s = some L) (h2 : prsS t = some M) : prsS (s ++ t) = some (jn (L ++ M)) := by
  obtain ⟨a1, a2, _⟩ := prsS_sound h
  obtain ⟨b1, b2, _⟩ := prsS_sound h2
  rw [← a2, ← b2, ← txO_app]
  exact prs_text (by rw [mayAll_app, a1, b1]; rfl)
/-- How many columns a text has. -/
def colW (t : ByteArray) : Int := ((valsS t).map wid).sum
theorem colW_app {t r : ByteArray} (h : allW t = true) : colW (t ++ r) = colW t + colW r := by unfold colW; rw [vals_join t r (allW_pt h), List.map_append, List.sum_append]
theorem wid_nn (v : Int) : 0 ≤ wid v ∧ wid v ≤ 2 := by unfold wid; split; omega; split <;> omega
theorem sum_wid (l : List Int) : 0 ≤ (l.map wid).sum ∧ (l.map wid).sum ≤ 2 * l.length := by
  induction l with
  | nil => exact ⟨Int.le_refl _, Int.le_refl _⟩
  | cons x l ih => have := wid_nn x; rw [List.map_cons, List.sum_cons, List.length_cons]; omega
theorem colW_rng (t : ByteArray) : 0 ≤ colW t ∧ colW t ≤ 2 * t.size := by
  have h := sum_wid (valsS t); have h2 := valsS_len t; unfold colW; omega
/-- A run of columns. -/
def fl (c : Int) : List Ot := if 0 < c then [(0, c, 0, mt)] else []
/-- The skeleton's making: bones, and columns of the run under way. -/
def sk1 (q : List Ot × Int) (o : Ot) : List Ot × Int := if o.1 = 0 then (q.1, q.2 + colW o.2.2.2) else (q.1 ++ fl q.2 ++ [o], 0)
def skS (l : List Ot) : List Ot × Int := l.foldl sk1 ([], 0)
def skE (l : List Ot) : List Ot := (skS l).1 ++ fl (skS l).2
def bone (o : Ot) : List Ot := if o.1 ≠ 0 then [o] else fl (colW o.2.2.2)
def skR (l : List Ot) : List Ot := (jn l).flatMap bone
theorem skS_snoc (l : List Ot) (o : Ot) : skS (l ++ [o]) = sk1 (skS l) o := by unfold skS; rw [List.foldl_append]; rfl
theorem sk_inv : ∀ l, mayAll l = true → (skE l = skR l ∧ (∀ b x, jn l = b ++ [x] → x.1 = 0 → (skS l).1 = b.flatMap bone ∧ (skS l).2 = colW x.2.2.2) ∧ ((∀ b x, jn l = b ++ [x] → x.1 ≠ 0) → (skS l).1 = skR l ∧ (skS l).2 = 0)) := by
  refine snocO (fun _ => ⟨rfl, fun b x e => by simp [jn] at e, fun _ => ⟨rfl, rfl⟩⟩) (fun l o ih h => ?_)
  rw [mayAll_app, Bool.and_eq_true, mayAll_one] at h
  obtain ⟨i1, i2, i3⟩ := ih h.1
  have hj := jn_may l h.1
  by_cases hk : o.1 = 0
  · -- a text
    rcases jn1_cases (jn l) o with ⟨b, x, e, h1, h2, e2⟩ | ⟨e2, h3⟩
    · obtain ⟨j1, j2⟩ := i2 b x e h2
      rw [e, mayAll_app, mayAll_one, Bool.and_eq_true] at hj
      obtain ⟨_, _, x2⟩ := may_text hj.2 h2
      have es : skS (l ++ [o]) = (b.flatMap bone, colW (x.2.2.2 ++ o.2.2.2)) := by
        rw [skS_snoc]; unfold sk1; rw [if_pos hk, j1, j2, colW_app x2]
      have ej : jn (l ++ [o]) = b ++ [(x.1, x.2.1, x.2.2.1, x.2.2.2 ++ o.2.2.2)] := by rw [jn_snoc, e2]
      refine ⟨?_, ?_, ?_⟩
      · unfold skE skR
        rw [es, ej, List.flatMap_append]
        simp [bone, h2]
      · intro c y ec hy
        rw [ej] at ec
        obtain ⟨rfl, e4⟩ := List.append_inj' ec rfl
        obtain rfl := (List.cons.inj e4).1
        rw [es]; exact ⟨rfl, rfl⟩
      · intro hn
        exact absurd h2 (hn b (x.1, x.2.1, x.2.2.1, x.2.2.2 ++ o.2.2.2) ej)
    · have hnt : ∀ b x, jn l = b ++ [x] → x.1 ≠ 0 := fun b x e hx => h3 b x e ⟨hx, hk⟩
      obtain ⟨j1, j2⟩ := i3 hnt
      have es : skS (l ++ [o]) = (skR l, colW o.2.2.2) := by
        rw [skS_snoc]; unfold sk1; rw [if_pos hk, j1, j2, Int.zero_add]
      have ej : jn (l ++ [o]) = jn l ++ [o] := by rw [jn_snoc, e2]
      refine ⟨?_, ?_, ?_⟩
      · unfold skE
        rw [es]
        unfold skR
        rw [ej, List.flatMap_append]
        simp [bone, hk]
      · intro c y ec hy
        rw [ej] at ec
        obtain ⟨rfl, e4⟩ := List.append_inj' ec rfl
        obtain rfl := (List.cons.inj e4).1
        rw [es]; exact ⟨rfl, rfl⟩
      · intro hn
        exact absurd hk (hn _ _ ej)
  · have ej : jn (l ++ [o]) = jn l ++ [o] := by
      rw [jn_snoc]
      rcases jn1_cases (jn l) o with ⟨b, x, e, h1, h2, e2⟩ | ⟨e2, h3⟩
      · exact absurd h1 hk
      · exact e2
    have es : skS (l ++ [o]) = (skR l ++ [o], 0) := by
      rw [skS_snoc]; unfold sk1; rw [if_neg hk]
      show ((skS l).1 ++ fl (skS l).2 ++ [o], (0 : Int)) = _
      have : (skS l).1 ++ fl (skS l).2 = skR l := i1
      rw [this]
    have er : skR (l ++ [o]) = skR l ++ [o] := by
      unfold skR; rw [ej, List.flatMap_append]; simp [bone, hk]
    refine ⟨?_, ?_, ?_⟩
    · unfold skE; rw [es, er]; simp [fl]
    · intro c y ec hy
      rw [ej] at ec
      obtain ⟨rfl, e4⟩ := List.append_inj' ec rfl
      obtain rfl := (List.cons.inj e4).1
      exact absurd hy hk
    · intro _; rw [es, er]; exact ⟨rfl, rfl⟩
theorem sk_eq {l : List Ot} (h : mayAll l = true) : skE l = skR l := (sk_inv l h).1
end Go.Proofs.YtmnjafceenckpaaDoor
