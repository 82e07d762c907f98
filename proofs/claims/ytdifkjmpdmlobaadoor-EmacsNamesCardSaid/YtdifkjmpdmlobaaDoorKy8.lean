/-
  Keys: their bytes, and what they are, typed as they are.
-/
import Derived.Test.YtdifkjmpdmlobaaDoorKy7
set_option linter.unusedVariables false
set_option linter.unusedSimpArgs false
namespace Go.Proofs.YtdifkjmpdmlobaaDoor
set_option maxRecDepth 100000
open Go.RowKit
def byR (k : Ky) : List UInt8 := if keyB k then byN k else []
def ByPost (k : Ky) (w : World) (e : Ending) (w' : World) : Prop := e = .returned (.string (mkS (byR k))) ∧ Below w.heap.size w w'
theorem byPost_no {k : Ky} {w w' : World} (h : keyB k = false) (hb : Below w.heap.size w w') : ByPost k w (.returned (.string ⟨#[]⟩)) w' := by
  unfold ByPost byR; rw [h]; exact ⟨rfl, hb⟩
theorem byPost_yes {k : Ky} {w w' : World} {s : ByteArray} (h : keyB k = true) (hs : s = mkS (byN k)) (hb : Below w.heap.size w w') : ByPost k w (.returned (.string s)) w' := by
  unfold ByPost byR; rw [h, hs]; exact ⟨rfl, hb⟩
theorem by_named (kind v : Int) (t : ByteArray) (c : Bool) (h1 : kind ≠ 1) (h2 : kind ≠ 2) (h3 : kind ≠ 3) (h15 : kind ≠ 15) : byN (kind, v, t, c) = (kRowOf kind v).2.2.2 := by
  unfold byN; dsimp only; rw [if_neg (by omega), if_neg h3, if_neg h15]
theorem txt_mk (l : List Int) : mkS (txt l).data.toList = txt l := mkS_of _
theorem by_12 (kind v : Int) (h : kind = 1 ∨ kind = 2) : mkS (byN (kind, v, ⟨#[]⟩, false)) = txt (oneI v) := by
  unfold byN; dsimp only; rw [if_pos h]
theorem by_3 (v : Int) : mkS (byN (3, v, ⟨#[]⟩, false)) = ⟨#[27]⟩ ++ txt (oneI v) := by
  unfold byN; dsimp only; rw [if_neg (by omega), if_pos rfl, show (⟨#[27]⟩ : ByteArray) = mkS [27] from rfl]
  conv => rhs; rw [← txt_mk]
  rw [mkS_app]; rfl
theorem by_15 (v : Int) (t : ByteArray) (c : Bool) : mkS (byN (15, v, t, c)) = ⟨#[27, 91, 50, 48, 48, 126]⟩ ++ t ++ ⟨#[27, 91, 50, 48, 49, 126]⟩ := by
  unfold byN; dsimp only; rw [if_neg (by omega), if_neg (by omega), if_pos rfl, show (⟨#[27, 91, 50, 48, 48, 126]⟩ : ByteArray) = mkS [27, 91, 50, 48, 48, 126] from rfl, show (⟨#[27, 91, 50, 48, 49, 126]⟩ : ByteArray) = mkS [27, 91, 50, 48, 49, 126] from rfl]
  conv => rhs; rw [← mkS_of t]
  rw [mkS_app, mkS_app]
theorem txt_one_len (v : Int) : (txt (oneI v)).size ≤ 4 := by rw [txt_size]; exact oneI_len v
theorem kTab_enter : ∀ r ∈ kTab, r.1 = 4 → r.2.1 = 13 ∨ r.2.1 = 10 := by decide
def vlI (k : Ky) : Int := if keyB k = true ∧ 0 ≤ vlN k then vlN k else 0
def vlB (k : Ky) : Bool := keyB k && decide (0 ≤ vlN k)
def VlPost (k : Ky) (w : World) (e : Ending) (w' : World) : Prop := e = .returned (.tuple #[.int .i64 (vlI k), .bool (vlB k)]) ∧ Below w.heap.size w w'
theorem vlPost_no {k : Ky} {w w' : World} (h : keyB k = false ∨ vlN k < 0) (hb : Below w.heap.size w w') : VlPost k w (.returned (.tuple #[.int .i64 0, .bool false])) w' := by
  unfold VlPost vlI vlB
  rcases h with h | h
  · rw [h]; exact ⟨rfl, hb⟩
  · rw [if_neg (fun x => by omega), decide_eq_false (by omega), Bool.and_false]; exact ⟨rfl, hb⟩
theorem vlPost_yes {k : Ky} {w w' : World} {v : Int} (h : keyB k = true) (hv : vlN k = v) (h0 : 0 ≤ v) (hb : Below w.heap.size w w') : VlPost k w (.returned (.tuple #[.int .i64 v, .bool true])) w' := by
  unfold VlPost vlI vlB
  rw [if_pos ⟨h, by omega⟩, h, decide_eq_true (by omega), hv]; exact ⟨rfl, hb⟩
end Go.Proofs.YtdifkjmpdmlobaaDoor
