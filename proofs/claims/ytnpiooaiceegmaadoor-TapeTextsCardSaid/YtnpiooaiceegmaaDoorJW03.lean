/-
  Joined: C5 W9 W10 E1 E2 E3 Ky0 E4.
-/
import Derived.Test.YtnpiooaiceegmaaDoorJW01
import Derived.Test.YtnpiooaiceegmaaDoorJW02
import Derived.Test.YtnpiooaiceegmaaDoorRows
import Derived.Test.YtnpiooaiceegmaaDoorShelf
import Derived.Lib.OthersKept
import Derived.Handy
import Derived.WalkSpells
import Derived.WalkLawsBesides
import Derived.Laws.BytesArg
set_option maxRecDepth 100000
set_option linter.unusedVariables false
set_option linter.unusedSimpArgs false
namespace Go.Proofs.YtnpiooaiceegmaaDoor
set_option linter.unusedVariables false
set_option linter.unusedSimpArgs false
open Go.RowKit
end Go.Proofs.YtnpiooaiceegmaaDoor
namespace Go.Proofs.YtnpiooaiceegmaaDoor
open Go.RowKit
end Go.Proofs.YtnpiooaiceegmaaDoor
namespace Go.Proofs.YtnpiooaiceegmaaDoor
open Go.RowKit
theorem hexS_pos (n l : Int) (h : 0 ≤ n) : hexS n l = hexN n (lst l) := by
  have := lst_rng l
  unfold hexS hexN; rw [if_neg (by omega), show (max (lst l) 1).toNat = (lst l).toNat by omega]
theorem uh_hex (n l : Int) (h : 0 ≤ n) (h1 : n ≤ 9223372036854775807) (hl : (hexN n l).length ≤ 15) : uhR (hexN n l) = n ∧ uhE (hexN n l) = 0 := by
  have e : readOk 16 ⟨(hexN n l).toArray⟩ = true := readOk_tell 16 19 _ _ (by omega) (by omega) (Or.inl (by omega))
  have e2 : readVal 16 ⟨(hexN n l).toArray⟩ = n := by
    unfold hexN
    rw [readVal_tell 16 20 _ _ (by omega) (by omega) (by omega) (by omega)]; omega
  have ho : uhOk (hexN n l) = true := by unfold uhOk; rw [e, decide_eq_true hl]; rfl
  unfold uhR uhE
  rw [ho, e2]
  exact ⟨by rw [if_pos rfl]; unfold wrap64; omega, rfl⟩
theorem uh_cases (l : List UInt8) : (0 ≤ unhexR l ∧ uhE l = 0 ∧ uhR l = unhexR l) ∨ (unhexR l < 0 ∧ uhE l = 6 ∧ uhR l = 0) := by
  have hne : (⟨l.toArray⟩ : ByteArray).data.toList = l := by simp
  by_cases h : l.length = 0 ∨ 15 < l.length ∨ digs 16 l = false
  · right
    have ho : uhOk l = false := by
      unfold uhOk readOk
      rw [hne, ByteArray.toList_eq, hne]
      rcases h with h | h | h
      · cases l with
        | nil => simp
        | cons => simp at h
      · rw [decide_eq_false (by omega)]; simp
      · rw [h]; simp
    refine ⟨?_, ?_, ?_⟩
    · unfold unhexR; rw [if_pos h]; omega
    · simp [uhE, ho]
    · simp [uhR, ho]
  · left
    have hd : digs 16 l = true := by
      cases hx : digs 16 l with
      | true => rfl
      | false => exact absurd (Or.inr (Or.inr hx)) h
    have ⟨b1, b2⟩ := dv_bound 16 l hd
    have b3 := pow16 l.length (by omega)
    have b4 : ((16 : Nat) : Int) ^ l.length = (16 : Int) ^ l.length := rfl
    rw [b4] at b2
    have hu : unhexR l = dv 16 l := by unfold unhexR; rw [if_neg h]
    have ho : uhOk l = true := by
      unfold uhOk readOk
      rw [hne, ByteArray.toList_eq, hne, hd, decide_eq_true (by omega)]
      cases l with
      | nil => simp at h
      | cons => rfl
    have hv : readVal 16 ⟨l.toArray⟩ = dv 16 l := by
      unfold readVal; rw [hne, hd, if_pos rfl, rdv_dv, wu]; omega
    refine ⟨by omega, by simp [uhE, ho], ?_⟩
    unfold uhR
    rw [ho, if_pos rfl, hv, hu]; unfold wrap64; omega
end Go.Proofs.YtnpiooaiceegmaaDoor
set_option linter.unusedVariables false
set_option linter.unusedSimpArgs false
namespace Go.Proofs.YtnpiooaiceegmaaDoor
open Go.RowKit
/-- A row of ints that can be read. -/
def Row (w : World) (a : Option Addr) (l : List Int) : Prop := ∀ j, j < l.length → ∃ b off, a = some ⟨b, off, none⟩ ∧ w.cell? ⟨b, off + j, none⟩ = some (.int .i64 (l.getD j 0)) ∧ b < w.heap.size
theorem Row.below {w w' : World} {a : Option Addr} {l : List Int} (h : Row w a l) (hb : Below w.heap.size w w') : Row w' a l := by
  intro j hj
  obtain ⟨b, off, ha, hc, hlt⟩ := h j hj
  exact ⟨b, off, ha, (hb.cell (p := ⟨b, off + j, none⟩) hlt).trans hc, Nat.lt_of_lt_of_le hlt hb.size⟩
def rightB (v : Int) : Bool := ptB v || stB v
end Go.Proofs.YtnpiooaiceegmaaDoor
namespace Go.Proofs.YtnpiooaiceegmaaDoor
open Go.RowKit
end Go.Proofs.YtnpiooaiceegmaaDoor
namespace Go.Proofs.YtnpiooaiceegmaaDoor
open Go.RowKit
end Go.Proofs.YtnpiooaiceegmaaDoor
set_option linter.unusedVariables false
set_option linter.unusedSimpArgs false
namespace Go.Proofs.YtnpiooaiceegmaaDoor
open Go.RowKit
end Go.Proofs.YtnpiooaiceegmaaDoor
namespace Go.Proofs.YtnpiooaiceegmaaDoor
open Go.RowKit
end Go.Proofs.YtnpiooaiceegmaaDoor
