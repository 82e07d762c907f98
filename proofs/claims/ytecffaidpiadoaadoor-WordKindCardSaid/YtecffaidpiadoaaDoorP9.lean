import Derived.Test.YtecffaidpiadoaaDoorP2
import Derived.Test.YtecffaidpiadoaaDoorP5
import Derived.Test.YtecffaidpiadoaaDoorP6
import Derived.Test.YtecffaidpiadoaaDoorP7
import Derived.Test.YtecffaidpiadoaaDoorP8
set_option linter.unusedVariables false
set_option linter.unusedSimpArgs false
namespace Go.Proofs.YtecffaidpiadoaaDoor
open Go.RowKit
/-- A row of signs in memory. -/
def sRow (L : List (Int × Int)) : Array Value := (L.flatMap fun p => [Value.int .i64 p.1, Value.int .i64 p.2]).toArray
theorem sRow_at (L : List (Int × Int)) : ∀ i, i < L.length → (L.flatMap fun p => [Value.int .i64 p.1, Value.int .i64 p.2])[i * 2]? = some (.int .i64 (L.getD i (0, 0)).1) ∧ (L.flatMap fun p => [Value.int .i64 p.1, Value.int .i64 p.2])[i * 2 + 1]? = some (.int .i64 (L.getD i (0, 0)).2) := by
  induction L with
  | nil => intro i hi; simp at hi
  | cons x L ih =>
    intro i hi
    cases i with
    | zero => exact ⟨rfl, rfl⟩
    | succ i =>
      have h := ih i (by simpa using hi)
      rw [show (i + 1) * 2 = i * 2 + 1 + 1 by omega]
      exact h
theorem signs_new (w : World) (L : List (Int × Int)) (t : TypeId) : Signs (w.alloc (.cells (sRow L) t)) (some ⟨w.heap.size, 0, none⟩) L := fun i hi => by
  have h := sRow_at L i hi
  refine ⟨_, _, rfl, by simp, ?_, ?_⟩
  · rw [World.cell?_alloc_new, Nat.zero_add, sRow, List.getElem?_toArray]; exact h.1
  · rw [World.cell?_alloc_new, Nat.zero_add, sRow, List.getElem?_toArray]; exact h.2
def awL : List (Int × Int) := [(97, 0), (98, 0), (44, 0), (99, 0), (32, 0), (100, 0)]
theorem aw_facts : nextM awL 0 = 2 ∧ backM awL 4 = 3 ∧ startM awL 0 false = 2 ∧ startM awL 0 true = 5 ∧ prevM awL 5 true = 0 ∧ endM awL 0 true = 3 ∧ fromM awL 1 = 0 ∧ toM awL 1 = 2 ∧ knd 32 = 0 ∧ knd 233 = 1 := by decide +kernel
/-- The tables, and awake's signs at block B. -/
def AW (w : World) (B : Nat) : Prop := Tabs w ∧ Signs w (some ⟨B, 0, none⟩) awL
theorem AW.below {w w' : World} {B : Nat} (h : AW w B) (hb : Below w.heap.size w w') : AW w' B := ⟨h.1.below hb, h.2.below hb⟩
theorem aw_new {w : World} (hT : Tabs w) : AW (w.alloc (.cells #[.int .i64 97, .int .i64 0, .int .i64 98, .int .i64 0, .int .i64 44, .int .i64 0, .int .i64 99, .int .i64 0, .int .i64 32, .int .i64 0, .int .i64 100, .int .i64 0] 44)) w.heap.size := ⟨hT.below (below_alloc _ _), signs_new w awL 44⟩
set_option maxRecDepth 100000 in
set_option maxHeartbeats 4000000 in
theorem wawake_any (w : World) (hT : Tabs w) : Calls Tryd.prog 36 #[] w fun e w' => e = .returned (.bool true) ∧ Below w.heap.size w w' := by
  have ⟨f1, f2, f3, f4, f5, f6, f7, f8, f9, f10⟩ := aw_facts
  have K0 := Lib.hid (aw_new hT)
  have A := fun w1 (h : AW w1 w.heap.size) => around_any awL (some ⟨w.heap.size, 0, none⟩) 6 1 w1 (by decide) h.1 h.2
  have N := fun w1 (h : AW w1 w.heap.size) => next_any awL (some ⟨w.heap.size, 0, none⟩) 6 0 w1 (by decide) h.1 h.2
  have B := fun w1 (h : AW w1 w.heap.size) => back_any awL (some ⟨w.heap.size, 0, none⟩) 6 4 w1 (by decide) h.1 h.2
  have S1 := fun w1 (h : AW w1 w.heap.size) => start_any awL (some ⟨w.heap.size, 0, none⟩) 6 0 false w1 (by decide) h.1 h.2
  have S2 := fun w1 (h : AW w1 w.heap.size) => start_any awL (some ⟨w.heap.size, 0, none⟩) 6 0 true w1 (by decide) h.1 h.2
  have P := fun w1 (h : AW w1 w.heap.size) => prev_any awL (some ⟨w.heap.size, 0, none⟩) 6 5 true w1 (by decide) h.1 h.2
  have E := fun w1 (h : AW w1 w.heap.size) => end_any awL (some ⟨w.heap.size, 0, none⟩) 6 0 true w1 (by decide) h.1 h.2
  have D1 := fun w1 (h : AW w1 w.heap.size) => kind_any 32 w1 h.1
  have D2 := fun w1 (h : AW w1 w.heap.size) => kind_any 233 w1 h.1
  have hL : awL.length = 6 := rfl
  rw [hL, f7, f8] at A; rw [hL, f1] at N; rw [hL, f2] at B; rw [hL, f3] at S1; rw [hL, f4] at S2; rw [hL, f5] at P; rw [hL, f6] at E; rw [f9] at D1; rw [f10] at D2
  replace A := Lib.hid A; replace N := Lib.hid N; replace B := Lib.hid B; replace S1 := Lib.hid S1; replace S2 := Lib.hid S2; replace P := Lib.hid P; replace E := Lib.hid E; replace D1 := Lib.hid D1; replace D2 := Lib.hid D2
  clear hL f1 f2 f3 f4 f5 f6 f7 f8 f9 f10 hT
  go_enter Tryd.func36, Tryd.ntmps36
  go_wp2_with (first
    | (go_at_call 62; refine (A.out _ K0.out).mono ?_; rintro e w1 ⟨rfl, hb1⟩; have K1 := Lib.hid (K0.out.below hb1))
    | (go_at_call 63; refine (N.out _ K1.out).mono ?_; rintro e w2 ⟨rfl, hb2⟩; have K2 := Lib.hid (K1.out.below hb2))
    | (go_at_call 64; refine (B.out _ K2.out).mono ?_; rintro e w3 ⟨rfl, hb3⟩; have K3 := Lib.hid (K2.out.below hb3))
    | (go_at_call 65; (with_reducible refine (S1.out _ K3.out).mono ?_); rintro e w4 ⟨rfl, hb4⟩; have K4 := Lib.hid (K3.out.below hb4))
    | (go_at_call 65; (with_reducible refine (S2.out _ K4.out).mono ?_); rintro e w5 ⟨rfl, hb5⟩; have K5 := Lib.hid (K4.out.below hb5))
    | (go_at_call 66; refine (P.out _ K5.out).mono ?_; rintro e w6 ⟨rfl, hb6⟩; have K6 := Lib.hid (K5.out.below hb6))
    | (go_at_call 67; refine (E.out _ K6.out).mono ?_; rintro e w7 ⟨rfl, hb7⟩; have K7 := Lib.hid (K6.out.below hb7))
    | (go_at_call 37; (with_reducible refine (D1.out _ K7.out).mono ?_); rintro e w8 ⟨rfl, hb8⟩; have K8 := Lib.hid (K7.out.below hb8))
    | (go_at_call 37; (with_reducible refine (D2.out _ K8.out).mono ?_); rintro e w9 ⟨rfl, hb9⟩))
  go_ret
  exact ⟨rfl, seqB (seqB (seqB (seqB (seqB (seqB (seqB (seqB (seqB (below_alloc _ _) hb1) hb2) hb3) hb4) hb5) hb6) hb7) hb8) hb9⟩
set_option maxRecDepth 100000 in
set_option maxHeartbeats 2000000 in
theorem wordkind_any (v : Int) (w : World) (hT : Tabs w) : Calls Tryd.prog 10 #[.int .i64 v] w fun e w' => e = .returned (.bool true) ∧ Below w.heap.size w w' := by
  have A := fun w hT => wawake_any w hT
  have K := fun w hT => kind_any v w hT
  have R := fun w => kind_ref v w
  generalize knd v = n at *
  have en : (n == n) = true := by simp
  replace A := Lib.hid A; replace K := Lib.hid K; replace R := Lib.hid R
  have HT := Lib.hid hT; clear hT
  go_enter Tryd.func10, Tryd.ntmps10
  go_wp2_with (first
    | (go_at_call 36; refine (A.out _ HT.out).mono ?_; rintro e w1 ⟨rfl, hb1⟩; have T1 := Lib.hid (HT.out.below hb1))
    | (go_at_call 37; refine (K.out _ T1.out).mono ?_; rintro e w2 ⟨rfl, hb2⟩)
    | (go_at_call 38; refine (R.out _).mono ?_; rintro e w3 ⟨rfl, hb3⟩))
  go_ret
  exact ⟨rfl, seqB (seqB hb1 hb2) hb3⟩
end Go.Proofs.YtecffaidpiadoaaDoor
