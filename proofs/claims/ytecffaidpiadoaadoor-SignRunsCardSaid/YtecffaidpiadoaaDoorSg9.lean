import Derived.Test.YtecffaidpiadoaaDoorSg8
set_option linter.unusedVariables false
set_option linter.unusedSimpArgs false
namespace Go.Proofs.YtecffaidpiadoaaDoor
open Go.RowKit
/-- A slice of runs lies in memory. -/
def RunsIn (w : World) (a : Option Addr) (R : List Rn) : Prop :=
  ∀ i, i < R.length → ∃ b off, a = some ⟨b, off, none⟩ ∧ b < w.heap.size ∧ w.cell? ⟨b, off + i * 3, none⟩ = some (.int .i64 (R.getD i (0, 0, 0)).1) ∧ w.cell? ⟨b, off + i * 3 + 1, none⟩ = some (.int .i64 (R.getD i (0, 0, 0)).2.1) ∧ w.cell? ⟨b, off + i * 3 + 2, none⟩ = some (.int .i64 (R.getD i (0, 0, 0)).2.2)
theorem RunsIn.below {w w' : World} {a : Option Addr} {R : List Rn} (h : RunsIn w a R) (hb : Below w.heap.size w w') : RunsIn w' a R := fun i hi => by
  obtain ⟨b, off, e, hlt, h1, h2, h3⟩ := h i hi
  exact ⟨b, off, e, Nat.lt_of_lt_of_le hlt hb.size, (hb.cell (p := ⟨b, off + i * 3, none⟩) hlt).trans h1, (hb.cell (p := ⟨b, off + i * 3 + 1, none⟩) hlt).trans h2, (hb.cell (p := ⟨b, off + i * 3 + 2, none⟩) hlt).trans h3⟩
theorem runs_of_own {w : World} {B : Nat} {v : Value} {R : List Rn} (h : ownR w B v R) : ∃ a c, v = .slice a R.length c ∧ RunsIn w a R := by
  unfold ownR at h
  rcases h.2 with ⟨rfl, h0⟩ | ⟨g, cap, cur, rfl, _, hg, _⟩
  · exact ⟨none, 0, by rw [h0], fun j hj => by omega⟩
  · refine ⟨_, cap, rfl, fun j hj => ⟨g, 0, rfl, blk_lt hg, ?_, ?_, ?_⟩⟩
    · rw [Nat.zero_add, h.cellAt (j * 3) (by omega)]; exact (rCells_at R j hj).1
    · rw [Nat.zero_add, h.cellAt (j * 3 + 1) (by omega)]; exact (rCells_at R j hj).2.1
    · rw [Nat.zero_add, h.cellAt (j * 3 + 2) (by omega)]; exact (rCells_at R j hj).2.2
def atK (R : List Rn) (k : Nat) : Int := if k = 0 then 0 else (R.getD (k - 1) (0, 0, 0)).2.2
set_option maxRecDepth 100000 in
set_option maxHeartbeats 4000000 in
theorem signruns_any (l : List (Int × Int)) (a : Option Addr) (c : Nat) (w : World) (hT : UT w) (hmax : l.length ≤ 9223372036854775807) (hs : Signs w a l) :
    Calls Tryd.prog 9 #[.slice a l.length c] w fun e w' => e = .returned (.bool true) ∧ Below w.heap.size w w' := by
  have AW := Lib.hid fun w hT => sawake_any w hT
  have HT := Lib.hid hT; have HS := Lib.hid hs; clear hT hs
  by_cases h1 : 100 < l.length
  · have h1' : (100 : Int) < l.length := by omega
    go_enter Tryd.func9, Tryd.ntmps9
    go_wp2_with (go_at_call 34; refine (AW.out _ HT.out).mono ?_; rintro e w1 ⟨rfl, hb1⟩)
    go_ret
    exact ⟨rfl, hb1⟩
  have h1' : ¬ (100 : Int) < l.length := by omega
  have hok := rn_ok l l.length (Nat.le_refl _)
  have RU := Lib.hid (runs_any l a c w (by omega) HS.out)
  have Hok := Lib.hid hok
  have hlen : (rnM l l.length).length ≤ l.length := hok.len
  clear hok
  generalize rnM l l.length = R at *
  go_enter Tryd.func9, Tryd.ntmps9
  go_wp2_with (go_at_call 35; refine RU.out.mono ?_; rintro e w1 ⟨v, rfl, hown, hb1⟩; obtain ⟨ra, rc, rfl, hr⟩ := runs_of_own hown; have HR := Lib.hid hr; clear hr hown)
  go_loopw [4, 5] (fun av iv wr => ∃ (m k : Nat), k ≤ R.length ∧ av = .int .i64 (m : Int) ∧ iv = .int .i64 (k : Int) ∧ Hid ((m : Int) = atK R k) ∧ Below w1.heap.size w1 wr) (fun _ iv _ => R.length - (intOf iv).toNat)
  case atStart => exact ⟨0, 0, Nat.zero_le _, rfl, rfl, Lib.hid rfl, Below.refl _ _⟩
  case round =>
    obtain ⟨m, k, hk, rfl, rfl, hm, hb⟩ := hrel
    have hbw := hb1.trans (hb.mono hb1.size)
    by_cases hlt : k < R.length
    · obtain ⟨b, off, rfl, hblk, c1, c2, c3⟩ := (HR.out.below hb) k hlt
      have hf := Hok.out.frm k hlt
      have hft := Hok.out.lt k hlt
      have hbd := (rn_bounds Hok.out k hlt).2
      have hmf : (R.getD k (0, 0, 0)).2.1 = (m : Int) := by rw [hm.out]; unfold atK; exact hf
      have hall := Hok.out.all k hlt
      rw [hmf] at c2 hft hall
      obtain ⟨t, ht⟩ : ∃ t : Nat, (R.getD k (0, 0, 0)).2.2 = (t : Int) := ⟨((R.getD k (0, 0, 0)).2.2).toNat, by omega⟩
      have hat : Hid ((t : Int) = atK R (k + 1)) := Lib.hid (by unfold atK; rw [if_neg (by omega), Nat.add_sub_cancel, ht])
      rw [ht] at c3 hft hbd hall
      have hk1 : (k : Int) < R.length := by omega
      have hk0 : (0 : Int) ≤ k := by omega
      have hlb := Hok.out.lb k hlt
      have CS : ∀ ws, Below w1.heap.size w1 ws → ws.cell? ⟨b, off + k * 3, none⟩ = some (.int .i64 (R.getD k (0, 0, 0)).1) ∧ ws.cell? ⟨b, off + k * 3 + 2, none⟩ = some (.int .i64 (t : Int)) := fun ws hbs => by
        obtain ⟨b', off', e', _, x1, _, x3⟩ := (HR.out.below hbs) k hlt
        obtain ⟨rfl, rfl⟩ : b = b' ∧ off = off' := by simpa using e'
        rw [ht] at x3
        exact ⟨x1, x3⟩
      have hprev : 0 < k → wr.cell? ⟨b, off + (k - 1) * 3, none⟩ = some (.int .i64 (R.getD (k - 1) (0, 0, 0)).1) := fun h0 => by
        obtain ⟨b', off', e', _, c1', _⟩ := (HR.out.below hb) (k - 1) (by omega)
        obtain ⟨rfl, rfl⟩ : b = b' ∧ off = off' := by simpa using e'
        exact c1'
      generalize (R.getD (k - 1) (0, 0, 0)).1 = u0 at *
      generalize (R.getD k (0, 0, 0)).1 = u at *
      have Hall := Lib.hid hall
      replace CS := Lib.hid CS
      have hor : (k = 0) ∨ (0 < k ∧ (u0 == u) = false) := by
        rcases Nat.eq_zero_or_pos k with h | h
        · exact Or.inl h
        · exact Or.inr ⟨h, by rw [beq_eq_false_iff_ne]; exact hlb h⟩
      have d1 : ((m : Int) != (m : Int)) = false := by simp
      have d2 : decide (t ≤ m) = false := by simp; omega
      have d3 : decide (l.length < t) = false := by simp; omega
      clear hf hmf ht hlb hall hm
      rcases hor with h0 | ⟨hkp, hd⟩
      · subst h0
        clear hprev
        replace c1 : wr.cell? ⟨b, off, none⟩ = some (.int .i64 u) := by simpa using c1
        replace c2 : wr.cell? ⟨b, off + 1, none⟩ = some (.int .i64 (m : Int)) := by simpa using c2
        replace c3 : wr.cell? ⟨b, off + 2, none⟩ = some (.int .i64 (t : Int)) := by simpa using c3
        go_wp2
        go_quiet (fail)
        go_wp2
        have hbq : Below w1.heap.size w1 (wr.drewN nq) := drewN_below hb nq
        clear c1 c2 c3 d1 d2 d3 
        obtain ⟨wq, hwq⟩ : ∃ wq : World, wq = wr.drewN nq := ⟨_, rfl⟩
        rw [← hwq] at hbq ⊢
        clear hwq hb hbw hblk
        go_loopw [4] (fun av ws => ∃ j : Nat, m ≤ j ∧ j ≤ t ∧ av = .int .i64 (j : Int) ∧ Below w1.heap.size w1 ws) (fun av _ => t - (intOf av).toNat)
        case atStart => exact ⟨m, Nat.le_refl _, by omega, rfl, hbq⟩
        case round =>
          obtain ⟨j, hj1, hj2, rfl, hb⟩ := hrel
          obtain ⟨x1, x3⟩ := CS.out _ hb
          simp only [Nat.zero_mul, Nat.add_zero] at x1 x3
          by_cases hjt : j < t
          · have hjl : j < l.length := by omega
            obtain ⟨bl, ol, rfl, hbl, y1, y2⟩ := (HS.out.below (hb1.trans (hb.mono hb1.size))) j hjl
            have hju := Hall.out j (by omega) (by omega)
            rw [hju] at y2
            clear hju y1
            have hj0 : (0 : Int) ≤ j := by omega
            have hj3 : (j : Int) < l.length := by omega
            have hj4 : (j : Int) < t := by omega
            have e1 : (u != u) = false := by simp
            go_wp2
            go_quiet (fail)
            go_wp2
            go_roundw
            case rel => exact ⟨j + 1, by omega, by omega, by go_num, drewN_below hb _⟩
            case measure => simp [intOf]; omega
          · obtain rfl : j = t := by omega
            have hj4 : ¬ (j : Int) < j := by omega
            go_wp2
            go_roundw
            case rel => exact ⟨j, 1, by omega, rfl, rfl, hat, hb⟩
            case measure => simp [intOf]; omega
      · have hp := hprev hkp
        have hk2 : (0 : Int) ≤ (k : Int) - 1 := by omega
        have hk3 : (k : Int) - 1 < R.length := by omega
        have d4 : decide ((0 : Int) < (k : Int)) = true := by simp; omega
        have d5 : decide (0 < k) = true := by simp; omega
        clear hprev
        go_wp2
        go_quiet (fail)
        go_wp2
        have hbq : Below w1.heap.size w1 (wr.drewN nq) := drewN_below hb nq
        clear c1 c2 c3 d1 d2 d3 hp d4 d5
        obtain ⟨wq, hwq⟩ : ∃ wq : World, wq = wr.drewN nq := ⟨_, rfl⟩
        rw [← hwq] at hbq ⊢
        clear hwq hb hbw hblk
        go_loopw [4] (fun av ws => ∃ j : Nat, m ≤ j ∧ j ≤ t ∧ av = .int .i64 (j : Int) ∧ Below w1.heap.size w1 ws) (fun av _ => t - (intOf av).toNat)
        case atStart => exact ⟨m, Nat.le_refl _, by omega, rfl, hbq⟩
        case round =>
          obtain ⟨j, hj1, hj2, rfl, hb⟩ := hrel
          obtain ⟨x1, x3⟩ := CS.out _ hb
          by_cases hjt : j < t
          · have hjl : j < l.length := by omega
            obtain ⟨bl, ol, rfl, hbl, y1, y2⟩ := (HS.out.below (hb1.trans (hb.mono hb1.size))) j hjl
            have hju := Hall.out j (by omega) (by omega)
            rw [hju] at y2
            clear hju y1
            have hj0 : (0 : Int) ≤ j := by omega
            have hj3 : (j : Int) < l.length := by omega
            have hj4 : (j : Int) < t := by omega
            have e1 : (u != u) = false := by simp
            go_wp2
            go_quiet (fail)
            go_wp2
            go_roundw
            case rel => exact ⟨j + 1, by omega, by omega, by go_num, drewN_below hb _⟩
            case measure => simp [intOf]; omega
          · obtain rfl : j = t := by omega
            have hj4 : ¬ (j : Int) < j := by omega
            go_wp2
            go_roundw
            case rel => exact ⟨j, k + 1, by omega, rfl, by go_num, hat, hb⟩
            case measure => simp [intOf]; omega
    · obtain rfl : k = R.length := by omega
      have hml : Hid ((m : Int) = l.length) := Lib.hid (by
        rw [hm.out]; unfold atK
        by_cases h0 : R.length = 0
        · rw [if_pos h0]
          have hp := Hok.out.pos
          have : ¬ 0 < l.length := fun h => by have := hp h; omega
          omega
        · rw [if_neg h0]; exact Hok.out.last (by omega))
      have hme : ((m : Int) == (l.length : Int)) = true := by rw [hml.out]; simp
      clear hml hm
      go_wp2_with (go_at_call 34; refine (AW.out _ (HT.out.below hbw)).mono ?_; rintro e w2 ⟨rfl, hb2⟩)
      go_ret
      exact ⟨rfl, hbw.trans (hb2.mono hbw.size)⟩
end Go.Proofs.YtecffaidpiadoaaDoor
