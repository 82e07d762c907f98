import Derived.Test.YtecffaidpiadoaaDoorP1
set_option linter.unusedVariables false
set_option linter.unusedSimpArgs false
namespace Go.Proofs.YtecffaidpiadoaaDoor
open Go.RowKit
theorem retI {k : IntKind} {a b : Int} (h : a = b) : Ending.returned (.int k a) = .returned (.int k b) := by rw [h]
/-- A slice of signs (values and labels) lies in memory. -/
def Signs (w : World) (a : Option Addr) (l : List (Int × Int)) : Prop :=
  ∀ i, i < l.length → ∃ b off, a = some ⟨b, off, none⟩ ∧ b < w.heap.size ∧ w.cell? ⟨b, off + i * 2, none⟩ = some (.int .i64 (l.getD i (0, 0)).1) ∧ w.cell? ⟨b, off + i * 2 + 1, none⟩ = some (.int .i64 (l.getD i (0, 0)).2)
theorem Signs.below {w w' : World} {a : Option Addr} {l : List (Int × Int)} (h : Signs w a l) (hb : Below w.heap.size w w') : Signs w' a l := fun i hi => by
  obtain ⟨b, off, e, hlt, h1, h2⟩ := h i hi
  exact ⟨b, off, e, Nat.lt_of_lt_of_le hlt hb.size, (hb.cell (p := ⟨b, off + i * 2, none⟩) hlt).trans h1, (hb.cell (p := ⟨b, off + i * 2 + 1, none⟩) hlt).trans h2⟩
/-- The kind at a place; -1: none. -/
def kAt (l : List (Int × Int)) (big : Bool) (i : Int) : Int := if i < 0 ∨ (l.length : Int) ≤ i then -1 else if big = true then min (knd (l.getD i.toNat (0, 0)).1) 1 else knd (l.getD i.toNat (0, 0)).1
theorem kAt_rng (l : List (Int × Int)) (big : Bool) (i : Int) : -1 ≤ kAt l big i ∧ kAt l big i ≤ 2 := by
  unfold kAt
  have := knd_rng (l.getD i.toNat (0, 0)).1
  repeat' split
  all_goals omega
/-- A closure's two blocks: the signs, and whether big kinds are asked for. -/
structure Kin (w : World) (p q : Nat) (a : Option Addr) (l : List (Int × Int)) (c : Nat) (big : Bool) : Prop where
  cp : w.cell? ⟨p, 0, none⟩ = some (.slice a l.length c)
  cq : w.cell? ⟨q, 0, none⟩ = some (.bool big)
  s : Signs w a l
  t : Tabs w
  pl : p < w.heap.size
  ql : q < w.heap.size
theorem Kin.below {w w' : World} {p q : Nat} {a : Option Addr} {l : List (Int × Int)} {c : Nat} {big : Bool} (h : Kin w p q a l c big) (hb : Below w.heap.size w w') : Kin w' p q a l c big :=
  ⟨(hb.cell (p := ⟨p, 0, none⟩) h.pl).trans h.cp, (hb.cell (p := ⟨q, 0, none⟩) h.ql).trans h.cq, h.s.below hb, h.t.below hb, Nat.lt_of_lt_of_le h.pl hb.size, Nat.lt_of_lt_of_le h.ql hb.size⟩
theorem kin_new {w : World} {a : Option Addr} {l : List (Int × Int)} (hT : Tabs w) (hs : Signs w a l) (c : Nat) (big : Bool) :
    Kin ((w.alloc (.cells #[.slice a l.length c] 38)).alloc (.cells #[.bool big] 4)) w.heap.size (w.heap.size + 1) a l c big := by
  have hb := seqB (below_alloc w (.cells #[.slice a l.length c] 38)) (below_alloc _ (.cells #[.bool big] 4))
  exact ⟨by simp, by simp, hs.below hb, hT.below hb, by simp; omega, by simp⟩
set_option maxRecDepth 100000 in
set_option maxHeartbeats 2000000 in
theorem kinder1_any (i : Int) (p q : Nat) (a : Option Addr) (l : List (Int × Int)) (c : Nat) (big : Bool) (w : World) (hl : l.length ≤ 9223372036854775807) (hK : Kin w p q a l c big) :
    Calls Tryd.prog 80 #[.int .i64 i, .pointer (some ⟨p, 0, none⟩), .pointer (some ⟨q, 0, none⟩)] w fun e w' => e = .returned (.int .i64 (kAt l big i)) ∧ Below w.heap.size w w' := by
  have hp := hK.cp
  have hq := hK.cq
  have hS := Lib.hid hK.s
  have hT := Lib.hid hK.t
  clear hK
  by_cases h0 : i < 0
  · have Hk : Hid (kAt l big i = -1) := Lib.hid (by unfold kAt; rw [if_pos (Or.inl h0)])
    go_enter Tryd.func80, Tryd.ntmps80
    go_wp2
    go_ret
    rw [Hk.out]; exact ⟨rfl, Below.refl _ _⟩
  · by_cases h1 : (l.length : Int) ≤ i
    · have Hk : Hid (kAt l big i = -1) := Lib.hid (by unfold kAt; rw [if_pos (Or.inr h1)])
      go_enter Tryd.func80, Tryd.ntmps80
      go_wp2
      go_ret
      rw [Hk.out]; exact ⟨rfl, Below.refl _ _⟩
    · obtain ⟨k, rfl⟩ := Int.eq_ofNat_of_zero_le (show 0 ≤ i by omega)
      obtain ⟨b, off, rfl, hb, c1, c2⟩ := hS.out k (by omega)
      have hk : kAt l big k = if big = true then min (knd (l.getD k (0, 0)).1) 1 else knd (l.getD k (0, 0)).1 := by
        unfold kAt; rw [if_neg (by omega), Int.toNat_natCast]
      have N := fun w hT => kind_any (l.getD k (0, 0)).1 w hT
      have hr := knd_rng (l.getD k (0, 0)).1
      have hlt : k < l.length := by omega
      generalize (l.getD k (0, 0)).1 = v at *
      generalize knd v = n at *
      replace N := Lib.hid N
      have hk1 : (k : Int) < l.length := by omega
      have hk0 : (0 : Int) ≤ k := by omega
      clear c2 h0 h1
      cases big
      · have Hk : Hid (kAt l false k = n) := Lib.hid (by rw [hk]; rfl)
        clear hk
        go_enter Tryd.func80, Tryd.ntmps80
        go_wp2_with (go_at_call 37; refine (N.out _ hT.out).mono ?_; rintro e w1 ⟨rfl, hb1⟩; have hq1 := (hb1.cell (p := ⟨q, 0, none⟩) (block_lt_of_cell hq)).trans hq)
        go_ret
        rw [Hk.out]; exact ⟨rfl, hb1⟩
      · have Hk : Hid (kAt l true k = min n 1) := Lib.hid (by rw [hk]; rfl)
        clear hk
        go_enter Tryd.func80, Tryd.ntmps80
        go_wp2_with (go_at_call 37; refine (N.out _ hT.out).mono ?_; rintro e w1 ⟨rfl, hb1⟩; have hq1 := (hb1.cell (p := ⟨q, 0, none⟩) (block_lt_of_cell hq)).trans hq)
        all_goals
          go_ret
          rw [Hk.out]; exact ⟨retI (by omega), hb1⟩
theorem kinder_any (a : Option Addr) (n c : Nat) (big : Bool) (w : World) :
    Calls Tryd.prog 76 #[.slice a n c, .bool big] w fun e w' => e = .returned (.func (.func 80) #[] #[.pointer (some ⟨w.heap.size, 0, none⟩), .pointer (some ⟨w.heap.size + 1, 0, none⟩)]) ∧ (w.alloc (.cells #[.slice a n c] 38)).alloc (.cells #[.bool big] 4) = w' := by
  go_enter Tryd.func76, Tryd.ntmps76
  go_wp2
  go_ret
  exact ⟨rfl, rfl⟩
/-- A place that is handed in. -/
def plc (n : Nat) (i : Int) : Int := min (max i 0) n
theorem plc_any (a : Option Addr) (n c : Nat) (i : Int) (w : World) (hn : n ≤ 9223372036854775807) :
    Calls Tryd.prog 77 #[.slice a n c, .int .i64 i] w fun e w' => e = .returned (.int .i64 (plc n i)) ∧ w = w' := by
  go_enter Tryd.func77, Tryd.ntmps77
  go_wp2
  all_goals
    go_ret
    exact ⟨retI (by unfold plc; omega), rfl⟩
end Go.Proofs.YtecffaidpiadoaaDoor
