import Derived.Test.YtdifkjmpdmlobaaDoorRows
import Derived.Test.YtdifkjmpdmlobaaDoorT0
import Derived.WalkKit
import Derived.WalkSpells
import Derived.WalkLawsBesides
import Derived.Handy
import Derived.Lib.Hide
namespace Go.Proofs.YtdifkjmpdmlobaaDoor
set_option linter.unusedVariables false
set_option linter.unusedSimpArgs false
set_option maxRecDepth 100000
open Go.RowKit
def Inv (b n0 l0 : Nat) (w : World) (n l a : Value) (wr : World) : Prop :=
  ∃ (k m : Nat) (z : Int) (acc : List UInt8), n = .int .u64 (k : Int) ∧ l = .int .i64 z ∧ a = .int .i64 (m : Int) ∧ m + acc.length = 20 ∧ k < b ^ m ∧ k < 18446744073709551616 ∧
    z ≤ m ∧ -20 ≤ z - m ∧ tell b m k z.toNat ++ acc = tell b 20 n0 l0 ∧ wr = w.alloc (.cells (room m acc) 206)
theorem inv_step {b n0 l0 : Nat} {w : World} {k q : Nat} {z : Int} {acc : List UInt8} (hb : 2 ≤ b) (h1 : q + 1 + acc.length = 20) (h2 : k < b ^ (q + 1)) (h3 : k < 18446744073709551616)
    (h4 : z ≤ (q + 1 : Nat)) (h5 : -20 ≤ z - (q + 1 : Nat)) (h6 : tell b (q + 1) k z.toNat ++ acc = tell b 20 n0 l0) (hkz : ¬ (k = 0 ∧ z.toNat = 0)) :
    Inv b n0 l0 w (.int .u64 (IntKind.u64.wrap ((k : Int) / (b : Int)))) (.int .i64 (z - 1)) (.int .i64 (q : Int)) (w.alloc (.cells ((room (q + 1) acc).setIfInBounds q (.int .u8 ((dg (k % b)).toNat : Int))) 206)) := by
  have h0 : (k : Int) / b = ((k / b : Nat) : Int) := rfl
  have hw : IntKind.u64.wrap ((k : Int) / b) = ((k / b : Nat) : Int) := by
    have hle := Nat.div_le_self k b
    rw [h0]; generalize k / b = t at *
    exact IntWalk.u64_in _ (by omega)
  refine ⟨k / b, q, z - 1, dg (k % b) :: acc, by rw [hw], rfl, rfl, by simp; omega, pow_step b q k hb h2, by have := Nat.div_le_self k b; omega, by omega, by omega, ?_, by rw [room_put]⟩
  rw [← h6, ← tell_step b q k z.toNat acc hkz, show (z - 1).toNat = z.toNat - 1 by omega]
set_option maxHeartbeats 400000 in
theorem tell_any (b n l : Nat) (p : Nat) (w : World) (hb : 2 ≤ b) (hb' : b ≤ 16) (hn : n < b ^ 20) (hn' : n < 18446744073709551616) (hl : l ≤ 20) (hp : p < w.heap.size) (hc : w.cell? ⟨p, 0, none⟩ = some (.int .u64 (b : Int))) :
    Calls Tryd.prog 145 #[.int .u64 (n : Int), .int .i64 (l : Int), .pointer (some ⟨p, 0, none⟩)] w fun e w' => e = .returned (.string ⟨(tell b 20 n l).toArray⟩) ∧ Below w.heap.size w w' := by
  have Hn := Lib.hid hn; clear hn
  go_enter Tryd.func145, Tryd.ntmps145
  go_wp2
  go_loopw [0, 1, 7] (fun x y a wr => Inv b n l w x y a wr) (fun _ _ a _ => (intOf a).toNat)
  case atStart => 
    exact ⟨n, 20, l, [], rfl, rfl, rfl, by simp, Hn.out, hn', by omega, by omega, by simp, rfl⟩
  case round =>
    obtain ⟨k, m, z, acc, rfl, rfl, rfl, h1, h2, h3, h4, h5, h6, rfl⟩ := hrel
    have hkb0 : 0 ≤ (k : Int) % b := by omega
    have hkb1 : (k : Int) % b < 16 := by have := Int.emod_lt_of_pos (k : Int) (show (0 : Int) < b by omega); omega
    have hpn : p ≠ w.heap.size := by omega
    have hm20 : m ≤ 20 := by omega
    have H3 := Lib.hid h3; clear h3 hn'
    by_cases hex : k = 0 ∧ z ≤ 0
    · obtain ⟨rfl, hz⟩ := hex
      have H1 := Lib.hid h1; clear h1
      have H2 := Lib.hid h2; clear h2
      have H6 := Lib.hid h6; clear h6
      have hsl := slice39 (w.alloc (.cells (room m acc) 206)) w.heap.size m hm20
      have hcv := room_conv w m acc H1.out (20 - m)
      clear hkb0 hkb1
      go_wp2
      all_goals
        go_ret
        have h := H6.out
        rw [show z.toNat = 0 by omega, tell_done] at h
        rw [← h]
        exact ⟨rfl, (Below.refl _ _).alloc (Nat.le_refl _) _⟩
    · obtain ⟨q, rfl⟩ : ∃ q, m = q + 1 := ⟨m - 1, by
        rcases Nat.eq_zero_or_pos m with e | e
        · subst e; simp at h2; omega
        · omega⟩
      have hcell : (room (q + 1) acc)[q]? = some (.int .u8 0) := room_at _ _ _ (by omega)
      have hq1 : q ≤ 19 := by omega
      have hkz : ¬ (k = 0 ∧ z.toNat = 0) := by omega
      have R := inv_step (w := w) hb h1 h2 H3.out h4 h5 h6 hkz
      have HR := Lib.hid R; clear R
      clear h1 h2 h6
      by_cases hk : 0 < k
      · go_wp2
        go_roundw
        case rel => rw [dg_at]; exact HR.out
        case measure => simp [intOf]
      · obtain rfl : k = 0 := by omega
        have hz : 0 < z := by omega
        clear hk hex hkz hkb0 hkb1
        have hb0 : (0 : Int) % (b : Int) = 0 := by simp
        go_wp2
        go_roundw
        case rel => 
          have h := HR.out
          rw [show IntKind.u64.wrap (((0 : Nat) : Int) / (b : Int)) = 0 by simp [IntKind.wrap, IntKind.bits, IntKind.signed], Nat.zero_mod] at h
          exact h
        case measure => simp [intOf]
theorem teller_any (b : Int) (w : World) : Calls Tryd.prog 141 #[.int .u64 b] w fun e w' => e = .returned (.func (.func 145) #[] #[.pointer (some ⟨w.heap.size, 0, none⟩)]) ∧ w.alloc (.cells #[.int .u64 b] 201) = w' := by
  have hmf : ∀ (fn : Fn) (first cap : Array Value) (w : World), (Instr.makeFunc fn first cap).run Tryd.prog w = .ok (.func fn first cap) w := fun _ _ _ _ => rfl
  go_enter Tryd.func141, Tryd.ntmps141
  go_wp2
  go_ret
  exact ⟨rfl, rfl⟩
theorem reader_any (b : Int) (w : World) : Calls Tryd.prog 144 #[.int .u64 b] w fun e w' => e = .returned (.func (.func 148) #[] #[.pointer (some ⟨w.heap.size, 0, none⟩)]) ∧ w.alloc (.cells #[.int .u64 b] 201) = w' := by
  have hmf : ∀ (fn : Fn) (first cap : Array Value) (w : World), (Instr.makeFunc fn first cap).run Tryd.prog w = .ok (.func fn first cap) w := fun _ _ _ _ => rfl
  go_enter Tryd.func144, Tryd.ntmps144
  go_wp2
  go_ret
  exact ⟨rfl, rfl⟩
theorem digit_any (c : Int) (w : World) (h0 : 0 ≤ c) (h1 : c < 256) : Calls Tryd.prog 149 #[.int .u8 c] w fun e w' => e = .returned (.int .u64 (worth c)) ∧ w = w' := by
  have hw : c < 48 ∨ 70 < c ∨ (57 < c ∧ c < 65) → worth c = 18446744073709551615 := by unfold worth; intro h; rw [if_neg (by omega), if_neg (by omega)]
  have hw1 : 48 ≤ c → c ≤ 57 → worth c = c - 48 := by unfold worth; intro h h'; rw [if_pos (by omega)]
  have hw2 : 65 ≤ c → c ≤ 70 → worth c = c - 65 + 10 := by unfold worth; intro h h'; rw [if_neg (by omega), if_pos (by omega)]; omega
  have Hw := Lib.hid hw; have Hw1 := Lib.hid hw1; have Hw2 := Lib.hid hw2; clear hw hw1 hw2
  rcases (show c < 48 ∨ 70 < c ∨ (57 < c ∧ c < 65) ∨ (48 ≤ c ∧ c ≤ 57) ∨ (65 ≤ c ∧ c ≤ 70) by omega) with a | a | ⟨a, b⟩ | ⟨a, b⟩ | ⟨a, b⟩
  all_goals
    go_enter Tryd.func149, Tryd.ntmps149
    go_wp2
    go_ret
    first
      | (rw [Hw.out (by omega)]; exact ⟨rfl, rfl⟩)
      | (rw [Hw1.out (by omega) (by omega)]; exact ⟨rfl, rfl⟩)
      | (rw [Hw2.out (by omega) (by omega)]; exact ⟨rfl, rfl⟩)
end Go.Proofs.YtdifkjmpdmlobaaDoor
