/-
  view.Text: what cells say.
-/
import Derived.Test.YtfhcfamjlhmgiaaDoorV3
set_option linter.unusedVariables false
set_option linter.unusedSimpArgs false
namespace Go.Proofs.YtfhcfamjlhmgiaaDoor
set_option maxRecDepth 100000
open Go.RowKit
/-- The values that a cell says. -/
def txO (x : Int) : List Int := if 0 < x then [x] else if x = 0 then [32] else []
/-- .. that cells say. -/
def txV (L : List Cl) : List Int := L.flatMap fun c => txO c.1
theorem txV_append (a b : List Cl) : txV (a ++ b) = txV a ++ txV b := by unfold txV; simp
theorem txV_le (L : List Cl) : (txV L).length ≤ L.length := by
  induction L with
  | nil => simp [txV]
  | cons c L ih =>
    have h : (txO c.1).length ≤ 1 := by unfold txO; split; · simp
                                        split <;> simp
    have e : txV (c :: L) = txO c.1 ++ txV L := rfl
    rw [e, List.length_append, List.length_cons]; omega
theorem txV_take (L : List Cl) (k : Nat) (h : k < L.length) : txV (L.take (k + 1)) = txV (L.take k) ++ txO (L.getD k cl0).1 := by
  rw [List.take_add_one, txV_append, List.getElem?_eq_getElem h]
  simp [txV, List.getD, List.getElem?_eq_getElem h]
set_option maxHeartbeats 4000000 in
theorem vtext_any (L : List Cl) (a : Option Addr) (c : Nat) (w : World) (hl : L.length ≤ 1000000) (ha : CellsIn w a L) :
    Calls Tryd.prog 39 #[.slice a L.length c] w fun e w' => e = .returned (.string (encS (txV L))) ∧ Below w.heap.size w w' := by
  obtain ⟨i0, hi, hz0, hz1, hz2⟩ := info_parts infoIntS
  have HA := Lib.hid ha; clear ha
  have E := Lib.hid fun x w1 (h : ownI w1 w.heap.size x (txV L)) => (by
    obtain ⟨ea, ec, rfl, hr⟩ := row_of_own h
    exact encode_any (txV L) ea ec w1 (by have := txV_le L; omega) hr : Calls Tryd.prog 66 #[x] w1 fun e w' => e = .returned (.string (encS (txV L))) ∧ Below w1.heap.size w1 w')
  go_enter Tryd.func39, Tryd.ntmps39
  go_wp2_with (at_make; refine wpList_make_own _ rfl _ _ 44 rfl w.heap.size 3 i0 _ 1 Tryd.underlying44 hi hz0 hz1 _ _ _ L.length rfl rfl rfl ?b2 ?b3 (Nat.le_refl _) ?_)
  case b2 => rw [hz2]; omega
  case b3 => unfold maxLen; omega
  intro w0 hown0 hgrow0
  have N0 := (Below.refl w.heap.size w).grown hgrow0 (Nat.le_refl _) (fun k h => by cases h)
  have H0 := Lib.hid (show ownI w0 w.heap.size (.slice (some ⟨w.heap.size, 0, none⟩) 0 L.length) (txV (L.take 0)) from hown0)
  clear hown0 hgrow0
  go_wp2
  go_loopw [3, 11] (fun ov iv wr => ∃ k : Nat, k ≤ L.length ∧ iv = .int .i64 (k : Int) ∧ Hid (ownI wr w.heap.size ov (txV (L.take k))) ∧ Below w.heap.size w wr) (fun _ iv _ => L.length - (intOf iv).toNat)
  case atStart => exact ⟨0, Nat.zero_le _, rfl, H0, N0⟩
  case round =>
    obtain ⟨k, hk, rfl, hO, hbl⟩ := hrel
    by_cases hlt : k < L.length
    · obtain ⟨b1, o1, rfl, hb1, c1, c2, c3, c4, c5⟩ := (HA.out.below hbl) k hlt
      have hk1 : (k : Int) < L.length := by omega
      have hk0 : (0 : Int) ≤ k := by omega
      have hnext := txV_take L k hlt
      have hlen : (txV (L.take k)).length ≤ 1000000 := by have := txV_le (L.take k); simp at this; omega
      have hown := hO.out
      unfold ownI at hown
      have hsz := hbl.size
      generalize txV (L.take k) = Y at *
      generalize L.getD k cl0 = q at *
      obtain ⟨v, x2, x3, x4, x5⟩ := q
      simp only at c1 c2 c3 c4 c5 hnext
      rcases (by omega : 0 < v ∨ v = 0 ∨ v < 0) with hv | hv | hv
      · have Hn : Hid (txV (L.take (k + 1)) = Y ++ [v]) := Lib.hid (by rw [hnext]; unfold txO; rw [if_pos hv])
        clear hnext
        go_wp2_with (at_builtin; refine wpList_append_own _ rfl _ _ 44 rfl w.heap.size 3 i0 (.int .i64 0) 1 8 Tryd.underlying44 hi hz0 hz1 hz2 rfl (by decide) _ _ _ rfl ((hown.alloc _).alloc _) ⟨wr.heap.size + 1, 0, none⟩ 1 1 [.int .i64 v] rfl rfl ?c1 ?c2 ?c3 ?c4 ?c5 ?_)
        case c1 => intro j x hj; exact app_cells (by simp) hj
        case c2 => simp [Value.oneCell']
        case c3 => unfold maxLen; omega
        case c4 => omega
        case c5 => simp; omega
        intro v' w5 hown5 hgrow5 _
        have N2 := hbl.alloc hbl.size (.cells #[.int .i64 v, .int .i64 x2, .int .i64 x3, .int .i64 x4, .int .i64 x5] 67)
        have N5 := (N2.alloc N2.size (.cells #[.int .i64 v] 3)).grown hgrow5 (by simp; omega) (fun j hj => (hown.lt j hj).1)
        have HO := Lib.hid (show ownI w5 w.heap.size v' (Y ++ [v]) by unfold ownI; rw [List.length_append, List.map_append]; exact hown5)
        clear hown5 hgrow5 hown
        go_wp2
        go_roundw
        case rel => exact ⟨k + 1, by omega, by go_num, Lib.hid (by rw [Hn.out]; exact HO.out), N5⟩
        case measure => (simp [intOf]; try omega)
      · subst hv
        have Hn : Hid (txV (L.take (k + 1)) = Y ++ [32]) := Lib.hid (by rw [hnext]; rfl)
        clear hnext
        go_wp2_with (at_builtin; refine wpList_append_own _ rfl _ _ 44 rfl w.heap.size 3 i0 (.int .i64 0) 1 8 Tryd.underlying44 hi hz0 hz1 hz2 rfl (by decide) _ _ _ rfl ((hown.alloc _).alloc _) ⟨wr.heap.size + 1, 0, none⟩ 1 1 [.int .i64 32] rfl rfl ?c1 ?c2 ?c3 ?c4 ?c5 ?_)
        case c1 => intro j x hj; exact app_cells (by simp) hj
        case c2 => simp [Value.oneCell']
        case c3 => unfold maxLen; omega
        case c4 => omega
        case c5 => simp; omega
        intro v' w5 hown5 hgrow5 _
        have N2 := hbl.alloc hbl.size (.cells #[.int .i64 0, .int .i64 x2, .int .i64 x3, .int .i64 x4, .int .i64 x5] 67)
        have N5 := (N2.alloc N2.size (.cells #[.int .i64 32] 3)).grown hgrow5 (by simp; omega) (fun j hj => (hown.lt j hj).1)
        have HO := Lib.hid (show ownI w5 w.heap.size v' (Y ++ [32]) by unfold ownI; rw [List.length_append, List.map_append]; exact hown5)
        clear hown5 hgrow5 hown
        go_wp2
        go_roundw
        case rel => exact ⟨k + 1, by omega, by go_num, Lib.hid (by rw [Hn.out]; exact HO.out), N5⟩
        case measure => (simp [intOf]; try omega)
      · have Hn : Hid (txV (L.take (k + 1)) = Y) := Lib.hid (by rw [hnext]; unfold txO; rw [if_neg (by omega), if_neg (by omega), List.append_nil])
        have hz : (v == 0) = false := by rw [beq_eq_false_iff_ne]; omega
        have HO := Lib.hid (show ownI (wr.alloc (.cells #[.int .i64 v, .int .i64 x2, .int .i64 x3, .int .i64 x4, .int .i64 x5] 67)) w.heap.size _ Y from hown.alloc _)
        clear hnext hown
        go_wp2
        go_roundw
        case rel => exact ⟨k + 1, by omega, by go_num, Lib.hid (by rw [Hn.out]; exact HO.out), hbl.alloc hbl.size _⟩
        case measure => (simp [intOf]; try omega)
    · obtain rfl : k = L.length := by omega
      rw [List.take_length] at hO
      go_wp2_with (go_at_call 66; refine (E.out _ _ hO.out).mono ?_; rintro e w5 ⟨rfl, hb5⟩)
      go_ret
      exact ⟨rfl, hbl.trans (hb5.mono hbl.size)⟩
end Go.Proofs.YtfhcfamjlhmgiaaDoor
