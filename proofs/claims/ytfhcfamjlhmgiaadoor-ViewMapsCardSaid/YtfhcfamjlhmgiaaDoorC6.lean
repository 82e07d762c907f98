import Derived.Test.YtfhcfamjlhmgiaaDoorC5
import Derived.Lib.ItoaWalk
namespace Go.Proofs.YtfhcfamjlhmgiaaDoor
set_option maxRecDepth 100000
open Go.RowKit
theorem cright_ref (v : Int) (w : World) : Calls Tryd.prog 25 #[.int .i64 v] w fun e w' => e = .returned (.bool (rght v)) ∧ w = w' := by
  rcases rght_cases v with ⟨e, h | h | h⟩ | ⟨e, h | h | h | h⟩
  all_goals
    rw [e]; clear e
    go_enter Tryd.func25, Tryd.ntmps25
    go_wp2
    all_goals
      first
        | (go_ret; first | exact ⟨rfl, rfl⟩ | exact ⟨ret_bool (by simp; omega), rfl⟩)
        | (exfalso; omega)
theorem w64_u8 (c : UInt8) : wrap64 (c.toNat : Int) = (c.toNat : Int) := by have := c.toNat_lt; unfold wrap64; omega
/-- The reference's look. -/
def hitS (v : Int) (j : Nat) : Bool := lSk.getD j 0 == v
def skelR (v : Int) : Int := match (List.range 51).find? (hitS v) with | some j => ((sSk.getD j 0).toNat : Int) | none => v
theorem sk_byte (k : Nat) (h : k < (⟨#[65, 66, 69, 90, 72, 73, 75, 77, 78, 79, 80, 84, 89, 88, 118, 111, 112, 83, 73, 74, 65, 66, 69, 75, 77, 72, 79, 80, 67, 84, 88, 97, 101, 111, 112, 99, 121, 120, 115, 105, 106, 100, 113, 119, 59, 45, 45, 47, 47, 46, 44]⟩ : ByteArray).size) : (⟨#[65, 66, 69, 90, 72, 73, 75, 77, 78, 79, 80, 84, 89, 88, 118, 111, 112, 83, 73, 74, 65, 66, 69, 75, 77, 72, 79, 80, 67, 84, 88, 97, 101, 111, 112, 99, 121, 120, 115, 105, 106, 100, 113, 119, 59, 45, 45, 47, 47, 46, 44]⟩ : ByteArray)[k] = sSk.getD k 0 := by
  have h' : k < sSk.length := h
  rw [List.getD, List.getElem?_eq_getElem h']
  rfl
set_option maxRecDepth 100000 in
set_option maxHeartbeats 1000000 in
theorem skel_ref (v : Int) (w : World) : Calls Tryd.prog 69 #[.int .i64 v] w fun e w' => e = .returned (.int .i64 (skelR v)) ∧ Below w.heap.size w w' := by
  have hcell : ∀ i, i < 51 → (w.alloc (.cells #[.int .i64 913, .int .i64 914, .int .i64 917, .int .i64 918, .int .i64 919, .int .i64 921, .int .i64 922, .int .i64 924, .int .i64 925, .int .i64 927, .int .i64 929, .int .i64 932, .int .i64 933, .int .i64 935, .int .i64 957, .int .i64 959, .int .i64 961, .int .i64 1029, .int .i64 1030, .int .i64 1032, .int .i64 1040, .int .i64 1042, .int .i64 1045, .int .i64 1050, .int .i64 1052, .int .i64 1053, .int .i64 1054, .int .i64 1056, .int .i64 1057, .int .i64 1058, .int .i64 1061, .int .i64 1072, .int .i64 1077, .int .i64 1086, .int .i64 1088, .int .i64 1089, .int .i64 1091, .int .i64 1093, .int .i64 1109, .int .i64 1110, .int .i64 1112, .int .i64 1281, .int .i64 1307, .int .i64 1309, .int .i64 894, .int .i64 8208, .int .i64 8722, .int .i64 8260, .int .i64 8725, .int .i64 8228, .int .i64 8218] 3)).cell? ⟨w.heap.size, i, none⟩ = some (.int .i64 (lSk.getD i 0)) := by
    intro i hi
    rw [World.cell?_alloc_new]
    have key : ∀ j : Fin 51, (#[.int .i64 913, .int .i64 914, .int .i64 917, .int .i64 918, .int .i64 919, .int .i64 921, .int .i64 922, .int .i64 924, .int .i64 925, .int .i64 927, .int .i64 929, .int .i64 932, .int .i64 933, .int .i64 935, .int .i64 957, .int .i64 959, .int .i64 961, .int .i64 1029, .int .i64 1030, .int .i64 1032, .int .i64 1040, .int .i64 1042, .int .i64 1045, .int .i64 1050, .int .i64 1052, .int .i64 1053, .int .i64 1054, .int .i64 1056, .int .i64 1057, .int .i64 1058, .int .i64 1061, .int .i64 1072, .int .i64 1077, .int .i64 1086, .int .i64 1088, .int .i64 1089, .int .i64 1091, .int .i64 1093, .int .i64 1109, .int .i64 1110, .int .i64 1112, .int .i64 1281, .int .i64 1307, .int .i64 1309, .int .i64 894, .int .i64 8208, .int .i64 8722, .int .i64 8260, .int .i64 8725, .int .i64 8228, .int .i64 8218] : Array Value)[j.val]? = some (Value.int .i64 (lSk.getD j.val 0)) := by
      intro j
      have : (#[.int .i64 913, .int .i64 914, .int .i64 917, .int .i64 918, .int .i64 919, .int .i64 921, .int .i64 922, .int .i64 924, .int .i64 925, .int .i64 927, .int .i64 929, .int .i64 932, .int .i64 933, .int .i64 935, .int .i64 957, .int .i64 959, .int .i64 961, .int .i64 1029, .int .i64 1030, .int .i64 1032, .int .i64 1040, .int .i64 1042, .int .i64 1045, .int .i64 1050, .int .i64 1052, .int .i64 1053, .int .i64 1054, .int .i64 1056, .int .i64 1057, .int .i64 1058, .int .i64 1061, .int .i64 1072, .int .i64 1077, .int .i64 1086, .int .i64 1088, .int .i64 1089, .int .i64 1091, .int .i64 1093, .int .i64 1109, .int .i64 1110, .int .i64 1112, .int .i64 1281, .int .i64 1307, .int .i64 1309, .int .i64 894, .int .i64 8208, .int .i64 8722, .int .i64 8260, .int .i64 8725, .int .i64 8228, .int .i64 8218] : Array Value) = (lSk.map (Value.int .i64)).toArray := rfl
      rw [this, List.getElem?_toArray, List.getElem?_map, List.getD, List.getElem?_eq_getElem (show j.val < lSk.length from j.isLt)]
      rfl
    exact key ⟨i, hi⟩
  have Hc := Lib.hid hcell; clear hcell
  go_enter Tryd.func69, Tryd.ntmps69
  go_wp2
  go_name_bytes S hS
  have hsz : S.size = 51 := by rw [← hS]; rfl
  have hby : ∀ (k : Nat) (h : k < S.size), S[k] = sSk.getD k 0 := by subst hS; exact sk_byte
  have Hby := Lib.hid hby; clear hby hS
  generalize hW : w.alloc (.cells #[.int .i64 913, .int .i64 914, .int .i64 917, .int .i64 918, .int .i64 919, .int .i64 921, .int .i64 922, .int .i64 924, .int .i64 925, .int .i64 927, .int .i64 929, .int .i64 932, .int .i64 933, .int .i64 935, .int .i64 957, .int .i64 959, .int .i64 961, .int .i64 1029, .int .i64 1030, .int .i64 1032, .int .i64 1040, .int .i64 1042, .int .i64 1045, .int .i64 1050, .int .i64 1052, .int .i64 1053, .int .i64 1054, .int .i64 1056, .int .i64 1057, .int .i64 1058, .int .i64 1061, .int .i64 1072, .int .i64 1077, .int .i64 1086, .int .i64 1088, .int .i64 1089, .int .i64 1091, .int .i64 1093, .int .i64 1109, .int .i64 1110, .int .i64 1112, .int .i64 1281, .int .i64 1307, .int .i64 1309, .int .i64 894, .int .i64 8208, .int .i64 8722, .int .i64 8260, .int .i64 8725, .int .i64 8228, .int .i64 8218] 3) = W at *
  have hbW : Below w.heap.size w W := by rw [← hW]; exact below_alloc _ _
  generalize hBe : w.heap.size = B at *
  have HB := Lib.hid hBe
  clear hW hBe
  have Hsz := Lib.hid hsz
  have hs51 : 51 ≤ S.size := by omega
  clear hsz
  go_loop [5] (fun i => ∃ k : Nat, k ≤ 51 ∧ i = .int .i64 (k : Int) ∧ Hid (∀ j, j < k → hitS v j = false)) (fun i => 51 - (intOf i).toNat)
  case atStart => exact ⟨0, by omega, rfl, Lib.hid (by intro j hj; omega)⟩
  case round =>
    obtain ⟨k, hk, rfl, hno⟩ := hrel
    by_cases hlt : k < 51
    · have c0 := Hc.out k hlt
      have hh : hitS v k = (lSk.getD k 0 == v) := rfl
      have Hy : Hid (hitS v k = true → skelR v = ((sSk.getD k 0).toNat : Int)) := Lib.hid (fun h => by unfold skelR; rw [find_first hlt h hno.out])
      generalize lSk.getD k 0 = x at *
      have hks : k < S.size := by omega
      have Hk := Lib.hid (Hby.out k hks)
      cases hb : (x == v)
      · rw [hb] at hh
        have Hh := Lib.hid hh; clear hh
        go_wp2
        go_round
        case rel => exact ⟨k + 1, by omega, by go_num, Lib.hid (by intro j hj; rcases Nat.lt_succ_iff_lt_or_eq.1 hj with h | rfl; exact hno.out j h; exact Hh.out)⟩
        case measure => simp [intOf]; omega
      · rw [hb] at hh
        have Hy2 := Lib.hid (Hy.out hh)
        clear hh Hy
        go_wp2
        go_ret
        rw [Hy2.out, ← Hk.out]
        exact ⟨congrArg (fun x => Ending.returned (.int .i64 x)) (w64_u8 _), HB.out ▸ hbW⟩
    · obtain rfl : k = 51 := by omega
      have Hn : Hid (skelR v = v) := Lib.hid (by unfold skelR; rw [find_none hno.out])
      clear hlt
      go_wp2
      go_ret
      rw [Hn.out]
      exact ⟨rfl, HB.out ▸ hbW⟩
end Go.Proofs.YtfhcfamjlhmgiaaDoor
