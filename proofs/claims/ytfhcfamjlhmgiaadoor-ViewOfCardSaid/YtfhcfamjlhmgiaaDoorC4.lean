import Derived.Test.YtfhcfamjlhmgiaaDoorC3
namespace Go.Proofs.YtfhcfamjlhmgiaaDoor
set_option maxRecDepth 100000
open Go.RowKit
/-- Is v in one of some ranges: from, to, from, to? -/
def hitW (l : List Int) (v : Int) (j : Nat) : Bool := inb v (l.getD (2 * j) 0) (l.getD (2 * j + 1) 0)
def wthn (l : List Int) (v : Int) : Bool := (List.range (l.length / 2)).any (hitW l v)
theorem wthn_yes {l : List Int} {v : Int} {k : Nat} (hk : k < l.length / 2) (h : hitW l v k = true) : wthn l v = true := by
  unfold wthn; rw [List.any_eq_true]; exact ⟨k, by simpa using hk, h⟩
theorem wthn_no {l : List Int} {v : Int} (h : ∀ j, j < l.length / 2 → hitW l v j = false) : wthn l v = false := by
  unfold wthn; rw [List.any_eq_false]; intro j hj; rw [h j (by simpa using hj)]; simp
set_option maxHeartbeats 800000 in
theorem within_any (v : Int) (l : List Int) (b off cap : Nat) (w : World) (hl : l.length ≤ 1000) (hc : ∀ i, i < l.length → w.cell? ⟨b, off + i, none⟩ = some (.int .i64 (l.getD i 0))) :
    Calls Tryd.prog 70 #[.int .i64 v, .slice (some ⟨b, off, none⟩) l.length cap] w fun e w' => e = .returned (.bool (wthn l v)) ∧ w = w' := by
  have Hc := Lib.hid hc; clear hc
  go_enter Tryd.func70, Tryd.ntmps70
  go_wp2
  go_loop [5] (fun i => ∃ k : Nat, k ≤ l.length / 2 ∧ i = .int .i64 ((2 * k : Nat) : Int) ∧ Hid (∀ j, j < k → hitW l v j = false)) (fun i => l.length + 2 - (intOf i).toNat)
  case atStart => exact ⟨0, by omega, rfl, Lib.hid (by intro j hj; omega)⟩
  case round =>
    obtain ⟨k, hk, rfl, hno⟩ := hrel
    have hlen : l.length = l.length := rfl
    by_cases hlt : k < l.length / 2
    · have c0 := Hc.out (2 * k) (by omega)
      have c1 := Hc.out (2 * k + 1) (by omega)
      have hh : hitW l v k = inb v (l.getD (2 * k) 0) (l.getD (2 * k + 1) 0) := rfl
      have Hy : Hid (hitW l v k = true → wthn l v = true) := Lib.hid (fun h => wthn_yes hlt h)
      have hm : 2 * (k + 1) = 2 * k + 2 := by omega
      have hm1 : 2 * k + 1 < l.length := by omega
      generalize l.getD (2 * k) 0 = x at *
      generalize l.getD (2 * k + 1) 0 = y at *
      have Hk := Lib.hid hlt; clear hlt hk
      generalize 2 * k = m at *
      have Hm := Lib.hid hm; have Hh := Lib.hid hh; clear hm hh hlen
      rcases (show v < x ∨ (x ≤ v ∧ y < v) ∨ (x ≤ v ∧ v ≤ y) by omega) with h | ⟨h, h'⟩ | ⟨h, h'⟩
      · have Hb : Hid (inb v x y = false) := Lib.hid (by unfold inb; rw [decide_eq_false (by omega)]; rfl)
        rw [Hb.out] at Hh
        go_wp2
        go_round
        case rel => exact ⟨k + 1, by have := Hk.out; omega, by rw [Hm.out]; go_num, Lib.hid (by intro j hj; rcases Nat.lt_succ_iff_lt_or_eq.1 hj with h | rfl; exact hno.out j h; exact Hh.out)⟩
        case measure => simp [intOf]; omega
      · have Hb : Hid (inb v x y = false) := Lib.hid (by unfold inb; rw [decide_eq_false (show ¬ v ≤ y by omega), Bool.and_false])
        have hd : decide (v ≤ y) = false := decide_eq_false (by omega)
        rw [Hb.out] at Hh
        go_wp2
        go_round
        case rel => exact ⟨k + 1, by have := Hk.out; omega, by rw [Hm.out]; go_num, Lib.hid (by intro j hj; rcases Nat.lt_succ_iff_lt_or_eq.1 hj with h | rfl; exact hno.out j h; exact Hh.out)⟩
        case measure => simp [intOf]; omega
      · have Hb : Hid (inb v x y = true) := Lib.hid (by unfold inb; rw [decide_eq_true h, decide_eq_true h']; rfl)
        have hd : decide (v ≤ y) = true := decide_eq_true h'
        have Hy2 := Lib.hid (Hy.out (by rw [Hh.out]; exact Hb.out))
        clear Hy
        go_wp2
        go_ret
        rw [Hy2.out]
        exact ⟨rfl, rfl⟩
    · obtain rfl : k = l.length / 2 := by omega
      have Hn : Hid (wthn l v = false) := Lib.hid (wthn_no hno.out)
      have hge : l.length ≤ 2 * (l.length / 2) + 1 := by omega
      have hme : 2 * (l.length / 2) ≤ 1000 := by omega
      clear hlt hk hlen hno
      generalize 2 * (l.length / 2) = m at *
      go_wp2
      go_ret
      rw [Hn.out]
      exact ⟨rfl, rfl⟩
theorem within_new (v : Int) (l : List Int) (w : World) (hl : l.length ≤ 1000) :
    Calls Tryd.prog 70 #[.int .i64 v, .slice (some ⟨w.heap.size, 0, none⟩) l.length l.length] (w.alloc (.cells (l.map (Value.int .i64)).toArray 3)) fun e w' => e = .returned (.bool (wthn l v)) ∧ w.alloc (.cells (l.map (Value.int .i64)).toArray 3) = w' := by
  refine within_any v l w.heap.size 0 l.length _ hl fun i hi => ?_
  rw [World.cell?_alloc_new, Nat.zero_add, List.getElem?_toArray, List.getElem?_map, List.getD, List.getElem?_eq_getElem hi]
  rfl
def lSpace : List Int := [160, 160, 5760, 5760, 8192, 8202, 8232, 8233, 8239, 8239, 8287, 8287, 12288, 12288]
def lZero : List Int := [173, 173, 6155, 6158, 8203, 8205, 8288, 8292, 65279, 65279, 65529, 65531]
def lBidi : List Int := [1564, 1564, 8206, 8207, 8234, 8238, 8294, 8297]
def lMark : List Int := [768, 879, 1155, 1161, 1425, 1469, 1552, 1562, 1611, 1631, 1750, 1756, 6832, 6862, 7616, 7679, 8400, 8432, 12330, 12335, 12441, 12442, 65024, 65039, 65056, 65071]
def lOther : List Int := [57344, 63743, 64976, 65007, 65520, 65528, 65534, 65535, 131070, 131071, 262142, 1114111]
def lWide : List Int := [4352, 4447, 8986, 8987, 11904, 12287, 12289, 12350, 12353, 13311, 13312, 19903, 19968, 42191, 43360, 43391, 44032, 55203, 63744, 64255, 65072, 65135, 65280, 65376, 65504, 65510, 127744, 128591, 128640, 128767, 129280, 129535, 131072, 262141]
def lSk : List Int := [913, 914, 917, 918, 919, 921, 922, 924, 925, 927, 929, 932, 933, 935, 957, 959, 961, 1029, 1030, 1032, 1040, 1042, 1045, 1050, 1052, 1053, 1054, 1056, 1057, 1058, 1061, 1072, 1077, 1086, 1088, 1089, 1091, 1093, 1109, 1110, 1112, 1281, 1307, 1309, 894, 8208, 8722, 8260, 8725, 8228, 8218]
def sSk : List UInt8 := [65, 66, 69, 90, 72, 73, 75, 77, 78, 79, 80, 84, 89, 88, 118, 111, 112, 83, 73, 74, 65, 66, 69, 75, 77, 72, 79, 80, 67, 84, 88, 97, 101, 111, 112, 99, 121, 120, 115, 105, 106, 100, 113, 119, 59, 45, 45, 47, 47, 46, 44]
theorem w_lSpace (v : Int) (w : World) (B : Nat) (hB : w.heap.size = B) : Calls Tryd.prog 70 #[.int .i64 v, .slice (some ⟨B, 0, none⟩) 14 14] (w.alloc (.cells #[.int .i64 160, .int .i64 160, .int .i64 5760, .int .i64 5760, .int .i64 8192, .int .i64 8202, .int .i64 8232, .int .i64 8233, .int .i64 8239, .int .i64 8239, .int .i64 8287, .int .i64 8287, .int .i64 12288, .int .i64 12288] 3)) fun e w' => e = .returned (.bool (wthn lSpace v)) ∧ w.alloc (.cells #[.int .i64 160, .int .i64 160, .int .i64 5760, .int .i64 5760, .int .i64 8192, .int .i64 8202, .int .i64 8232, .int .i64 8233, .int .i64 8239, .int .i64 8239, .int .i64 8287, .int .i64 8287, .int .i64 12288, .int .i64 12288] 3) = w' := hB ▸ within_new v lSpace w (by decide)
theorem w_lZero (v : Int) (w : World) (B : Nat) (hB : w.heap.size = B) : Calls Tryd.prog 70 #[.int .i64 v, .slice (some ⟨B, 0, none⟩) 12 12] (w.alloc (.cells #[.int .i64 173, .int .i64 173, .int .i64 6155, .int .i64 6158, .int .i64 8203, .int .i64 8205, .int .i64 8288, .int .i64 8292, .int .i64 65279, .int .i64 65279, .int .i64 65529, .int .i64 65531] 3)) fun e w' => e = .returned (.bool (wthn lZero v)) ∧ w.alloc (.cells #[.int .i64 173, .int .i64 173, .int .i64 6155, .int .i64 6158, .int .i64 8203, .int .i64 8205, .int .i64 8288, .int .i64 8292, .int .i64 65279, .int .i64 65279, .int .i64 65529, .int .i64 65531] 3) = w' := hB ▸ within_new v lZero w (by decide)
theorem w_lBidi (v : Int) (w : World) (B : Nat) (hB : w.heap.size = B) : Calls Tryd.prog 70 #[.int .i64 v, .slice (some ⟨B, 0, none⟩) 8 8] (w.alloc (.cells #[.int .i64 1564, .int .i64 1564, .int .i64 8206, .int .i64 8207, .int .i64 8234, .int .i64 8238, .int .i64 8294, .int .i64 8297] 3)) fun e w' => e = .returned (.bool (wthn lBidi v)) ∧ w.alloc (.cells #[.int .i64 1564, .int .i64 1564, .int .i64 8206, .int .i64 8207, .int .i64 8234, .int .i64 8238, .int .i64 8294, .int .i64 8297] 3) = w' := hB ▸ within_new v lBidi w (by decide)
theorem w_lMark (v : Int) (w : World) (B : Nat) (hB : w.heap.size = B) : Calls Tryd.prog 70 #[.int .i64 v, .slice (some ⟨B, 0, none⟩) 26 26] (w.alloc (.cells #[.int .i64 768, .int .i64 879, .int .i64 1155, .int .i64 1161, .int .i64 1425, .int .i64 1469, .int .i64 1552, .int .i64 1562, .int .i64 1611, .int .i64 1631, .int .i64 1750, .int .i64 1756, .int .i64 6832, .int .i64 6862, .int .i64 7616, .int .i64 7679, .int .i64 8400, .int .i64 8432, .int .i64 12330, .int .i64 12335, .int .i64 12441, .int .i64 12442, .int .i64 65024, .int .i64 65039, .int .i64 65056, .int .i64 65071] 3)) fun e w' => e = .returned (.bool (wthn lMark v)) ∧ w.alloc (.cells #[.int .i64 768, .int .i64 879, .int .i64 1155, .int .i64 1161, .int .i64 1425, .int .i64 1469, .int .i64 1552, .int .i64 1562, .int .i64 1611, .int .i64 1631, .int .i64 1750, .int .i64 1756, .int .i64 6832, .int .i64 6862, .int .i64 7616, .int .i64 7679, .int .i64 8400, .int .i64 8432, .int .i64 12330, .int .i64 12335, .int .i64 12441, .int .i64 12442, .int .i64 65024, .int .i64 65039, .int .i64 65056, .int .i64 65071] 3) = w' := hB ▸ within_new v lMark w (by decide)
theorem w_lOther (v : Int) (w : World) (B : Nat) (hB : w.heap.size = B) : Calls Tryd.prog 70 #[.int .i64 v, .slice (some ⟨B, 0, none⟩) 12 12] (w.alloc (.cells #[.int .i64 57344, .int .i64 63743, .int .i64 64976, .int .i64 65007, .int .i64 65520, .int .i64 65528, .int .i64 65534, .int .i64 65535, .int .i64 131070, .int .i64 131071, .int .i64 262142, .int .i64 1114111] 3)) fun e w' => e = .returned (.bool (wthn lOther v)) ∧ w.alloc (.cells #[.int .i64 57344, .int .i64 63743, .int .i64 64976, .int .i64 65007, .int .i64 65520, .int .i64 65528, .int .i64 65534, .int .i64 65535, .int .i64 131070, .int .i64 131071, .int .i64 262142, .int .i64 1114111] 3) = w' := hB ▸ within_new v lOther w (by decide)
theorem w_lWide (v : Int) (w : World) (B : Nat) (hB : w.heap.size = B) : Calls Tryd.prog 70 #[.int .i64 v, .slice (some ⟨B, 0, none⟩) 34 34] (w.alloc (.cells #[.int .i64 4352, .int .i64 4447, .int .i64 8986, .int .i64 8987, .int .i64 11904, .int .i64 12287, .int .i64 12289, .int .i64 12350, .int .i64 12353, .int .i64 13311, .int .i64 13312, .int .i64 19903, .int .i64 19968, .int .i64 42191, .int .i64 43360, .int .i64 43391, .int .i64 44032, .int .i64 55203, .int .i64 63744, .int .i64 64255, .int .i64 65072, .int .i64 65135, .int .i64 65280, .int .i64 65376, .int .i64 65504, .int .i64 65510, .int .i64 127744, .int .i64 128591, .int .i64 128640, .int .i64 128767, .int .i64 129280, .int .i64 129535, .int .i64 131072, .int .i64 262141] 3)) fun e w' => e = .returned (.bool (wthn lWide v)) ∧ w.alloc (.cells #[.int .i64 4352, .int .i64 4447, .int .i64 8986, .int .i64 8987, .int .i64 11904, .int .i64 12287, .int .i64 12289, .int .i64 12350, .int .i64 12353, .int .i64 13311, .int .i64 13312, .int .i64 19903, .int .i64 19968, .int .i64 42191, .int .i64 43360, .int .i64 43391, .int .i64 44032, .int .i64 55203, .int .i64 63744, .int .i64 64255, .int .i64 65072, .int .i64 65135, .int .i64 65280, .int .i64 65376, .int .i64 65504, .int .i64 65510, .int .i64 127744, .int .i64 128591, .int .i64 128640, .int .i64 128767, .int .i64 129280, .int .i64 129535, .int .i64 131072, .int .i64 262141] 3) = w' := hB ▸ within_new v lWide w (by decide)
end Go.Proofs.YtfhcfamjlhmgiaaDoor
