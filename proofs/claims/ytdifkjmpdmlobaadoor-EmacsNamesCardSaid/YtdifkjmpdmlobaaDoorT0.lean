import Derived.Test.YtdifkjmpdmlobaaDoorRows
import Derived.Test.YtdifkjmpdmlobaaDoorNum0
import Derived.WalkKit
import Derived.WalkSpells
import Derived.WalkLawsBesides
namespace Go.Proofs.YtdifkjmpdmlobaaDoor
set_option linter.unusedVariables false
set_option linter.unusedSimpArgs false
set_option maxRecDepth 100000
open Go.RowKit
theorem und39 : Tryd.prog.underlying 206 = some (.array (Tryd.prog.arrayLen 206) (Tryd.prog.elem 206)) := by kernel_rfl
theorem und40 : Tryd.prog.underlying 148 = some (.slice 5) := by kernel_rfl
theorem und5 : Tryd.prog.underlying 5 = some (.int .u8) := by kernel_rfl
theorem und9 : Tryd.prog.underlying 9 = some .string := by kernel_rfl
theorem len39 : Tryd.prog.arrayLen 206 = 20 := by kernel_rfl
theorem size39 (w : World) : (sizeOf (Tryd.prog.elem 206)).run Tryd.prog w = .ok 1 w := by kernel_rfl
theorem slice39 (w : World) (B m : Nat) (hm : m ≤ 20) : (Instr.sliceAt 206 (.pointer (some ⟨B, 0, none⟩)) (some (.int .i64 (m : Int))) none none).run Tryd.prog w = .ok (.slice (some ⟨B, if m = 20 then 0 else m, none⟩) (20 - m) (20 - m)) w := by
  rw [run_sliceAt_array_l w 206 ⟨B, 0, none⟩ und39 .i64 (m : Int) (by omega) (by rw [len39]; omega), size39, len39]
  simp only [Result.andThen, slicedAt, Int.toNat_natCast]
  by_cases h : m = 20
  · subst h; simp
  · rw [if_neg (by omega), if_neg h]; simp [Addr.add]; omega
theorem room_conv (w : World) (m : Nat) (acc : List UInt8) (h : m + acc.length = 20) (c : Nat) :
    (convert 148 9 (.slice (some ⟨w.heap.size, if m = 20 then 0 else m, none⟩) (20 - m) c)).run Tryd.prog (w.alloc (.cells (room m acc) 206)) = .ok (.string ⟨acc.toArray⟩) (w.alloc (.cells (room m acc) 206)) := by
  rw [run_convert_bytes_string _ 148 9 5 _ _ _ und40 und5 und9]
  have key : (loadCells ⟨w.heap.size, if m = 20 then 0 else m, none⟩ (20 - m)).run Tryd.prog (w.alloc (.cells (room m acc) 206)) = .ok ((acc.map fun x => (x.toNat : Int)).map (Value.int .u8)).toArray (w.alloc (.cells (room m acc) 206)) := by
    have e : 20 - m = ((acc.map fun x => (x.toNat : Int)).map (Value.int .u8)).length := by simp; omega
    rw [e]
    apply run_loadCells_list
    intro j v hj
    have hj' : j < acc.length := by
      rcases Nat.lt_or_ge j acc.length with h' | h'
      · exact h'
      · rw [List.getElem?_eq_none (by simpa using h')] at hj; cases hj
    have hm : m ≠ 20 := by omega
    rw [if_neg hm]
    have ea : (⟨w.heap.size, m, none⟩ : Addr).add j = ⟨w.heap.size, m + j, none⟩ := by
      unfold Addr.add; split
      · rename_i h0; subst h0; rfl
      · rfl
    rw [ea, World.cell?_alloc_new, room, List.getElem?_toArray, List.getElem?_map, List.getElem?_append_right (by simp)]
    simp at hj ⊢
    exact hj
  rw [run_bytesToString _ _ _ _ _ key]
  have : ∀ (l : List UInt8) (s : ByteArray), (l.map fun x => (x.toNat : Int)).foldl (fun (r : ByteArray) n => r.push (UInt8.ofNat n.toNat)) s = ⟨(s.data.toList ++ l).toArray⟩ := by
    intro l
    induction l with
    | nil => intro s; simp
    | cons x r ih => intro s; simp only [List.map_cons, List.foldl_cons]; rw [ih]; simp
  rw [this]
  simp
end Go.Proofs.YtdifkjmpdmlobaaDoor
