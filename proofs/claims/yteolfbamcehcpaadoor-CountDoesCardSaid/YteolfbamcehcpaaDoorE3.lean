import Derived.Test.YteolfbamcehcpaaDoorE2
namespace Go.Proofs.YteolfbamcehcpaaDoor
set_option linter.unusedVariables false
set_option linter.unusedSimpArgs false
set_option maxRecDepth 100000
open Go.RowKit
theorem conv_lit {w : World} {g k c : Nat} (l : List Int) (hl : k = l.length) (h : ∀ i, i < k → w.cell? ⟨g, 0 + i, none⟩ = some (.int .u8 (l.getD i 0))) :
    ∀ dst, Tryd.prog.underlying dst = some .string → (convert 71 dst (.slice (some ⟨g, 0, none⟩) k c)).run Tryd.prog w = .ok (.string (txt l)) w := by
  intro dst hd
  rw [run_convert_bytes_arg w _ 5 Tryd.underlying71 Tryd.underlying5 g 0 _ _ l hl.symm h dst hd]
  rfl
theorem conv_new (w : World) (l : List Int) (n : Nat) (hn : n = l.length) :
    ∀ dst, Tryd.prog.underlying dst = some .string → (convert 71 dst (.slice (some ⟨w.heap.size, 0, none⟩) n n)).run Tryd.prog (w.alloc (Obj.cells (l.map (Value.int .u8)).toArray 5)) = .ok (.string (txt l)) (w.alloc (Obj.cells (l.map (Value.int .u8)).toArray 5)) := by
  refine conv_lit l hn (fun i hi => ?_)
  have h : (w.alloc (Obj.cells (l.map (Value.int .u8)).toArray 5)).heap[w.heap.size]? = some (Obj.cells (l.map (Value.int .u8)).toArray 5) := Array.getElem?_push_size
  have hi' : i < l.length := by omega
  simp only [World.cell?, h, Nat.zero_add]
  simp [List.getElem?_eq_getElem hi', List.getD]
set_option maxRecDepth 100000 in
set_option maxHeartbeats 2000000 in
theorem bytes_ref (v : Int) (w : World) (h : rightB v = true) : Calls Tryd.prog 57 #[.int .i64 v] w fun e w' => e = .returned (.string (txt (oneI v))) ∧ Below w.heap.size w w' := by
  have hr : ((0 ≤ v ∧ v < 55296) ∨ (57343 < v ∧ v ≤ 1114111)) ∨ (1114240 ≤ v ∧ v ≤ 1114367) := by unfold rightB at h; rwa [Bool.or_eq_true, ptB_iff, stB_iff] at h
  have hp := ptB_iff v
  have hs := stB_iff v
  clear h
  rcases (by omega : v < 128 ∨ (128 ≤ v ∧ v < 2048) ∨ (2048 ≤ v ∧ v < 65536) ∨ (65536 ≤ v ∧ v ≤ 1114111) ∨ 1114111 < v) with h | ⟨h, h'⟩ | ⟨h, h'⟩ | ⟨h, h'⟩ | h
  · have e : oneI v = [v] := by rw [oneI_pt (hp.2 (by omega)), Lib.encodeRuneZ_one (by omega) (by omega)]
    have hv0 : 0 ≤ v := by omega
    have hcv : ∀ dst, Tryd.prog.underlying dst = some .string → (convert 71 dst (.slice (some ⟨w.heap.size, 0, none⟩) 1 1)).run Tryd.prog (w.alloc (Obj.cells #[.int .u8 (v)] 5)) = .ok (.string (txt [v])) (w.alloc (Obj.cells #[.int .u8 (v)] 5)) := conv_new w [v] 1 rfl
    rw [e]; clear hp hr hs e
    go_enter Tryd.func57, Tryd.ntmps57
    go_wp2
    go_ret
    exact ⟨rfl, below_alloc _ _⟩
  · have e : oneI v = [192 + v / 64, 128 + v % 64] := by rw [oneI_pt (hp.2 (by omega)), Lib.encodeRuneZ_two (by omega) (by omega)]
    have hv0 : 0 ≤ v := by omega
    have hcv : ∀ dst, Tryd.prog.underlying dst = some .string → (convert 71 dst (.slice (some ⟨w.heap.size, 0, none⟩) 2 2)).run Tryd.prog (w.alloc (Obj.cells #[.int .u8 (192 + v / 64), .int .u8 (128 + v % 64)] 5)) = .ok (.string (txt [192 + v / 64, 128 + v % 64])) (w.alloc (Obj.cells #[.int .u8 (192 + v / 64), .int .u8 (128 + v % 64)] 5)) := conv_new w [192 + v / 64, 128 + v % 64] 2 rfl
    rw [e]; clear hp hr hs e
    go_enter Tryd.func57, Tryd.ntmps57
    go_wp2
    go_ret
    exact ⟨rfl, below_alloc _ _⟩
  · have e : oneI v = [224 + v / 4096, 128 + v / 64 % 64, 128 + v % 64] := by rw [oneI_pt (hp.2 (by omega)), Lib.encodeRuneZ_three (by omega)]
    have hv0 : 0 ≤ v := by omega
    have hcv : ∀ dst, Tryd.prog.underlying dst = some .string → (convert 71 dst (.slice (some ⟨w.heap.size, 0, none⟩) 3 3)).run Tryd.prog (w.alloc (Obj.cells #[.int .u8 (224 + v / 4096), .int .u8 (128 + v / 64 % 64), .int .u8 (128 + v % 64)] 5)) = .ok (.string (txt [224 + v / 4096, 128 + v / 64 % 64, 128 + v % 64])) (w.alloc (Obj.cells #[.int .u8 (224 + v / 4096), .int .u8 (128 + v / 64 % 64), .int .u8 (128 + v % 64)] 5)) := conv_new w [224 + v / 4096, 128 + v / 64 % 64, 128 + v % 64] 3 rfl
    rw [e]; clear hp hr hs e
    go_enter Tryd.func57, Tryd.ntmps57
    go_wp2
    go_ret
    exact ⟨rfl, below_alloc _ _⟩
  · have e : oneI v = [240 + v / 262144, 128 + v / 4096 % 64, 128 + v / 64 % 64, 128 + v % 64] := by rw [oneI_pt (hp.2 (by omega)), Lib.encodeRuneZ_four (by omega) (by omega)]
    have hv0 : 0 ≤ v := by omega
    have hcv : ∀ dst, Tryd.prog.underlying dst = some .string → (convert 71 dst (.slice (some ⟨w.heap.size, 0, none⟩) 4 4)).run Tryd.prog (w.alloc (Obj.cells #[.int .u8 (240 + v / 262144), .int .u8 (128 + v / 4096 % 64), .int .u8 (128 + v / 64 % 64), .int .u8 (128 + v % 64)] 5)) = .ok (.string (txt [240 + v / 262144, 128 + v / 4096 % 64, 128 + v / 64 % 64, 128 + v % 64])) (w.alloc (Obj.cells #[.int .u8 (240 + v / 262144), .int .u8 (128 + v / 4096 % 64), .int .u8 (128 + v / 64 % 64), .int .u8 (128 + v % 64)] 5)) := conv_new w [240 + v / 262144, 128 + v / 4096 % 64, 128 + v / 64 % 64, 128 + v % 64] 4 rfl
    rw [e]; clear hp hr hs e
    go_enter Tryd.func57, Tryd.ntmps57
    go_wp2
    go_ret
    exact ⟨rfl, below_alloc _ _⟩
  · have e : oneI v = [v - 1114112] := by rw [oneI_st (hs.2 (by omega))]
    have hv0 : 0 ≤ v := by omega
    have hcv : ∀ dst, Tryd.prog.underlying dst = some .string → (convert 71 dst (.slice (some ⟨w.heap.size, 0, none⟩) 1 1)).run Tryd.prog (w.alloc (Obj.cells #[.int .u8 (v - 1114112)] 5)) = .ok (.string (txt [v - 1114112])) (w.alloc (Obj.cells #[.int .u8 (v - 1114112)] 5)) := conv_new w [v - 1114112] 1 rfl
    rw [e]; have hv2 : v ≤ 1114367 := by omega
    have hv3 : 1114240 ≤ v := by omega
    clear hp hr hs e
    go_enter Tryd.func57, Tryd.ntmps57
    go_wp2
    go_ret
    exact ⟨rfl, below_alloc _ _⟩
end Go.Proofs.YteolfbamcehcpaaDoor
