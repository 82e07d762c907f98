/-
  vfs: New.
-/
import Derived.Test.YtlkocmnnchgdeaaVf4
import Derived.Deep.Cut
import Derived.Deep.CutRange
set_option linter.unusedVariables false
set_option linter.unusedSimpArgs false
namespace Go.Proofs.Ytlkocmnnchgdeaa
set_option maxRecDepth 100000
open Go.RowKit
theorem two_maps (w : World) {W : World} {P : Nat} (hW : ((w.alloc (.map #[] 0)).alloc (.map #[] 0)).alloc (.cells #[.map (some w.heap.size), .map (some (w.heap.size + 1)), .slice none 0 0, .slice none 0 0, .int .i64 0, .bool false] 42) = W) (hP : w.heap.size + 2 = P) :
    FlM W w.heap.size (fun _ => none) 0 ∧ FlM W (w.heap.size + 1) (fun _ => none) 0 ∧ W.heap[P]? = some (.cells #[.map (some w.heap.size), .map (some (w.heap.size + 1)), .slice none 0 0, .slice none 0 0, .int .i64 0, .bool false] 42 (0, 0)) ∧ Below w.heap.size w W := by
  subst hW; subst hP
  have s1 : (w.alloc (.map #[] 0)).heap.size = w.heap.size + 1 := by simp
  have s2 : ((w.alloc (.map #[] 0)).alloc (.map #[] 0)).heap.size = w.heap.size + 2 := by simp
  have m1 := FlM.made w
  have m2 := FlM.made (w.alloc (.map #[] 0))
  have b1 := below_alloc w (.map #[] 0)
  have b2 := below_alloc (w.alloc (.map #[] 0)) (.map #[] 0)
  have b3 := below_alloc ((w.alloc (.map #[] 0)).alloc (.map #[] 0)) (.cells #[.map (some w.heap.size), .map (some (w.heap.size + 1)), .slice none 0 0, .slice none 0 0, .int .i64 0, .bool false] 42)
  have r := heap_alloc_new ((w.alloc (.map #[] 0)).alloc (.map #[] 0)) (.cells #[.map (some w.heap.size), .map (some (w.heap.size + 1)), .slice none 0 0, .slice none 0 0, .int .i64 0, .bool false] 42)
  rw [s1] at m2
  rw [s2] at r
  exact ⟨(m1.below b2).below b3, m2.below b3, r, seqB (seqB b1 b2) b3⟩
theorem vnew_fin {B P Q : Nat} {l : List Int} {cv : Value} {ka : Option Addr} {n kc : Nat} {w : World} (m1 : FlM w B (fun _ => none) 0) (m2 : FlM w Q (fun _ => none) 0) (hBQ : B ≠ Q) (hP : w.heap[P]? = some (.cells #[.map (some B), .map (some Q), .slice none 0 0, .slice none 0 0, .int .i64 0, .bool false] 42 (0, 0)))
    (cr : w.ownsRow B 30 2 cv 1 [.int .i64 3, .slice ka n kc]) (ks : w.ownsRow B 5 1 (.slice ka n kc) n (kR l)) (hn : l.length = n) (hBP : B ≤ P) (hBQ2 : B ≤ Q) : DkS B P ⟨B, Q, fun _ => none, fun _ => none, 0, 0, [], .slice none 0 0, cv, ka, n, kc, l⟩ 0 false (w.setCell ⟨P, 3, none⟩ cv) := by
  have hF : ∀ k, k ≠ P → (w.setCell ⟨P, 3, none⟩ cv).heap[k]? = w.heap[k]? := fun k hk => Below.heap_setCell w ⟨P, 3, none⟩ cv k hk
  exact ⟨vset hP 3 cv, m1.blk (hF _ (fun e => m1.ne hP e.symm)), m2.blk (hF _ (fun e => m2.ne hP e.symm)), hBQ, oww_nil _ _, rows_keep cr fun k hk => hF k (fun e => rows_typ cr hP typ_dr (e ▸ hk)), rows_keep ks fun k hk => hF k (fun e => rows_typ ks hP typ_du (e ▸ hk)), hn, hBP, Nat.le_refl _, hBQ2⟩
theorem rows_base {w : World} {B B' : Nat} {e : TypeId} {s : Nat} {v : Value} {n : Nat} {xs : List Value} (h : w.ownsRow B e s v n xs) (hB : B' ≤ B) : w.ownsRow B' e s v n xs := by
  refine ⟨h.1, ?_⟩
  rcases h.2 with hn | ⟨g, cap, cur, rfl, hb, rest⟩
  · exact .inl hn
  · exact .inr ⟨g, cap, cur, rfl, Nat.le_trans hB hb, rest⟩
set_option maxHeartbeats 8000000 in
theorem vnew_any (l : List Int) (a : Option Addr) (n c gc : Nat) (G : Nat) (w : World) (hn : l.length = n) (hl : n ≤ 140737488355328) (hs : U8sIn w a l) (hG : w.heap[G]? = some (.cells #[.int .i64 3, .slice a n c] 30 (0, 0))) :
    Calls Try.prog 7 #[.slice (some ⟨G, 0, none⟩) 1 gc] w fun e w' => ∃ (P b1 b2 : Nat) (cv : Value) (ka : Option Addr) (kc : Nat), e = .returned (.pointer (some ⟨P, 0, none⟩)) ∧ DkS w.heap.size P ⟨b1, b2, fun _ => none, fun _ => none, 0, 0, [], .slice none 0 0, cv, ka, n, kc, l⟩ 0 false w' ∧ Below w.heap.size w w' := by
  obtain ⟨B, hB⟩ : ∃ B, w.heap.size = B := ⟨_, rfl⟩
  obtain ⟨Q, hQ⟩ : ∃ Q, B + 1 = Q := ⟨_, rfl⟩
  obtain ⟨P, hP⟩ : ∃ P, Q + 1 = P := ⟨_, rfl⟩
  obtain ⟨W, hW⟩ : ∃ W, ((w.alloc (.map #[] 0)).alloc (.map #[] 0)).alloc (.cells #[.map (some B), .map (some Q), .slice none 0 0, .slice none 0 0, .int .i64 0, .bool false] 42) = W := ⟨_, rfl⟩
  obtain ⟨m1, m2, r3, rb⟩ := two_maps (W := W) (P := P) w (by rw [hB, hQ]; exact hW) (by omega)
  rw [hB] at m1 m2 r3
  rw [hQ] at m2 r3
  have bX := below_alloc W (.cells #[.int .i64 3, .slice a n c] 30)
  have rX := heap_alloc_new W (.cells #[.int .i64 3, .slice a n c] 30)
  obtain ⟨X, hX⟩ : ∃ X, W.heap.size = X := ⟨_, rfl⟩
  obtain ⟨W5, hW5⟩ : ∃ W5, W.alloc (.cells #[.int .i64 3, .slice a n c] 30) = W5 := ⟨_, rfl⟩
  rw [hW5] at bX rX
  rw [hX] at rX
  have B5 := seqB rb bX
  have hG1 := vbelow hG rb
  have g0 := cell_of_row _ _ 0 _ _ _ hG1
  have g1 := cell_of_row _ _ 1 _ _ _ hG1
  have r5 := vbelow r3 bX
  have p3 := cell_of_row _ _ 3 _ _ _ r5
  have x0 := cell_of_row _ _ 0 _ _ _ rX
  have x1 := cell_of_row _ _ 1 _ _ _ rX
  dsimp at g0 g1 p3 x0 x1
  have M1 := Lib.hid (m1.below bX); have M2 := Lib.hid (m2.below bX); have R5 := Lib.hid r5; have RB := Lib.hid B5
  have RW := Lib.hid rb
  have CL := Lib.hid (vclone_any l a n c W5.drew hn hl (hs.below B5.drew))
  have HN := Lib.hid hn
  have HBq := Lib.hid hB
  have HQ := Lib.hid hQ
  have HP := Lib.hid hP
  have HX := Lib.hid hX
  have HW5 := Lib.hid hW5
  have hmm := @run_makeMap Try.prog
  clear m1 m2 r3 rb hs hG hn hG1 r5 bX rX B5 hX hW5
  go_enter Try.func7, Try.ntmps7
  go_upto_region 2 with fail
  try rw [hW]
  clear hW hQ hP hB
  go_upto_region 3 with fail
  go_loopw [12] (fun iv wr => (iv = .int .i64 0 ∧ wr = W) ∨ (iv = .int .i64 1 ∧ ∃ (cv : Value) (ka : Option Addr) (kc : Nat), Hid (DkS B P ⟨B, Q, fun _ => none, fun _ => none, 0, 0, [], .slice none 0 0, cv, ka, n, kc, l⟩ 0 false wr) ∧ Hid (Below B w wr))) (fun iv _ => 1 - (intOf iv).toNat)
  case atStart => exact Or.inl ⟨rfl, rfl⟩
  case round =>
    rcases hrel with ⟨rfl, rfl⟩ | ⟨rfl, cv, ka, kc, HD, HBl⟩
    · go_upto_region 5 with fail
      try rw [HX.out]
      rw [HW5.out]
      go_region_law
        (first
          | (go_simp
             go_at_call 17
             refine CL.out.mono ?_
             rintro e w6 ⟨b6, d6, rfl, k6, hb6⟩
             have K6 := Lib.hid k6
             have D6 := Lib.hid ((Below.refl _ W5).drew.trans hb6)
             have R6 := Lib.hid (vbelow R5.out D6.out)
             have HB6 := Lib.hid ((HBq.out ▸ RB.out.size : B ≤ W5.heap.size) |> fun h => (show Below B w w6 from (HBq.out ▸ RB.out).trans (D6.out.mono h)))
             have S6 : Hid (B ≤ w6.heap.size) := Lib.hid (by have := HB6.out.size; have := HBq.out; omega)
             have q3 := cell_of_row _ _ 3 _ _ _ R6.out
             have q30 := fun o => (below_alloc w6 o).cell (p := ⟨P, 3, none⟩) (vlt R6.out) |>.trans q3
             dsimp at q3 q30
             have u0 := (D6.out.cell (p := ⟨X, 0, none⟩) (block_lt_of_cell x0)).trans x0
             clear k6 hb6)
          | (refine step_app_cr (by rfl) _ _ (by rfl) B (.slice none 0 0) (by rfl) (World.ownsRow_nil _ _ _ _) w6.heap.size 1 3 b6 n d6 (by rfl) (heap_alloc_new w6 _) (Nat.le_trans S6.out (below_alloc _ _).size) ?_
             intro ad7 c7 w7 o7 g7
             have N7 := Lib.hid ((below_alloc w6 (.cells #[.int .i64 3, .slice b6 n d6] 30)).grown g7 (below_alloc _ _).size (fun k e => by cases e))
             have P7 := Lib.hid (vbelow R6.out N7.out)
             have O7 := Lib.hid o7
             have s3 := cell_of_row _ _ 3 _ _ _ P7.out
             have sf := fun i => frozen_of_row _ P i _ _ P7.out
             dsimp at s3
             clear o7 g7))
      all_goals
        have F := Lib.hid (vnew_fin ((M1.out.below D6.out).below N7.out) ((M2.out.below D6.out).below N7.out) (by have := HQ.out; omega) P7.out O7.out (rows_base (rows_below K6.out N7.out) (by have := RB.out.size; have := HBq.out; show B ≤ W5.heap.size; omega)) HN.out (by have := HQ.out; have := HP.out; omega) (by have := HQ.out; omega))
        have FB : Hid (Below B w (w7.setCell ⟨P, 3, none⟩ (.slice ad7 1 c7))) := Lib.hid ((HB6.out.trans (N7.out.mono S6.out)).setCell (p := ⟨P, 3, none⟩) (by have := HQ.out; have := HP.out; show B ≤ P; omega) _)
        clear M1 M2 RB P7 s3 sf q3 q30 u0 O7 N7 K6 D6 R6
        go_wp2
        go_roundw
        case rel => exact Or.inr ⟨rfl, _, _, _, F, FB⟩
        case measure => (simp [intOf]; try omega)
    · go_wp2
      go_ret
      exact ⟨P, rfl, ⟨B, Q, cv, ka, kc, by rw [HBq.out]; exact HD.out⟩, by rw [HBq.out]; exact HBl.out⟩
end Go.Proofs.Ytlkocmnnchgdeaa
