import Derived.Test.YtfhcfamjlhmgiaaDoorSh5
import Derived.Deep.AppendLies
set_option linter.unusedVariables false
set_option linter.unusedSimpArgs false
namespace Go.Proofs.YtfhcfamjlhmgiaaDoor
set_option maxRecDepth 100000
open Go.RowKit
theorem shK_le (v l o : Int) : (shK v l o).length ≤ 30 := by
  have h := shT_size v
  rcases cells_cases v l o with ⟨_, hs⟩ | ⟨_, _, hs⟩ | ⟨_, _, hs⟩ | ⟨_, _, hs⟩ <;> rw [hs]
  · rw [tkL_len]; exact h
  all_goals (simp)
theorem shK_len (v l o : Int) : ((shK v l o).length : Int) = shC v := by
  have hd : dng v = decide (3 < cls v) := rfl
  rcases cells_cases v l o with ⟨h, hs⟩ | ⟨h, h2, hs⟩ | ⟨h, h2, hs⟩ | ⟨h, h2, hs⟩ <;> rw [hs]
  · rw [tkL_len, shC_big (by rw [hd] at h; exact of_decide_eq_true h)]
  all_goals (rw [shC_small (by rw [hd] at h; exact of_decide_eq_false h), h2]; rfl)
attribute [local go_sem ↓] Go.wp_at_zero Go.wp_at_succ
theorem ownC_mono {w : World} {B B' : Nat} {v : Value} {L : List Cl} (h : ownC w B v L) (hB : B' ≤ B) : ownC w B' v L := by
  unfold ownC at h ⊢
  refine ⟨h.1, ?_⟩
  rcases h.2 with h2 | ⟨g, cap, cur, hv, hg, r⟩
  · exact .inl h2
  · exact .inr ⟨g, cap, cur, hv, Nat.le_trans hB hg, r⟩
theorem cells_casesR (v l o : Int) : (cls v = 0 ∧ shK v l o = []) ∨ (cls v = 2 ∧ shK v l o = [(v, lkI v l, o, v, 0), (-1, lkI v l, o, v, 1)]) ∨ ((cls v = 1 ∨ cls v = 3) ∧ shK v l o = [(v, lkI v l, o, v, 0)]) ∨ (3 < cls v ∧ shK v l o = tkL (shT v) (lkI v l) o v (shT v).size) := by
  have hr := cls_rng v
  have hk : shK v l o = if 3 < cls v then tkL (shT v) (lkI v l) o v (shT v).size else if cls v = 2 then [(v, lkI v l, o, v, 0), (-1, lkI v l, o, v, 1)] else if cls v = 0 then [] else [(v, lkI v l, o, v, 0)] := rfl
  by_cases h : 3 < cls v
  · right; right; right; exact ⟨h, by rw [hk, if_pos h]⟩
  · by_cases h2 : cls v = 2
    · right; left; exact ⟨h2, by rw [hk, if_neg h, if_pos h2]⟩
    · by_cases h0 : cls v = 0
      · left; exact ⟨h0, by rw [hk, if_neg h, if_neg h2, if_pos h0]⟩
      · right; right; left; exact ⟨by omega, by rw [hk, if_neg h, if_neg h2, if_neg h0]⟩
set_option maxHeartbeats 8000000 in
theorem cells_ref (v l o : Int) (w : World) :
    Calls Tryd.prog 16 #[.agg #[.int .i64 v, .int .i64 l], .int .i64 o] w fun e w' => ∃ x, e = .returned x ∧ ownC w' w.heap.size x (shK v l o) ∧ Below w.heap.size w w' := by
  obtain ⟨i0, hi, hz0, hz1, hz2⟩ := info_parts infoCell
  have hb0 := below_alloc w (.cells #[.int .i64 v, .int .i64 l] 23)
  have L := Lib.hid fun w => looks_ref v l w
  have hcs := cells_casesR v l o
  have O := fun w => of_ref v w
  rw [← cls_eq] at O
  have X := Lib.hid fun w => shtext_ref v w
  have hsz := shT_size v
  generalize shK v l o = R at *
  generalize shT v = s at *
  generalize lkI v l = a at *
  generalize cls v = c at *
  replace O := Lib.hid O
  have q1 : (w.alloc (.cells #[.int .i64 v, .int .i64 l] 23)).cell? ⟨w.heap.size, 0, none⟩ = some (.int .i64 v) := by rw [World.cell?_alloc_new]; rfl
  have hsz0 : (w.alloc (.cells #[.int .i64 v, .int .i64 l] 23)).heap.size = w.heap.size + 1 := by simp
  rcases hcs with ⟨rfl, hR⟩ | ⟨rfl, hR⟩ | ⟨hc, hR⟩ | ⟨hc, hR⟩
  · have HR := Lib.hid hR; clear hR
    go_enter Tryd.func16, Tryd.ntmps16
    go_wp2_with (first
      | (go_at_call 19; refine (L.out _).mono ?_; rintro e w1 ⟨rfl, hb1⟩; have c1 := (hb1.cell (p := ⟨w.heap.size, 0, none⟩) (by simp)).trans q1)
      | (go_at_call 27; refine (O.out _).mono ?_; rintro e w2 ⟨rfl, hb2⟩))
    go_ret
    refine ⟨_, rfl, ?_, seqB (seqB hb0 hb1) hb2⟩
    rw [HR.out]; exact World.ownsRow_nil _ _ _ _
  · have HR := Lib.hid hR; clear hR
    go_enter Tryd.func16, Tryd.ntmps16
    go_wp2_with (first
      | (go_at_call 19; refine (L.out _).mono ?_; rintro e w1 ⟨rfl, hb1⟩; have hlt1 : w.heap.size < w1.heap.size := (by have := hb1.size; simp at this; omega); have c1 := (hb1.cell (p := ⟨w.heap.size, 0, none⟩) (by simp)).trans q1)
      | (go_at_call 27; refine (O.out _).mono ?_; rintro e w2 ⟨rfl, hb2⟩; have hlt2 := Nat.lt_of_lt_of_le hlt1 hb2.size; have c2 := (hb2.cell (p := ⟨w.heap.size, 0, none⟩) hlt1).trans c1; have c2' := fun o => (World.cell?_alloc_lt w2 o (⟨w.heap.size, 0, none⟩ : Addr) hlt2).trans c2)
      | (at_builtin; refine wpList_append_own _ rfl _ _ 24 rfl w.heap.size 67 i0 _ 5 40 Tryd.underlying24 hi hz0 hz1 hz2 rfl (by decide) _ 1 (cCells [(v, a, o, v, 0)]) rfl ((show (w2.alloc (.cells (cRow [(v, a, o, v, 0)]) 67)).ownsRow w.heap.size 67 5 (.slice (some ⟨w2.heap.size, 0, none⟩) 1 1) 1 (cCells [(v, a, o, v, 0)]) from own_of_blk (L := [(v, a, o, v, 0)]) (heap_alloc_new _ _) (Nat.le_of_lt hlt2) (by simp [maxLen])).alloc _) ⟨w2.heap.size + 1, 0, none⟩ 1 1 (cCells [(-1, a, o, v, 1)]) rfl rfl ?c1 ?c2 ?c3 ?c4 ?c5 ?_))
    case c1 => intro j x hj; exact app_cells (by simp) hj
    case c2 => intro x hx; simp [cCells] at hx; rcases hx with rfl | rfl | rfl | rfl | rfl <;> rfl
    case c3 => unfold maxLen; omega
    case c4 => omega
    case c5 => simp; omega
    intro v' w3 hown3 hgrow3 _
    have N2 := seqB (seqB hb0 hb1) hb2
    have N3 := (N2.alloc N2.size (.cells (cRow [(v, a, o, v, 0)]) 67))
    have N4 := (N3.alloc N3.size (.cells (cRow [(-1, a, o, v, 1)]) 67)).grown hgrow3 (by have := N2.size; simp; omega) (fun k hk => by simp [Value.ownBlock] at hk; have := N2.size; omega)
    have HO := Lib.hid hown3
    clear hown3 hgrow3
    go_wp2
    go_ret
    refine ⟨_, rfl, ?_, N4⟩
    rw [HR.out]; exact HO.out
  · have HR := Lib.hid hR; clear hR
    rcases hc with rfl | rfl
    all_goals
      go_enter Tryd.func16, Tryd.ntmps16
      go_wp2_with (first
        | (go_at_call 19; refine (L.out _).mono ?_; rintro e w1 ⟨rfl, hb1⟩; have hlt1 : w.heap.size < w1.heap.size := (by have := hb1.size; simp at this; omega); have c1 := (hb1.cell (p := ⟨w.heap.size, 0, none⟩) (by simp)).trans q1)
        | (go_at_call 27; refine (O.out _).mono ?_; rintro e w2 ⟨rfl, hb2⟩; have hlt2 := Nat.lt_of_lt_of_le hlt1 hb2.size; have c2 := (hb2.cell (p := ⟨w.heap.size, 0, none⟩) hlt1).trans c1))
      go_ret
      have N2 := seqB (seqB hb0 hb1) hb2
      refine ⟨_, rfl, ?_, N2.alloc N2.size _⟩
      rw [HR.out]
      exact own_of_blk (L := [(v, a, o, v, 0)]) (heap_alloc_new _ _) N2.size (by simp [maxLen])
  · have HR := Lib.hid hR; clear hR
    have b0 : (c == 0) = false := by rw [beq_eq_false_iff_ne]; omega
    go_enter Tryd.func16, Tryd.ntmps16
    go_wp2_with (first
      | (go_at_call 19; refine (L.out _).mono ?_; rintro e w1 ⟨rfl, hb1⟩; have hlt1 : w.heap.size < w1.heap.size := (by have := hb1.size; simp at this; omega); have c1 := (hb1.cell (p := ⟨w.heap.size, 0, none⟩) (by simp)).trans q1)
      | (go_at_call 27; refine (O.out _).mono ?_; rintro e w2 ⟨rfl, hb2⟩; have hlt2 := Nat.lt_of_lt_of_le hlt1 hb2.size; have c2 := (hb2.cell (p := ⟨w.heap.size, 0, none⟩) hlt1).trans c1)
      | (go_at_call 38; refine (X.out _).mono ?_; rintro e w3 ⟨rfl, hb3⟩))
    have N3 := seqB (seqB (seqB hb0 hb1) hb2) hb3
    have hlt3 := Nat.lt_of_lt_of_le hlt2 hb3.size
    have c3 := (hb3.cell (p := ⟨w.heap.size, 0, none⟩) hlt2).trans c2
    have C3 := Lib.hid c3
    clear c1 c2 c3 hb1 hb2 hb3 hlt1 hlt2 q1 hsz0 hb0 L O X
    go_loopw [9, 10] (fun ov iv wr => ∃ k : Nat, k ≤ s.size ∧ iv = .int .i64 (k : Int) ∧ Hid (ownC wr (w.heap.size + 1) ov (tkL s a o v k)) ∧ Hid (wr.cell? ⟨w.heap.size, 0, none⟩ = some (.int .i64 v)) ∧ Below w.heap.size w wr) (fun _ iv _ => s.size - (intOf iv).toNat)
    case atStart => exact ⟨0, Nat.zero_le _, rfl, Lib.hid (World.ownsRow_nil _ _ _ _), C3, N3⟩
    case round =>
      obtain ⟨k, hk, rfl, hO, hC, hb⟩ := hrel
      by_cases hlt : k < s.size
      · have hk1 : (k : Int) < s.size := by omega
        have hk0 : (0 : Int) ≤ k := by omega
        have hown := hO.out
        unfold ownC at hown
        rw [tkL_len] at hown
        have hc1 := hC.out
        have hcl := block_lt_of_cell hc1
        have ag : u9.ownBlock ≠ some w.heap.size := fun e => by have := (hown.lt _ e).1; omega
        have Hown := Lib.hid hown
        have hsk := tkL_succ s a o v k
        have hgx : ((s.get! k).toNat : Int) = IntKind.i64.wrap (s[k].toNat : Int) := by rw [get_get s k hlt]; have := s[k].toNat_lt; rw [IntKind.wrap_i64]; omega
        rw [hgx] at hsk
        have Hsk := Lib.hid hsk
        clear hsk hgx hown
        go_wp2
        go_region_held3 (fun w' => w'.cell? ⟨w.heap.size, 0, none⟩ = some (.int .i64 v)) (first | go_keep | (rw [hgrow.cell_far _ (by simp; omega) (Ne.symm ag)]; assumption))
          ((refine step_append_lies _ (by rfl) _ _ _ (by rfl) (w.heap.size + 1) 67 i0 _ 5 40 Tryd.underlying24 hi hz0 hz1 hz2 rfl (by decide) _ k (cCells (tkL s a o v k)) (by rfl) ((show (wr.alloc _).drew.ownsRow _ _ _ _ _ _ from Hown.out.alloc _)) ⟨wr.heap.size, 0, none⟩ 1 1 [.int .i64 (IntKind.i64.wrap (s[k].toNat : Int)), .int .i64 a, .int .i64 o, .int .i64 v, .int .i64 (k : Int)] (by rfl) (by rfl) (fun j x hj => app_cells rfl hj) (by simp [Value.oneCell']) (by omega) (by unfold maxLen; omega) (by omega) (by simp; omega) (wr.heap.size + 1) (by simp) ?_; intro gg cap w1 hown1 hgrow hat hlt1))
        have N4 := ((hb.alloc hb.size (.cells #[.int .i64 (IntKind.i64.wrap (s[k].toNat : Int)), .int .i64 a, .int .i64 o, .int .i64 v, .int .i64 (k : Int)] 67)).drew).grown hgrow (by have := hb.size; simp; omega) (fun j hj => by have := (Hown.out.lt j hj).1; omega)
        have H1 := Lib.hid hown1
        have HC1 := Lib.hid (show w1.cell? ⟨w.heap.size, 0, none⟩ = some (.int .i64 v) by assumption)
        clear hown1 hgrow hat
        go_wp2
        go_roundw
        case rel => exact ⟨k + 1, by omega, by go_num, Lib.hid (by rw [Hsk.out]; unfold ownC; rw [List.length_append, tkL_len, cCells_snoc]; exact H1.out), HC1, N4⟩
        case measure => simp [intOf]; omega
      · obtain rfl : k = s.size := by omega
        go_wp2
        go_ret
        refine ⟨_, rfl, ?_, hb⟩
        rw [HR.out]; exact ownC_mono hO.out (Nat.le_succ _)
end Go.Proofs.YtfhcfamjlhmgiaaDoor
