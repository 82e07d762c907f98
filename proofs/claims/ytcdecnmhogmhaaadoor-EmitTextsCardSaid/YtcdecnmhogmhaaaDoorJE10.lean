/-
  Joined: M16 M18 M19 M20 M21 M23 M25.
-/
import Derived.Test.YtcdecnmhogmhaaaDoorJE02
import Derived.Test.YtcdecnmhogmhaaaDoorJE04
import Derived.Test.YtcdecnmhogmhaaaDoorJE05
import Derived.Test.YtcdecnmhogmhaaaDoorJE09
import Derived.Deep.RegionLaw
set_option linter.unusedVariables false
set_option linter.unusedSimpArgs false
set_option maxRecDepth 100000
set_option linter.unusedVariables false
set_option linter.unusedSimpArgs false
namespace Go.Proofs.YtcdecnmhogmhaaaDoor
open Go.RowKit Go.Sort
theorem ereader_any (s : ByteArray) (w : World) : Calls Tryd.prog 86 #[.string s] w fun e w' => e = .returned (.func (.func 126) #[] #[.pointer (some ⟨w.heap.size, 0, none⟩), .pointer (some ⟨w.heap.size + 1, 0, none⟩)]) ∧ (w.alloc (.cells #[.string s] 9)).alloc (.cells #[.int .i64 0] 3) = w' := by
  have hmf : ∀ (fn : Fn) (first cap : Array Value) (w : World), (Instr.makeFunc fn first cap).run Tryd.prog w = .ok (.func fn first cap) w := fun _ _ _ _ => rfl
  go_enter Tryd.func86, Tryd.ntmps86
  go_wp2
  go_ret
  first | exact ⟨rfl, rfl⟩ | exact ⟨by simp, rfl⟩
def PrsPost (s : ByteArray) (w : World) (e : Ending) (w' : World) : Prop :=
  (∃ L v, prsS s = some L ∧ e = .returned (.tuple #[v, .int .i64 0]) ∧ ownT w' w.heap.size v L ∧ Below w.heap.size w w') ∨ (prsS s = none ∧ e = .returned (.tuple #[.slice none 0 0, .int .i64 6]) ∧ Below w.heap.size w w')
theorem ownT_push {w : World} {B : Nat} {v : Value} {L : List Ot} {k n m : Int} {t : ByteArray} (h : w.ownsRow B 61 4 v (L.length + 1) (oCells L ++ [.int .i64 k, .int .i64 n, .int .i64 m, .string t])) : ownT w B v (L ++ [(k, n, m, t)]) := by
  unfold ownT; rw [List.length_append, oCells_snoc]; exact h
set_option maxHeartbeats 4000000 in
theorem parse_any (s : ByteArray) (w : World) (hT : ET w) (hs : s.size ≤ 800000) : Calls Tryd.prog 35 #[.string s] w (PrsPost s w) := by
  obtain ⟨i0, hi, hz0, hz1, hz2⟩ := info_parts infoOut
  have HT := Lib.hid hT
  have R := Lib.hid (fun w => ereader_any s w)
  have B0 := seqB (below_alloc w (.cells #[.string s] 9)) (below_alloc _ (.cells #[.int .i64 0] 3))
  have hp0 := Lib.hid (blk_alloc (heap_alloc_new w (.cells #[.string s] 9)) (.cells #[.int .i64 0] 3))
  have hq0 := heap_alloc_new (w.alloc (.cells #[.string s] 9)) (.cells #[.int .i64 0] 3)
  rw [show (w.alloc (.cells #[.string s] 9)).heap.size = w.heap.size + 1 by simp] at hq0
  replace hq0 := Lib.hid hq0
  clear hT
  go_enter Tryd.func35, Tryd.ntmps35
  go_wp2_with (go_at_call 86; refine (R.out _).mono ?_; rintro e w1 ⟨rfl, rfl⟩)
  go_loopw [4, 6] (fun lv iv wr => ∃ (k : Nat) (acc : List Ot), k ≤ s.size ∧ acc.length ≤ k ∧ iv = .int .i64 (k : Int) ∧ Hid (ownT wr w.heap.size lv acc) ∧ Hid (wr.heap[w.heap.size]? = some (.cells #[.string s] 9 (0, 0))) ∧ Hid (wr.heap[w.heap.size + 1]? = some (.cells #[.int .i64 (k : Int)] 3 (0, 0))) ∧ Hid (prsS s = (prsS (s.extract k s.size)).map (acc ++ ·)) ∧ Below w.heap.size w wr) (fun _ iv _ => s.size - (intOf iv).toNat)
  case atStart => exact ⟨0, [], Nat.zero_le _, Nat.le_refl _, rfl, Lib.hid (World.ownsRow_nil _ _ _ _), hp0, hq0, Lib.hid (by rw [ext_all]; cases prsS s <;> simp), B0⟩
  case round =>
    obtain ⟨k, acc, hk, hacc, rfl, hO, hP, hQ, hE, hbl⟩ := hrel
    by_cases hlt : k < s.size
    · have hk1 : (k : Int) < s.size := by omega
      have hk0 : (0 : Int) ≤ k := by omega
      have NX := enext_any s k w.heap.size (w.heap.size + 1) wr (HT.out.below hbl) hs hk hP.out hQ.out (by omega)
      have hle := one_le (s.extract k s.size)
      have hsz := tail_size s k
      have hnone := prsS_none (s := s.extract k s.size) (by omega)
      have hsome := prsS_some (s := s.extract k s.size) (by omega)
      obtain ⟨kk, n, m, t, c, ho⟩ : ∃ kk n m t c, oneP (s.extract k s.size) = ((kk, n, m, t), c) := ⟨_, _, _, _, _, rfl⟩
      rw [ho] at NX hle hnone hsome
      dsimp only at hle hnone hsome NX
      replace NX : Calls Tryd.prog 126 #[.pointer (some ⟨w.heap.size, 0, none⟩), .pointer (some ⟨w.heap.size + 1, 0, none⟩)] wr fun e w' => e = .returned (.tuple #[.agg #[.int .i64 kk, .int .i64 n, .int .i64 m, .string t], .int .i64 ((k : Int) + c), .bool (decide (0 < c))]) ∧ w'.heap[w.heap.size + 1]? = some (.cells #[.int .i64 ((k : Int) + c)] 3 (0, 0)) ∧ wr.grownBy w' (some (w.heap.size + 1)) := NX
      have hnq := own_ne_kind hO.out hQ.out (by decide)
      have hlt0 := Nat.lt_of_lt_of_le (blk_lt hP.out) (Nat.le_refl _)
      rw [ext_ext] at hsome
      by_cases hc : c = 0
      · have hd : decide (0 < c) = false := by simp [hc]
        rw [hd] at NX
        have HF : Hid (prsS s = none) := Lib.hid (by rw [hE.out, hnone hc]; rfl)
        replace NX := Lib.hid NX
        clear hsome hnone ho hle hsz hd hO hP hQ hE
        go_wp2_with (go_at_call 126; refine NX.out.mono ?_; rintro e w4 ⟨rfl, hq4, hg4⟩; have N4 := hbl.grown hg4 hbl.size (fun j hj => by rw [← Option.some.inj hj]; omega); have N5 := N4.trans ((below_alloc w4 (.cells #[.int .i64 kk, .int .i64 n, .int .i64 m, .string t] 61)).mono N4.size))
        refine bodyPost_ret (v := .tuple #[.slice none 0 0, .int .i64 6]) (by simp [results, Tryd.results35, go_sem]) rfl ?_
        exact Or.inr ⟨HF.out, rfl, N5⟩
      · have hd : decide (0 < c) = true := by simp; omega
        rw [hd] at NX
        have HF : Hid (prsS s = (prsS (s.extract (k + c) s.size)).map ((acc ++ [(kk, n, m, t)]) ++ ·)) := Lib.hid (by rw [hE.out, hsome hc, Option.map_map]; congr 1; funext x; simp)
        have hal : acc.length ≤ 800000 := by omega
        replace NX := Lib.hid NX
        clear hsome hnone ho hd hE
        go_wp2_with (fail)
        go_at_call 126
        refine NX.out.mono ?_
        rintro e w4 ⟨rfl, hq4, hg4⟩
        have N4 := hbl.grown hg4 hbl.size (fun j hj => by rw [← Option.some.inj hj]; omega)
        have hp4 := (hg4.block w.heap.size hlt0 (by simp)).trans hP.out
        have O4 := World.ownsRow.kept hO.out hg4 (Or.inr hnq)
        have Bx := below_alloc w4 (.cells #[.int .i64 kk, .int .i64 n, .int .i64 m, .string t] 61)
        have x5 := heap_alloc_new w4 (.cells #[.int .i64 kk, .int .i64 n, .int .i64 m, .string t] 61)
        have y := fun i => cell_of_row _ _ i _ _ _ x5; have x0 := y 0; have x1 := y 1; have x2 := y 2; have x3 := y 3; clear y x5; dsimp at x0 x1 x2 x3
        have np := own_ne_kind O4 hp4 (by decide)
        have nq := own_ne_kind O4 hq4 (by decide)
        clear hO hP hQ hg4
        go_wp2_with (at_builtin; refine wpList_append_own _ rfl _ _ 54 rfl w.heap.size 61 i0 _ 4 40 Tryd.underlying54 hi hz0 hz1 hz2 rfl (by decide) _ _ _ rfl ((O4.alloc _).alloc _) ⟨w4.heap.size + 1, 0, none⟩ 1 1 [.int .i64 kk, .int .i64 n, .int .i64 m, .string t] rfl rfl (fun j x hj => app_cells (by simp) hj) ?g2 ?g3 ?g4 ?g5 ?_)
        case g2 => simp [Value.oneCell']
        case g3 => unfold maxLen; omega
        case g4 => omega
        case g5 => have := N4.size; simp; omega
        intro v' w6 hown6 hgrow6 _
        have N5 := (N4.alloc N4.size (.cells #[.int .i64 kk, .int .i64 n, .int .i64 m, .string t] 61)).alloc (Nat.le_trans N4.size Bx.size) (.cells #[.int .i64 kk, .int .i64 n, .int .i64 m, .string t] 61)
        have N6 := N5.grown hgrow6 N5.size (fun j hj => (O4.lt j hj).1)
        have hpl := blk_lt hp4
        have hql := blk_lt hq4
        have hp6 := Lib.hid ((hgrow6.block w.heap.size (by simp; omega) (fun e => np e.symm)).trans (blk_alloc (blk_alloc hp4 _) _))
        have hq6 := Lib.hid ((hgrow6.block (w.heap.size + 1) (by simp; omega) (fun e => nq e.symm)).trans (blk_alloc (blk_alloc hq4 _) _))
        have O6 := Lib.hid (ownT_push hown6)
        clear hown6 hgrow6 N5 N4 hp4 hq4 O4 Bx x0 x1 x2 x3 np nq
        go_wp2
        go_roundw
        case rel => exact ⟨k + c, acc ++ [(kk, n, m, t)], by omega, by simp; omega, by go_num, O6, hp6, hq6, HF, N6⟩
        case measure => (simp [intOf]; try omega)
    · obtain rfl : k = s.size := by omega
      have h0 : s.extract s.size s.size = mt := size0 (by rw [tail_size]; omega)
      have HF : Hid (prsS s = some acc) := Lib.hid (by rw [hE.out, h0, prsS_nil rfl]; simp)
      clear hE hP hQ h0
      go_wp2
      refine bodyPost_ret (v := .tuple #[_, .int .i64 0]) (by simp [results, Tryd.results35, go_sem]; rfl) rfl ?_
      exact Or.inl ⟨acc, _, HF.out, rfl, hO.out, hbl⟩
theorem parse_yes (s : ByteArray) (L : List Ot) (w : World) (hT : ET w) (hs : s.size ≤ 800000) (h : prsS s = some L) : Calls Tryd.prog 35 #[.string s] w fun e w' => ∃ a c, e = .returned (.tuple #[.slice a L.length c, .int .i64 0]) ∧ OutsIn w' a L ∧ Below w.heap.size w w' := by
  refine (parse_any s w hT hs).mono ?_
  rintro e w' (⟨L', v, h1, rfl, h2, h3⟩ | ⟨h1, _⟩)
  · rw [h] at h1
    obtain rfl := Option.some.inj h1
    obtain ⟨a, c, rfl, h4⟩ := outs_of_own h2
    exact ⟨a, c, rfl, h4, h3⟩
  · rw [h] at h1; cases h1
theorem parse_no (s : ByteArray) (w : World) (hT : ET w) (hs : s.size ≤ 800000) (h : prsS s = none) : Calls Tryd.prog 35 #[.string s] w fun e w' => e = .returned (.tuple #[.slice none 0 0, .int .i64 6]) ∧ Below w.heap.size w w' := by
  refine (parse_any s w hT hs).mono ?_
  rintro e w' (⟨L', v, h1, _⟩ | ⟨_, h2, h3⟩)
  · rw [h] at h1; cases h1
  · exact ⟨h2, h3⟩
def clnB (s : ByteArray) : Bool := (prsS s).isSome
set_option maxHeartbeats 1000000 in
theorem clean_any (s : ByteArray) (w : World) (hT : ET w) (hs : s.size ≤ 800000) : Calls Tryd.prog 40 #[.string s] w fun e w' => e = .returned (.bool (clnB s)) ∧ Below w.heap.size w w' := by
  cases h : prsS s with
  | none =>
    have P := Lib.hid (parse_no s w hT hs h)
    have e : clnB s = false := by unfold clnB; rw [h]; rfl
    rw [e]
    clear e h hT
    go_enter Tryd.func40, Tryd.ntmps40
    go_wp2_with (go_at_call 35; refine P.out.mono ?_; rintro e w1 ⟨rfl, hb1⟩)
    go_ret
    exact ⟨rfl, hb1⟩
  | some L =>
    have P := Lib.hid (parse_yes s L w hT hs h)
    have e : clnB s = true := by unfold clnB; rw [h]; rfl
    rw [e]
    clear e h hT
    go_enter Tryd.func40, Tryd.ntmps40
    go_wp2_with (go_at_call 35; refine P.out.mono ?_; rintro e w1 ⟨a, c, rfl, _, hb1⟩)
    go_ret
    exact ⟨rfl, hb1⟩
end Go.Proofs.YtcdecnmhogmhaaaDoor
set_option linter.unusedVariables false
set_option linter.unusedSimpArgs false
namespace Go.Proofs.YtcdecnmhogmhaaaDoor
open Go.RowKit
set_option maxHeartbeats 2000000 in
theorem elooks_ref (n : Int) (w : World) (h0 : 0 ≤ n) (h7 : n ≤ 7) : Calls Tryd.prog 129 #[.int .i64 n] w fun e w' => e = .returned (.string (mkB (lkT n ++ [109]))) ∧ Below w.heap.size w w' := by
  have : n = 0 ∨ n = 1 ∨ n = 2 ∨ n = 3 ∨ n = 4 ∨ n = 5 ∨ n = 6 ∨ n = 7 := by omega
  clear h0 h7
  rcases this with rfl | rfl | rfl | rfl | rfl | rfl | rfl | rfl
  all_goals
    go_enter Tryd.func129, Tryd.ntmps129
    go_wp2
    go_ret
    exact ⟨ret_str (by first | rfl | decide +kernel), below_alloc _ _⟩
theorem looks_bytes2 (a : List UInt8) : (⟨#[27, 91]⟩ : ByteArray) ++ mkB (a ++ [109]) = mkB (27 :: 91 :: (a ++ [109])) := by
  have h1 : (⟨#[27, 91]⟩ : ByteArray) = mkB [27, 91] := rfl
  rw [h1]
  apply bL_inj
  simp only [bL_app, bL_mkB]
  simp
set_option maxHeartbeats 2000000 in
theorem rbytes_move (n m : Int) (w : World) (h1 : 1 ≤ n) (h2 : n ≤ 1000) (h3 : 1 ≤ m) (h4 : m ≤ 1000) : Calls Tryd.prog 87 #[.agg #[.int .i64 1, .int .i64 n, .int .i64 m, .string ⟨#[]⟩]] w fun e w' => e = .returned (.string (bt (1, n, m, mt))) ∧ Below w.heap.size w w' := by
  have hbt : bt (1, n, m, mt) = mkB (27 :: 91 :: (decS n ++ 59 :: (decS m ++ [72]))) := rfl
  rw [hbt, ← move_bytes]
  have B0 := below_alloc w (.cells #[.int .i64 1, .int .i64 n, .int .i64 m, .string ⟨#[]⟩] 61)
  have q0 := heap_alloc_new w (.cells #[.int .i64 1, .int .i64 n, .int .i64 m, .string ⟨#[]⟩] 61)
  have D1 := fun w => dec_ref _ n w (Nat.le_refl _) (by omega) (by omega)
  have D2 := fun w => dec_ref _ m w (Nat.le_refl _) (by omega) (by omega)
  have hd1 := (dec_small n h1 h2).1
  have hd2 := (dec_small m h3 h4).1
  have y := fun i => cell_of_row _ _ i _ _ _ q0; have y1 := y 1; have y2 := y 2; clear y; dsimp at y1 y2
  have L1 : ((⟨(decS n).toArray⟩ : ByteArray)).size ≤ 4 := by rw [← bL_len]; exact hd1
  have L2 : ((⟨(decS m).toArray⟩ : ByteArray)).size ≤ 4 := by rw [← bL_len]; exact hd2
  generalize (⟨(decS n).toArray⟩ : ByteArray) = A at *
  generalize (⟨(decS m).toArray⟩ : ByteArray) = B at *
  have R1 := sum_run ⟨#[27, 91]⟩ A (by show 2 + A.size ≤ _; omega)
  have R2 := sum_run (⟨#[27, 91]⟩ ++ A) ⟨#[59]⟩ (by rw [ByteArray.size_append]; show 2 + A.size + 1 ≤ _; omega)
  have R3 := sum_run (⟨#[27, 91]⟩ ++ A ++ ⟨#[59]⟩) B (by rw [ByteArray.size_append, ByteArray.size_append]; show 2 + A.size + 1 + B.size ≤ _; omega)
  have R4 := sum_run (⟨#[27, 91]⟩ ++ A ++ ⟨#[59]⟩ ++ B) ⟨#[72]⟩ (by rw [ByteArray.size_append, ByteArray.size_append, ByteArray.size_append]; show 2 + A.size + 1 + B.size + 1 ≤ _; omega)
  replace D1 := Lib.hid D1; replace D2 := Lib.hid D2
  clear hd1 hd2 q0 hbt
  go_enter Tryd.func87, Tryd.ntmps87
  go_upto_region 5 with fail
  go_region_held3 (fun w' => w'.cell? ⟨w.heap.size, 1, none⟩ = some (.int .i64 n) ∧ w'.cell? ⟨w.heap.size, 2, none⟩ = some (.int .i64 m))
    (first | exact ⟨y1, y2⟩ | go_keep)
    (first
      | (go_at_call 128; (with_reducible refine (D2.out _).mono ?_); rintro e w2 ⟨rfl, rfl⟩)
      | (go_at_call 128; (with_reducible refine (D1.out _).mono ?_); rintro e w1 ⟨rfl, rfl⟩))
  go_wp2
  go_ret
  exact ⟨rfl, B0.drew⟩
set_option maxHeartbeats 4000000 in
theorem bytes_ref10 (p : Ot) (w : World) (ho : mayP p = true) (hs : p.2.2.2.size ≤ 1000000) : Calls Tryd.prog 87 #[otV p] w fun e w' => e = .returned (.string (bt p)) ∧ Below w.heap.size w w' := by
  have hpc := pc_of ho
  cases hpc with
  | text t h hw =>
    rw [by_text]
    clear hw ho
    show Calls _ _ #[.agg #[.int .i64 0, .int .i64 0, .int .i64 0, .string t]] _ _
    go_enter Tryd.func87, Tryd.ntmps87
    go_wp2
    go_ret
    exact ⟨rfl, below_alloc _ _⟩
  | move n m h1 h2 h3 h4 => exact rbytes_move n m w h1 h2 h3 h4
  | looks n h1 h2 =>
    have hbt : bt (4, n, 0, mt) = mkB (27 :: 91 :: (lkT n ++ [109])) := rfl
    rw [hbt, ← looks_bytes2]
    have B0 := below_alloc w (.cells #[.int .i64 4, .int .i64 n, .int .i64 0, .string ⟨#[]⟩] 61)
    have L := fun w => elooks_ref n w h1 h2
    have hl : (mkB (lkT n ++ [109])).size ≤ 20 := by
      obtain ⟨k, rfl⟩ := Int.eq_ofNat_of_zero_le h1
      have := (lk_small ⟨k, by omega⟩).1
      rw [← bL_len, bL_mkB]; simp at this ⊢; omega
    generalize mkB (lkT n ++ [109]) = A at *
    replace L := Lib.hid L
    clear hbt ho
    show Calls _ _ #[.agg #[.int .i64 4, .int .i64 n, .int .i64 0, .string ⟨#[]⟩]] _ _
    go_enter Tryd.func87, Tryd.ntmps87
    go_wp2_with (go_at_call 129; refine (L.out _).mono ?_; rintro e w1 ⟨rfl, hb1⟩)
    go_ret
    exact ⟨rfl, seqB B0 hb1⟩
  | erase =>
    clear ho
    show Calls _ _ #[.agg #[.int .i64 2, .int .i64 0, .int .i64 0, .string ⟨#[]⟩]] _ _
    go_enter Tryd.func87, Tryd.ntmps87
    go_wp2
    go_ret
    exact ⟨ret_str (by first | rfl | decide +kernel), by first | exact seqB (below_alloc _ _) (below_alloc _ _) | exact seqB (below_alloc _ _) (below_alloc _ _).drew⟩
  | rest =>
    clear ho
    show Calls _ _ #[.agg #[.int .i64 3, .int .i64 0, .int .i64 0, .string ⟨#[]⟩]] _ _
    go_enter Tryd.func87, Tryd.ntmps87
    go_wp2
    go_ret
    exact ⟨ret_str (by first | rfl | decide +kernel), by first | exact seqB (below_alloc _ _) (below_alloc _ _) | exact seqB (below_alloc _ _) (below_alloc _ _).drew⟩
  | paste1 =>
    clear ho
    show Calls _ _ #[.agg #[.int .i64 5, .int .i64 1, .int .i64 0, .string ⟨#[]⟩]] _ _
    go_enter Tryd.func87, Tryd.ntmps87
    go_wp2
    go_ret
    exact ⟨ret_str (by first | rfl | decide +kernel), below_alloc _ _⟩
  | paste0 =>
    clear ho
    show Calls _ _ #[.agg #[.int .i64 5, .int .i64 0, .int .i64 0, .string ⟨#[]⟩]] _ _
    go_enter Tryd.func87, Tryd.ntmps87
    go_wp2
    go_ret
    exact ⟨ret_str (by first | rfl | decide +kernel), by first | exact seqB (below_alloc _ _) (below_alloc _ _) | exact seqB (below_alloc _ _) (below_alloc _ _).drew⟩
  | bell =>
    clear ho
    show Calls _ _ #[.agg #[.int .i64 6, .int .i64 0, .int .i64 0, .string ⟨#[]⟩]] _ _
    go_enter Tryd.func87, Tryd.ntmps87
    go_wp2
    go_ret
    exact ⟨ret_str (by first | rfl | decide +kernel), by first | exact seqB (below_alloc _ _) (below_alloc _ _) | exact seqB (below_alloc _ _) (below_alloc _ _).drew⟩
  | cr =>
    clear ho
    show Calls _ _ #[.agg #[.int .i64 7, .int .i64 0, .int .i64 0, .string ⟨#[]⟩]] _ _
    go_enter Tryd.func87, Tryd.ntmps87
    go_wp2
    go_ret
    exact ⟨ret_str (by first | rfl | decide +kernel), by first | exact seqB (below_alloc _ _) (below_alloc _ _) | exact seqB (below_alloc _ _) (below_alloc _ _).drew⟩
  | lf =>
    clear ho
    show Calls _ _ #[.agg #[.int .i64 8, .int .i64 0, .int .i64 0, .string ⟨#[]⟩]] _ _
    go_enter Tryd.func87, Tryd.ntmps87
    go_wp2
    go_ret
    exact ⟨ret_str (by first | rfl | decide +kernel), by first | exact seqB (below_alloc _ _) (below_alloc _ _) | exact seqB (below_alloc _ _) (below_alloc _ _).drew⟩
theorem mayAll_at {L : List Ot} {k : Nat} (h : mayAll L = true) (hk : k < L.length) : mayP (L.getD k ot0) = true := by
  unfold mayAll at h; rw [List.all_eq_true] at h
  exact h _ (by rw [List.getD, List.getElem?_eq_getElem hk]; exact List.getElem_mem _)
theorem mayAll_yes {L : List Ot} (h : ∀ j, j < L.length → mayP (L.getD j ot0) = true) : mayAll L = true := by
  unfold mayAll
  rw [List.all_eq_true]
  intro v hv
  obtain ⟨j, hj, rfl⟩ := List.getElem_of_mem hv
  have := h j hj
  rwa [List.getD, List.getElem?_eq_getElem hj] at this
theorem txOut_sz2 {L : List Ot} (h : mayAll L = true) (hz : ∀ i, i < L.length → (L.getD i ot0).2.2.2.size ≤ 1000) : ∀ k, k ≤ L.length → (txOut (L.take k)).size ≤ k * 1020
  | 0, _ => Nat.le_refl _
  | k + 1, hk => by
    have ih := txOut_sz2 h hz k (by omega)
    rw [take_out L k (by omega), txO_app, txO_one, ByteArray.size_append]
    have := bt_size (mayAll_at h (show k < L.length by omega))
    have := hz k (by omega)
    omega
set_option maxHeartbeats 2000000 in
theorem etext_ref (L : List Ot) (a : Option Addr) (c : Nat) (w : World) (hm : mayAll L = true) (hl : L.length ≤ 1000) (hz : ∀ i, i < L.length → (L.getD i ot0).2.2.2.size ≤ 1000) (ho : OutsIn w a L) :
    Calls Tryd.prog 36 #[.slice a L.length c] w fun e w' => e = .returned (.string (txOut L)) ∧ Below w.heap.size w w' := by
  have HO := Lib.hid ho; have HM := Lib.hid hm; have HZ := Lib.hid hz
  have HS := Lib.hid (txOut_sz2 hm hz)
  clear ho hm hz
  go_enter Tryd.func36, Tryd.ntmps36
  go_wp2
  go_loopw [3, 4] (fun sv iv wr => ∃ (k : Nat) (t : ByteArray), sv = .string t ∧ iv = .int .i64 (k : Int) ∧ k ≤ L.length ∧ Hid (t = txOut (L.take k)) ∧ Below w.heap.size w wr) (fun _ iv _ => L.length - (intOf iv).toNat)
  case atStart => exact ⟨0, ⟨#[]⟩, rfl, rfl, Nat.zero_le _, Lib.hid rfl, Below.refl _ _⟩
  case round =>
    obtain ⟨k, t, rfl, rfl, hk, ht, hbl⟩ := hrel
    by_cases hlt : k < L.length
    · obtain ⟨bb, off, rfl, hblt, c0, c1, c2, c3⟩ := (HO.out.below hbl) k hlt
      have hk1 : (k : Int) < L.length := by omega
      have hk0 : (0 : Int) ≤ k := by omega
      have htk := take_out L k hlt
      have hts := HZ.out k hlt
      have hmk := mayAll_at HM.out hlt
      obtain ⟨kk, n, m, u, hp⟩ : ∃ kk n m t, L.getD k ot0 = (kk, n, m, t) := ⟨_, _, _, _, rfl⟩
      rw [hp] at c0 c1 c2 c3 htk hts hmk
      dsimp only at c0 c1 c2 c3 hts
      have BY : ∀ w, Calls Tryd.prog 87 #[.agg #[.int .i64 kk, .int .i64 n, .int .i64 m, .string u]] w fun e w' => e = .returned (.string (bt (kk, n, m, u))) ∧ Below w.heap.size w w' := fun w => bytes_ref10 (kk, n, m, u) w hmk (by dsimp only; omega)
      have hbs := bt_size hmk
      dsimp only at hbs
      have ht1 : t.size ≤ 1020 * 1000 := by rw [ht.out]; have := HS.out k hk; omega
      have HN : Hid (t ++ bt (kk, n, m, u) = txOut (L.take (k + 1))) := Lib.hid (by rw [htk, txO_app, txO_one, ← ht.out])
      have hb2 : (bt (kk, n, m, u)).size ≤ 1020 := by omega
      generalize bt (kk, n, m, u) = A at *
      replace BY := Lib.hid BY
      clear htk hmk hp hbs ht
      go_wp2_with (go_at_call 87; refine (BY.out _).mono ?_; rintro e w2 ⟨rfl, hb2⟩)
      go_roundw
      case rel => exact ⟨k + 1, _, rfl, by go_num, by omega, HN, hbl.trans (hb2.mono hbl.size)⟩
      case measure => (simp [intOf]; try omega)
    · obtain rfl : k = L.length := by omega
      have Hf : Hid (t = txOut L) := Lib.hid (by rw [ht.out, List.take_length])
      clear ht
      go_wp2
      go_ret
      rw [Hf.out]
      exact ⟨rfl, hbl⟩
set_option maxHeartbeats 2000000 in
theorem eall_ref (L : List Ot) (a : Option Addr) (c : Nat) (w : World) (hl : L.length ≤ 1000000) (hz : ∀ i, i < L.length → (L.getD i ot0).2.2.2.size ≤ 1000000) (ho : OutsIn w a L) :
    Calls Tryd.prog 34 #[.slice a L.length c] w fun e w' => e = .returned (.bool (mayAll L)) ∧ Below w.heap.size w w' := by
  have HO := Lib.hid ho; have HZ := Lib.hid hz
  clear ho hz
  go_enter Tryd.func34, Tryd.ntmps34
  go_wp2
  go_loopw [3] (fun iv wr => ∃ k : Nat, k ≤ L.length ∧ iv = .int .i64 (k : Int) ∧ Hid (∀ j, j < k → mayP (L.getD j ot0) = true) ∧ Below w.heap.size w wr) (fun iv _ => L.length - (intOf iv).toNat)
  case atStart => exact ⟨0, Nat.zero_le _, rfl, Lib.hid (fun j hj => absurd hj (by omega)), Below.refl _ _⟩
  case round =>
    obtain ⟨k, hk, rfl, hall, hbl⟩ := hrel
    by_cases hlt : k < L.length
    · obtain ⟨bb, off, rfl, hblt, c0, c1, c2, c3⟩ := (HO.out.below hbl) k hlt
      have hk1 : (k : Int) < L.length := by omega
      have hk0 : (0 : Int) ≤ k := by omega
      have hts := HZ.out k hlt
      have hno := fun h => mayAll_no hlt h
      have hstep : mayP (L.getD k ot0) = true → ∀ j, j < k + 1 → mayP (L.getD j ot0) = true := fun h j hj => by
        rcases Nat.lt_succ_iff_lt_or_eq.1 hj with h2 | rfl
        · exact hall.out j h2
        · exact h
      obtain ⟨kk, n, m, u, hp⟩ : ∃ kk n m t, L.getD k ot0 = (kk, n, m, t) := ⟨_, _, _, _, rfl⟩
      rw [hp] at c0 c1 c2 c3 hts hno
      dsimp only at c0 c1 c2 c3 hts
      have MY : ∀ w, Calls Tryd.prog 33 #[.agg #[.int .i64 kk, .int .i64 n, .int .i64 m, .string u]] w fun e w' => e = .returned (.bool (mayP (kk, n, m, u))) ∧ Below w.heap.size w w' := fun w => emay_ref (kk, n, m, u) w hts
      cases hm : mayP (kk, n, m, u)
      · rw [hm] at MY
        have HF := Lib.hid (hno hm)
        replace MY := Lib.hid MY
        clear hno hstep hp hm hall
        go_wp2_with (go_at_call 33; refine (MY.out _).mono ?_; rintro e w2 ⟨rfl, hb2⟩)
        go_ret
        rw [HF.out]
        exact ⟨rfl, hbl.trans (hb2.mono hbl.size)⟩
      · rw [hm] at MY
        have HF := Lib.hid (hstep (by rw [hp]; exact hm))
        replace MY := Lib.hid MY
        clear hno hstep hp hm hall
        go_wp2_with (go_at_call 33; refine (MY.out _).mono ?_; rintro e w2 ⟨rfl, hb2⟩)
        go_roundw
        case rel => exact ⟨k + 1, by omega, by go_num, HF, hbl.trans (hb2.mono hbl.size)⟩
        case measure => (simp [intOf]; try omega)
    · obtain rfl : k = L.length := by omega
      have HF : Hid (mayAll L = true) := Lib.hid (mayAll_yes hall.out)
      go_wp2
      go_ret
      rw [HF.out]
      exact ⟨rfl, hbl⟩
end Go.Proofs.YtcdecnmhogmhaaaDoor
set_option linter.unusedVariables false
set_option linter.unusedSimpArgs false
namespace Go.Proofs.YtcdecnmhogmhaaaDoor
open Go.RowKit Go.Sort
theorem fl_no {c : Int} (h : ¬ 0 < c) : fl c = [] := by unfold fl; rw [if_neg h]
theorem fl_yes {c : Int} (h : 0 < c) : fl c = [(0, c, 0, mt)] := by unfold fl; rw [if_pos h]
/-- What the making of a skeleton keeps. -/
structure SkM (w : World) (B bb bc : Nat) (v : Value) (acc : List Ot) (c : Int) : Prop where
  b : w.heap[bb]? = some (.cells #[v] 54 (0, 0))
  c : w.heap[bc]? = some (.cells #[.int .i64 c] 3 (0, 0))
  o : w.ownsRow B 61 4 v acc.length (oCells acc)
theorem SkM.below {w w' : World} {B bb bc : Nat} {v : Value} {acc : List Ot} {c : Int} (h : SkM w B bb bc v acc c) (hb : Below w.heap.size w w') : SkM w' B bb bc v acc c := ⟨blk_below h.b hb, blk_below h.c hb, own_below h.o hb⟩
theorem SkM.setc {w : World} {B bb bc : Nat} {v : Value} {acc : List Ot} {c : Int} (h : SkM w B bb bc v acc c) (hne : bb ≠ bc) (d : Int) : SkM (w.setCell ⟨bc, 0, none⟩ (.int .i64 d)) B bb bc v acc d :=
  ⟨blk_far (p := ⟨bc, 0, none⟩) h.b hne _, blk_set h.c 0 _, own_set (a := ⟨bc, 0, none⟩) h.o (own_ne_kind h.o h.c (by decide)) _⟩
theorem SkM.push {w w' : World} {B bb bc : Nat} {v v' : Value} {acc : List Ot} {c : Int} {p : Ot} (h : SkM w B bb bc v acc c) (hne : bb ≠ bc) (hg : w.grownBy w' v.ownBlock) (ho : w'.ownsRow B 61 4 v' (acc.length + 1) (oCells acc ++ [.int .i64 p.1, .int .i64 p.2.1, .int .i64 p.2.2.1, .string p.2.2.2])) : SkM (w'.setCell ⟨bb, 0, none⟩ v') B bb bc v' (acc ++ [p]) c := by
  have hb := (hg.block bb (blk_lt h.b) (fun e => own_ne_kind h.o h.b (by decide) e.symm)).trans h.b
  have hc := (hg.block bc (blk_lt h.c) (fun e => own_ne_kind h.o h.c (by decide) e.symm)).trans h.c
  refine ⟨blk_set hb 0 _, blk_far (p := ⟨bb, 0, none⟩) hc hne.symm _, ?_⟩
  rw [List.length_append, oCells_snoc]
  exact own_set (a := ⟨bb, 0, none⟩) ho (own_ne_kind ho hb (by decide)) _
def SkPost (B bb bc : Nat) (v0 : Value) (acc : List Ot) (w : World) (e : Ending) (w' : World) : Prop := e = .returned (.tuple #[]) ∧ ∃ v', SkM w' B bb bc v' acc 0 ∧ Below B w w' ∧ ∀ k, k < w.heap.size → k ≠ bb → k ≠ bc → some k ≠ v0.ownBlock → w'.heap[k]? = w.heap[k]?
set_option maxHeartbeats 4000000 in
theorem skel1_any (B bb bc : Nat) (v : Value) (acc : List Ot) (c : Int) (w : World) (hacc : acc.length ≤ 10000000) (hne : bb ≠ bc) (hb : B ≤ bb) (hc : B ≤ bc) (h : SkM w B bb bc v acc c) :
    Calls Tryd.prog 88 #[.pointer (some ⟨bc, 0, none⟩), .pointer (some ⟨bb, 0, none⟩)] w (SkPost B bb bc v (acc ++ fl c) w) := by
  obtain ⟨i0, hi, hz0, hz1, hz2⟩ := info_parts infoOut
  have H := Lib.hid h
  have y := cell_of_row _ _ 0 _ _ _ h.b; have cb := y; clear y
  have y := cell_of_row _ _ 0 _ _ _ h.c; have cc := y; clear y
  have fb := fun i => frozen_of_row _ bb i _ _ h.b
  have fc := fun i => frozen_of_row _ bc i _ _ h.c
  dsimp at cb cc
  have hwB : B ≤ w.heap.size := Nat.le_trans hb (Nat.le_of_lt (blk_lt h.b))
  clear h
  by_cases hp : 0 < c
  · rw [fl_yes hp]
    have hO := H.out.o
    go_enter Tryd.func88, Tryd.ntmps88
    go_wp2_with (at_builtin; refine wpList_append_own _ rfl _ _ 54 rfl B 61 i0 _ 4 40 Tryd.underlying54 hi hz0 hz1 hz2 rfl (by decide) _ _ _ rfl (hO.alloc _) ⟨w.heap.size, 0, none⟩ 1 1 [.int .i64 0, .int .i64 c, .int .i64 0, .string ⟨#[]⟩] rfl rfl (fun j x hj => app_cells rfl hj) ?g2 ?g3 ?g4 ?g5 ?_)
    case g2 => simp [Value.oneCell']
    case g3 => unfold maxLen; omega
    case g4 => omega
    case g5 => simp; omega
    intro v' w6 hown6 hgrow6 _
    obtain ⟨g6, cap6, rfl⟩ := ownsRow_pos hown6 (by omega)
    have Ba := below_alloc w (.cells #[.int .i64 0, .int .i64 c, .int .i64 0, .string ⟨#[]⟩] 61)
    have HA := H.out.below Ba
    have M6 := SkM.push (p := (0, c, 0, mt)) HA hne hgrow6 hown6
    have M7 := M6.setc hne 0
    have N6 := ((Below.refl B w).alloc hwB (.cells #[.int .i64 0, .int .i64 c, .int .i64 0, .string ⟨#[]⟩] 61)).grown hgrow6 (by simp; omega) (fun j hj => (hO.lt j hj).1)
    have N7 := (N6.setCell (p := ⟨bb, 0, none⟩) hb (.slice (some ⟨g6, 0, none⟩) (acc.length + 1) cap6)).setCell (p := ⟨bc, 0, none⟩) hc (.int .i64 0)
    have hb6 := (hgrow6.block bb (blk_lt HA.b) (fun e => own_ne_kind HA.o HA.b (by decide) e.symm)).trans HA.b
    have hc6 := (hgrow6.block bc (blk_lt HA.c) (fun e => own_ne_kind HA.o HA.c (by decide) e.symm)).trans HA.c
    have y := cell_of_row _ _ 0 _ _ _ hb6; have db := y; clear y
    have y := cell_of_row _ _ 0 _ _ _ hc6; have dc := y; clear y
    dsimp at db dc
    have gb := fun i => frozen_of_row _ bb i _ _ hb6
    have gc := fun i => frozen_of_row _ bc i _ _ hc6
    have hne2 := hne.symm
    have FR := Lib.hid (fun j (hj : j < w.heap.size) (h1 : j ≠ bb) (h2 : j ≠ bc) (h3 : some j ≠ v.ownBlock) => ((Below.heap_setCell _ ⟨bc, 0, none⟩ (.int .i64 0) j h2).trans (Below.heap_setCell _ ⟨bb, 0, none⟩ (.slice (some ⟨g6, 0, none⟩) (acc.length + 1) cap6) j h1)).trans ((hgrow6.block j (by simp; omega) h3).trans (Ba.block j hj)))
    replace M7 := Lib.hid M7; replace N7 := Lib.hid N7
    clear cb cc fb fc M6 N6 hown6 hgrow6 HA hO hb6 hc6 Ba
    go_wp2
    go_end0
    exact ⟨rfl, _, M7.out, N7.out, FR.out⟩
  · rw [fl_no hp, List.append_nil]
    have M7 := Lib.hid (H.out.setc hne 0)
    have N7 := Lib.hid ((Below.refl B w).setCell (p := ⟨bc, 0, none⟩) hc (.int .i64 0))
    go_enter Tryd.func88, Tryd.ntmps88
    go_wp2
    go_end0
    exact ⟨rfl, v, M7.out, N7.out, fun j hj h1 h2 h3 => Below.heap_setCell _ ⟨bc, 0, none⟩ _ j h2⟩
theorem sk_cols (L : List Ot) (hz : ∀ i, i < L.length → (L.getD i ot0).2.2.2.size ≤ 1000000) : ∀ k, k ≤ L.length → 0 ≤ (skS (L.take k)).2 ∧ (skS (L.take k)).2 ≤ 2000000 * k ∧ (skS (L.take k)).1.length ≤ 2 * k
  | 0, _ => ⟨Int.le_refl _, Int.le_refl _, Nat.le_refl _⟩
  | k + 1, hk => by
    obtain ⟨h1, h2, h3⟩ := sk_cols L hz k (by omega)
    rw [take_out L k (by omega), skS_snoc]
    have hs := hz k (by omega)
    have hc := colW_rng (L.getD k ot0).2.2.2
    unfold sk1
    split
    · exact ⟨by dsimp only; omega, by dsimp only; omega, by dsimp only; omega⟩
    · refine ⟨Int.le_refl _, by dsimp only; omega, ?_⟩
      dsimp only
      have hf : (fl (skS (L.take k)).2).length ≤ 1 := by unfold fl; split <;> simp
      rw [List.length_append, List.length_append]; simp only [List.length_cons, List.length_nil]; omega
end Go.Proofs.YtcdecnmhogmhaaaDoor
set_option linter.unusedVariables false
set_option linter.unusedSimpArgs false
namespace Go.Proofs.YtcdecnmhogmhaaaDoor
open Go.RowKit Go.Sort
theorem fl_len (c : Int) : (fl c).length ≤ 1 := by unfold fl; split <;> simp
def SkRes (L : List Ot) (w : World) (e : Ending) (w' : World) : Prop := ∃ v, e = .returned v ∧ ownT w' w.heap.size v (skE L) ∧ Below w.heap.size w w'
set_option maxHeartbeats 8000000 in
theorem eskel_any (L : List Ot) (a : Option Addr) (c : Nat) (w : World) (hT : ET w) (hl : L.length ≤ 1000000) (hz : ∀ i, i < L.length → (L.getD i ot0).2.2.2.size ≤ 1000000) (ho : OutsIn w a L) :
    Calls Tryd.prog 38 #[.slice a L.length c] w (SkRes L w) := by
  obtain ⟨i0, hi, hz0, hz1, hz2⟩ := info_parts infoOut
  have HT := Lib.hid hT; have HO := Lib.hid ho; have HZ := Lib.hid hz
  have HS := Lib.hid (sk_cols L hz)
  have hmf : ∀ (fn : Fn) (first cap : Array Value) (w : World), (Instr.makeFunc fn first cap).run Tryd.prog w = .ok (.func fn first cap) w := fun _ _ _ _ => rfl
  have B0 := seqB (below_alloc w (.cells #[.slice none 0 0] 54)) (below_alloc _ (.cells #[.int .i64 0] 3))
  have hb0 := blk_alloc (heap_alloc_new w (.cells #[.slice none 0 0] 54)) (.cells #[.int .i64 0] 3)
  have hc0 := heap_alloc_new (w.alloc (.cells #[.slice none 0 0] 54)) (.cells #[.int .i64 0] 3)
  rw [show (w.alloc (.cells #[.slice none 0 0] 54)).heap.size = w.heap.size + 1 by simp] at hc0
  have M0 := Lib.hid (⟨hb0, hc0, World.ownsRow_nil _ _ _ _⟩ : SkM ((w.alloc (.cells #[.slice none 0 0] 54)).alloc (.cells #[.int .i64 0] 3)) w.heap.size w.heap.size (w.heap.size + 1) (.slice none 0 0) [] 0)
  clear hT ho hz hb0 hc0
  go_enter Tryd.func38, Tryd.ntmps38
  go_wp2
  go_loopw [11] (fun iv wr => ∃ (k : Nat) (v : Value), k ≤ L.length ∧ iv = .int .i64 (k : Int) ∧ Hid (SkM wr w.heap.size w.heap.size (w.heap.size + 1) v (skS (L.take k)).1 (skS (L.take k)).2) ∧ Below w.heap.size w wr) (fun iv _ => L.length - (intOf iv).toNat)
  case atStart => exact ⟨0, _, Nat.zero_le _, rfl, M0, B0⟩
  case round =>
    obtain ⟨k, v, hk, rfl, hM, hbl⟩ := hrel
    clear M0 B0
    have hrg := HS.out k hk
    by_cases hlt : k < L.length
    · obtain ⟨bb, off, rfl, hblt, c0, c1, c2, c3⟩ := (HO.out.below hbl) k hlt
      have hk1 : (k : Int) < L.length := by omega
      have hk0 : (0 : Int) ≤ k := by omega
      have htk := take_out L k hlt
      have hts := HZ.out k hlt
      have hsn := skS_snoc (L.take k) (L.getD k ot0)
      rw [← htk] at hsn
      obtain ⟨kk, n, m, u, hp⟩ : ∃ kk n m t, L.getD k ot0 = (kk, n, m, t) := ⟨_, _, _, _, rfl⟩
      rw [hp] at c0 c1 c2 c3 hts hsn
      dsimp only at c0 c1 c2 c3 hts
      have Bx := below_alloc wr (.cells #[.int .i64 kk, .int .i64 n, .int .i64 m, .string u] 61)
      have N1 := hbl.trans (Bx.mono hbl.size)
      have x1 := heap_alloc_new wr (.cells #[.int .i64 kk, .int .i64 n, .int .i64 m, .string u] 61)
      have M1 := hM.out.below Bx
      have y := cell_of_row _ _ 0 _ _ _ M1.c; have cc := y; clear y
      have fc := fun i => frozen_of_row _ (w.heap.size + 1) i _ _ M1.c
      dsimp at cc
      have hcl := blk_lt M1.c
      have hx0 := blk_lt hM.out.c
      obtain ⟨hr1, hr2, hr3⟩ := hrg
      unfold sk1 at hsn
      dsimp only at hsn
      generalize (skS (L.take k)).1 = acc at *
      generalize (skS (L.take k)).2 = cs at *
      by_cases hkk : kk = 0
      · subst hkk
        rw [if_pos rfl] at hsn
        have hcr := colW_rng u
        have CL := fun w hT => columns_any u w hT hts
        have HSN := Lib.hid hsn
        have ET1 := Lib.hid (HT.out.below N1.drew)
        have N1d := N1.drew
        generalize colW u = cu at *
        have hsum : IntKind.i64.wrap (cs + cu) = cs + cu := by rw [IntKind.wrap_i64]; omega
        have hsum' := Lib.hid hsum
        replace CL := Lib.hid CL
        have y := fun i => cell_of_row _ _ i _ _ _ x1; have x3 := y 3; clear y; dsimp at x3
        have MM := Lib.hid M1
        clear hsn htk hp hM M1 hsum
        go_wp2
        have hsm := hsum'.out
        go_region_law (first
          | (go_simp; go_at_call 89; refine (CL.out _ ET1.out).mono ?_; rintro e w5 ⟨rfl, hb5⟩; have D5 := Below.trans (Below.refl _ _).drew hb5; have cc5 := (D5.cell (p := ⟨w.heap.size + 1, 0, none⟩) hcl).trans cc; have M5 := MM.out.below D5; have fc5 := fun i => frozen_of_row _ (w.heap.size + 1) i _ _ M5.c; have N5 := N1.trans (D5.mono N1.size)))
        all_goals
          have M6 := Lib.hid (M5.setc (by omega) (cs + cu))
          have N6 := N5.setCell (p := ⟨w.heap.size + 1, 0, none⟩) (by show w.heap.size ≤ w.heap.size + 1; omega) (.int .i64 (cs + cu))
          clear hsm M5 cc5 fc5 D5 hb5 fc cc
          go_wp2
          go_roundw
          case rel => exact ⟨k + 1, v, by omega, by go_num, Lib.hid (by rw [HSN.out]; exact M6.out), N6⟩
          case measure => (simp [intOf]; try omega)
      · rw [if_neg hkk] at hsn
        have HSN := Lib.hid hsn
        have SK := Lib.hid (skel1_any w.heap.size w.heap.size (w.heap.size + 1) v acc cs (wr.alloc (.cells #[.int .i64 kk, .int .i64 n, .int .i64 m, .string u] 61)) (by omega) (by omega) (Nat.le_refl _) (by omega) M1)
        have X1 := Lib.hid x1
        have hvx : some wr.heap.size ≠ v.ownBlock := fun e => by
          have := (hM.out.o.lt _ e.symm).2
          omega
        have y := fun i => cell_of_row _ _ i _ _ _ x1; have x0 := y 0; clear y; dsimp at x0
        have hfl := fl_len cs
        have hal : (acc ++ fl cs).length ≤ 2 * k + 1 := by rw [List.length_append]; omega
        generalize acc ++ fl cs = acc2 at *
        clear hsn htk hp hM M1 x1 cc fc
        go_wp2_with (fail)
        go_at_call 88
        refine SK.out.mono ?_
        rintro e w5 ⟨rfl, v5, M5, N5, F5⟩
        have x5 := (F5 wr.heap.size (by simp) (by omega) (by omega) hvx).trans X1.out
        have y := fun i => cell_of_row _ _ i _ _ _ x5; have z0 := y 0; have z1 := y 1; have z2 := y 2; have z3 := y 3; clear y; dsimp at z0 z1 z2 z3
        have y := cell_of_row _ _ 0 _ _ _ M5.b; have zb := y; clear y
        dsimp at zb
        have hO := M5.o
        have N6 := N1.trans N5
        replace M5 := Lib.hid M5
        clear F5 x5 SK
        go_wp2_with (at_builtin; refine wpList_append_own _ rfl _ _ 54 rfl w.heap.size 61 i0 _ 4 40 Tryd.underlying54 hi hz0 hz1 hz2 rfl (by decide) _ _ _ rfl (hO.alloc _) ⟨w5.heap.size, 0, none⟩ 1 1 [.int .i64 kk, .int .i64 n, .int .i64 m, .string u] rfl rfl (fun j x hj => app_cells rfl hj) ?g2 ?g3 ?g4 ?g5 ?_)
        case g2 => simp [Value.oneCell']
        case g3 => unfold maxLen; omega
        case g4 => omega
        case g5 => have := N6.size; simp; omega
        intro v' w6 hown6 hgrow6 _
        obtain ⟨g6, cap6, rfl⟩ := ownsRow_pos hown6 (by omega)
        have Ba := below_alloc w5 (.cells #[.int .i64 kk, .int .i64 n, .int .i64 m, .string u] 61)
        have HA := M5.out.below Ba
        have M7 := Lib.hid (SkM.push (p := (kk, n, m, u)) HA (by omega) hgrow6 hown6)
        have hb6 := (hgrow6.block w.heap.size (blk_lt HA.b) (fun e => own_ne_kind HA.o HA.b (by decide) e.symm)).trans HA.b
        have fb6 := fun i => frozen_of_row _ w.heap.size i _ _ hb6
        have y := cell_of_row _ _ 0 _ _ _ hb6; have cb6 := y; clear y
        dsimp at cb6
        have N7 := ((N6.alloc N6.size (.cells #[.int .i64 kk, .int .i64 n, .int .i64 m, .string u] 61)).grown hgrow6 (by have := N6.size; simp; omega) (fun j hj => (hO.lt j hj).1)).setCell (p := ⟨w.heap.size, 0, none⟩) (Nat.le_refl _) (.slice (some ⟨g6, 0, none⟩) (acc2.length + 1) cap6)
        clear hown6 hgrow6 HA hb6 Ba hO z0 z1 z2 z3 zb
        go_wp2
        go_roundw
        case rel => exact ⟨k + 1, _, by omega, by go_num, Lib.hid (by rw [HSN.out]; exact M7.out), N7⟩
        case measure => (simp [intOf]; try omega)
    · obtain rfl : k = L.length := by omega
      have hk1 : ¬ (L.length : Int) < L.length := by omega
      rw [List.take_length] at hM hrg
      obtain ⟨hr1, hr2, hr3⟩ := hrg
      have HE := Lib.hid (show skE L = (skS L).1 ++ fl (skS L).2 from rfl)
      have SK := skel1_any w.heap.size w.heap.size (w.heap.size + 1) v (skS L).1 (skS L).2 wr (by omega) (by omega) (Nat.le_refl _) (by omega) hM.out
      rw [← HE.out] at SK
      replace SK := Lib.hid SK
      clear HS
      go_wp2_with (fail)
      go_at_call 88
      refine SK.out.mono ?_
      rintro e w5 ⟨rfl, v5, M5, N5, _⟩
      have y := cell_of_row _ _ 0 _ _ _ M5.b; have zb := y; clear y
      dsimp at zb
      have N6 := hbl.trans N5
      have hO := Lib.hid M5.o
      clear M5
      go_wp2
      go_ret
      exact ⟨v5, rfl, hO.out, N6⟩
end Go.Proofs.YtcdecnmhogmhaaaDoor
set_option linter.unusedVariables false
set_option linter.unusedSimpArgs false
namespace Go.Proofs.YtcdecnmhogmhaaaDoor
open Go.RowKit Go.Sort
def aw10 : List Ot := [(1, 2, 3, ⟨#[]⟩), (0, 0, 0, ⟨#[97]⟩), (4, 5, 0, ⟨#[]⟩), (5, 1, 0, ⟨#[]⟩)]
def aw10s : ByteArray := ⟨#[27, 91, 50, 59, 51, 72, 97, 27, 91, 48, 59, 55, 59, 49, 109, 27, 91, 63, 50, 48, 48, 52, 104]⟩
def aw10k : List Ot := [(1, 2, 3, ⟨#[]⟩), (0, 1, 0, ⟨#[]⟩), (4, 5, 0, ⟨#[]⟩), (5, 1, 0, ⟨#[]⟩)]
def aw10c : List Ot := [(0, 0, 0, ⟨#[97]⟩), (7, 0, 0, ⟨#[]⟩), (8, 0, 0, ⟨#[]⟩), (6, 0, 0, ⟨#[]⟩)]
theorem aw10_may : mayAll aw10 = true := by decide +kernel
theorem aw10_tx : txOut aw10 = aw10s := by decide +kernel
theorem aw10_jn : jn aw10 = aw10 := by decide +kernel
theorem aw10_prs : prsS aw10s = some aw10 := by rw [← aw10_tx, prs_text aw10_may, aw10_jn]
theorem aw10_sk : skE aw10 = aw10k := by decide +kernel
theorem aw10c_may : mayAll aw10c = true := by decide +kernel
theorem aw10c_tx : txOut aw10c = ⟨#[97, 13, 10, 7]⟩ := by decide +kernel
theorem aw10_cl : clnB ⟨#[97, 13, 10, 7]⟩ = true := by unfold clnB; rw [← aw10c_tx, prs_text aw10c_may]; rfl
theorem aw10_no : clnB ⟨#[27, 91, 51, 109]⟩ = false := by decide +kernel
theorem aw10_chk : chk ot0 = 2 := by decide
theorem aw_text (a : Option Addr) (w : World) (hT : ET w) (ho : OutsIn w a aw10) : Calls Tryd.prog 29 #[.slice a 4 4] w fun e w' => e = .returned (.tuple #[.string aw10s, .int .i64 0]) ∧ Below w.heap.size w w' := by
  have h := etext_any aw10 a 4 w hT (by decide) (by decide) ho
  refine Calls.mono h ?_
  rintro e w' ⟨h1, h2⟩
  have e1 : txtR aw10 = aw10s := by unfold txtR; rw [if_pos aw10_may, aw10_tx]
  have e2 : txtE aw10 = 0 := by unfold txtE; rw [if_pos aw10_may]
  rw [e1, e2] at h1
  exact ⟨h1, h2⟩
theorem aw_parse (w : World) (hT : ET w) : Calls Tryd.prog 35 #[.string aw10s] w fun e w' => ∃ a c, e = .returned (.tuple #[.slice a 4 c, .int .i64 0]) ∧ OutsIn w' a aw10 ∧ Below w.heap.size w w' := parse_yes aw10s aw10 w hT (by decide) aw10_prs
theorem aw_skel (a : Option Addr) (c : Nat) (w : World) (hT : ET w) (ho : OutsIn w a aw10) : Calls Tryd.prog 38 #[.slice a 4 c] w fun e w' => ∃ b d, e = .returned (.slice b 4 d) ∧ OutsIn w' b aw10k ∧ Below w.heap.size w w' := by
  refine (eskel_any aw10 a c w hT (by decide) (by decide) ho).mono ?_
  rintro e w' ⟨v, rfl, h1, h2⟩
  rw [aw10_sk] at h1
  obtain ⟨b, d, rfl, h3⟩ := outs_of_own h1
  exact ⟨b, d, rfl, h3, h2⟩
end Go.Proofs.YtcdecnmhogmhaaaDoor
set_option linter.unusedVariables false
set_option linter.unusedSimpArgs false
namespace Go.Proofs.YtcdecnmhogmhaaaDoor
open Go.RowKit Go.Sort
set_option maxHeartbeats 4000000 in
theorem eawake_any (w : World) (hT : ET w) : Calls Tryd.prog 28 #[] w fun e w' => e = .returned (.bool true) ∧ Below w.heap.size w w' := by
  have B0 := below_alloc w (.cells (oRow aw10) 61)
  have O0 := Lib.hid (outs_of_blk (heap_alloc_new w (.cells (oRow aw10) 61)))
  have E0 := Lib.hid (hT.below B0)
  have T := fun a w hT ho => aw_text a w hT ho
  have P := fun w hT => aw_parse w hT
  simp only [aw10s] at T P
  replace T := Lib.hid T; replace P := Lib.hid P
  have K := Lib.hid (fun a c w hT ho => aw_skel a c w hT ho)
  have C1 := fun w hT => clean_any ⟨#[97, 13, 10, 7]⟩ w hT (by decide)
  have C2 := fun w hT => clean_any ⟨#[27, 91, 51, 109]⟩ w hT (by decide)
  rw [aw10_cl] at C1
  rw [aw10_no] at C2
  replace C1 := Lib.hid C1; replace C2 := Lib.hid C2
  have CH : ∀ w, ET w → Calls Tryd.prog 32 #[.agg #[.int .i64 0, .int .i64 0, .int .i64 0, .string ⟨#[]⟩]] w fun e w' => e = .returned (.int .i64 2) ∧ Below w.heap.size w w' := fun w hT => by
    have := echeck_any ot0 w hT (by decide)
    rw [aw10_chk] at this
    exact this
  replace CH := Lib.hid CH
  have SM := Lib.hid (fun a b c d w h1 h2 => by
    have := esame_any aw10 aw10 a b c d w (by decide) (by decide) h1 h2
    rw [smO_self] at this
    exact (this : Calls Tryd.prog 30 #[.slice a 4 c, .slice b 4 d] w fun e w' => e = .returned (.bool true) ∧ Below w.heap.size w w'))
  have EQ := fun W => eqOut 0 1 0 ⟨#[]⟩ 0 1 0 ⟨#[]⟩ W
  rw [decide_eq_true rfl] at EQ
  clear hT
  go_enter Tryd.func28, Tryd.ntmps28
  go_wp2_with (first
    | (go_at_call 29; refine (T.out _ _ E0.out O0.out).mono ?_; rintro e w1 ⟨rfl, hb1⟩; have E1 := Lib.hid (E0.out.below hb1))
    | (go_at_call 35; refine (P.out _ E1.out).mono ?_; rintro e w2 ⟨la, lc, rfl, hl, hb2⟩; have E2 := Lib.hid (E1.out.below hb2); obtain ⟨lb, lo, rfl, hlb, _, q5, _, _⟩ := hl 2 (by decide); have L2 := Lib.hid hl; clear hl)
    | (go_at_call 38; refine (K.out _ _ _ E2.out L2.out).mono ?_; rintro e w3 ⟨ka, kc, rfl, hk, hb3⟩; have E3 := Lib.hid (E2.out.below hb3); have L3 := Lib.hid (L2.out.below hb3); obtain ⟨kb, ko, rfl, hkb, _⟩ := hk 1 (by decide); have K3 := Lib.hid hk; clear hk; have q6 := (hb3.cell (p := ⟨lb, lo + 2 * 4 + 1, none⟩) hlb).trans q5; have q7 : w3.cell? ⟨lb, lo + 8 + 1, none⟩ = some (.int .i64 5) := q6; clear q5 q6)
    | (go_at_call 40; (with_reducible refine (C1.out _ E3.out).mono ?_); rintro e w4 ⟨rfl, hb4⟩; have E4 := Lib.hid (E3.out.below hb4); have L4 := Lib.hid (L3.out.below hb4); have K4 := Lib.hid (K3.out.below hb4))
    | (go_at_call 40; (with_reducible refine (C2.out _ E4.out).mono ?_); rintro e w5 ⟨rfl, hb5⟩; have E5 := Lib.hid (E4.out.below hb5); have L5 := Lib.hid (L4.out.below hb5); obtain ⟨kb2, ko2, e2, _, k1, k2, k3, k4⟩ := (K4.out.below hb5) 1 (by decide); obtain ⟨rfl, rfl⟩ : kb = kb2 ∧ ko = ko2 := (by simpa using e2); have k1' : w5.cell? ⟨kb, ko + 4, none⟩ = some (.int .i64 0) := k1; have k2' : w5.cell? ⟨kb, ko + 4 + 1, none⟩ = some (.int .i64 1) := k2; have k3' : w5.cell? ⟨kb, ko + 4 + 2, none⟩ = some (.int .i64 0) := k3; have k4' : w5.cell? ⟨kb, ko + 4 + 3, none⟩ = some (.string ⟨#[]⟩) := k4; clear k1 k2 k3 k4 e2)
    | (go_at_call 32; refine (CH.out _ E5.out).mono ?_; rintro e w6 ⟨rfl, hb6⟩; have L6 := Lib.hid (L5.out.below hb6))
    | (go_at_call 30; refine (SM.out _ _ _ _ _ L6.out L6.out).mono ?_; rintro e w7 ⟨rfl, hb7⟩))
  go_ret
  exact ⟨rfl, seqB (seqB (seqB (seqB (seqB (seqB (seqB B0 hb1) hb2) hb3) hb4) hb5) hb6) hb7⟩
end Go.Proofs.YtcdecnmhogmhaaaDoor
set_option linter.unusedVariables false
set_option linter.unusedSimpArgs false
namespace Go.Proofs.YtcdecnmhogmhaaaDoor
open Go.RowKit Go.Sort
theorem okC_cases {c : Nat} {nx : Option UInt8} (h : okC c nx = true) : c ≠ 127 ∧ (32 ≤ c ∨ c = 7 ∨ c = 10 ∨ c = 13 ∨ (c = 27 ∧ nx = some 91)) := by
  unfold okC at h
  simp at h
  refine ⟨h.1, ?_⟩
  rcases h.2 with (((h | h) | h) | h) | h
  · exact Or.inl h
  · exact Or.inr (Or.inl h)
  · exact Or.inr (Or.inr (Or.inl h))
  · exact Or.inr (Or.inr (Or.inr (Or.inl h)))
  · exact Or.inr (Or.inr (Or.inr (Or.inr h)))
/-- What each byte of a clean text is. -/
def ctlB (s : ByteArray) (k : Nat) : Prop := (s.get! k).toNat ≠ 127 ∧ (32 ≤ (s.get! k).toNat ∨ (s.get! k).toNat = 7 ∨ (s.get! k).toNat = 10 ∨ (s.get! k).toNat = 13 ∨ ((s.get! k).toNat = 27 ∧ k + 1 < s.size ∧ (s.get! (k + 1)).toNat = 91))
theorem ctl_at {s : ByteArray} (h : okL (bL s) = true) {k : Nat} (hk : k < s.size) : ctlB s k := by
  have h1 := okL_at (bL s) k h (by rw [bL_len]; exact hk)
  rw [← get_bL s k hk] at h1
  obtain ⟨a, b⟩ := okC_cases h1
  refine ⟨a, ?_⟩
  rcases b with b | b | b | b | ⟨b, c⟩
  · exact Or.inl b
  · exact Or.inr (Or.inl b)
  · exact Or.inr (Or.inr (Or.inl b))
  · exact Or.inr (Or.inr (Or.inr (Or.inl b)))
  · have hl : k + 1 < s.size := by
      rw [← bL_len]
      rcases Nat.lt_or_ge (k + 1) (bL s).length with h2 | h2
      · exact h2
      · rw [List.getElem?_eq_none h2] at c; cases c
    refine Or.inr (Or.inr (Or.inr (Or.inr ⟨b, hl, ?_⟩)))
    rw [get_bL s (k + 1) hl, List.getD, c]; rfl
set_option maxHeartbeats 8000000 in
theorem emitcontrols_any (s : ByteArray) (w : World) (hT : ET w) (hs : s.size ≤ 9223372036854775807) : Calls Tryd.prog 8 #[.string s] w fun e w' => e = .returned (.bool true) ∧ Below w.heap.size w w' := by
  have AW := Lib.hid (fun w hT => eawake_any w hT)
  have HT := Lib.hid hT
  clear hT
  by_cases hb : 500 < s.size
  · have hb' : (500 : Int) < s.size := by omega
    go_enter Tryd.func8, Tryd.ntmps8
    go_wp2_with (go_at_call 28; refine (AW.out _ HT.out).mono ?_; rintro e w1 ⟨rfl, hb1⟩)
    go_ret
    exact ⟨rfl, hb1⟩
  have hb' : ¬ (500 : Int) < s.size := by omega
  have CL := fun w hT => clean_any s w hT (by omega)
  cases hc : clnB s
  · rw [hc] at CL
    replace CL := Lib.hid CL
    clear hc
    go_enter Tryd.func8, Tryd.ntmps8
    go_wp2_with (first
      | (go_at_call 40; refine (CL.out _ HT.out).mono ?_; rintro e w1 ⟨rfl, hb1⟩; have T1 := Lib.hid (HT.out.below hb1))
      | (go_at_call 28; refine (AW.out _ T1.out).mono ?_; rintro e w2 ⟨rfl, hb2⟩))
    go_ret
    exact ⟨rfl, seqB hb1 hb2⟩
  rw [hc] at CL
  obtain ⟨k1, k2⟩ := clean_ok (s := s) hc
  have HB := Lib.hid (fun k hk => ctl_at k1 (k := k) hk)
  have D := fun w => decode_ref s w (by omega)
  have HV := Lib.hid (fun k (hk : k < (valsS s).length) => k2 ((valsS s).getD k 0) (by rw [List.getD, List.getElem?_eq_getElem hk]; exact List.getElem_mem hk))
  have hvl := valsS_len s
  generalize valsS s = V at *
  replace CL := Lib.hid CL; replace D := Lib.hid D
  clear hc k1 k2
  go_enter Tryd.func8, Tryd.ntmps8
  go_wp2_with (go_at_call 40; refine (CL.out _ HT.out).mono ?_; rintro e w1 ⟨rfl, hb1⟩; have T1 := Lib.hid (HT.out.below hb1))
  go_loop [3] (fun iv => ∃ k : Nat, k ≤ s.size ∧ iv = .int .i64 (k : Int)) (fun iv => s.size - (intOf iv).toNat)
  case atStart => exact ⟨0, Nat.zero_le _, rfl⟩
  case round =>
    obtain ⟨k, hk, rfl⟩ := hrel
    by_cases hlt : k < s.size
    · have hk1 : (k : Int) < s.size := by omega
      have hk0 : (0 : Int) ≤ k := by omega
      have hct := HB.out k hlt
      have hg := get_get s k hlt
      unfold ctlB at hct
      obtain ⟨n127, hct⟩ := hct
      rw [hg] at n127
      have m127 : ¬ (s[k].toNat : Int) = 127 := by omega
      rcases hct with h | h | h | h | ⟨h, hl, hn⟩
      · rw [hg] at h
        have h' : ¬ (s[k].toNat : Int) < 32 := by omega
        clear hg
        go_wp2
        go_round
        case rel => exact ⟨k + 1, by omega, by go_num⟩
        case measure => (simp [intOf]; try omega)
      · rw [hg] at h
        clear hg n127 m127
        go_wp2
        go_round
        case rel => exact ⟨k + 1, by omega, by go_num⟩
        case measure => (simp [intOf]; try omega)
      · rw [hg] at h
        clear hg n127 m127
        go_wp2
        go_round
        case rel => exact ⟨k + 1, by omega, by go_num⟩
        case measure => (simp [intOf]; try omega)
      · rw [hg] at h
        clear hg n127 m127
        go_wp2
        go_round
        case rel => exact ⟨k + 1, by omega, by go_num⟩
        case measure => (simp [intOf]; try omega)
      · rw [hg] at h
        rw [get_get s (k + 1) hl] at hn
        have hl1 : (k : Int) + 1 < s.size := by omega
        have hl2 : ¬ (k : Int) + 1 = s.size := by omega
        have hl3 : (0 : Int) ≤ (k : Int) + 1 := by omega
        have hl4 : ((k : Int) + 1).toNat = k + 1 := by omega
        replace hl4 := Lib.hid hl4
        clear hg n127 m127
        have hl5 := hl4.out
        go_wp2
        clear hl5
        go_round
        case rel => exact ⟨k + 1, by omega, by go_num⟩
        case measure => (simp [intOf]; try omega)
    · obtain rfl : k = s.size := by omega
      have hk1 : ¬ (s.size : Int) < s.size := by omega
      go_wp2_with (go_at_call 41; refine (D.out _).mono ?_; rintro e w2 ⟨v, rfl, hown, hb2⟩; obtain ⟨a, c, rfl, hrow⟩ := row_ofI hown; have HR := Lib.hid hrow; clear hown hrow)
      go_loopw [6] (fun iv wr => ∃ k : Nat, k ≤ V.length ∧ iv = .int .i64 (k : Int) ∧ Below w2.heap.size w2 wr) (fun iv _ => V.length - (intOf iv).toNat)
      case atStart => exact ⟨0, Nat.zero_le _, rfl, Below.refl _ _⟩
      case round =>
        obtain ⟨k, hk, rfl, hbl⟩ := hrel
        by_cases hlt : k < V.length
        · obtain ⟨b, off, rfl, hc, hlb⟩ := (HR.out.below hbl) k hlt
          have hk1 : (k : Int) < V.length := by omega
          have hk0 : (0 : Int) ≤ k := by omega
          have hv := HV.out k hlt
          have O := fun w => of_ref (V.getD k 0) w
          rw [← cls_eq] at O
          have hv' : ¬ 4 < cls (V.getD k 0) := by omega
          generalize cls (V.getD k 0) = cx at *
          generalize V.getD k 0 = x at *
          replace O := Lib.hid O
          clear hv
          go_wp2_with (go_at_call 42; refine (O.out _).mono ?_; rintro e w3 ⟨rfl, hb3⟩)
          go_roundw
          case rel => exact ⟨k + 1, by omega, by go_num, hbl.trans (hb3.mono hbl.size)⟩
          case measure => (simp [intOf]; try omega)
        · obtain rfl : k = V.length := by omega
          have hk2 : ¬ (V.length : Int) < V.length := by omega
          have T2 := Lib.hid ((T1.out.below hb2).below (hbl))
          go_wp2_with (go_at_call 28; refine (AW.out _ T2.out).mono ?_; rintro e w4 ⟨rfl, hb4⟩)
          go_ret
          exact ⟨rfl, seqB (seqB (seqB hb1 hb2) hbl) hb4⟩
end Go.Proofs.YtcdecnmhogmhaaaDoor
