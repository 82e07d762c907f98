/-
  Joined: Ki9 Ki10 Ki11 Ki12 ArgS.
-/
import Derived.Test.YtdhhfbglbihapaaDoorJK01
import Derived.Test.YtdhhfbglbihapaaDoorJK02
import Derived.Test.YtdhhfbglbihapaaDoorJK03
import Derived.Test.YtdhhfbglbihapaaDoorJK04
import Derived.Deep.RegionHeld3
import Derived.Deep.SlicePairs
import Derived.ChangeArms
import Derived.Lib.LaidTab
import Derived.Lib.LaidU8
import Derived.Lib.SmallJoins
set_option linter.unusedVariables false
set_option linter.unusedSimpArgs false
set_option maxRecDepth 100000
set_option linter.unusedVariables false
set_option linter.unusedSimpArgs false
namespace Go.Proofs.YtdhhfbglbihapaaDoor
open Go.RowKit
/-- The document's texts as a value. -/
abbrev kV (a : Option Addr) (n c : Nat) (h : Int) : Value := .agg #[.slice a n c, .int .i64 h]
theorem rk_turn_nil (a : Option Addr) (c : Nat) (h : Int) (w : World) : Calls Tryd.prog 14 #[kV a 0 c h] w fun e w' => e = .returned (kV a 0 c h) ∧ Below w.heap.size w w' := by
  have HB := Lib.hid (seqB (below_alloc w (.cells #[.slice a 0 c, .int .i64 h] 30)) (below_alloc _ (.cells #[.slice a 0 c, .int .i64 h] 30)))
  go_enter Tryd.func14, Tryd.ntmps14
  go_wp2
  refine bodyPost_ret (v := kV a 0 c h) (by simp [results, Tryd.results14, go_sem, kV]) rfl ?_
  exact ⟨rfl, HB.out⟩
theorem tuH_mod (h n : Nat) (hl : h < n) : Int.tmod ((h : Int) + (n : Int) - 1) (n : Int) = (tuH h n : Nat) := by
  have e : (h : Int) + (n : Int) - 1 = ((h + n - 1 : Nat) : Int) := by omega
  rw [e]
  unfold tuH
  show ((h + n - 1 : Nat) : Int).tmod ((n : Nat) : Int) = _
  rw [← Int.ofNat_tmod]
  congr 1
  split
  · rename_i h0; subst h0; rw [Nat.zero_add, Nat.mod_eq_of_lt (by omega)]
  · rw [show h + n - 1 = (h - 1) + n by omega, Nat.add_mod_right, Nat.mod_eq_of_lt (by omega)]
theorem rk_now_nil (a : Option Addr) (c : Nat) (h : Int) (w : World) : Calls Tryd.prog 21 #[kV a 0 c h] w fun e w' => e = .returned (.slice none 0 0) ∧ Below w.heap.size w w' := by
  have HB := Lib.hid (below_alloc w (.cells #[.slice a 0 c, .int .i64 h] 30))
  go_enter Tryd.func21, Tryd.ntmps21
  go_wp2
  go_ret
  exact ⟨rfl, HB.out⟩
theorem rk_now (S : Nat → Prop) (T : List (List Sg2)) (a : Option Addr) (n c h : Nat) (w : World) (hn : T.length = n) (hh : h < n) (hl : n ≤ 100000) (hs : SgsK S w a T) : Calls Tryd.prog 21 #[kV a n c h] w fun e w' => ∃ ai ci, e = .returned (.slice ai (T.getD h []).length ci) ∧ SlS S w' ai (T.getD h []) ci ∧ Below w.heap.size w w' := by
  have B := below_alloc w (.cells #[.slice a n c, .int .i64 (h : Int)] 30)
  obtain ⟨b, off, ai, ci, rfl, _, hlt, h1, h2⟩ := (hs.below B) h (by omega)
  have HB := Lib.hid B
  have H2 := Lib.hid h2
  obtain ⟨m, hm⟩ : ∃ m, (T.getD h []).length = m := ⟨_, rfl⟩
  rw [hm] at h1 ⊢
  have hh0 : (0 : Int) ≤ (h : Int) := by omega
  have hhn : (h : Int) < (n : Int) := by omega
  have hne : ¬ (n : Int) = 0 := by omega
  have hpos : 0 < n := by omega
  clear hs B h2 hm hn
  go_enter Tryd.func21, Tryd.ntmps21
  go_wp2
  go_ret
  exact ⟨_, _, rfl, H2.out, HB.out⟩
theorem two_new (w : World) (c1 c2 : Array Value) (t1 t2 : TypeId) : ((w.alloc (.cells c1 t1)).alloc (.cells c2 t2)).heap[w.heap.size]? = some (.cells c1 t1 (0, 0)) ∧ ((w.alloc (.cells c1 t1)).alloc (.cells c2 t2)).heap[w.heap.size + 1]? = some (.cells c2 t2 (0, 0)) ∧ Below w.heap.size w ((w.alloc (.cells c1 t1)).alloc (.cells c2 t2)) := by
  have s1 : (w.alloc (.cells c1 t1)).heap.size = w.heap.size + 1 := by simp
  have b1 := below_alloc w (.cells c1 t1)
  have b2 := below_alloc (w.alloc (.cells c1 t1)) (.cells c2 t2)
  have h1 := heap_alloc_new w (.cells c1 t1)
  have h2 := heap_alloc_new (w.alloc (.cells c1 t1)) (.cells c2 t2)
  rw [s1] at h2
  exact ⟨blk_below h1 b2, h2, seqB b1 b2⟩
set_option maxHeartbeats 4000000 in
theorem rk_turn (a : Option Addr) (n c h : Nat) (w : World) (hh : h < n) (hl : n ≤ 100000) : Calls Tryd.prog 14 #[kV a n c h] w fun e w' => e = .returned (kV a n c (tuH h n)) ∧ Below w.heap.size w w' := by
  have ht := tuH_mod h n hh
  obtain ⟨q, hq⟩ : ∃ q : Int, q = ((tuH h n : Nat) : Int) := ⟨_, rfl⟩
  rw [← hq] at ht ⊢
  have hqb : 0 ≤ q ∧ q < (n : Int) := by
    rw [hq]; unfold tuH; split <;> omega
  have hwq : IntKind.i64.wrap q = q := by rw [IntKind.wrap_i64]; omega
  have hne : ¬ (n : Int) = 0 := by omega
  have hpos : 0 < n := by omega
  have hw1 : IntKind.i64.wrap ((h : Int) + (n : Int)) = (h : Int) + (n : Int) := by rw [IntKind.wrap_i64]; omega
  have hw2 : IntKind.i64.wrap ((h : Int) + (n : Int) - 1) = (h : Int) + (n : Int) - 1 := by rw [IntKind.wrap_i64]; omega
  obtain ⟨hX, hZ, hB⟩ := two_new w #[.slice a n c, .int .i64 (h : Int)] #[.slice none 0 0, .int .i64 0] 30 30
  clear hq hqb
  go_enter Tryd.func14, Tryd.ntmps14
  go_upto_region 3 with fail
  generalize ((w.alloc (.cells #[.slice a n c, .int .i64 (h : Int)] 30)).alloc (.cells #[.slice none 0 0, .int .i64 0] 30)) = W2 at *
  obtain ⟨Z, hZq⟩ : ∃ Z, w.heap.size + 1 = Z := ⟨_, rfl⟩
  obtain ⟨X, hXq⟩ : ∃ X, w.heap.size = X := ⟨_, rfl⟩
  rw [hZq] at hZ ⊢
  rw [hXq] at hX ⊢
  have hXZ : Hid (X ≤ Z) := Lib.hid (by omega)
  have Bd := hB.drew
  have zX : W2.drew.heap[X]? = _ := hX
  have zZ := hZ
  have x0 := cell_of_row _ _ 0 _ _ _ zX; have x1 := cell_of_row _ _ 1 _ _ _ zX
  have zf := fun i => frozen_of_row _ Z i _ _ zZ
  have z0 := cell_of_row _ _ 0 _ _ _ zZ; have z1 := cell_of_row _ _ 1 _ _ _ zZ
  have b2 := blk_set (blk_set zZ 0 (.slice a n c)) 1 (.int .i64 q)
  have zz := fun i => cell_of_row _ _ i _ _ _ b2
  have f0 : ((W2.setCell ⟨Z, 0, none⟩ (.slice a n c)).setCell ⟨Z, 1, none⟩ (.int .i64 q)).cell? ⟨Z, 0, none⟩ = some (.slice a n c) := zz 0
  have f1 : ((W2.setCell ⟨Z, 0, none⟩ (.slice a n c)).setCell ⟨Z, 1, none⟩ (.int .i64 q)).cell? ⟨Z, 1, none⟩ = some (.int .i64 q) := zz 1
  have hXZn : X ≠ Z := by omega
  have bX : ((W2.setCell ⟨Z, 0, none⟩ (.slice a n c)).setCell ⟨Z, 1, none⟩ (.int .i64 q)).heap[X]? = W2.heap[X]? := (Below.heap_setCell _ _ _ _ hXZn).trans (Below.heap_setCell _ _ _ _ hXZn)
  have g0 : ((W2.setCell ⟨Z, 0, none⟩ (.slice a n c)).setCell ⟨Z, 1, none⟩ (.int .i64 q)).drew.cell? ⟨X, 0, none⟩ = some (.slice a n c) := cell_of_row _ _ 0 _ _ _ (bX.trans hX)
  have g1 : ((W2.setCell ⟨Z, 0, none⟩ (.slice a n c)).setCell ⟨Z, 1, none⟩ (.int .i64 q)).drew.cell? ⟨X, 1, none⟩ = some (.int .i64 (h : Int)) := cell_of_row _ _ 1 _ _ _ (bX.trans hX)
  have NF := Lib.hid (((hB.setCell (p := ⟨Z, 0, none⟩) (by show w.heap.size ≤ Z; rw [hXq]; exact hXZ.out) (.slice a n c)).setCell (p := ⟨Z, 1, none⟩) (by show w.heap.size ≤ Z; rw [hXq]; exact hXZ.out) (.int .i64 q)).drew)
  dsimp at x0 x1 z0 z1
  have hn00 : ¬ n = 0 := by omega
  clear hX hZ hB Bd zX zZ b2 zz hZq hXq bX hXZn
  go_region_held3 (fun w' => w'.cell? ⟨X, 0, none⟩ = some (.slice a n c) ∧ w'.cell? ⟨X, 1, none⟩ = some (.int .i64 (h : Int))) (first | exact ⟨x0, x1⟩ | exact ⟨g0, g1⟩ | go_keep) (fail)
  all_goals go_wp2
  all_goals refine bodyPost_ret (v := kV a n c q) (by simp [results, Tryd.results14, go_sem, kV, f0, f1]) rfl ?_
  all_goals exact ⟨rfl, NF.out⟩
set_option maxHeartbeats 4000000 in
theorem rk_lists (S1 S2 : Nat → Prop) (T : List (List Sg2)) (a b : Option Addr) (n c d : Nat) (w : World) (hn : T.length = n) (hl : n ≤ 100000) (hz : ∀ t ∈ T, t.length ≤ 65536) (h1 : SgsK S1 w a T) (h2 : SgsK S2 w b T) :
    Calls Tryd.prog 22 #[.slice a n c, .slice b n d] w fun e w' => e = .returned (.bool true) ∧ Below w.heap.size w w' := by
  have H1 := Lib.hid h1
  have H2 := Lib.hid h2
  have HN := Lib.hid hn
  have HZ := Lib.hid hz
  clear h1 h2 hn hz
  go_enter Tryd.func22, Tryd.ntmps22
  go_wp2
  go_loopw [5] (fun iv wr => ∃ i : Nat, i ≤ n ∧ iv = .int .i64 (i : Int) ∧ Below w.heap.size w wr) (fun iv _ => n - (intOf iv).toNat)
  case atStart => exact ⟨0, Nat.zero_le _, rfl, Below.refl _ _⟩
  case round =>
    obtain ⟨i, hi, rfl, hb⟩ := hrel
    by_cases hlt : i < n
    · have hi1 : (i : Int) < (n : Int) := by omega
      have hi0 : (0 : Int) ≤ (i : Int) := by omega
      have hbd := (Below.refl wr.heap.size wr).drew
      have hb' := hb.trans (hbd.mono hb.size)
      obtain ⟨ba, oa, ai, ci, rfl, _, hla, ca, sa⟩ := (H1.out.below hb') i (by rw [HN.out]; exact hlt)
      obtain ⟨bb, ob, bi, di, rfl, _, hlb, cb, sb⟩ := (H2.out.below hb') i (by rw [HN.out]; exact hlt)
      have hlen := HZ.out _ (getD_memT (show i < T.length by rw [HN.out]; exact hlt))
      obtain ⟨m, hm⟩ : ∃ m, (T.getD i []).length = m := ⟨_, rfl⟩
      have hSA := Lib.hid (sgsame_ref (T.getD i []) (T.getD i []) ai bi ci di wr.drew (by omega) (by omega) sa.s sb.s)
      rw [hm] at ca cb hSA
      have hBd := Lib.hid hb'
      clear sa sb hm hb hb' hlen hbd
      go_upto_region 6 with fail
      go_region_held3 (fun w' => w'.cell? ⟨ba, oa + i, none⟩ = some (.slice ai m ci) ∧ w'.cell? ⟨bb, ob + i, none⟩ = some (.slice bi m di)) (first | exact ⟨ca, cb⟩ | exact ⟨ca2, cb2⟩ | go_keep)
        (first | (go_at_call 19; refine hSA.out.mono ?_; rintro e w4 ⟨rfl, hb4⟩; have ca2 := (hb4.cell (p := ⟨ba, oa + i, none⟩) hla).trans ca; have cb2 := (hb4.cell (p := ⟨bb, ob + i, none⟩) hlb).trans cb; have hB4 := Lib.hid (hBd.out.trans (hb4.mono hBd.out.size)); clear hb4))
      all_goals go_wp2
      all_goals go_roundw
      all_goals first | exact ⟨i + 1, by omega, by go_num, hB4.out⟩ | (simp [intOf]; try omega)
    · have hge : i = n := by omega
      subst hge
      go_wp2
      go_ret
      exact ⟨rfl, hb⟩
end Go.Proofs.YtdhhfbglbihapaaDoor
set_option linter.unusedVariables false
set_option linter.unusedSimpArgs false
namespace Go.Proofs.YtdhhfbglbihapaaDoor
open Go.RowKit
theorem or1_new (w : World) : OwR1 (w.alloc (.cells #[] 31)) w.heap.size (.slice (some ⟨w.heap.size, 0, none⟩) 0 0) [] :=
  ⟨rfl, .inr ⟨w.heap.size, 0, #[], rfl, Nat.le_refl _, heap_alloc_new _ _, Nat.le_refl _, by decide, rfl, rfl⟩⟩
/-- What a call of the document's Push leaves. -/
def RkPost (S : Nat → Prop) (R : List (List Sg2)) (h : Nat) (w : World) (e : Ending) (w' : World) : Prop :=
  ∃ a' c', e = .returned (kV a' R.length c' h) ∧ SgsK (fun k => S k ∨ (w.heap.size ≤ k ∧ k < w'.heap.size)) w' a' R ∧ (R = [] → a' = none ∧ c' = 0) ∧ Below w.heap.size w w'
theorem els_sgs {S : Nat → Prop} {w : World} {B n c : Nat} {a : Option Addr} {vs : List Value} {E : List (List Sg2)} (h : OwR1 w B (.slice a n c) vs) (hn : vs.length = n) (e : Els S w vs E) : SgsK (fun k => S k ∨ (B ≤ k ∧ k < w.heap.size)) w a E ∧ n ≤ c := by
  have hE := e.1
  rcases h.2 with ⟨h1, h0⟩ | ⟨g, cap, cur, h1, hB, hg, hle, _⟩
  · injection h1 with h1 h2 h3
    exact ⟨fun i hi => absurd hi (by rw [← hE, h0]; exact Nat.not_lt_zero i), by omega⟩
  · injection h1 with h1 h2 h3
    subst h1; subst h3; subst hn
    refine ⟨fun i hi => ?_, hle⟩
    obtain ⟨ai, ci, ei, hs⟩ := e.2 i hi
    exact ⟨g, 0, ai, ci, rfl, Or.inr ⟨hB, blk_lt hg⟩, blk_lt hg, by rw [Nat.zero_add, h.cellAt i (by omega)]; exact ei, hs.mono (fun k hk => Or.inl hk)⟩
theorem sgs_cut {S : Nat → Prop} {w : World} {a : Option Addr} {x : List Sg2} {E : List (List Sg2)} (h : SgsK S w a (x :: E)) : SgsK S w (a.map fun x => { block := x.block, off := x.off + 1 }) E := fun i hi => by
  obtain ⟨b, off, ai, ci, rfl, h1, h2, h3, h4⟩ := h (i + 1) (by simp; omega)
  refine ⟨b, off + 1, ai, ci, rfl, h1, h2, ?_, h4⟩
  rw [show off + 1 + i = off + (i + 1) by omega]; exact h3
theorem rk_fin {S : Nat → Prop} {R : List (List Sg2)} {B0 Z nx cx : Nat} {i : Int} {w w12 : World} {ax : Option Addr} (hN : Below w.heap.size w w12) (hz : w12.heap[Z]? = some (.cells #[.slice none 0 0, .int .i64 0] 30 (0, 0))) (hS : ∀ k, S k → k < w.heap.size) (hB0 : w.heap.size ≤ Z ∧ Z < B0)
    (sg : SgsK (fun k => (S k ∨ (B0 ≤ k ∧ k < w12.heap.size)) ∨ (B0 ≤ k ∧ k < w12.heap.size)) w12 ax R) (hR : R.length = nx) (hp : 0 < nx) (hi : i = ((nx - 1 : Nat) : Int)) :
    ((w12.setCell ⟨Z, 0, none⟩ (.slice ax nx cx)).setCell ⟨Z, 1, none⟩ (.int .i64 i)).cell? ⟨Z, 0, none⟩ = some (.slice ax nx cx) ∧ ((w12.setCell ⟨Z, 0, none⟩ (.slice ax nx cx)).setCell ⟨Z, 1, none⟩ (.int .i64 i)).cell? ⟨Z, 1, none⟩ = some (.int .i64 i) ∧
    RkPost S R (R.length - 1) w (.returned (kV ax nx cx i)) ((w12.setCell ⟨Z, 0, none⟩ (.slice ax nx cx)).setCell ⟨Z, 1, none⟩ (.int .i64 i)) := by
  have b2 := blk_set (blk_set hz 0 (.slice ax nx cx)) 1 (.int .i64 i)
  have y := fun j => cell_of_row _ _ j _ _ _ b2
  have hsz : ((w12.setCell ⟨Z, 0, none⟩ (.slice ax nx cx)).setCell ⟨Z, 1, none⟩ (.int .i64 i)).heap.size = w12.heap.size := by simp [World.setCell]
  refine ⟨y 0, y 1, ax, cx, by rw [hR, hi], ?_, fun e => by rw [e] at hR; simp at hR; omega, (hN.setCell (p := ⟨Z, 0, none⟩) hB0.1 _).setCell (p := ⟨Z, 1, none⟩) hB0.1 _⟩
  refine (sg.keep (Nat.le_of_eq hsz.symm) (fun k hk => ?_)).mono (fun k hk => ?_)
  · have hkZ : k ≠ Z := by
      rcases hk with (h | h) | h
      · have := hS k h; omega
      · have := h.1; omega
      · have := h.1; omega
    exact (Below.heap_setCell _ _ _ _ hkZ).trans (Below.heap_setCell _ _ _ _ hkZ)
  · rw [hsz]
    rcases hk with (h | h) | h
    · exact Or.inl h
    · exact Or.inr ⟨by omega, h.2⟩
    · exact Or.inr ⟨by omega, h.2⟩
theorem elemSl : Tryd.prog.elem 28 = 31 := by kernel_rfl
theorem sizeSl (w : World) : (sizeOf 31).run Tryd.prog w = .ok 1 w := by kernel_rfl
theorem run_cut1 (w : World) (a : Option Addr) (n c : Nat) (h : 1 ≤ n) : (Instr.slice 28 (.slice a n c) (some (.int .i64 1)) none none).run Tryd.prog w = .ok (.slice (if c = 1 then a else a.map (·.add (1 * 1))) (n - 1) (c - 1)) w := by
  have := run_slice_l (P := Tryd.prog) w 28 a n c (by kernel_rfl) .i64 (1 : Int) (by omega) (by omega)
  rw [elemSl, sizeSl] at this
  exact this
theorem sgs_one {w w' : World} (aj : Option Addr) (m cj : Nat) (hw : w.alloc (.cells #[.slice aj m cj] 31) = w') : ∀ b, (some (⟨w.heap.size, 0, none⟩ : Addr)) = some b → ∀ j u, ([Value.slice aj m cj] : List Value)[j]? = some u → w'.cell? (b.add j) = some u := by
  intro b e j u hj
  injection e with e; subst e; subst hw
  exact app_cells rfl hj
section
variable {S : Nat → Prop} {M : Int} {T : List (List Sg2)} {l : List Sg2} {a b : Option Addr} {n c m d h : Nat} {w w' : World}
theorem rk_push_nil (how : Int) (hn : T.length = n) (hs : SgsK S w a T) (hnl : T = [] → a = none ∧ c = 0) :
    Calls Tryd.prog 17 #[kV a n c h, .slice b 0 d, .int .i64 how, .int .i64 M] w (RkPost S T h w) := by
  have HB := Lib.hid (seqB (below_alloc w (.cells #[.slice a n c, .int .i64 (h : Int)] 30)) (below_alloc _ (.cells #[.slice a n c, .int .i64 (h : Int)] 30)))
  have HS := Lib.hid hs
  have HL := Lib.hid hnl
  have HN := Lib.hid hn
  clear hs hnl hn
  go_enter Tryd.func17, Tryd.ntmps17
  go_wp2
  refine bodyPost_ret (v := kV a n c h) (by simp [results, Tryd.results17, go_sem, kV]) rfl ?_
  exact ⟨a, c, by rw [HN.out], (HS.out.below HB.out).mono (fun k hk => Or.inl hk), HL.out, HB.out⟩
set_option maxHeartbeats 8000000 in
theorem rk_push_new (hn : T.length = n) (hm : l.length = m) (hs : SgsK S w a T) (hnl : T = [] → a = none ∧ c = 0) (hl : SlS S w b l d) (hS : ∀ k, S k → k < w.heap.size)
    (hnM : (n : Int) ≤ M) (hM1 : 1 ≤ M) (hM : M ≤ 1000) (hm0 : 0 < m) (hm1 : m ≤ 65536) :
    Calls Tryd.prog 17 #[kV a n c h, .slice b m d, .int .i64 0, .int .i64 M] w (RkPost S (puT M (T ++ [l])) ((puT M (T ++ [l])).length - 1) w) := by
  obtain ⟨hX, hZ, hB⟩ := two_new w #[.slice a n c, .int .i64 (h : Int)] #[.slice none 0 0, .int .i64 0] 30 30
  have hne : ¬ (m : Int) = 0 := by omega
  have hpos : 0 < m := hm0
  have hn00 : ¬ m = 0 := by omega
  have HN := Lib.hid hn; have HM := Lib.hid hm; have HS := Lib.hid hs; have HL := Lib.hid hnl; have HSl := Lib.hid hl; have HSk := Lib.hid hS
  have hn1 : n ≤ 1000 := by omega
  clear hn hm hs hnl hl hS
  go_enter Tryd.func17, Tryd.ntmps17
  go_upto_region 3 with fail
  generalize ((w.alloc (.cells #[.slice a n c, .int .i64 (h : Int)] 30)).alloc (.cells #[.slice none 0 0, .int .i64 0] 30)) = W2 at *
  obtain ⟨Z, hZq⟩ : ∃ Z, w.heap.size + 1 = Z := ⟨_, rfl⟩
  obtain ⟨X, hXq⟩ : ∃ X, w.heap.size = X := ⟨_, rfl⟩
  have hZl := blk_lt hZ
  rw [hZq] at hZ ⊢
  rw [hXq] at hX ⊢
  rw [hZq] at hZl
  have hZX : Hid (w.heap.size ≤ Z ∧ X = w.heap.size ∧ Z ≠ X ∧ Z = w.heap.size + 1 ∧ Z < W2.heap.size) := Lib.hid (by omega)
  have x0 := cell_of_row _ _ 0 _ _ _ hX
  dsimp at x0
  obtain ⟨vs, hE, hcells⟩ := (HS.out.below hB).els
  have B3 := below_alloc W2 (.cells #[] 31)
  have OW3 := Lib.hid (or1_new W2)
  have hX3 := Lib.hid (blk_below hX B3)
  have hZ3 := Lib.hid (blk_below hZ B3)
  have B2 := Lib.hid hB
  have HB3 := Lib.hid B3
  have hvl : vs.length = n := by rw [hE.1, HN.out]
  have HV := Lib.hid hvl
  have hE1 := Lib.hid hE
  have hcl : ∀ b, a = some b → ∀ j u, vs[j]? = some u → (W2.alloc (.cells #[] 31)).cell? (b.add j) = some u := fun b' e j u hj => by
    have h1 := hcells b' e j u hj
    subst e
    have hjl : j < n := by rw [← hvl]; exact (List.getElem?_eq_some_iff.1 hj).1
    obtain ⟨b2, off, _, _, e, _, hlt, _⟩ := HS.out j (by rw [HN.out]; exact hjl)
    injection e with e; subst e
    have hadd : (⟨b2, off, none⟩ : Addr).add j = ⟨b2, off + j, none⟩ := by unfold Addr.add; split <;> simp_all
    rw [hadd] at h1 ⊢
    exact (B3.cell (p := ⟨b2, off + j, none⟩) (Nat.lt_of_lt_of_le hlt hB.size)).trans h1
  have hcl' := Lib.hid hcl
  have x03 := cell_of_row _ _ 0 _ _ _ hX3.out
  dsimp at x03
  clear hcells hcl hvl hE hB B3 hZq hXq hZl
  go_wp2_with (at_builtin; refine wpList_app_sl rfl _ _ rfl W2.heap.size _ 0 [] rfl rfl OW3.out a n c vs rfl HV.out hcl'.out hE1.out.one ?c1 ?c2 ?c3 ?_)
  case c1 =>
    intro e
    by_cases hT : T = []
    · obtain ⟨_, h2⟩ := HL.out hT
      first | exact h2 | exact ⟨h2, by rw [← HN.out, hT]; rfl⟩
    · obtain ⟨_, _, _, _, e2, _⟩ := HS.out 0 (List.length_pos_iff.2 hT)
      rw [e] at e2; cases e2
  case c2 => omega
  case c3 => exact HB3.out.size
  intro ad9 c9 w9 o9 g9 p9
  have N9 := HB3.out.grown g9 HB3.out.size (fun k hk => by simp [Value.ownBlock] at hk; omega)
  have M9 := Lib.hid (B2.out.trans (N9.mono B2.out.size))
  have E9 := Lib.hid ((hE1.out.keep N9.size (fun k hk => N9.block k (Nat.lt_of_lt_of_le (HSk.out k hk) B2.out.size))))
  have Z9 := Lib.hid (blk_below hZ N9)
  have S9 := Lib.hid (HSl.out.keep M9.out.size (fun k hk => M9.out.block k (HSk.out k hk)))
  obtain ⟨B0, hB0⟩ : ∃ B0, W2.heap.size = B0 := ⟨_, rfl⟩
  rw [hB0] at o9
  have O9 := Lib.hid (show OwR1 w9 B0 (.slice ad9 n c9) vs by simpa using o9)
  have hB0w : Hid (w.heap.size ≤ B0 ∧ B0 ≤ w9.heap.size ∧ Z < B0) := Lib.hid ⟨by rw [← hB0]; exact B2.out.size, by rw [← hB0]; exact N9.size, by rw [← hB0]; exact hZX.out.2.2.2.2⟩
  clear o9 g9 p9 N9 x0 x03 hX hZ hX3 hZ3 HB3 OW3 hE1 hcl' B2 hB0
  go_upto_region 6 with fail
  have JO := Lib.hid (by have := joinS_ref S l [] b none d 0 m 0 w9 HM.out rfl (by omega) (by omega) S9.out ⟨fun j hj => absurd hj (Nat.not_lt_zero j), Nat.le_refl _, fun _ => rfl, fun ad e => by cases e⟩; rw [Nat.add_zero, List.append_nil] at this; exact this)
  go_wp2_with (first
    | (go_at_call 63; refine JO.out.mono ?_; rintro e w10 ⟨aj, cj, rfl, oj, hb10⟩; have N10 := Lib.hid (M9.out.trans (hb10.mono M9.out.size)); have O10 := Lib.hid (O9.out.below hb10); have OJ := Lib.hid oj; have HB10 := Lib.hid hb10; have BA := below_alloc w10 (.cells #[.slice aj m cj] 31); have O11 := Lib.hid (O10.out.below BA); have N11 := Lib.hid (N10.out.trans (BA.mono N10.out.size)); have HBA := Lib.hid BA; clear oj hb10 BA)
    | (at_builtin; refine wpList_app_sl rfl _ _ rfl B0 _ n vs rfl HV.out O11.out (some ⟨w10.heap.size, 0, none⟩) 1 1 [.slice aj m cj] rfl rfl (sgs_one aj m cj rfl) (by simp [Value.oneCell']) (fun e => by cases e) ?c4 ?c5 ?_))
  case c4 => omega
  case c5 => have := hB0w.out.2.1; have := HB10.out.size; have := HBA.out.size; omega
  intro ad12 c12 w12 o12 g12 p12
  have N12 := Lib.hid (N11.out.grown g12 N11.out.size (fun k hk => Nat.le_trans hB0w.out.1 (O11.out.lt k hk).1))
  have hLT : ∀ k, (Value.slice ad9 n c9).ownBlock = some k → B0 ≤ k ∧ k < w9.heap.size := fun k hk => O9.out.lt k hk
  have E12 : Hid (Els (fun k => S k ∨ (B0 ≤ k ∧ k < w12.heap.size)) w12 (vs ++ [.slice aj m cj]) (T ++ [l])) := Lib.hid (by
    obtain ⟨a2, c2, e2, sj⟩ := OJ.out.sl
    rw [HM.out] at e2
    injection e2 with e2 e3 e4; subst e2; subst e4
    have hsz : w10.heap.size ≤ w12.heap.size := Nat.le_trans HBA.out.size g12.size
    have hk9 : ∀ k, k < w9.heap.size → S k → w12.heap[k]? = w9.heap[k]? := fun k hk hs => by
      have h1 := HSk.out k hs
      exact ((g12.block k (Nat.lt_of_lt_of_le hk (Nat.le_trans HB10.out.size HBA.out.size)) (fun e => by have := hLT k e.symm; have := hB0w.out.1; omega)).trans (HBA.out.block k (Nat.lt_of_lt_of_le hk HB10.out.size))).trans (HB10.out.block k hk)
    refine ((E9.out.keep (Nat.le_trans HB10.out.size hsz) (fun k hk => hk9 k (Nat.lt_of_lt_of_le (HSk.out k hk) (Nat.le_trans hB0w.out.1 hB0w.out.2.1)) hk)).mono (fun k hk => Or.inl hk)).snoc HM.out ?_
    refine (sj.keep hsz (fun k hk => (g12.block k (Nat.lt_of_lt_of_le hk.2 HBA.out.size) (fun e => by have := hLT k e.symm; have := hk.1; omega)).trans (HBA.out.block k hk.2))).mono (fun k hk => Or.inr ⟨Nat.le_trans hB0w.out.2.1 hk.1, Nat.lt_of_lt_of_le hk.2 hsz⟩))
  have hv12 : (vs ++ [Value.slice aj m cj]).length = n + 1 := by rw [List.length_append, HV.out]; rfl
  have hsg := els_sgs (show OwR1 w12 B0 (.slice ad12 (n + 1) c12) _ from (by simpa using o12)) hv12 E12.out
  have SG12 := Lib.hid hsg.1
  have hc12 := hsg.2
  have Z12 := Lib.hid ((g12.block Z (by have := hB0w.out.2; have := HB10.out.size; have := HBA.out.size; omega) (fun e => by have := hLT Z e.symm; have := hB0w.out.2.2; omega)).trans ((HBA.out.block Z (by have := hB0w.out.2; have := HB10.out.size; omega)).trans ((HB10.out.block Z (by have := hB0w.out.2; omega)).trans Z9.out)))
  have hTl : Hid ((T ++ [l]).length = n + 1) := Lib.hid (by rw [List.length_append, HN.out]; rfl)
  have HB12 : Hid (Z < w12.heap.size) := Lib.hid (blk_lt Z12.out)
  clear o12 g12 p12 hv12 hsg hLT
  have zz := fun i => cell_of_row _ _ i _ _ _ Z12.out
  have z0 := zz 0
  have z1 := zz 1
  have zf := fun i => frozen_of_row _ Z i _ _ Z12.out
  dsimp at z0 z1
  clear zz
  have hTl2 := hTl.out
  by_cases hcut : M < ((n + 1 : Nat) : Int)
  · have hR : Hid (puT M (T ++ [l]) = (T ++ [l]).tail) := Lib.hid (if_pos (by rw [hTl.out]; exact hcut))
    obtain ⟨t0, T3, hT3⟩ : ∃ t0 T3, T ++ [l] = t0 :: T3 := by
      cases hc : T ++ [l] with
      | nil => simp at hc
      | cons x y => exact ⟨x, y, rfl⟩
    have hT3l : T3.length = n := by have h1 := hTl.out; rw [hT3] at h1; simp only [List.length_cons] at h1; omega
    have hc1 : ¬ c12 = 1 := by omega
    have hR2 : Hid (puT M (T ++ [l]) = T3) := Lib.hid (by rw [hR.out, hT3]; rfl)
    have SG3 := SG12.out
    rw [hT3] at SG3
    have hcut2 : M < (n : Int) + 1 := by omega
    have hnp : 0 < n := by omega
    have F := rk_fin (i := (n : Int) - 1) (cx := c12 - 1) N12.out Z12.out HSk.out ⟨hZX.out.1, hB0w.out.2.2⟩ (sgs_cut SG3) hT3l hnp (by omega)
    have HF := Lib.hid F
    clear F SG3 hT3 hT3l hcut hTl2
    go_wp2
    obtain ⟨f0, f1, fp⟩ := HF.out
    refine bodyPost_ret (v := kV (ad12.map fun x => { block := x.block, off := x.off + 1 }) n (c12 - 1) ((n : Int) - 1)) (by simp [results, Tryd.results17, go_sem, kV, f0, f1]) rfl ?_
    rw [hR2.out]
    exact fp
  · have hR : Hid (puT M (T ++ [l]) = T ++ [l]) := Lib.hid (if_neg (by rw [hTl.out]; exact hcut))
    have hcut2 : ¬ M < (n : Int) + 1 := by omega
    have F := rk_fin (i := (n : Int)) (cx := c12) N12.out Z12.out HSk.out ⟨hZX.out.1, hB0w.out.2.2⟩ SG12.out hTl2 (by omega) (by omega)
    have HF := Lib.hid F
    clear F hcut hTl2
    go_wp2
    obtain ⟨f0, f1, fp⟩ := HF.out
    refine bodyPost_ret (v := kV ad12 (n + 1) c12 (n : Int)) (by simp [results, Tryd.results17, go_sem, kV] at f0 f1 ⊢; simp [f0, f1]) rfl ?_
    rw [hR.out]
    simpa using fp
set_option maxHeartbeats 8000000 in
theorem rk_push_first (how : Int) (hh0 : ¬ how = 0) (hn : T.length = 0) (hm : l.length = m) (hs : SgsK S w a T) (hnl : T = [] → a = none ∧ c = 0) (hl : SlS S w b l d) (hS : ∀ k, S k → k < w.heap.size)
    (hM1 : 1 ≤ M) (hM : M ≤ 1000) (hm0 : 0 < m) (hm1 : m ≤ 65536) :
    Calls Tryd.prog 17 #[kV a 0 c h, .slice b m d, .int .i64 how, .int .i64 M] w (RkPost S (puT M (T ++ [l])) ((puT M (T ++ [l])).length - 1) w) := by
  obtain ⟨hX, hZ, hB⟩ := two_new w #[.slice a 0 c, .int .i64 (h : Int)] #[.slice none 0 0, .int .i64 0] 30 30
  have hne : ¬ (m : Int) = 0 := by omega
  have hpos : 0 < m := hm0
  have hn00 : ¬ m = 0 := by omega
  have HN := Lib.hid hn; have HM := Lib.hid hm; have HS := Lib.hid hs; have HL := Lib.hid hnl; have HSl := Lib.hid hl; have HSk := Lib.hid hS
  have hn1 : 0 ≤ 1000 := by omega
  clear hn hm hs hnl hl hS
  go_enter Tryd.func17, Tryd.ntmps17
  go_upto_region 3 with fail
  generalize ((w.alloc (.cells #[.slice a 0 c, .int .i64 (h : Int)] 30)).alloc (.cells #[.slice none 0 0, .int .i64 0] 30)) = W2 at *
  obtain ⟨Z, hZq⟩ : ∃ Z, w.heap.size + 1 = Z := ⟨_, rfl⟩
  obtain ⟨X, hXq⟩ : ∃ X, w.heap.size = X := ⟨_, rfl⟩
  have hZl := blk_lt hZ
  rw [hZq] at hZ ⊢
  rw [hXq] at hX ⊢
  rw [hZq] at hZl
  have hZX : Hid (w.heap.size ≤ Z ∧ X = w.heap.size ∧ Z ≠ X ∧ Z = w.heap.size + 1 ∧ Z < W2.heap.size) := Lib.hid (by omega)
  have x0 := cell_of_row _ _ 0 _ _ _ hX
  dsimp at x0
  obtain ⟨vs, hE, hcells⟩ := (HS.out.below hB).els
  have B3 := below_alloc W2 (.cells #[] 31)
  have OW3 := Lib.hid (or1_new W2)
  have hX3 := Lib.hid (blk_below hX B3)
  have hZ3 := Lib.hid (blk_below hZ B3)
  have B2 := Lib.hid hB
  have HB3 := Lib.hid B3
  have hvl : vs.length = 0 := by rw [hE.1, HN.out]
  have HV := Lib.hid hvl
  have hE1 := Lib.hid hE
  have hcl : ∀ b, a = some b → ∀ j u, vs[j]? = some u → (W2.alloc (.cells #[] 31)).cell? (b.add j) = some u := fun b' e j u hj => by
    have h1 := hcells b' e j u hj
    subst e
    have hjl : j < 0 := by rw [← hvl]; exact (List.getElem?_eq_some_iff.1 hj).1
    obtain ⟨b2, off, _, _, e, _, hlt, _⟩ := HS.out j (by rw [HN.out]; exact hjl)
    injection e with e; subst e
    have hadd : (⟨b2, off, none⟩ : Addr).add j = ⟨b2, off + j, none⟩ := by unfold Addr.add; split <;> simp_all
    rw [hadd] at h1 ⊢
    exact (B3.cell (p := ⟨b2, off + j, none⟩) (Nat.lt_of_lt_of_le hlt hB.size)).trans h1
  have hcl' := Lib.hid hcl
  have x03 := cell_of_row _ _ 0 _ _ _ hX3.out
  dsimp at x03
  clear hcells hcl hvl hE hB B3 hZq hXq hZl
  go_wp2_with (at_builtin; refine wpList_app_sl rfl _ _ rfl W2.heap.size _ 0 [] rfl rfl OW3.out a 0 c vs rfl HV.out hcl'.out hE1.out.one ?c1 ?c2 ?c3 ?_)
  case c1 =>
    intro e
    by_cases hT : T = []
    · obtain ⟨_, h2⟩ := HL.out hT
      first | exact h2 | exact ⟨h2, by rw [← HN.out, hT]; rfl⟩
    · obtain ⟨_, _, _, _, e2, _⟩ := HS.out 0 (List.length_pos_iff.2 hT)
      rw [e] at e2; cases e2
  case c2 => omega
  case c3 => exact HB3.out.size
  intro ad9 c9 w9 o9 g9 p9
  have N9 := HB3.out.grown g9 HB3.out.size (fun k hk => by simp [Value.ownBlock] at hk; omega)
  have M9 := Lib.hid (B2.out.trans (N9.mono B2.out.size))
  have E9 := Lib.hid ((hE1.out.keep N9.size (fun k hk => N9.block k (Nat.lt_of_lt_of_le (HSk.out k hk) B2.out.size))))
  have Z9 := Lib.hid (blk_below hZ N9)
  have S9 := Lib.hid (HSl.out.keep M9.out.size (fun k hk => M9.out.block k (HSk.out k hk)))
  obtain ⟨B0, hB0⟩ : ∃ B0, W2.heap.size = B0 := ⟨_, rfl⟩
  rw [hB0] at o9
  have O9 := Lib.hid (show OwR1 w9 B0 (.slice ad9 0 c9) vs by simpa using o9)
  have hB0w : Hid (w.heap.size ≤ B0 ∧ B0 ≤ w9.heap.size ∧ Z < B0) := Lib.hid ⟨by rw [← hB0]; exact B2.out.size, by rw [← hB0]; exact N9.size, by rw [← hB0]; exact hZX.out.2.2.2.2⟩
  clear o9 g9 p9 N9 x0 x03 hX hZ hX3 hZ3 HB3 OW3 hE1 hcl' B2 hB0
  go_upto_region 6 with fail
  have JO := Lib.hid (by have := joinS_ref S l [] b none d 0 m 0 w9 HM.out rfl (by omega) (by omega) S9.out ⟨fun j hj => absurd hj (Nat.not_lt_zero j), Nat.le_refl _, fun _ => rfl, fun ad e => by cases e⟩; rw [Nat.add_zero, List.append_nil] at this; exact this)
  go_wp2_with (first
    | (go_at_call 63; refine JO.out.mono ?_; rintro e w10 ⟨aj, cj, rfl, oj, hb10⟩; have N10 := Lib.hid (M9.out.trans (hb10.mono M9.out.size)); have O10 := Lib.hid (O9.out.below hb10); have OJ := Lib.hid oj; have HB10 := Lib.hid hb10; have BA := below_alloc w10 (.cells #[.slice aj m cj] 31); have O11 := Lib.hid (O10.out.below BA); have N11 := Lib.hid (N10.out.trans (BA.mono N10.out.size)); have HBA := Lib.hid BA; clear oj hb10 BA)
    | (at_builtin; refine wpList_app_sl rfl _ _ rfl B0 _ 0 vs rfl HV.out O11.out (some ⟨w10.heap.size, 0, none⟩) 1 1 [.slice aj m cj] rfl rfl (sgs_one aj m cj rfl) (by simp [Value.oneCell']) (fun e => by cases e) ?c4 ?c5 ?_))
  case c4 => omega
  case c5 => have := hB0w.out.2.1; have := HB10.out.size; have := HBA.out.size; omega
  intro ad12 c12 w12 o12 g12 p12
  have N12 := Lib.hid (N11.out.grown g12 N11.out.size (fun k hk => Nat.le_trans hB0w.out.1 (O11.out.lt k hk).1))
  have hLT : ∀ k, (Value.slice ad9 0 c9).ownBlock = some k → B0 ≤ k ∧ k < w9.heap.size := fun k hk => O9.out.lt k hk
  have E12 : Hid (Els (fun k => S k ∨ (B0 ≤ k ∧ k < w12.heap.size)) w12 (vs ++ [.slice aj m cj]) (T ++ [l])) := Lib.hid (by
    obtain ⟨a2, c2, e2, sj⟩ := OJ.out.sl
    rw [HM.out] at e2
    injection e2 with e2 e3 e4; subst e2; subst e4
    have hsz : w10.heap.size ≤ w12.heap.size := Nat.le_trans HBA.out.size g12.size
    have hk9 : ∀ k, k < w9.heap.size → S k → w12.heap[k]? = w9.heap[k]? := fun k hk hs => by
      have h1 := HSk.out k hs
      exact ((g12.block k (Nat.lt_of_lt_of_le hk (Nat.le_trans HB10.out.size HBA.out.size)) (fun e => by have := hLT k e.symm; have := hB0w.out.1; omega)).trans (HBA.out.block k (Nat.lt_of_lt_of_le hk HB10.out.size))).trans (HB10.out.block k hk)
    refine ((E9.out.keep (Nat.le_trans HB10.out.size hsz) (fun k hk => hk9 k (Nat.lt_of_lt_of_le (HSk.out k hk) (Nat.le_trans hB0w.out.1 hB0w.out.2.1)) hk)).mono (fun k hk => Or.inl hk)).snoc HM.out ?_
    refine (sj.keep hsz (fun k hk => (g12.block k (Nat.lt_of_lt_of_le hk.2 HBA.out.size) (fun e => by have := hLT k e.symm; have := hk.1; omega)).trans (HBA.out.block k hk.2))).mono (fun k hk => Or.inr ⟨Nat.le_trans hB0w.out.2.1 hk.1, Nat.lt_of_lt_of_le hk.2 hsz⟩))
  have hv12 : (vs ++ [Value.slice aj m cj]).length = 1 := by rw [List.length_append, HV.out]; rfl
  have hsg := els_sgs (show OwR1 w12 B0 (.slice ad12 (1) c12) _ from (by simpa using o12)) hv12 E12.out
  have SG12 := Lib.hid hsg.1
  have hc12 := hsg.2
  have Z12 := Lib.hid ((g12.block Z (by have := hB0w.out.2; have := HB10.out.size; have := HBA.out.size; omega) (fun e => by have := hLT Z e.symm; have := hB0w.out.2.2; omega)).trans ((HBA.out.block Z (by have := hB0w.out.2; have := HB10.out.size; omega)).trans ((HB10.out.block Z (by have := hB0w.out.2; omega)).trans Z9.out)))
  have hTl : Hid ((T ++ [l]).length = 1) := Lib.hid (by rw [List.length_append, HN.out]; rfl)
  have HB12 : Hid (Z < w12.heap.size) := Lib.hid (blk_lt Z12.out)
  clear o12 g12 p12 hv12 hsg hLT
  have zz := fun i => cell_of_row _ _ i _ _ _ Z12.out
  have z0 := zz 0
  have z1 := zz 1
  have zf := fun i => frozen_of_row _ Z i _ _ Z12.out
  dsimp at z0 z1
  clear zz
  have hTl2 := hTl.out
  by_cases hcut : M < ((1 : Nat) : Int)
  · exact absurd hcut (by omega)
  · have hR : Hid (puT M (T ++ [l]) = T ++ [l]) := Lib.hid (if_neg (by rw [hTl.out]; exact hcut))
    have hcut2 : ¬ M < 1 := by omega
    have F := rk_fin (i := 0) (cx := c12) N12.out Z12.out HSk.out ⟨hZX.out.1, hB0w.out.2.2⟩ SG12.out hTl2 (by omega) (by omega)
    have HF := Lib.hid F
    clear F hcut hTl2
    go_wp2
    obtain ⟨f0, f1, fp⟩ := HF.out
    refine bodyPost_ret (v := kV ad12 (1) c12 0) (by simp [results, Tryd.results17, go_sem, kV] at f0 f1 ⊢; simp [f0, f1]) rfl ?_
    rw [hR.out]
    simpa using fp
set_option maxHeartbeats 8000000 in
theorem rk_push_behind {U : List (List Sg2)} {u : List Sg2} {N un : Nat} (hn : (U ++ [u]).length = N + 1) (hm : l.length = m) (hul : u.length = un) (hs : SgsK S w a (U ++ [u])) (hl : SlS S w b l d) (hS : ∀ k, S k → k < w.heap.size)
    (hnM : (N : Int) + 1 ≤ M) (hM1 : 1 ≤ M) (hM : M ≤ 1000) (hm0 : 0 < m) (hm1 : m ≤ 65536) (hu1 : un ≤ 30000) :
    Calls Tryd.prog 17 #[kV a (N + 1) c h, .slice b m d, .int .i64 1, .int .i64 M] w (RkPost S (U ++ [u ++ l]) ((U ++ [u ++ l]).length - 1) w) := by
  have hnl : U ++ [u] = [] → a = none ∧ c = 0 := fun e => by simp at e
  obtain ⟨hX, hZ, hB⟩ := two_new w #[.slice a (N + 1) c, .int .i64 (h : Int)] #[.slice none 0 0, .int .i64 0] 30 30
  have hne : ¬ (m : Int) = 0 := by omega
  have hpos : 0 < m := hm0
  have hn00 : ¬ m = 0 := by omega
  have HN := Lib.hid hn; have HM := Lib.hid hm; have HS := Lib.hid hs; have HL := Lib.hid hnl; have HSl := Lib.hid hl; have HSk := Lib.hid hS
  have hNi : ¬ ((N : Int) + 1 = 0) := by omega
  have hNj : (0 : Int) ≤ (N : Int) := by omega
  have hn1 : N + 1 ≤ 1000 := by omega
  clear hn hm hs hnl hl hS
  go_enter Tryd.func17, Tryd.ntmps17
  go_upto_region 3 with fail
  generalize ((w.alloc (.cells #[.slice a (N + 1) c, .int .i64 (h : Int)] 30)).alloc (.cells #[.slice none 0 0, .int .i64 0] 30)) = W2 at *
  obtain ⟨Z, hZq⟩ : ∃ Z, w.heap.size + 1 = Z := ⟨_, rfl⟩
  obtain ⟨X, hXq⟩ : ∃ X, w.heap.size = X := ⟨_, rfl⟩
  have hZl := blk_lt hZ
  rw [hZq] at hZ ⊢
  rw [hXq] at hX ⊢
  rw [hZq] at hZl
  have hZX : Hid (w.heap.size ≤ Z ∧ X = w.heap.size ∧ Z ≠ X ∧ Z = w.heap.size + 1 ∧ Z < W2.heap.size) := Lib.hid (by omega)
  have x0 := cell_of_row _ _ 0 _ _ _ hX
  dsimp at x0
  obtain ⟨vs, hE, hcells⟩ := (HS.out.below hB).els
  have B3 := below_alloc W2 (.cells #[] 31)
  have OW3 := Lib.hid (or1_new W2)
  have hX3 := Lib.hid (blk_below hX B3)
  have hZ3 := Lib.hid (blk_below hZ B3)
  have B2 := Lib.hid hB
  have HB3 := Lib.hid B3
  have hvl : vs.length = (N + 1) := by rw [hE.1, HN.out]
  have HV := Lib.hid hvl
  have hE1 := Lib.hid hE
  have hcl : ∀ b, a = some b → ∀ j u, vs[j]? = some u → (W2.alloc (.cells #[] 31)).cell? (b.add j) = some u := fun b' e j u hj => by
    have h1 := hcells b' e j u hj
    subst e
    have hjl : j < (N + 1) := by rw [← hvl]; exact (List.getElem?_eq_some_iff.1 hj).1
    obtain ⟨b2, off, _, _, e, _, hlt, _⟩ := HS.out j (by rw [HN.out]; exact hjl)
    injection e with e; subst e
    have hadd : (⟨b2, off, none⟩ : Addr).add j = ⟨b2, off + j, none⟩ := by unfold Addr.add; split <;> simp_all
    rw [hadd] at h1 ⊢
    exact (B3.cell (p := ⟨b2, off + j, none⟩) (Nat.lt_of_lt_of_le hlt hB.size)).trans h1
  have hcl' := Lib.hid hcl
  have x03 := cell_of_row _ _ 0 _ _ _ hX3.out
  dsimp at x03
  clear hcells hcl hvl hE hB B3 hZq hXq hZl
  go_wp2_with (at_builtin; refine wpList_app_sl rfl _ _ rfl W2.heap.size _ 0 [] rfl rfl OW3.out a (N + 1) c vs rfl HV.out hcl'.out hE1.out.one ?c1 ?c2 ?c3 ?_)
  case c1 =>
    intro e
    by_cases hT : U ++ [u] = []
    · obtain ⟨_, h2⟩ := HL.out hT
      first | exact h2 | exact ⟨h2, by rw [← HN.out, hT]; rfl⟩
    · obtain ⟨_, _, _, _, e2, _⟩ := HS.out 0 (List.length_pos_iff.2 hT)
      rw [e] at e2; cases e2
  case c2 => omega
  case c3 => exact HB3.out.size
  intro ad9 c9 w9 o9 g9 p9
  have N9 := HB3.out.grown g9 HB3.out.size (fun k hk => by simp [Value.ownBlock] at hk; omega)
  have M9 := Lib.hid (B2.out.trans (N9.mono B2.out.size))
  have E9 := Lib.hid ((hE1.out.keep N9.size (fun k hk => N9.block k (Nat.lt_of_lt_of_le (HSk.out k hk) B2.out.size))))
  have Z9 := Lib.hid (blk_below hZ N9)
  have S9 := Lib.hid (HSl.out.keep M9.out.size (fun k hk => M9.out.block k (HSk.out k hk)))
  obtain ⟨B0, hB0⟩ : ∃ B0, W2.heap.size = B0 := ⟨_, rfl⟩
  rw [hB0] at o9
  have O9 := Lib.hid (show OwR1 w9 B0 (.slice ad9 (N + 1) c9) vs by simpa using o9)
  have hB0w : Hid (w.heap.size ≤ B0 ∧ B0 ≤ w9.heap.size ∧ Z < B0) := Lib.hid ⟨by rw [← hB0]; exact B2.out.size, by rw [← hB0]; exact N9.size, by rw [← hB0]; exact hZX.out.2.2.2.2⟩
  clear o9 g9 p9 N9 x0 x03 hX hZ hX3 hZ3 HB3 OW3 hE1 hcl' B2 hB0
  have hUl : U.length = N := by have := HN.out; simpa using this
  obtain ⟨ua, uc, e1, hus⟩ := E9.out.2 N (by rw [HN.out]; omega)
  rw [getD_snoc, if_neg (by omega), if_pos hUl.symm] at e1 hus
  have hul' := hul
  rw [hul] at e1
  have hvsl : vs.length = N + 1 := HV.out
  obtain ⟨g, hg, hgB⟩ : ∃ g, ad9 = some ⟨g, 0, none⟩ ∧ B0 ≤ g ∧ g < w9.heap.size := by
    rcases O9.out.2 with ⟨h1, h0⟩ | ⟨g, cap, cur, h1, hB, hg, hle, _⟩
    · rw [hvsl] at h0; omega
    · injection h1 with h1 h2 h3
      exact ⟨g, h1, hB, blk_lt hg⟩
  subst hg
  have o9 : w9.ownsRow B0 31 1 (.slice (some ⟨g, 0, none⟩) (N + 1) c9) (N + 1) vs := by have h1 := O9.out; unfold OwR1 at h1; rw [hvsl] at h1; exact h1
  have cN : w9.cell? ⟨g, N, none⟩ = some (.slice ua un uc) := (o9.cellAt N (by omega)).trans e1
  have O9' := Lib.hid o9
  clear o9
  have hgw := Lib.hid hgB
  have JO := Lib.hid (by have := joinS_ref S u l ua b uc d un m w9 hul HM.out (by omega) (by omega) hus S9.out; exact this)
  have HUl := Lib.hid hUl
  clear hus hul' e1 hvsl hgB hUl
  go_upto_region 10 with (first
    | (go_at_call 63; refine JO.out.mono ?_; rintro e w10 ⟨aj, cj, rfl, oj, hb10⟩; have N10 := Lib.hid (M9.out.trans (hb10.mono M9.out.size)); have O10 := Lib.hid (World.ownsRow.kept O9'.out (row := none) ⟨hb10.os, hb10.tape, hb10.output, hb10.size, fun k hk _ => hb10.block k hk⟩ (Or.inr (by simp [Value.ownBlock]))); have OJ := Lib.hid oj; have HB10 := Lib.hid hb10; have cN2 := (hb10.cell (p := ⟨g, N, none⟩) hgw.out.2).trans cN; have cf2 := O10.out.frozenAt N; have ⟨o12, g12⟩ := O10.out.stored N (.slice aj (un + m) cj); have O12 := Lib.hid (show OwR1 (w10.setCell ⟨g, N, none⟩ (.slice aj (un + m) cj)) B0 (.slice (some ⟨g, 0, none⟩) (N + 1) c9) (vs.set N (.slice aj (un + m) cj)) by unfold OwR1; rw [List.length_set, HV.out]; exact o12); have G12 := Lib.hid g12; clear oj hb10 o12 g12))
  have hgZ : Z ≠ g := by have := hgw.out.1; have := hB0w.out.2.2; omega
  have zw := blk_below (blk_below Z9.out (Below.refl _ _)) HB10.out
  have Z12 := Lib.hid ((Below.heap_setCell w10 (a := ⟨g, N, none⟩) (.slice aj (un + m) cj) Z hgZ).trans zw)
  have hsz : (w10.setCell ⟨g, N, none⟩ (.slice aj (un + m) cj)).heap.size = w10.heap.size := by simp [World.setCell]
  have N12 := Lib.hid (N10.out.setCell (p := ⟨g, N, none⟩) (Nat.le_trans hB0w.out.1 hgw.out.1) (.slice aj (un + m) cj))
  have E12 : Hid (Els (fun k => S k ∨ (B0 ≤ k ∧ k < (w10.setCell ⟨g, N, none⟩ (.slice aj (un + m) cj)).heap.size)) (w10.setCell ⟨g, N, none⟩ (.slice aj (un + m) cj)) (vs.set N (.slice aj (un + m) cj)) (U ++ [u ++ l])) := Lib.hid (by
    obtain ⟨a2, c2, e2, sj⟩ := OJ.out.sl
    rw [List.length_append] at e2
    have hlen : (u ++ l).length = un + m := by rw [List.length_append]; have := HM.out; omega
    have e3 : aj = a2 ∧ cj = c2 := by
      injection e2 with e2 e3 e4; exact ⟨e2, e4⟩
    obtain ⟨rfl, rfl⟩ := e3
    have hkg : ∀ k, k ≠ g → (w10.setCell ⟨g, N, none⟩ (.slice aj (un + m) cj)).heap[k]? = w10.heap[k]? := fun k hk => Below.heap_setCell _ _ _ _ hk
    have e9 := ((E9.out.keep HB10.out.size (fun k hk => HB10.out.block k (Nat.lt_of_lt_of_le (HSk.out k hk) (Nat.le_trans hB0w.out.1 hB0w.out.2.1)))).keep (Nat.le_of_eq hsz.symm) (fun k hk => hkg k (by have := HSk.out k hk; have := hgw.out.1; have := hB0w.out.1; omega))).mono (Q := fun k => S k ∨ (B0 ≤ k ∧ k < (w10.setCell ⟨g, N, none⟩ (.slice aj (un + m) cj)).heap.size)) (fun k hk => Or.inl hk)
    have e10 := e9.last (a := aj) (c := cj) (l := u ++ l) hlen ((sj.keep (Nat.le_of_eq hsz.symm) (fun k hk => hkg k (by have := hk.1; have := hgw.out.2; omega))).mono (fun k hk => Or.inr ⟨Nat.le_trans hB0w.out.2.1 hk.1, by rw [hsz]; exact hk.2⟩))
    rw [HUl.out] at e10
    exact e10)
  have hv12 : (vs.set N (Value.slice aj (un + m) cj)).length = N + 1 := by rw [List.length_set, HV.out]
  have SG12 := Lib.hid (els_sgs O12.out hv12 E12.out).1
  have hTl : (U ++ [u ++ l]).length = N + 1 := by rw [List.length_append, HUl.out]; rfl
  have F := rk_fin (i := (N : Int)) (cx := c9) N12.out Z12.out HSk.out ⟨hZX.out.1, hB0w.out.2.2⟩ SG12.out hTl (by omega) (by omega)
  have HF := Lib.hid F
  have hMi : ¬ M < (N : Int) + 1 := by omega
  have zz := fun i => cell_of_row _ _ i _ _ _ Z12.out
  have z0 := zz 0
  have z1 := zz 1
  have zf := fun i => frozen_of_row _ Z i _ _ Z12.out
  dsimp at z0 z1
  clear F zz hv12 hsz zw hgZ hTl
  generalize w10.setCell ⟨g, N, none⟩ (.slice aj (un + m) cj) = W12 at *
  go_wp2
  obtain ⟨f0, f1, fp⟩ := HF.out
  refine bodyPost_ret (v := kV (some ⟨g, 0, none⟩) (N + 1) c9 (N : Int)) (by simp [results, Tryd.results17, go_sem, kV] at f0 f1 ⊢; simp [f0, f1]) rfl ?_
  rw [show (U ++ [u ++ l]).length - 1 = U.length by simp] at fp
  exact fp
set_option maxHeartbeats 8000000 in
theorem rk_push_ahead {U : List (List Sg2)} {u : List Sg2} {N un : Nat} (hn : (U ++ [u]).length = N + 1) (hm : l.length = m) (hul : u.length = un) (hs : SgsK S w a (U ++ [u])) (hl : SlS S w b l d) (hS : ∀ k, S k → k < w.heap.size)
    (hnM : (N : Int) + 1 ≤ M) (hM1 : 1 ≤ M) (hM : M ≤ 1000) (hm0 : 0 < m) (hm1 : m ≤ 65536) (hu1 : un ≤ 30000) :
    Calls Tryd.prog 17 #[kV a (N + 1) c h, .slice b m d, .int .i64 2, .int .i64 M] w (RkPost S (U ++ [l ++ u]) ((U ++ [l ++ u]).length - 1) w) := by
  have hnl : U ++ [u] = [] → a = none ∧ c = 0 := fun e => by simp at e
  obtain ⟨hX, hZ, hB⟩ := two_new w #[.slice a (N + 1) c, .int .i64 (h : Int)] #[.slice none 0 0, .int .i64 0] 30 30
  have hne : ¬ (m : Int) = 0 := by omega
  have hpos : 0 < m := hm0
  have hn00 : ¬ m = 0 := by omega
  have HN := Lib.hid hn; have HM := Lib.hid hm; have HS := Lib.hid hs; have HL := Lib.hid hnl; have HSl := Lib.hid hl; have HSk := Lib.hid hS
  have hNi : ¬ ((N : Int) + 1 = 0) := by omega
  have hNj : (0 : Int) ≤ (N : Int) := by omega
  have hn1 : N + 1 ≤ 1000 := by omega
  clear hn hm hs hnl hl hS
  go_enter Tryd.func17, Tryd.ntmps17
  go_upto_region 3 with fail
  generalize ((w.alloc (.cells #[.slice a (N + 1) c, .int .i64 (h : Int)] 30)).alloc (.cells #[.slice none 0 0, .int .i64 0] 30)) = W2 at *
  obtain ⟨Z, hZq⟩ : ∃ Z, w.heap.size + 1 = Z := ⟨_, rfl⟩
  obtain ⟨X, hXq⟩ : ∃ X, w.heap.size = X := ⟨_, rfl⟩
  have hZl := blk_lt hZ
  rw [hZq] at hZ ⊢
  rw [hXq] at hX ⊢
  rw [hZq] at hZl
  have hZX : Hid (w.heap.size ≤ Z ∧ X = w.heap.size ∧ Z ≠ X ∧ Z = w.heap.size + 1 ∧ Z < W2.heap.size) := Lib.hid (by omega)
  have x0 := cell_of_row _ _ 0 _ _ _ hX
  dsimp at x0
  obtain ⟨vs, hE, hcells⟩ := (HS.out.below hB).els
  have B3 := below_alloc W2 (.cells #[] 31)
  have OW3 := Lib.hid (or1_new W2)
  have hX3 := Lib.hid (blk_below hX B3)
  have hZ3 := Lib.hid (blk_below hZ B3)
  have B2 := Lib.hid hB
  have HB3 := Lib.hid B3
  have hvl : vs.length = (N + 1) := by rw [hE.1, HN.out]
  have HV := Lib.hid hvl
  have hE1 := Lib.hid hE
  have hcl : ∀ b, a = some b → ∀ j u, vs[j]? = some u → (W2.alloc (.cells #[] 31)).cell? (b.add j) = some u := fun b' e j u hj => by
    have h1 := hcells b' e j u hj
    subst e
    have hjl : j < (N + 1) := by rw [← hvl]; exact (List.getElem?_eq_some_iff.1 hj).1
    obtain ⟨b2, off, _, _, e, _, hlt, _⟩ := HS.out j (by rw [HN.out]; exact hjl)
    injection e with e; subst e
    have hadd : (⟨b2, off, none⟩ : Addr).add j = ⟨b2, off + j, none⟩ := by unfold Addr.add; split <;> simp_all
    rw [hadd] at h1 ⊢
    exact (B3.cell (p := ⟨b2, off + j, none⟩) (Nat.lt_of_lt_of_le hlt hB.size)).trans h1
  have hcl' := Lib.hid hcl
  have x03 := cell_of_row _ _ 0 _ _ _ hX3.out
  dsimp at x03
  clear hcells hcl hvl hE hB B3 hZq hXq hZl
  go_wp2_with (at_builtin; refine wpList_app_sl rfl _ _ rfl W2.heap.size _ 0 [] rfl rfl OW3.out a (N + 1) c vs rfl HV.out hcl'.out hE1.out.one ?c1 ?c2 ?c3 ?_)
  case c1 =>
    intro e
    by_cases hT : U ++ [u] = []
    · obtain ⟨_, h2⟩ := HL.out hT
      first | exact h2 | exact ⟨h2, by rw [← HN.out, hT]; rfl⟩
    · obtain ⟨_, _, _, _, e2, _⟩ := HS.out 0 (List.length_pos_iff.2 hT)
      rw [e] at e2; cases e2
  case c2 => omega
  case c3 => exact HB3.out.size
  intro ad9 c9 w9 o9 g9 p9
  have N9 := HB3.out.grown g9 HB3.out.size (fun k hk => by simp [Value.ownBlock] at hk; omega)
  have M9 := Lib.hid (B2.out.trans (N9.mono B2.out.size))
  have E9 := Lib.hid ((hE1.out.keep N9.size (fun k hk => N9.block k (Nat.lt_of_lt_of_le (HSk.out k hk) B2.out.size))))
  have Z9 := Lib.hid (blk_below hZ N9)
  have S9 := Lib.hid (HSl.out.keep M9.out.size (fun k hk => M9.out.block k (HSk.out k hk)))
  obtain ⟨B0, hB0⟩ : ∃ B0, W2.heap.size = B0 := ⟨_, rfl⟩
  rw [hB0] at o9
  have O9 := Lib.hid (show OwR1 w9 B0 (.slice ad9 (N + 1) c9) vs by simpa using o9)
  have hB0w : Hid (w.heap.size ≤ B0 ∧ B0 ≤ w9.heap.size ∧ Z < B0) := Lib.hid ⟨by rw [← hB0]; exact B2.out.size, by rw [← hB0]; exact N9.size, by rw [← hB0]; exact hZX.out.2.2.2.2⟩
  clear o9 g9 p9 N9 x0 x03 hX hZ hX3 hZ3 HB3 OW3 hE1 hcl' B2 hB0
  have hUl : U.length = N := by have := HN.out; simpa using this
  obtain ⟨ua, uc, e1, hus⟩ := E9.out.2 N (by rw [HN.out]; omega)
  rw [getD_snoc, if_neg (by omega), if_pos hUl.symm] at e1 hus
  have hul' := hul
  rw [hul] at e1
  have hvsl : vs.length = N + 1 := HV.out
  obtain ⟨g, hg, hgB⟩ : ∃ g, ad9 = some ⟨g, 0, none⟩ ∧ B0 ≤ g ∧ g < w9.heap.size := by
    rcases O9.out.2 with ⟨h1, h0⟩ | ⟨g, cap, cur, h1, hB, hg, hle, _⟩
    · rw [hvsl] at h0; omega
    · injection h1 with h1 h2 h3
      exact ⟨g, h1, hB, blk_lt hg⟩
  subst hg
  have o9 : w9.ownsRow B0 31 1 (.slice (some ⟨g, 0, none⟩) (N + 1) c9) (N + 1) vs := by have h1 := O9.out; unfold OwR1 at h1; rw [hvsl] at h1; exact h1
  have cN : w9.cell? ⟨g, N, none⟩ = some (.slice ua un uc) := (o9.cellAt N (by omega)).trans e1
  have O9' := Lib.hid o9
  clear o9
  have hgw := Lib.hid hgB
  have JO := Lib.hid (by have := joinS_ref S l u b ua d uc m un w9 HM.out hul (by omega) (by omega) S9.out hus; exact this)
  have HUl := Lib.hid hUl
  clear hus hul' e1 hvsl hgB hUl
  go_upto_region 10 with (first
    | (go_at_call 63; refine JO.out.mono ?_; rintro e w10 ⟨aj, cj, rfl, oj, hb10⟩; have N10 := Lib.hid (M9.out.trans (hb10.mono M9.out.size)); have O10 := Lib.hid (World.ownsRow.kept O9'.out (row := none) ⟨hb10.os, hb10.tape, hb10.output, hb10.size, fun k hk _ => hb10.block k hk⟩ (Or.inr (by simp [Value.ownBlock]))); have OJ := Lib.hid oj; have HB10 := Lib.hid hb10; have cN2 := (hb10.cell (p := ⟨g, N, none⟩) hgw.out.2).trans cN; have cf2 := O10.out.frozenAt N; have ⟨o12, g12⟩ := O10.out.stored N (.slice aj (m + un) cj); have O12 := Lib.hid (show OwR1 (w10.setCell ⟨g, N, none⟩ (.slice aj (m + un) cj)) B0 (.slice (some ⟨g, 0, none⟩) (N + 1) c9) (vs.set N (.slice aj (m + un) cj)) by unfold OwR1; rw [List.length_set, HV.out]; exact o12); have G12 := Lib.hid g12; clear oj hb10 o12 g12))
  have hgZ : Z ≠ g := by have := hgw.out.1; have := hB0w.out.2.2; omega
  have zw := blk_below (blk_below Z9.out (Below.refl _ _)) HB10.out
  have Z12 := Lib.hid ((Below.heap_setCell w10 (a := ⟨g, N, none⟩) (.slice aj (m + un) cj) Z hgZ).trans zw)
  have hsz : (w10.setCell ⟨g, N, none⟩ (.slice aj (m + un) cj)).heap.size = w10.heap.size := by simp [World.setCell]
  have N12 := Lib.hid (N10.out.setCell (p := ⟨g, N, none⟩) (Nat.le_trans hB0w.out.1 hgw.out.1) (.slice aj (m + un) cj))
  have E12 : Hid (Els (fun k => S k ∨ (B0 ≤ k ∧ k < (w10.setCell ⟨g, N, none⟩ (.slice aj (m + un) cj)).heap.size)) (w10.setCell ⟨g, N, none⟩ (.slice aj (m + un) cj)) (vs.set N (.slice aj (m + un) cj)) (U ++ [l ++ u])) := Lib.hid (by
    obtain ⟨a2, c2, e2, sj⟩ := OJ.out.sl
    rw [List.length_append] at e2
    have hlen : (l ++ u).length = m + un := by rw [List.length_append]; have := HM.out; omega
    have e3 : aj = a2 ∧ cj = c2 := by
      injection e2 with e2 e3 e4; exact ⟨e2, e4⟩
    obtain ⟨rfl, rfl⟩ := e3
    have hkg : ∀ k, k ≠ g → (w10.setCell ⟨g, N, none⟩ (.slice aj (m + un) cj)).heap[k]? = w10.heap[k]? := fun k hk => Below.heap_setCell _ _ _ _ hk
    have e9 := ((E9.out.keep HB10.out.size (fun k hk => HB10.out.block k (Nat.lt_of_lt_of_le (HSk.out k hk) (Nat.le_trans hB0w.out.1 hB0w.out.2.1)))).keep (Nat.le_of_eq hsz.symm) (fun k hk => hkg k (by have := HSk.out k hk; have := hgw.out.1; have := hB0w.out.1; omega))).mono (Q := fun k => S k ∨ (B0 ≤ k ∧ k < (w10.setCell ⟨g, N, none⟩ (.slice aj (m + un) cj)).heap.size)) (fun k hk => Or.inl hk)
    have e10 := e9.last (a := aj) (c := cj) (l := l ++ u) hlen ((sj.keep (Nat.le_of_eq hsz.symm) (fun k hk => hkg k (by have := hk.1; have := hgw.out.2; omega))).mono (fun k hk => Or.inr ⟨Nat.le_trans hB0w.out.2.1 hk.1, by rw [hsz]; exact hk.2⟩))
    rw [HUl.out] at e10
    exact e10)
  have hv12 : (vs.set N (Value.slice aj (m + un) cj)).length = N + 1 := by rw [List.length_set, HV.out]
  have SG12 := Lib.hid (els_sgs O12.out hv12 E12.out).1
  have hTl : (U ++ [l ++ u]).length = N + 1 := by rw [List.length_append, HUl.out]; rfl
  have F := rk_fin (i := (N : Int)) (cx := c9) N12.out Z12.out HSk.out ⟨hZX.out.1, hB0w.out.2.2⟩ SG12.out hTl (by omega) (by omega)
  have HF := Lib.hid F
  have hMi : ¬ M < (N : Int) + 1 := by omega
  have zz := fun i => cell_of_row _ _ i _ _ _ Z12.out
  have z0 := zz 0
  have z1 := zz 1
  have zf := fun i => frozen_of_row _ Z i _ _ Z12.out
  dsimp at z0 z1
  clear F zz hv12 hsz zw hgZ hTl
  generalize w10.setCell ⟨g, N, none⟩ (.slice aj (m + un) cj) = W12 at *
  go_wp2
  obtain ⟨f0, f1, fp⟩ := HF.out
  refine bodyPost_ret (v := kV (some ⟨g, 0, none⟩) (N + 1) c9 (N : Int)) (by simp [results, Tryd.results17, go_sem, kV] at f0 f1 ⊢; simp [f0, f1]) rfl ?_
  rw [show (U ++ [l ++ u]).length - 1 = U.length by simp] at fp
  exact fp
end
end Go.Proofs.YtdhhfbglbihapaaDoor
set_option linter.unusedVariables false
set_option linter.unusedSimpArgs false
namespace Go.Proofs.YtdhhfbglbihapaaDoor
open Go.RowKit
section
variable {S : Nat → Prop} {M : Int} {T : List (List Sg2)} {l : List Sg2} {a b : Option Addr} {n c m d h : Nat} {w w' : World}
theorem rk_push (how : Int) (hn : T.length = n) (hm : l.length = m) (hs : SgsK S w a T) (hnl : T = [] → a = none ∧ c = 0) (hl : SlS S w b l d) (hS : ∀ k, S k → k < w.heap.size)
    (hnM : (n : Int) ≤ M) (hM1 : 1 ≤ M) (hM : M ≤ 1000) (hm1 : m ≤ 65536) (hu : ∀ t ∈ T, t.length ≤ 30000) (hw : how = 0 ∨ how = 1 ∨ how = 2) :
    Calls Tryd.prog 17 #[kV a n c h, .slice b m d, .int .i64 how, .int .i64 M] w (RkPost S (puK M T l how) (puH M T l how h) w) := by
  by_cases h0 : l = []
  · subst h0; subst hm
    have e1 : puK M T [] how = T := if_pos rfl
    have e2 : puH M T [] how h = h := if_pos rfl
    rw [e1, e2]
    exact rk_push_nil how hn hs hnl
  have h0m : 0 < m := by have := List.length_pos_iff.2 h0; omega
  have e2 : puH M T l how h = (puK M T l how).length - 1 := if_neg h0
  rw [e2]
  by_cases hc : how = 0
  · subst hc
    have e1 : puK M T l 0 = puT M (T ++ [l]) := by unfold puK; rw [if_neg h0, if_pos (Or.inl rfl)]
    rw [e1]
    exact rk_push_new hn hm hs hnl hl hS hnM hM1 hM h0m hm1
  by_cases hT : T = []
  · have e1 : puK M T l how = puT M (T ++ [l]) := by unfold puK; rw [if_neg h0, if_pos (Or.inr hT)]
    rw [e1]
    have hn0 : n = 0 := by rw [← hn, hT]; rfl
    subst hn0
    exact rk_push_first how hc hn hm hs hnl hl hS hM1 hM h0m hm1
  obtain ⟨U, u, rfl⟩ := snoc_of hT
  have hcc : ¬ (how = 0 ∨ U ++ [u] = []) := fun e => by rcases e with e | e; exact hc e; exact hT e
  obtain rfl : n = U.length + 1 := by rw [← hn]; simp
  have hu1 := hu u (by simp)
  rcases hw with rfl | rfl | rfl
  · exact absurd rfl hc
  · have e1 : puK M (U ++ [u]) l 1 = U ++ [u ++ l] := by unfold puK; rw [if_neg h0, if_neg hcc, if_pos rfl]; simp
    rw [e1]
    exact rk_push_behind hn hm rfl hs hl hS (by omega) hM1 hM h0m hm1 hu1
  · have e1 : puK M (U ++ [u]) l 2 = U ++ [l ++ u] := by unfold puK; rw [if_neg h0, if_neg hcc, if_neg (by decide)]; simp
    rw [e1]
    exact rk_push_ahead hn hm rfl hs hl hS (by omega) hM1 hM h0m hm1 hu1
end
end Go.Proofs.YtdhhfbglbihapaaDoor
set_option linter.unusedVariables false
set_option linter.unusedSimpArgs false
namespace Go.Proofs.YtdhhfbglbihapaaDoor
open Go.RowKit
/-- A ring on the way. -/
def KA (w0 : World) (P : Nat) (j : Int) (T : List (List Sg2)) (h : Nat) (w : World) : Prop := ∃ (S : Nat → Prop) (o : Int), RiS S P 2 o T h w ∧ o ≤ j ∧ (∀ k, k < w0.heap.size → S k) ∧ Below w0.heap.size w0 w
/-- A ring on the way, and a text. -/
def KL (w0 : World) (P : Nat) (j : Int) (T : List (List Sg2)) (h g : Nat) (l : List Sg2) (w : World) : Prop := ∃ (S : Nat → Prop) (o : Int), RiS S P 2 o T h w ∧ o ≤ j ∧ (∀ k, k < w0.heap.size → S k) ∧ Below w0.heap.size w0 w ∧ SlS S w (some ⟨g, 0, none⟩) l l.length
section
variable {w0 w w' : World} {P h g : Nat} {j : Int} {T : List (List Sg2)} {l : List Sg2}
theorem KA.world (k : KA w0 P j T h w) : Below w0.heap.size w0 w := by obtain ⟨_, _, _, _, _, h⟩ := k; exact h
theorem KA.below (k : KA w0 P j T h w) (hb : Below w.heap.size w w') : KA w0 P j T h w' := by
  obtain ⟨S, o, h1, h2, h3, h4⟩ := k
  exact ⟨S, o, h1.below hb, h2, h3, h4.trans (hb.mono h4.size)⟩
theorem slS_new {S : Nat → Prop} (h : w'.heap[g]? = some (.cells (sRow l) 89 (0, 0))) (hS : S g) : SlS S w' (some ⟨g, 0, none⟩) l l.length :=
  ⟨signs_of_blk h, Nat.le_refl _, fun e => (by cases e), fun ad e _ => (by cases e; exact hS)⟩
theorem ka_of (k : KA w0 P j T h w) (hT : UT w0) (s : ByteArray) (hs : s.size ≤ 1000000) (hv : (valsS s).length ≤ 1000000) :
    Calls Tryd.prog 58 #[.int .i64 0, .string s] w fun e w' => ∃ g, e = .returned (.slice (some ⟨g, 0, none⟩) (sOf 0 s).length (sOf 0 s).length) ∧ KL w0 P j T h g (sOf 0 s) w' := by
  refine (sof_any 0 s w (hT.below k.world) hs hv).mono ?_
  rintro e w' ⟨g, rfl, hg, hb, hB⟩
  obtain ⟨S, o, h1, h2, h3, h4⟩ := k
  exact ⟨g, rfl, fun k => S k ∨ (w.heap.size ≤ k ∧ k < w'.heap.size), o, h1.grow hB (fun k hk => hk), h2, fun k hk => Or.inl (h3 k hk), h4.trans (hB.mono h4.size), slS_new hb (Or.inr ⟨hg, blk_lt hb⟩)⟩
theorem kl_push (k : KL w0 P j T h g l w) (how : Int) (n : Nat) (hn : l.length = n) (hok : sgC l = true) (hj : j ≤ 100) (hn2 : n ≤ 10) (hT : ∀ t ∈ T, t.length ≤ 10) (hT2 : T.length ≤ 2) (hw : how = 0 ∨ how = 1 ∨ how = 2) :
    Calls Tryd.prog 15 #[.pointer (some ⟨P, 0, none⟩), .slice (some ⟨g, 0, none⟩) n n, .int .i64 how] w fun e w' => e = .returned (.int .i64 0) ∧ KA w0 P (j + 1) (puK 2 T l how) (puH 2 T l how h) w' := by
  obtain ⟨S, o, h1, h2, h3, h4, h5⟩ := k
  rw [hn] at h5
  refine (ri_push h1 l _ n n how h5 hn (fun t ht => by have := hT t ht; omega) (by omega) hok hw (by omega) (by omega) (by omega) (by omega)).mono ?_
  rintro e w' ⟨rfl, ⟨o', ho, hr⟩, hk⟩
  exact ⟨rfl, S, o', hr, by omega, h3, h4.trans (hk.below _ h3)⟩
theorem ka_turn (k : KA w0 P j T h w) (hT : T ≠ []) : Calls Tryd.prog 13 #[.pointer (some ⟨P, 0, none⟩)] w fun e w' => e = .returned (.bool true) ∧ KA w0 P j T (tuH h T.length) w' := by
  obtain ⟨S, o, h1, h2, h3, h4⟩ := k
  refine (ri_turn h1 hT).mono ?_
  rintro e w' ⟨rfl, hr, hk⟩
  exact ⟨rfl, S, o, hr, h2, h3, h4.trans (hk.below _ h3)⟩
theorem ka_len (k : KA w0 P j T h w) : Calls Tryd.prog 18 #[.pointer (some ⟨P, 0, none⟩)] w fun e w' => e = .returned (.int .i64 T.length) ∧ w = w' := by
  obtain ⟨S, o, h1, _⟩ := k
  exact ri_len h1
theorem ka_now (k : KA w0 P j T h w) (hT : T ≠ []) : Calls Tryd.prog 20 #[.pointer (some ⟨P, 0, none⟩)] w fun e w' => ∃ b d, e = .returned (.slice b (T.getD h []).length d) ∧ Signs w' b (T.getD h []) ∧ KA w0 P j T h w' := by
  have kk := k
  obtain ⟨S, o, h1, _⟩ := k
  refine (ri_now h1 hT).mono ?_
  rintro e w' ⟨b, d, rfl, ho, hb⟩
  obtain ⟨a, c, e1, hs⟩ := ho.sl
  injection e1 with e1 e2 e3
  subst e1
  exact ⟨_, _, rfl, hs.s, kk.below hb⟩
theorem ka_all (k : KA w0 P j T h w) (hT : T ≠ []) (hl : T.length ≤ 1000) : Calls Tryd.prog 23 #[.pointer (some ⟨P, 0, none⟩)] w fun e w' => ∃ b d, e = .returned (.slice b T.length d) ∧ KA w0 P j T h w' := by
  have kk := k
  obtain ⟨S, o, h1, _⟩ := k
  refine (ri_all h1 hT hl).mono ?_
  rintro e w' ⟨b, d, rfl, ho, hb⟩
  exact ⟨_, _, rfl, kk.below hb⟩
theorem ka_bad (k : KA w0 P j T h w) : Calls Tryd.prog 15 #[.pointer (some ⟨P, 0, none⟩), .slice none 0 0, .int .i64 3] w fun e w' => e = .returned (.int .i64 2) ∧ KA w0 P j T h w' := by
  have kk := k
  obtain ⟨S, o, h1, _⟩ := k
  refine (ri_push_bad h1 [] none 0 0 3 (fun j hj => absurd hj (Nat.not_lt_zero j)) rfl (by omega) (Or.inr (Or.inl (by omega)))).mono ?_
  rintro e w' ⟨rfl, hb⟩
  exact ⟨rfl, kk.below hb⟩
end
def kwT1 : List (List Sg2) := [[(97, 0)]]
def kwT2 : List (List Sg2) := [[(97, 0), (98, 0)]]
def kwT3 : List (List Sg2) := [[(97, 0), (98, 0)], [(99, 0)]]
def kwT4 : List (List Sg2) := [[(99, 0)], [(100, 0)]]
theorem kw1 (w0 w : World) (P : Nat) (hT : UT w0) (k : KA w0 P 0 [] 0 w) : Calls Tryd.prog 58 #[.int .i64 0, .string ⟨#[97]⟩] w fun e w' => ∃ g, e = .returned (.slice (some ⟨g, 0, none⟩) 1 1) ∧ KL w0 P 0 [] 0 g [(97, 0)] w' := by
  have h := ka_of k hT ⟨#[97]⟩ (by decide) (by decide +kernel)
  rw [show sOf 0 ⟨#[97]⟩ = [(97, 0)] by decide +kernel] at h
  exact h
theorem kw2 (w0 w : World) (P g : Nat) (k : KL w0 P 0 [] 0 g [(97, 0)] w) : Calls Tryd.prog 15 #[.pointer (some ⟨P, 0, none⟩), .slice (some ⟨g, 0, none⟩) 1 1, .int .i64 0] w fun e w' => e = .returned (.int .i64 0) ∧ KA w0 P 1 kwT1 0 w' :=
  kl_push k 0 1 rfl (by decide +kernel) (by decide) (by decide) (by simp) (by simp) (Or.inl rfl)
theorem kw3 (w0 w : World) (P : Nat) (hT : UT w0) (k : KA w0 P 1 kwT1 0 w) : Calls Tryd.prog 58 #[.int .i64 0, .string ⟨#[98]⟩] w fun e w' => ∃ g, e = .returned (.slice (some ⟨g, 0, none⟩) 1 1) ∧ KL w0 P 1 kwT1 0 g [(98, 0)] w' := by
  have h := ka_of k hT ⟨#[98]⟩ (by decide) (by decide +kernel)
  rw [show sOf 0 ⟨#[98]⟩ = [(98, 0)] by decide +kernel] at h
  exact h
theorem kw4 (w0 w : World) (P g : Nat) (k : KL w0 P 1 kwT1 0 g [(98, 0)] w) : Calls Tryd.prog 15 #[.pointer (some ⟨P, 0, none⟩), .slice (some ⟨g, 0, none⟩) 1 1, .int .i64 1] w fun e w' => e = .returned (.int .i64 0) ∧ KA w0 P 2 kwT2 0 w' :=
  kl_push k 1 1 rfl (by decide +kernel) (by decide) (by decide) (by decide) (by decide) (Or.inr (Or.inl rfl))
theorem kw5 (w0 w : World) (P : Nat) (hT : UT w0) (k : KA w0 P 2 kwT2 0 w) : Calls Tryd.prog 58 #[.int .i64 0, .string ⟨#[99]⟩] w fun e w' => ∃ g, e = .returned (.slice (some ⟨g, 0, none⟩) 1 1) ∧ KL w0 P 2 kwT2 0 g [(99, 0)] w' := by
  have h := ka_of k hT ⟨#[99]⟩ (by decide) (by decide +kernel)
  rw [show sOf 0 ⟨#[99]⟩ = [(99, 0)] by decide +kernel] at h
  exact h
theorem kw6 (w0 w : World) (P g : Nat) (k : KL w0 P 2 kwT2 0 g [(99, 0)] w) : Calls Tryd.prog 15 #[.pointer (some ⟨P, 0, none⟩), .slice (some ⟨g, 0, none⟩) 1 1, .int .i64 0] w fun e w' => e = .returned (.int .i64 0) ∧ KA w0 P 3 kwT3 1 w' :=
  kl_push k 0 1 rfl (by decide +kernel) (by decide) (by decide) (by decide) (by decide) (Or.inl rfl)
theorem kw7 (w0 w : World) (P : Nat) (hT : UT w0) (k : KA w0 P 3 kwT3 1 w) : Calls Tryd.prog 58 #[.int .i64 0, .string ⟨#[100]⟩] w fun e w' => ∃ g, e = .returned (.slice (some ⟨g, 0, none⟩) 1 1) ∧ KL w0 P 3 kwT3 1 g [(100, 0)] w' := by
  have h := ka_of k hT ⟨#[100]⟩ (by decide) (by decide +kernel)
  rw [show sOf 0 ⟨#[100]⟩ = [(100, 0)] by decide +kernel] at h
  exact h
theorem kw8 (w0 w : World) (P g : Nat) (k : KL w0 P 3 kwT3 1 g [(100, 0)] w) : Calls Tryd.prog 15 #[.pointer (some ⟨P, 0, none⟩), .slice (some ⟨g, 0, none⟩) 1 1, .int .i64 0] w fun e w' => e = .returned (.int .i64 0) ∧ KA w0 P 4 kwT4 1 w' :=
  kl_push k 0 1 rfl (by decide +kernel) (by decide) (by decide) (by decide) (by decide) (Or.inl rfl)
theorem kwN (w0 w : World) (P h : Nat) (k : KA w0 P 4 kwT4 h w) (s : Sg2) (hh : kwT4.getD h [] = [s]) : Calls Tryd.prog 20 #[.pointer (some ⟨P, 0, none⟩)] w fun e w' => ∃ b d, e = .returned (.slice b 1 d) ∧ Signs w' b [s] ∧ KA w0 P 4 kwT4 h w' := by
  have h := ka_now k (by decide)
  rw [hh] at h
  exact h
theorem kwX (w0 w : World) (P h : Nat) (k : KA w0 P 4 kwT4 h w) (b : Option Addr) (d : Nat) (s : Sg2) (t : ByteArray) (ht : sTxt [s] = t) (hs : Signs w b [s]) : Calls Tryd.prog 59 #[.slice b 1 d] w fun e w' => e = .returned (.string t) ∧ KA w0 P 4 kwT4 h w' := by
  have h := stext_any [s] b d w (by simp) hs
  rw [ht] at h
  refine h.mono ?_
  rintro e w' ⟨rfl, hb⟩
  exact ⟨rfl, k.below hb⟩
set_option maxHeartbeats 4000000 in
theorem riawake_any (w : World) (hT : UT w) : Calls Tryd.prog 11 #[] w fun e w' => e = .returned (.bool true) ∧ Below w.heap.size w w' := by
  have HT := Lib.hid hT
  have NW := Lib.hid (ri_new 2 w (by decide) (by decide))
  have hd : sTxt [((100 : Int), (0 : Int))] = ⟨#[100]⟩ := by decide +kernel
  have hc : sTxt [((99 : Int), (0 : Int))] = ⟨#[99]⟩ := by decide +kernel
  have HD := Lib.hid hd; have HC := Lib.hid hc
  clear hT hd hc
  go_enter Tryd.func11, Tryd.ntmps11
  go_upto_region 10 with (first
    | (go_at_call 12; refine NW.out.mono ?_; rintro e w1 ⟨P, rfl, hr, _, _, hb⟩; have K1 : Hid (KA w P 0 [] 0 w1) := Lib.hid ⟨fun k => k < w.heap.size, 0, hr _ (fun k hk => hk), by decide, fun k hk => hk, hb⟩; clear hr hb NW)
    | (go_at_call 58; (with_reducible refine (kw1 w _ P HT.out K1.out).mono ?_); rintro e w2 ⟨g2, rfl, k2⟩; have K2 := Lib.hid k2; clear k2 K1)
    | (go_at_call 15; (with_reducible refine (kw2 w _ P _ K2.out).mono ?_); rintro e w3 ⟨rfl, k3⟩; have K3 := Lib.hid k3; clear k3 K2)
    | (go_at_call 58; (with_reducible refine (kw3 w _ P HT.out K3.out).mono ?_); rintro e w4 ⟨g4, rfl, k4⟩; have K4 := Lib.hid k4; clear k4 K3)
    | (go_at_call 15; (with_reducible refine (kw4 w _ P _ K4.out).mono ?_); rintro e w5 ⟨rfl, k5⟩; have K5 := Lib.hid k5; clear k5 K4)
    | (go_at_call 58; (with_reducible refine (kw5 w _ P HT.out K5.out).mono ?_); rintro e w6 ⟨g6, rfl, k6⟩; have K6 := Lib.hid k6; clear k6 K5)
    | (go_at_call 15; (with_reducible refine (kw6 w _ P _ K6.out).mono ?_); rintro e w7 ⟨rfl, k7⟩; have K7 := Lib.hid k7; clear k7 K6)
    | (go_at_call 58; (with_reducible refine (kw7 w _ P HT.out K7.out).mono ?_); rintro e w8 ⟨g8, rfl, k8⟩; have K8 := Lib.hid k8; clear k8 K7)
    | (go_at_call 15; (with_reducible refine (kw8 w _ P _ K8.out).mono ?_); rintro e w9 ⟨rfl, k9⟩; have K9 := Lib.hid k9; clear k9 K8)
    | (go_at_call 20; refine (kwN w _ P 1 K9.out (100, 0) rfl).mono ?_; rintro e w10 ⟨b10, d10, rfl, s10, k10⟩; have K10 := Lib.hid k10; have S10 := Lib.hid s10; clear k10 s10 K9)
    | (go_at_call 59; refine (kwX w _ P 1 K10.out _ _ (100, 0) _ HD.out S10.out).mono ?_; rintro e w11 ⟨rfl, k11⟩; have K11 := Lib.hid k11; clear k11 K10 S10)
    | (go_at_call 13; refine (ka_turn K11.out (by decide)).mono ?_; rintro e w12 ⟨rfl, k12⟩; have K12 : Hid (KA w P 4 kwT4 0 w12) := Lib.hid k12; clear k12 K11))
  go_wp2_with (first
    | (go_at_call 20; refine (kwN w _ P 0 K12.out (99, 0) rfl).mono ?_; rintro e w13 ⟨b13, d13, rfl, s13, k13⟩; have K13 := Lib.hid k13; have S13 := Lib.hid s13; clear k13 s13 K12)
    | (go_at_call 59; refine (kwX w _ P 0 K13.out _ _ (99, 0) _ HC.out S13.out).mono ?_; rintro e w14 ⟨rfl, k14⟩; have K14 := Lib.hid k14; clear k14 K13 S13)
    | (go_at_call 18; refine (ka_len K14.out).mono ?_; rintro e w15 ⟨rfl, h15⟩; subst h15)
    | (go_at_call 23; refine (ka_all K14.out (by decide) (by decide)).mono ?_; rintro e w16 ⟨b16, d16, rfl, k16⟩; have K16 := Lib.hid k16; clear k16 K14)
    | (go_at_call 15; refine (ka_bad K16.out).mono ?_; rintro e w17 ⟨rfl, k17⟩; have K17 := Lib.hid k17; clear k17 K16))
  go_ret
  exact ⟨rfl, K17.out.world⟩
end Go.Proofs.YtdhhfbglbihapaaDoor
set_option linter.unusedVariables false
set_option linter.unusedSimpArgs false
namespace Go.Proofs.YtdhhfbglbihapaaDoor
open Go.ChangeShapes Go.WideShapes Go.ChangeAt Go.RowKit Go.Deep Go.Joins
section
variable {H : Type} {enc : TypeId × Value → H} {W : World}
theorem addS_none (b off k : Nat) : (⟨b, off, none⟩ : Addr).add k = ⟨b, off + k, none⟩ := by unfold Addr.add; split <;> simp_all
set_option maxRecDepth 100000 in
theorem cellsIntS : Tryd.prog.cellsOf 3 = 1 := by kernel_rfl
set_option maxRecDepth 100000 in
theorem cellsSign : Tryd.prog.cellsOf 89 = 2 := by kernel_rfl
set_option maxRecDepth 100000 in
theorem arg_signs0 {base : Nat} {v0 : Value} {d0 : DataW H} {p : List MemPlace} (hv : Value.okWide Tryd.prog W .any base 31 v0) (h : DataW.Trod enc Tryd.prog W 0 (fun _ => true) true 31 v0 d0 p) :
    ∃ (l : List (Int × Int)) (a : Option Addr) (c : Nat), v0 = .slice a l.length c ∧ Signs W a l ∧ l.length ≤ 9223372036854775807 ∧ (a = none → c = 0) := by
  obtain ⟨a0, len, cap, rfl⟩ := okWide_slice Tryd.underlying31 hv
  obtain ⟨fuel, hf⟩ := h
  rcases open_slice_pairs Tryd.underlying31 Tryd.underlying89 cellsSign rfl rfl cellsIntS cellsIntS hf with ⟨hcs, _⟩ | ⟨a, len', cap', m, n, V0, V1, D0, D1, P0, P1, hcs, _, hl, hm, hmm, _, hcell⟩
  · simp [Value.cells] at hcs
    obtain ⟨rfl, rfl, rfl⟩ := hcs
    exact ⟨[], none, 0, rfl, fun j hj => absurd hj (Nat.not_lt_zero j), by simp, fun _ => rfl⟩
  · simp [Value.cells] at hcs
    obtain ⟨rfl, rfl, rfl⟩ := hcs
    have hlm : len ≤ m := by rw [hmm]; split <;> omega
    have key : ∀ i, i < len → ∃ q : Int × Int, V0 i = .int .i64 q.1 ∧ V1 i = .int .i64 q.2 := fun i hi => by
      obtain ⟨_, _, h1, h2⟩ := hcell i (by omega)
      obtain ⟨x, hx, _, _⟩ := DataW.trod_int Tryd.underlying3 h1
      obtain ⟨y, hy, _, _⟩ := DataW.trod_int Tryd.underlying3 h2
      exact ⟨(x, y), by simpa using hx, by simpa using hy⟩
    obtain ⟨F, hF⟩ : ∃ F : Nat → Int × Int, ∀ i, i < len → V0 i = .int .i64 (F i).1 ∧ V1 i = .int .i64 (F i).2 :=
      ⟨fun i => if h : i < len then (key i h).choose else (0, 0), fun i hi => by simp only [dif_pos hi]; exact (key i hi).choose_spec⟩
    clear key
    refine ⟨(List.range len).map F, some a, cap, by simp, ?_, by simp; unfold maxLen at hm; omega, fun h => by cases h⟩
    intro j hj
    have hj2 : j < len := by simpa using hj
    obtain ⟨c0, c1, _, _⟩ := hcell j (by omega)
    have hk := hF j hj2
    obtain ⟨b, off, sp⟩ := a
    have hsp : sp = none := by
      obtain ⟨c00, _⟩ := hcell 0 (by omega)
      have h1 : W.cell? ⟨b, off, sp⟩ = some (V0 0) := by simpa [Addr.add] using c00
      exact cell_spot h1
    subst hsp
    rw [addS_none] at c0 c1
    have hg : ((List.range len).map F).getD j (0, 0) = F j := by
      rw [List.getD, List.getElem?_map, List.getElem?_range hj2]; rfl
    rw [hg]
    refine ⟨b, off, rfl, block_lt_of_cell c0, ?_, ?_⟩
    · rw [c0, hk.1]
    · rw [show off + j * 2 + 1 = off + (j * 2 + 1) by omega, c1, hk.2]
theorem arg_signs {base : Nat} {v0 : Value} {d0 : DataW H} {p : List MemPlace} (hv : Value.okWide Tryd.prog W .any base 31 v0) (h : DataW.Trod enc Tryd.prog W 0 (fun _ => true) true 31 v0 d0 p) :
    ∃ (l : List (Int × Int)) (a : Option Addr) (c : Nat), v0 = .slice a l.length c ∧ Signs W a l ∧ l.length ≤ 9223372036854775807 := by
  obtain ⟨l, a, c, h1, h2, h3, _⟩ := arg_signs0 hv h
  exact ⟨l, a, c, h1, h2, h3⟩
theorem arg_sign {base : Nat} {v0 : Value} {d0 : DataW H} {p : List MemPlace} (hv : Value.okWide Tryd.prog W .any base 89 v0) (h : DataW.Trod enc Tryd.prog W 0 (fun _ => true) true 89 v0 d0 p) :
    ∃ (x y : Int), v0 = .agg #[.int .i64 x, .int .i64 y] := by
  obtain ⟨a0, a1, y0, y1, n, rfl, rfl, rfl, h0, h1⟩ := open_agg2 Tryd.underlying89 (by kernel_rfl) cellsSign hv h
  obtain ⟨x, hx, _, _⟩ := DataW.trod_int Tryd.underlying3 h0
  obtain ⟨y, hy, _, _⟩ := DataW.trod_int Tryd.underlying3 h1
  obtain rfl : a0 = .int .i64 x := by simpa using hx
  obtain rfl : a1 = .int .i64 y := by simpa using hy
  exact ⟨x, y, rfl⟩
end
end Go.Proofs.YtdhhfbglbihapaaDoor
