/-
  Joined: Ki9 Ki10 Ki11 Ki12 ArgS ArgU8.
-/
import Derived.Test.YtdnmjofenckndaaDoorJB01
import Derived.Test.YtdnmjofenckndaaDoorJB02
import Derived.Test.YtdnmjofenckndaaDoorJB03
import Derived.Test.YtdnmjofenckndaaDoorJB04
import Derived.Deep.RegionHeld3
import Derived.Deep.SlicePairs
import Derived.ChangeArms
import Derived.Lib.LaidTab
import Derived.Lib.LaidU8
import Derived.Lib.SmallJoins
set_option linter.unusedVariables false
set_option linter.unusedSimpArgs false
set_option maxRecDepth 100000
set_option linter.unusedVariables false
set_option linter.unusedSimpArgs false
namespace Go.Proofs.YtdnmjofenckndaaDoor
open Go.RowKit
/-- The document's texts as a value. -/
abbrev kV (a : Option Addr) (n c : Nat) (h : Int) : Value := .agg #[.slice a n c, .int .i64 h]
theorem tuH_mod (h n : Nat) (hl : h < n) : Int.tmod ((h : Int) + (n : Int) - 1) (n : Int) = (tuH h n : Nat) := by
  have e : (h : Int) + (n : Int) - 1 = ((h + n - 1 : Nat) : Int) := by omega
  rw [e]
  unfold tuH
  show ((h + n - 1 : Nat) : Int).tmod ((n : Nat) : Int) = _
  rw [← Int.ofNat_tmod]
  congr 1
  split
  · rename_i h0; subst h0; rw [Nat.zero_add, Nat.mod_eq_of_lt (by omega)]
  · rw [show h + n - 1 = (h - 1) + n by omega, Nat.add_mod_right, Nat.mod_eq_of_lt (by omega)]
theorem two_new (w : World) (c1 c2 : Array Value) (t1 t2 : TypeId) : ((w.alloc (.cells c1 t1)).alloc (.cells c2 t2)).heap[w.heap.size]? = some (.cells c1 t1 (0, 0)) ∧ ((w.alloc (.cells c1 t1)).alloc (.cells c2 t2)).heap[w.heap.size + 1]? = some (.cells c2 t2 (0, 0)) ∧ Below w.heap.size w ((w.alloc (.cells c1 t1)).alloc (.cells c2 t2)) := by
  have s1 : (w.alloc (.cells c1 t1)).heap.size = w.heap.size + 1 := by simp
  have b1 := below_alloc w (.cells c1 t1)
  have b2 := below_alloc (w.alloc (.cells c1 t1)) (.cells c2 t2)
  have h1 := heap_alloc_new w (.cells c1 t1)
  have h2 := heap_alloc_new (w.alloc (.cells c1 t1)) (.cells c2 t2)
  rw [s1] at h2
  exact ⟨blk_below h1 b2, h2, seqB b1 b2⟩
end Go.Proofs.YtdnmjofenckndaaDoor
set_option linter.unusedVariables false
set_option linter.unusedSimpArgs false
namespace Go.Proofs.YtdnmjofenckndaaDoor
open Go.RowKit
theorem or1_new (w : World) : OwR1 (w.alloc (.cells #[] 22)) w.heap.size (.slice (some ⟨w.heap.size, 0, none⟩) 0 0) [] :=
  ⟨rfl, .inr ⟨w.heap.size, 0, #[], rfl, Nat.le_refl _, heap_alloc_new _ _, Nat.le_refl _, by decide, rfl, rfl⟩⟩
/-- What a call of the document's Push leaves. -/
def RkPost (S : Nat → Prop) (R : List (List Sg2)) (h : Nat) (w : World) (e : Ending) (w' : World) : Prop :=
  ∃ a' c', e = .returned (kV a' R.length c' h) ∧ SgsK (fun k => S k ∨ (w.heap.size ≤ k ∧ k < w'.heap.size)) w' a' R ∧ (R = [] → a' = none ∧ c' = 0) ∧ Below w.heap.size w w'
theorem els_sgs {S : Nat → Prop} {w : World} {B n c : Nat} {a : Option Addr} {vs : List Value} {E : List (List Sg2)} (h : OwR1 w B (.slice a n c) vs) (hn : vs.length = n) (e : Els S w vs E) : SgsK (fun k => S k ∨ (B ≤ k ∧ k < w.heap.size)) w a E ∧ n ≤ c := by
  have hE := e.1
  rcases h.2 with ⟨h1, h0⟩ | ⟨g, cap, cur, h1, hB, hg, hle, _⟩
  · injection h1 with h1 h2 h3
    exact ⟨fun i hi => absurd hi (by rw [← hE, h0]; exact Nat.not_lt_zero i), by omega⟩
  · injection h1 with h1 h2 h3
    subst h1; subst h3; subst hn
    refine ⟨fun i hi => ?_, hle⟩
    obtain ⟨ai, ci, ei, hs⟩ := e.2 i hi
    exact ⟨g, 0, ai, ci, rfl, Or.inr ⟨hB, blk_lt hg⟩, blk_lt hg, by rw [Nat.zero_add, h.cellAt i (by omega)]; exact ei, hs.mono (fun k hk => Or.inl hk)⟩
theorem sgs_cut {S : Nat → Prop} {w : World} {a : Option Addr} {x : List Sg2} {E : List (List Sg2)} (h : SgsK S w a (x :: E)) : SgsK S w (a.map fun x => { block := x.block, off := x.off + 1 }) E := fun i hi => by
  obtain ⟨b, off, ai, ci, rfl, h1, h2, h3, h4⟩ := h (i + 1) (by simp; omega)
  refine ⟨b, off + 1, ai, ci, rfl, h1, h2, ?_, h4⟩
  rw [show off + 1 + i = off + (i + 1) by omega]; exact h3
theorem elemSl : Tryd.prog.elem 43 = 22 := by kernel_rfl
theorem sizeSl (w : World) : (sizeOf 22).run Tryd.prog w = .ok 1 w := by kernel_rfl
theorem run_cut1 (w : World) (a : Option Addr) (n c : Nat) (h : 1 ≤ n) : (Instr.slice 43 (.slice a n c) (some (.int .i64 1)) none none).run Tryd.prog w = .ok (.slice (if c = 1 then a else a.map (·.add (1 * 1))) (n - 1) (c - 1)) w := by
  have := run_slice_l (P := Tryd.prog) w 43 a n c (by kernel_rfl) .i64 (1 : Int) (by omega) (by omega)
  rw [elemSl, sizeSl] at this
  exact this
theorem sgs_one {w w' : World} (aj : Option Addr) (m cj : Nat) (hw : w.alloc (.cells #[.slice aj m cj] 22) = w') : ∀ b, (some (⟨w.heap.size, 0, none⟩ : Addr)) = some b → ∀ j u, ([Value.slice aj m cj] : List Value)[j]? = some u → w'.cell? (b.add j) = some u := by
  intro b e j u hj
  injection e with e; subst e; subst hw
  exact app_cells rfl hj
section
variable {S : Nat → Prop} {M : Int} {T : List (List Sg2)} {l : List Sg2} {a b : Option Addr} {n c m d h : Nat} {w w' : World}
end
end Go.Proofs.YtdnmjofenckndaaDoor
set_option linter.unusedVariables false
set_option linter.unusedSimpArgs false
namespace Go.Proofs.YtdnmjofenckndaaDoor
open Go.RowKit
section
variable {S : Nat → Prop} {M : Int} {T : List (List Sg2)} {l : List Sg2} {a b : Option Addr} {n c m d h : Nat} {w w' : World}
end
end Go.Proofs.YtdnmjofenckndaaDoor
set_option linter.unusedVariables false
set_option linter.unusedSimpArgs false
namespace Go.Proofs.YtdnmjofenckndaaDoor
open Go.RowKit
/-- A ring on the way. -/
def KA (w0 : World) (P : Nat) (j : Int) (T : List (List Sg2)) (h : Nat) (w : World) : Prop := ∃ (S : Nat → Prop) (o : Int), RiS S P 2 o T h w ∧ o ≤ j ∧ (∀ k, k < w0.heap.size → S k) ∧ Below w0.heap.size w0 w
/-- A ring on the way, and a text. -/
def KL (w0 : World) (P : Nat) (j : Int) (T : List (List Sg2)) (h g : Nat) (l : List Sg2) (w : World) : Prop := ∃ (S : Nat → Prop) (o : Int), RiS S P 2 o T h w ∧ o ≤ j ∧ (∀ k, k < w0.heap.size → S k) ∧ Below w0.heap.size w0 w ∧ SlS S w (some ⟨g, 0, none⟩) l l.length
section
variable {w0 w w' : World} {P h g : Nat} {j : Int} {T : List (List Sg2)} {l : List Sg2}
theorem KA.world (k : KA w0 P j T h w) : Below w0.heap.size w0 w := by obtain ⟨_, _, _, _, _, h⟩ := k; exact h
theorem KA.below (k : KA w0 P j T h w) (hb : Below w.heap.size w w') : KA w0 P j T h w' := by
  obtain ⟨S, o, h1, h2, h3, h4⟩ := k
  exact ⟨S, o, h1.below hb, h2, h3, h4.trans (hb.mono h4.size)⟩
theorem slS_new {S : Nat → Prop} (h : w'.heap[g]? = some (.cells (sRow l) 39 (0, 0))) (hS : S g) : SlS S w' (some ⟨g, 0, none⟩) l l.length :=
  ⟨signs_of_blk h, Nat.le_refl _, fun e => (by cases e), fun ad e _ => (by cases e; exact hS)⟩
theorem ka_of (k : KA w0 P j T h w) (hT : UT w0) (s : ByteArray) (hs : s.size ≤ 1000000) (hv : (valsS s).length ≤ 1000000) :
    Calls Tryd.prog 77 #[.int .i64 0, .string s] w fun e w' => ∃ g, e = .returned (.slice (some ⟨g, 0, none⟩) (sOf 0 s).length (sOf 0 s).length) ∧ KL w0 P j T h g (sOf 0 s) w' := by
  refine (sof_any 0 s w (hT.below k.world) hs hv).mono ?_
  rintro e w' ⟨g, rfl, hg, hb, hB⟩
  obtain ⟨S, o, h1, h2, h3, h4⟩ := k
  exact ⟨g, rfl, fun k => S k ∨ (w.heap.size ≤ k ∧ k < w'.heap.size), o, h1.grow hB (fun k hk => hk), h2, fun k hk => Or.inl (h3 k hk), h4.trans (hB.mono h4.size), slS_new hb (Or.inr ⟨hg, blk_lt hb⟩)⟩
theorem kl_push (k : KL w0 P j T h g l w) (how : Int) (n : Nat) (hn : l.length = n) (hok : sgC l = true) (hj : j ≤ 100) (hn2 : n ≤ 10) (hT : ∀ t ∈ T, t.length ≤ 10) (hT2 : T.length ≤ 2) (hw : how = 0 ∨ how = 1 ∨ how = 2) :
    Calls Tryd.prog 32 #[.pointer (some ⟨P, 0, none⟩), .slice (some ⟨g, 0, none⟩) n n, .int .i64 how] w fun e w' => e = .returned (.int .i64 0) ∧ KA w0 P (j + 1) (puK 2 T l how) (puH 2 T l how h) w' := by
  obtain ⟨S, o, h1, h2, h3, h4, h5⟩ := k
  rw [hn] at h5
  refine (ri_push h1 l _ n n how h5 hn (fun t ht => by have := hT t ht; omega) (by omega) hok hw (by omega) (by omega) (by omega) (by omega)).mono ?_
  rintro e w' ⟨rfl, ⟨o', ho, hr⟩, hk⟩
  exact ⟨rfl, S, o', hr, by omega, h3, h4.trans (hk.below _ h3)⟩
theorem ka_turn (k : KA w0 P j T h w) (hT : T ≠ []) : Calls Tryd.prog 94 #[.pointer (some ⟨P, 0, none⟩)] w fun e w' => e = .returned (.bool true) ∧ KA w0 P j T (tuH h T.length) w' := by
  obtain ⟨S, o, h1, h2, h3, h4⟩ := k
  refine (ri_turn h1 hT).mono ?_
  rintro e w' ⟨rfl, hr, hk⟩
  exact ⟨rfl, S, o, hr, h2, h3, h4.trans (hk.below _ h3)⟩
theorem ka_len (k : KA w0 P j T h w) : Calls Tryd.prog 95 #[.pointer (some ⟨P, 0, none⟩)] w fun e w' => e = .returned (.int .i64 T.length) ∧ w = w' := by
  obtain ⟨S, o, h1, _⟩ := k
  exact ri_len h1
theorem ka_now (k : KA w0 P j T h w) (hT : T ≠ []) : Calls Tryd.prog 33 #[.pointer (some ⟨P, 0, none⟩)] w fun e w' => ∃ b d, e = .returned (.slice b (T.getD h []).length d) ∧ Signs w' b (T.getD h []) ∧ KA w0 P j T h w' := by
  have kk := k
  obtain ⟨S, o, h1, _⟩ := k
  refine (ri_now h1 hT).mono ?_
  rintro e w' ⟨b, d, rfl, ho, hb⟩
  obtain ⟨a, c, e1, hs⟩ := ho.sl
  injection e1 with e1 e2 e3
  subst e1
  exact ⟨_, _, rfl, hs.s, kk.below hb⟩
theorem ka_all (k : KA w0 P j T h w) (hT : T ≠ []) (hl : T.length ≤ 1000) : Calls Tryd.prog 34 #[.pointer (some ⟨P, 0, none⟩)] w fun e w' => ∃ b d, e = .returned (.slice b T.length d) ∧ KA w0 P j T h w' := by
  have kk := k
  obtain ⟨S, o, h1, _⟩ := k
  refine (ri_all h1 hT hl).mono ?_
  rintro e w' ⟨b, d, rfl, ho, hb⟩
  exact ⟨_, _, rfl, kk.below hb⟩
theorem ka_bad (k : KA w0 P j T h w) : Calls Tryd.prog 32 #[.pointer (some ⟨P, 0, none⟩), .slice none 0 0, .int .i64 3] w fun e w' => e = .returned (.int .i64 2) ∧ KA w0 P j T h w' := by
  have kk := k
  obtain ⟨S, o, h1, _⟩ := k
  refine (ri_push_bad h1 [] none 0 0 3 (fun j hj => absurd hj (Nat.not_lt_zero j)) rfl (by omega) (Or.inr (Or.inl (by omega)))).mono ?_
  rintro e w' ⟨rfl, hb⟩
  exact ⟨rfl, kk.below hb⟩
end
def kwT1 : List (List Sg2) := [[(97, 0)]]
def kwT2 : List (List Sg2) := [[(97, 0), (98, 0)]]
def kwT3 : List (List Sg2) := [[(97, 0), (98, 0)], [(99, 0)]]
def kwT4 : List (List Sg2) := [[(99, 0)], [(100, 0)]]
theorem kw1 (w0 w : World) (P : Nat) (hT : UT w0) (k : KA w0 P 0 [] 0 w) : Calls Tryd.prog 77 #[.int .i64 0, .string ⟨#[97]⟩] w fun e w' => ∃ g, e = .returned (.slice (some ⟨g, 0, none⟩) 1 1) ∧ KL w0 P 0 [] 0 g [(97, 0)] w' := by
  have h := ka_of k hT ⟨#[97]⟩ (by decide) (by decide +kernel)
  rw [show sOf 0 ⟨#[97]⟩ = [(97, 0)] by decide +kernel] at h
  exact h
theorem kw2 (w0 w : World) (P g : Nat) (k : KL w0 P 0 [] 0 g [(97, 0)] w) : Calls Tryd.prog 32 #[.pointer (some ⟨P, 0, none⟩), .slice (some ⟨g, 0, none⟩) 1 1, .int .i64 0] w fun e w' => e = .returned (.int .i64 0) ∧ KA w0 P 1 kwT1 0 w' :=
  kl_push k 0 1 rfl (by decide +kernel) (by decide) (by decide) (by simp) (by simp) (Or.inl rfl)
theorem kw3 (w0 w : World) (P : Nat) (hT : UT w0) (k : KA w0 P 1 kwT1 0 w) : Calls Tryd.prog 77 #[.int .i64 0, .string ⟨#[98]⟩] w fun e w' => ∃ g, e = .returned (.slice (some ⟨g, 0, none⟩) 1 1) ∧ KL w0 P 1 kwT1 0 g [(98, 0)] w' := by
  have h := ka_of k hT ⟨#[98]⟩ (by decide) (by decide +kernel)
  rw [show sOf 0 ⟨#[98]⟩ = [(98, 0)] by decide +kernel] at h
  exact h
theorem kw4 (w0 w : World) (P g : Nat) (k : KL w0 P 1 kwT1 0 g [(98, 0)] w) : Calls Tryd.prog 32 #[.pointer (some ⟨P, 0, none⟩), .slice (some ⟨g, 0, none⟩) 1 1, .int .i64 1] w fun e w' => e = .returned (.int .i64 0) ∧ KA w0 P 2 kwT2 0 w' :=
  kl_push k 1 1 rfl (by decide +kernel) (by decide) (by decide) (by decide) (by decide) (Or.inr (Or.inl rfl))
theorem kw5 (w0 w : World) (P : Nat) (hT : UT w0) (k : KA w0 P 2 kwT2 0 w) : Calls Tryd.prog 77 #[.int .i64 0, .string ⟨#[99]⟩] w fun e w' => ∃ g, e = .returned (.slice (some ⟨g, 0, none⟩) 1 1) ∧ KL w0 P 2 kwT2 0 g [(99, 0)] w' := by
  have h := ka_of k hT ⟨#[99]⟩ (by decide) (by decide +kernel)
  rw [show sOf 0 ⟨#[99]⟩ = [(99, 0)] by decide +kernel] at h
  exact h
theorem kw6 (w0 w : World) (P g : Nat) (k : KL w0 P 2 kwT2 0 g [(99, 0)] w) : Calls Tryd.prog 32 #[.pointer (some ⟨P, 0, none⟩), .slice (some ⟨g, 0, none⟩) 1 1, .int .i64 0] w fun e w' => e = .returned (.int .i64 0) ∧ KA w0 P 3 kwT3 1 w' :=
  kl_push k 0 1 rfl (by decide +kernel) (by decide) (by decide) (by decide) (by decide) (Or.inl rfl)
theorem kw7 (w0 w : World) (P : Nat) (hT : UT w0) (k : KA w0 P 3 kwT3 1 w) : Calls Tryd.prog 77 #[.int .i64 0, .string ⟨#[100]⟩] w fun e w' => ∃ g, e = .returned (.slice (some ⟨g, 0, none⟩) 1 1) ∧ KL w0 P 3 kwT3 1 g [(100, 0)] w' := by
  have h := ka_of k hT ⟨#[100]⟩ (by decide) (by decide +kernel)
  rw [show sOf 0 ⟨#[100]⟩ = [(100, 0)] by decide +kernel] at h
  exact h
theorem kw8 (w0 w : World) (P g : Nat) (k : KL w0 P 3 kwT3 1 g [(100, 0)] w) : Calls Tryd.prog 32 #[.pointer (some ⟨P, 0, none⟩), .slice (some ⟨g, 0, none⟩) 1 1, .int .i64 0] w fun e w' => e = .returned (.int .i64 0) ∧ KA w0 P 4 kwT4 1 w' :=
  kl_push k 0 1 rfl (by decide +kernel) (by decide) (by decide) (by decide) (by decide) (Or.inl rfl)
theorem kwN (w0 w : World) (P h : Nat) (k : KA w0 P 4 kwT4 h w) (s : Sg2) (hh : kwT4.getD h [] = [s]) : Calls Tryd.prog 33 #[.pointer (some ⟨P, 0, none⟩)] w fun e w' => ∃ b d, e = .returned (.slice b 1 d) ∧ Signs w' b [s] ∧ KA w0 P 4 kwT4 h w' := by
  have h := ka_now k (by decide)
  rw [hh] at h
  exact h
theorem kwX (w0 w : World) (P h : Nat) (k : KA w0 P 4 kwT4 h w) (b : Option Addr) (d : Nat) (s : Sg2) (t : ByteArray) (ht : sTxt [s] = t) (hs : Signs w b [s]) : Calls Tryd.prog 78 #[.slice b 1 d] w fun e w' => e = .returned (.string t) ∧ KA w0 P 4 kwT4 h w' := by
  have h := stext_any [s] b d w (by simp) hs
  rw [ht] at h
  refine h.mono ?_
  rintro e w' ⟨rfl, hb⟩
  exact ⟨rfl, k.below hb⟩
set_option maxHeartbeats 4000000 in
theorem riawake_any (w : World) (hT : UT w) : Calls Tryd.prog 30 #[] w fun e w' => e = .returned (.bool true) ∧ Below w.heap.size w w' := by
  have HT := Lib.hid hT
  have NW := Lib.hid (ri_new 2 w (by decide) (by decide))
  have hd : sTxt [((100 : Int), (0 : Int))] = ⟨#[100]⟩ := by decide +kernel
  have hc : sTxt [((99 : Int), (0 : Int))] = ⟨#[99]⟩ := by decide +kernel
  have HD := Lib.hid hd; have HC := Lib.hid hc
  clear hT hd hc
  go_enter Tryd.func30, Tryd.ntmps30
  go_upto_region 10 with (first
    | (go_at_call 31; refine NW.out.mono ?_; rintro e w1 ⟨P, rfl, hr, _, _, hb⟩; have K1 : Hid (KA w P 0 [] 0 w1) := Lib.hid ⟨fun k => k < w.heap.size, 0, hr _ (fun k hk => hk), by decide, fun k hk => hk, hb⟩; clear hr hb NW)
    | (go_at_call 77; (with_reducible refine (kw1 w _ P HT.out K1.out).mono ?_); rintro e w2 ⟨g2, rfl, k2⟩; have K2 := Lib.hid k2; clear k2 K1)
    | (go_at_call 32; (with_reducible refine (kw2 w _ P _ K2.out).mono ?_); rintro e w3 ⟨rfl, k3⟩; have K3 := Lib.hid k3; clear k3 K2)
    | (go_at_call 77; (with_reducible refine (kw3 w _ P HT.out K3.out).mono ?_); rintro e w4 ⟨g4, rfl, k4⟩; have K4 := Lib.hid k4; clear k4 K3)
    | (go_at_call 32; (with_reducible refine (kw4 w _ P _ K4.out).mono ?_); rintro e w5 ⟨rfl, k5⟩; have K5 := Lib.hid k5; clear k5 K4)
    | (go_at_call 77; (with_reducible refine (kw5 w _ P HT.out K5.out).mono ?_); rintro e w6 ⟨g6, rfl, k6⟩; have K6 := Lib.hid k6; clear k6 K5)
    | (go_at_call 32; (with_reducible refine (kw6 w _ P _ K6.out).mono ?_); rintro e w7 ⟨rfl, k7⟩; have K7 := Lib.hid k7; clear k7 K6)
    | (go_at_call 77; (with_reducible refine (kw7 w _ P HT.out K7.out).mono ?_); rintro e w8 ⟨g8, rfl, k8⟩; have K8 := Lib.hid k8; clear k8 K7)
    | (go_at_call 32; (with_reducible refine (kw8 w _ P _ K8.out).mono ?_); rintro e w9 ⟨rfl, k9⟩; have K9 := Lib.hid k9; clear k9 K8)
    | (go_at_call 33; refine (kwN w _ P 1 K9.out (100, 0) rfl).mono ?_; rintro e w10 ⟨b10, d10, rfl, s10, k10⟩; have K10 := Lib.hid k10; have S10 := Lib.hid s10; clear k10 s10 K9)
    | (go_at_call 78; refine (kwX w _ P 1 K10.out _ _ (100, 0) _ HD.out S10.out).mono ?_; rintro e w11 ⟨rfl, k11⟩; have K11 := Lib.hid k11; clear k11 K10 S10)
    | (go_at_call 94; refine (ka_turn K11.out (by decide)).mono ?_; rintro e w12 ⟨rfl, k12⟩; have K12 : Hid (KA w P 4 kwT4 0 w12) := Lib.hid k12; clear k12 K11))
  go_wp2_with (first
    | (go_at_call 33; refine (kwN w _ P 0 K12.out (99, 0) rfl).mono ?_; rintro e w13 ⟨b13, d13, rfl, s13, k13⟩; have K13 := Lib.hid k13; have S13 := Lib.hid s13; clear k13 s13 K12)
    | (go_at_call 78; refine (kwX w _ P 0 K13.out _ _ (99, 0) _ HC.out S13.out).mono ?_; rintro e w14 ⟨rfl, k14⟩; have K14 := Lib.hid k14; clear k14 K13 S13)
    | (go_at_call 95; refine (ka_len K14.out).mono ?_; rintro e w15 ⟨rfl, h15⟩; subst h15)
    | (go_at_call 34; refine (ka_all K14.out (by decide) (by decide)).mono ?_; rintro e w16 ⟨b16, d16, rfl, k16⟩; have K16 := Lib.hid k16; clear k16 K14)
    | (go_at_call 32; refine (ka_bad K16.out).mono ?_; rintro e w17 ⟨rfl, k17⟩; have K17 := Lib.hid k17; clear k17 K16))
  go_ret
  exact ⟨rfl, K17.out.world⟩
end Go.Proofs.YtdnmjofenckndaaDoor
set_option linter.unusedVariables false
set_option linter.unusedSimpArgs false
namespace Go.Proofs.YtdnmjofenckndaaDoor
open Go.ChangeShapes Go.WideShapes Go.ChangeAt Go.RowKit Go.Deep Go.Joins
section
variable {H : Type} {enc : TypeId × Value → H} {W : World}
theorem addS_none (b off k : Nat) : (⟨b, off, none⟩ : Addr).add k = ⟨b, off + k, none⟩ := by unfold Addr.add; split <;> simp_all
set_option maxRecDepth 100000 in
theorem cellsIntS : Tryd.prog.cellsOf 3 = 1 := by kernel_rfl
set_option maxRecDepth 100000 in
theorem cellsSign : Tryd.prog.cellsOf 39 = 2 := by kernel_rfl
set_option maxRecDepth 100000 in
theorem arg_signs0 {base : Nat} {v0 : Value} {d0 : DataW H} {p : List MemPlace} (hv : Value.okWide Tryd.prog W .any base 22 v0) (h : DataW.Trod enc Tryd.prog W 0 (fun _ => true) true 22 v0 d0 p) :
    ∃ (l : List (Int × Int)) (a : Option Addr) (c : Nat), v0 = .slice a l.length c ∧ Signs W a l ∧ l.length ≤ 9223372036854775807 ∧ (a = none → c = 0) := by
  obtain ⟨a0, len, cap, rfl⟩ := okWide_slice Tryd.underlying22 hv
  obtain ⟨fuel, hf⟩ := h
  rcases open_slice_pairs Tryd.underlying22 Tryd.underlying39 cellsSign rfl rfl cellsIntS cellsIntS hf with ⟨hcs, _⟩ | ⟨a, len', cap', m, n, V0, V1, D0, D1, P0, P1, hcs, _, hl, hm, hmm, _, hcell⟩
  · simp [Value.cells] at hcs
    obtain ⟨rfl, rfl, rfl⟩ := hcs
    exact ⟨[], none, 0, rfl, fun j hj => absurd hj (Nat.not_lt_zero j), by simp, fun _ => rfl⟩
  · simp [Value.cells] at hcs
    obtain ⟨rfl, rfl, rfl⟩ := hcs
    have hlm : len ≤ m := by rw [hmm]; split <;> omega
    have key : ∀ i, i < len → ∃ q : Int × Int, V0 i = .int .i64 q.1 ∧ V1 i = .int .i64 q.2 := fun i hi => by
      obtain ⟨_, _, h1, h2⟩ := hcell i (by omega)
      obtain ⟨x, hx, _, _⟩ := DataW.trod_int Tryd.underlying3 h1
      obtain ⟨y, hy, _, _⟩ := DataW.trod_int Tryd.underlying3 h2
      exact ⟨(x, y), by simpa using hx, by simpa using hy⟩
    obtain ⟨F, hF⟩ : ∃ F : Nat → Int × Int, ∀ i, i < len → V0 i = .int .i64 (F i).1 ∧ V1 i = .int .i64 (F i).2 :=
      ⟨fun i => if h : i < len then (key i h).choose else (0, 0), fun i hi => by simp only [dif_pos hi]; exact (key i hi).choose_spec⟩
    clear key
    refine ⟨(List.range len).map F, some a, cap, by simp, ?_, by simp; unfold maxLen at hm; omega, fun h => by cases h⟩
    intro j hj
    have hj2 : j < len := by simpa using hj
    obtain ⟨c0, c1, _, _⟩ := hcell j (by omega)
    have hk := hF j hj2
    obtain ⟨b, off, sp⟩ := a
    have hsp : sp = none := by
      obtain ⟨c00, _⟩ := hcell 0 (by omega)
      have h1 : W.cell? ⟨b, off, sp⟩ = some (V0 0) := by simpa [Addr.add] using c00
      exact cell_spot h1
    subst hsp
    rw [addS_none] at c0 c1
    have hg : ((List.range len).map F).getD j (0, 0) = F j := by
      rw [List.getD, List.getElem?_map, List.getElem?_range hj2]; rfl
    rw [hg]
    refine ⟨b, off, rfl, block_lt_of_cell c0, ?_, ?_⟩
    · rw [c0, hk.1]
    · rw [show off + j * 2 + 1 = off + (j * 2 + 1) by omega, c1, hk.2]
theorem arg_signs {base : Nat} {v0 : Value} {d0 : DataW H} {p : List MemPlace} (hv : Value.okWide Tryd.prog W .any base 22 v0) (h : DataW.Trod enc Tryd.prog W 0 (fun _ => true) true 22 v0 d0 p) :
    ∃ (l : List (Int × Int)) (a : Option Addr) (c : Nat), v0 = .slice a l.length c ∧ Signs W a l ∧ l.length ≤ 9223372036854775807 := by
  obtain ⟨l, a, c, h1, h2, h3, _⟩ := arg_signs0 hv h
  exact ⟨l, a, c, h1, h2, h3⟩
theorem arg_sign {base : Nat} {v0 : Value} {d0 : DataW H} {p : List MemPlace} (hv : Value.okWide Tryd.prog W .any base 39 v0) (h : DataW.Trod enc Tryd.prog W 0 (fun _ => true) true 39 v0 d0 p) :
    ∃ (x y : Int), v0 = .agg #[.int .i64 x, .int .i64 y] := by
  obtain ⟨a0, a1, y0, y1, n, rfl, rfl, rfl, h0, h1⟩ := open_agg2 Tryd.underlying39 (by kernel_rfl) cellsSign hv h
  obtain ⟨x, hx, _, _⟩ := DataW.trod_int Tryd.underlying3 h0
  obtain ⟨y, hy, _, _⟩ := DataW.trod_int Tryd.underlying3 h1
  obtain rfl : a0 = .int .i64 x := by simpa using hx
  obtain rfl : a1 = .int .i64 y := by simpa using hy
  exact ⟨x, y, rfl⟩
end
end Go.Proofs.YtdnmjofenckndaaDoor
set_option linter.unusedVariables false
set_option linter.unusedSimpArgs false
namespace Go.Proofs.YtdnmjofenckndaaDoor
open Go.ChangeShapes Go.WideShapes Go.ChangeAt Go.RowKit Go.Deep Go.Joins
/-- Bytes lie in memory. -/
def U8sIn (w : World) (a : Option Addr) (l : List Int) : Prop :=
  ∀ i, i < l.length → ∃ b off, a = some ⟨b, off, none⟩ ∧ b < w.heap.size ∧ w.cell? ⟨b, off + i, none⟩ = some (.int .u8 (l.getD i 0)) ∧ 0 ≤ l.getD i 0 ∧ l.getD i 0 ≤ 255
theorem U8sIn.at {w w' : World} {a : Option Addr} {l : List Int} (h : U8sIn w a l) (hb : Below w.heap.size w w') (i : Nat) (hi : i < l.length) : ∃ b off, a = some ⟨b, off, none⟩ ∧ b < w.heap.size ∧ w'.cell? ⟨b, off + i, none⟩ = some (.int .u8 (l.getD i 0)) ∧ 0 ≤ l.getD i 0 ∧ l.getD i 0 ≤ 255 := by
  obtain ⟨b, off, e, hlt, h1, h2⟩ := h i hi
  exact ⟨b, off, e, hlt, (hb.cell (p := ⟨b, off + i, none⟩) hlt).trans h1, h2⟩
theorem u8_bounds {x : Int} (h : (Lit.int .u8 x).wf = true) : 0 ≤ x ∧ x ≤ 255 := by
  simp [Lit.wf, IntKind.min, IntKind.max, IntKind.signed, IntKind.bits] at h
  omega
theorem cell_spot8 {w : World} {b off : Nat} {sp : Option Nat} {x : Int} (h : w.cell? ⟨b, off, sp⟩ = some (.int .u8 x)) : sp = none := by
  cases sp with
  | none => rfl
  | some k =>
    exfalso
    unfold World.cell? at h
    split at h <;> simp_all
section
variable {H : Type} {enc : TypeId × Value → H} {W : World}
set_option maxRecDepth 100000 in
theorem cellsU8A : Tryd.prog.cellsOf 5 = 1 := by kernel_rfl
set_option maxRecDepth 100000 in
theorem arg_u8s {base : Nat} {v0 : Value} {d0 : DataW H} {p : List MemPlace} (hv : Value.okWide Tryd.prog W .any base 44 v0) (h : DataW.Trod enc Tryd.prog W 0 (fun _ => true) true 44 v0 d0 p) :
    ∃ (l : List Int) (a : Option Addr) (c : Nat), v0 = .slice a l.length c ∧ U8sIn W a l ∧ l.length ≤ 9223372036854775807 := by
  obtain ⟨a0, len, cap, rfl⟩ := okWide_slice Tryd.underlying44 hv
  obtain ⟨fuel, hf⟩ := h
  rcases open_slice Tryd.underlying44 hf with ⟨hcs, _⟩ | ⟨a, len', cap', m, n, D, Pl, hcs, _, hl, hm, hmm, _, hx⟩
  · simp [Value.cells] at hcs
    obtain ⟨rfl, rfl, rfl⟩ := hcs
    exact ⟨[], none, 0, rfl, fun j hj => absurd hj (Nat.not_lt_zero j), by simp⟩
  · simp [Value.cells] at hcs
    obtain ⟨rfl, rfl, rfl⟩ := hcs
    have hlm : len ≤ m := by rw [hmm]; split <;> omega
    have key : ∀ i, i < len → ∃ q : Int, W.cell? (a.add i) = some (.int .u8 q) ∧ 0 ≤ q ∧ q ≤ 255 := by
      intro i hi
      obtain ⟨cs', h1, h2⟩ := hx i (by omega)
      rw [cellsU8A] at h1
      obtain ⟨_, hlen, hcell⟩ := World.cells?_some h1
      obtain ⟨x0, hx0, _, wn⟩ := DataW.trod_int Tryd.underlying5 h2
      have e0 := hcell 0 (by omega)
      rw [add_add] at e0
      exact ⟨x0, by simpa [hx0] using e0, u8_bounds wn⟩
    obtain ⟨F, hF⟩ : ∃ F : Nat → Int, ∀ i, i < len → W.cell? (a.add i) = some (.int .u8 (F i)) ∧ 0 ≤ F i ∧ F i ≤ 255 :=
      ⟨fun i => if h : i < len then (key i h).choose else 0, fun i hi => by simp only [dif_pos hi]; exact (key i hi).choose_spec⟩
    clear key
    refine ⟨(List.range len).map F, some a, cap, by simp, ?_, by simp; unfold maxLen at hm; omega⟩
    intro j hj
    have hj2 : j < len := by simpa using hj
    obtain ⟨c0, c1⟩ := hF j hj2
    obtain ⟨b, off, sp⟩ := a
    have hsp : sp = none := by
      obtain ⟨c00, _⟩ := hF 0 (by omega)
      have h1 : W.cell? ⟨b, off, sp⟩ = some (.int .u8 (F 0)) := by simpa [Addr.add] using c00
      exact cell_spot8 h1
    subst hsp
    have hadd : (⟨b, off, none⟩ : Addr).add j = ⟨b, off + j, none⟩ := by unfold Addr.add; split <;> simp_all
    rw [hadd] at c0
    have hg : ((List.range len).map F).getD j 0 = F j := by
      rw [List.getD, List.getElem?_map, List.getElem?_range hj2]; rfl
    rw [hg]
    exact ⟨b, off, rfl, block_lt_of_cell c0, c0, c1⟩
end
end Go.Proofs.YtdnmjofenckndaaDoor
