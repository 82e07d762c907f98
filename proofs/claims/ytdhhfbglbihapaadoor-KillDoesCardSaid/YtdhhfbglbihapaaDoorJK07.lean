/-
  Joined: Ki13 Ki14.
-/
import Derived.Test.YtdhhfbglbihapaaDoorJK05
import Derived.Test.YtdhhfbglbihapaaDoorJK06
import Derived.Deep.RegionHeld3
import Derived.Deep.CutRange
import Derived.Deep.CutBlock
set_option linter.unusedVariables false
set_option linter.unusedSimpArgs false
set_option maxRecDepth 100000
set_option linter.unusedVariables false
set_option linter.unusedSimpArgs false
namespace Go.Proofs.YtdhhfbglbihapaaDoor
open Go.RowKit
theorem signs_far {w : World} {a : Option Addr} {L : List Sg2} {X : Nat} {a0 : Option Addr} {n0 c0 : Nat} {i0 : Int} {t : TypeId} {f : Nat × Nat} (h : Signs w a L) (hx : w.heap[X]? = some (.cells #[.slice a0 n0 c0, .int .i64 i0] t f)) : ∀ ad, a = some ad → L ≠ [] → ad.block ≠ X := fun ad e hL hX => by
  obtain ⟨b, off, e2, hlt, h1, h2⟩ := h 0 (List.length_pos_iff.2 hL)
  rw [e] at e2
  injection e2 with e2
  subst e2
  simp only at hX
  subst hX
  rw [cell_of_row _ _ _ _ _ _ hx] at h1 h2
  match off, h1, h2 with
  | 0, h1, _ => simp at h1
  | 1, _, h2 => simp at h2
  | (n + 2), h1, _ => simp at h1
theorem RiS.setX {S : Nat → Prop} {P : Nat} {M o : Int} {T : List (List Sg2)} {h : Nat} {w : World} (hr : RiS S P M o T h w) {X : Nat} (hS : S X) {a0 : Option Addr} {n0 c0 : Nat} {i0 : Int} {t : TypeId} {f : Nat × Nat} (hx : w.heap[X]? = some (.cells #[.slice a0 n0 c0, .int .i64 i0] t f)) (i : Nat) (u : Value) : RiS S P M o T h (w.setCell ⟨X, i, none⟩ u) := by
  obtain ⟨b, vs, h1, h2, h3, h4, h5⟩ := hr.ex
  have hX := h5 X hS
  have hz : (w.setCell ⟨X, i, none⟩ u).heap.size = w.heap.size := by simp [World.setCell]
  refine ⟨⟨b, vs, (Below.heap_setCell _ _ _ _ (Ne.symm hX.2.1)).trans h1, h2.blk (Below.heap_setCell _ _ _ _ (Ne.symm hX.2.2)), ⟨h3.1, fun j hj => ⟨(h3.2 j hj).1, ?_⟩⟩, h4, fun k hk => by rw [hz]; exact h5 k hk⟩, hr.hh, hr.ne⟩
  have hs := (h3.2 j hj).2
  have hf := signs_far hs.s hx
  have hs2 : SlS (fun k => (k < w.heap.size ∧ k ≠ P ∧ k ≠ b) ∧ k ≠ X) w (vs.getD j sl0).1 (T.getD j []) (vs.getD j sl0).2.2 := ⟨hs.s, hs.le, hs.nl, fun ad e hL => ⟨hs.st ad e hL, hf ad e hL⟩⟩
  exact (hs2.keep (Nat.le_of_eq hz.symm) (fun k hk => Below.heap_setCell _ _ _ _ hk.2)).mono (fun k hk => by rw [hz]; exact hk.1)
/-- A ring keeps T1, its hand h1; the document's lie at X and say T, h. -/
structure Kd (w : World) (S : Nat → Prop) (P X : Nat) (M o : Int) (T1 : List (List Sg2)) (h1 : Nat) (T : List (List Sg2)) (h : Nat) (a : Option Addr) (n c : Nat) (wr : World) : Prop where
  r : RiS S P M o T1 h1 wr
  hn : T.length = n
  x : wr.heap[X]? = some (.cells #[.slice a n c, .int .i64 (h : Int)] 30 (0, 0))
  k : SgsK (fun k => S k ∧ k ≠ X) wr a T
  e : T = [] → a = none ∧ c = 0
  sX : S X
  sw : ∀ k, k < w.heap.size → S k
  xw : w.heap.size ≤ X
  b : Below w.heap.size w wr
/-- A box that stays. -/
structure BxK (S : Nat → Prop) (X C : Nat) (cc : Array Value) (t : TypeId) (wr : World) : Prop where
  c : wr.heap[C]? = some (.cells cc t (0, 0))
  s : S C
  ne : C ≠ X
def newK (S : Nat → Prop) (wr w' : World) : Nat → Prop := fun k => S k ∨ (wr.heap.size ≤ k ∧ k < w'.heap.size)
section
variable {w wr w' : World} {S : Nat → Prop} {P X h1 h n c : Nat} {M o : Int} {T1 T : List (List Sg2)} {a : Option Addr}
theorem Kd.below (d : Kd w S P X M o T1 h1 T h a n c wr) (hb : Below wr.heap.size wr w') : Kd w S P X M o T1 h1 T h a n c w' :=
  ⟨d.r.below hb, d.hn, blk_below d.x hb, d.k.below hb, d.e, d.sX, d.sw, d.xw, seqB d.b hb⟩
theorem Kd.grow (d : Kd w S P X M o T1 h1 T h a n c wr) (hb : Below wr.heap.size wr w') : Kd w (newK S wr w') P X M o T1 h1 T h a n c w' :=
  ⟨d.r.grow hb (fun k hk => hk), d.hn, blk_below d.x hb, (d.k.below hb).mono (fun k hk => ⟨Or.inl hk.1, hk.2⟩), d.e, Or.inl d.sX, fun k hk => Or.inl (d.sw k hk), d.xw, seqB d.b hb⟩
theorem Kd.kept (d : Kd w S P X M o T1 h1 T h a n c wr) {o2 : Int} {T2 : List (List Sg2)} {h2 : Nat} (g : RiS S P M o2 T2 h2 w') (k : KeptK S wr w') : Kd w S P X M o2 T2 h2 T h a n c w' :=
  ⟨g, d.hn, (k.block X d.sX).trans d.x, d.k.keep k.size (fun j hj => k.block j hj.1), d.e, d.sX, d.sw, d.xw, d.b.trans (k.below w.heap.size d.sw)⟩
theorem Kd.lt (d : Kd w S P X M o T1 h1 T h a n c wr) : ∀ k, S k → k < wr.heap.size := d.r.lt
theorem Kd.cells (d : Kd w S P X M o T1 h1 T h a n c wr) : wr.cell? ⟨X, 0, none⟩ = some (.slice a n c) ∧ wr.cell? ⟨X, 1, none⟩ = some (.int .i64 (h : Int)) ∧ ∀ i, wr.frozen? ⟨X, i, none⟩ = false := by
  have y := fun i => cell_of_row _ _ i _ _ _ d.x
  exact ⟨y 0, y 1, fun i => frozen_of_row _ X i _ _ d.x⟩
/-- Other texts come into the document's box. -/
theorem Kd.store (d : Kd w S P X M o T1 h1 T h a n c wr) {T' : List (List Sg2)} {h' n' c' : Nat} {a' : Option Addr} (hn : T'.length = n') (hs : SgsK (fun k => S k ∧ k ≠ X) wr a' T') (he : T' = [] → a' = none ∧ c' = 0) :
    Kd w S P X M o T1 h1 T' h' a' n' c' ((wr.setCell ⟨X, 0, none⟩ (.slice a' n' c')).setCell ⟨X, 1, none⟩ (.int .i64 (h' : Int))) := by
  have b0 := blk_set d.x 0 (.slice a' n' c')
  have b1 := blk_set b0 1 (.int .i64 (h' : Int))
  have hz : ((wr.setCell ⟨X, 0, none⟩ (.slice a' n' c')).setCell ⟨X, 1, none⟩ (.int .i64 (h' : Int))).heap.size = wr.heap.size := by simp [World.setCell]
  exact ⟨(d.r.setX d.sX d.x 0 _).setX d.sX b0 1 _, hn, b1, hs.keep (Nat.le_of_eq hz.symm) (fun k hk => (Below.heap_setCell _ _ _ _ hk.2).trans (Below.heap_setCell _ _ _ _ hk.2)), he, d.sX, d.sw, d.xw,
    (d.b.setCell (p := ⟨X, 0, none⟩) d.xw _).setCell (p := ⟨X, 1, none⟩) d.xw _⟩
theorem BxK.below {C : Nat} {cc : Array Value} {t : TypeId} (d : BxK S X C cc t wr) (hb : Below wr.heap.size wr w') : BxK S X C cc t w' := ⟨blk_below d.c hb, d.s, d.ne⟩
theorem BxK.kept {C : Nat} {cc : Array Value} {t : TypeId} (d : BxK S X C cc t wr) (k : KeptK S wr w') : BxK S X C cc t w' := ⟨(k.block C d.s).trans d.c, d.s, d.ne⟩
theorem BxK.new (d : Kd w S P X M o T1 h1 T h a n c wr) (cc : Array Value) (t : TypeId) (hw : wr.alloc (.cells cc t) = w') : BxK (newK S wr w') X wr.heap.size cc t w' ∧ Below wr.heap.size wr w' := by
  subst hw
  refine ⟨⟨heap_alloc_new _ _, Or.inr ⟨Nat.le_refl _, by simp⟩, ?_⟩, below_alloc _ _⟩
  have := blk_lt d.x; omega
theorem Kd.start {w1 w2 w3 : World} (b1 : Below w.heap.size w w1) (hm : ∀ S : Nat → Prop, (∀ k, S k → k < w1.heap.size) → RiS S P M 0 [] 0 w2) (b2 : Below w1.heap.size w1 w2) (h3 : w2.alloc (.cells #[.slice none 0 0, .int .i64 0] 30) = w3) :
    ∃ S, Kd w S P w2.heap.size M 0 [] 0 [] 0 none 0 0 w3 := by
  subst h3
  have b3 := below_alloc w2 (.cells #[.slice none 0 0, .int .i64 0] 30)
  have g := (hm (fun k => k < w1.heap.size) (fun _ h => h)).grow b3 (Q := newK (fun k => k < w1.heap.size) w2 (w2.alloc (.cells #[.slice none 0 0, .int .i64 0] 30))) (fun k hk => hk)
  exact ⟨_, g, rfl, heap_alloc_new _ _, fun i hi => absurd hi (Nat.not_lt_zero i), fun _ => ⟨rfl, rfl⟩, Or.inr ⟨Nat.le_refl _, by simp⟩, fun k hk => Or.inl (Nat.lt_of_lt_of_le hk b1.size), Nat.le_trans b1.size b2.size, seqB (seqB b1 b2) b3⟩
/-- The call that comes. -/
theorem kc_at {l : List (Int × SgArg)} {aL : Option Addr} (hL : KCallsIn w w.heap.size aL l) (hb : Below w.heap.size w wr) (j : Nat) (hj : j < l.length) : ∃ (b off : Nat) (k : Int) (y : SgArg), aL = some ⟨b, off, none⟩ ∧ wr.cell? ⟨b, off + j * 2, none⟩ = some (.int .i64 k) ∧ wr.cell? ⟨b, off + j * 2 + 1, none⟩ = some (.slice y.a y.l.length y.c) ∧ y.In w w.heap.size := by
  obtain ⟨b, off, e, _, h1, h2, _⟩ := (hL.below hb) j hj
  obtain ⟨_, _, _, _, _, _, h3⟩ := hL j hj
  exact ⟨b, off, _, _, e, h1, h2, h3⟩
theorem kd_len (d : Kd w S P X M o T1 h1 T h a n c wr) : Calls Tryd.prog 18 #[.pointer (some ⟨P, 0, none⟩)] wr fun e w' => e = .returned (.int .i64 T1.length) ∧ wr = w' := ri_len d.r
theorem kd_bad (d : Kd w S P X M o T1 h1 T h a n c wr) (y : SgArg) (hy : y.In wr w.heap.size) (hl : y.l.length ≤ 60) (how : Int) (hno : how < 0 ∨ 2 < how ∨ sgC y.l = false) :
    Calls Tryd.prog 15 #[.pointer (some ⟨P, 0, none⟩), .slice y.a y.l.length y.c, .int .i64 how] wr fun e w' => e = .returned (.int .i64 2) ∧ Below wr.heap.size wr w' :=
  ri_push_bad d.r y.l y.a y.c _ how hy.1.s rfl (by omega) hno
theorem kd_push (d : Kd w S P X M o T1 h1 T h a n c wr) (y : SgArg) (hy : y.In wr w.heap.size) (hl : y.l.length ≤ 60) (how : Int) (hw : how = 0 ∨ how = 1 ∨ how = 2) (hok : sgC y.l = true) (hsz : ∀ t ∈ T1, t.length ≤ 3600) (hM1 : 1 ≤ M) (hM2 : M ≤ 60) (ho : o ≤ 60) (hTM : (T1.length : Int) ≤ M) :
    Calls Tryd.prog 15 #[.pointer (some ⟨P, 0, none⟩), .slice y.a y.l.length y.c, .int .i64 how] wr fun e w' => e = .returned (.int .i64 0) ∧ ∃ o', o' ≤ o + 1 ∧ Kd w S P X M o' (puK M T1 y.l how) (puH M T1 y.l how h1) T h a n c w' ∧ KeptK S wr w' := by
  refine (ri_push d.r y.l y.a y.c _ how (hy.1.mono d.sw) rfl (fun t ht => by have := hsz t ht; omega) (by omega) hok hw hM1 (by omega) (by omega) hTM).mono ?_
  rintro e w' ⟨rfl, ⟨o', ho', hr⟩, hk⟩
  exact ⟨rfl, o', ho', d.kept hr hk, hk⟩
/-- The document's Push. -/
theorem kd_rpush (d : Kd w S P X M o T1 h1 T h a n c wr) (y : SgArg) (hy : y.In wr w.heap.size) (hl : y.l.length ≤ 60) (how : Int) (hw : how = 0 ∨ how = 1 ∨ how = 2) (hsz : ∀ t ∈ T, t.length ≤ 3600) (hM1 : 1 ≤ M) (hM2 : M ≤ 60) (hTM : (T.length : Int) ≤ M) :
    Calls Tryd.prog 17 #[kV a n c h, .slice y.a y.l.length y.c, .int .i64 how, .int .i64 M] wr fun e w' => ∃ a' n' c' h', e = .returned (kV a' n' c' (h' : Nat)) ∧
      Kd w (newK S wr w') P X M o T1 h1 (puK M T y.l how) (puH M T y.l how h) a' n' c' ((w'.setCell ⟨X, 0, none⟩ (.slice a' n' c')).setCell ⟨X, 1, none⟩ (.int .i64 (h' : Int))) ∧ Kd w (newK S wr w') P X M o T1 h1 T h a n c w' := by
  have hXy : ∀ ad, y.a = some ad → y.l ≠ [] → ad.block ≠ X := signs_far hy.1.s d.x
  have hyS : SlS (fun k => S k ∧ k ≠ X) wr y.a y.l y.c := ⟨hy.1.s, hy.1.le, hy.1.nl, fun ad e hL => ⟨d.sw _ (hy.1.st ad e hL), hXy ad e hL⟩⟩
  have hTM2 : (n : Int) ≤ M := by rw [← d.hn]; exact hTM
  refine (rk_push how d.hn rfl d.k d.e hyS (fun k hk => d.lt k hk.1) hTM2 hM1 (by omega) (by omega) (fun t ht => by have := hsz t ht; omega) hw).mono ?_
  rintro e w' ⟨a', c', rfl, hs, he, hb⟩
  refine ⟨a', _, c', _, rfl, ?_, d.grow hb⟩
  refine (d.grow hb).store rfl (hs.mono fun k hk => ?_) he
  rcases hk with hk | hk
  · exact ⟨Or.inl hk.1, hk.2⟩
  · exact ⟨Or.inr hk, fun e => by have := blk_lt d.x; omega⟩
end
end Go.Proofs.YtdhhfbglbihapaaDoor
set_option linter.unusedVariables false
set_option linter.unusedSimpArgs false
namespace Go.Proofs.YtdhhfbglbihapaaDoor
open Go.RowKit
theorem killdoes_no (M : Int) (v : Value) (w : World) (hK : UT w) (hM : ¬ (1 ≤ M ∧ M ≤ 60)) : Calls Tryd.prog 3 #[.int .i64 M, v] w fun x w' => x = .returned (.bool true) ∧ Below w.heap.size w w' := by
  have AW := Lib.hid (riawake_any w hK)
  have NW := Lib.hid fun w => ri_new_no M w (by omega)
  clear hK
  by_cases h1 : M < 1
  · go_enter Tryd.func3, Tryd.ntmps3
    go_wp2_with (first
      | (go_at_call 11; refine AW.out.mono ?_; rintro x w1 ⟨rfl, b1⟩)
      | (go_at_call 12; refine (NW.out _).mono ?_; rintro x w2 ⟨rfl, hw⟩; subst hw))
    go_ret
    exact ⟨rfl, b1⟩
  · have h2 : (60 : Int) < M := by omega
    go_enter Tryd.func3, Tryd.ntmps3
    go_wp2_with (first
      | (go_at_call 11; refine AW.out.mono ?_; rintro x w1 ⟨rfl, b1⟩)
      | (go_at_call 12; refine (NW.out _).mono ?_; rintro x w2 ⟨rfl, hw⟩; subst hw))
    go_ret
    exact ⟨rfl, b1⟩
theorem sg_same_t (l : List Sg2) (a b : Option Addr) (m c d : Nat) (w : World) (hm : l.length = m) (hl : m ≤ 1000000) (hs : Signs w a l) (ht : Signs w b l) : Calls Tryd.prog 19 #[.slice a m c, .slice b m d] w fun e w' => e = .returned (.bool true) ∧ Below w.heap.size w w' := by
  subst hm
  have h := sgsame_ref l l a b c d w (by omega) (by omega) hs ht
  rw [decide_eq_true rfl] at h
  exact h
theorem signs_nil (w : World) (a : Option Addr) : Signs w a ([] : List Sg2) := fun i hi => absurd hi (Nat.not_lt_zero i)
/-- What the loop carries. -/
structure KLoop (w : World) (P X : Nat) (M : Int) (j : Nat) (T : List (List Sg2)) (h : Nat) (a : Option Addr) (n c : Nat) (wr : World) : Prop where
  ex : ∃ (S : Nat → Prop) (o : Int), Kd w S P X M o T h T h a n c wr ∧ o ≤ j
  tm : (T.length : Int) ≤ M
  sz : ∀ t ∈ T, t.length ≤ 60 * j
set_option maxHeartbeats 32000000 in
theorem killdoes_yes (M : Int) (l : List (Int × SgArg)) (aL : Option Addr) (cL : Nat) (w : World) (hK : UT w) (hl : l.length ≤ 9223372036854775807) (hL : KCallsIn w w.heap.size aL l) (hM : 1 ≤ M ∧ M ≤ 60) : Calls Tryd.prog 3 #[.int .i64 M, .slice aL l.length cL] w fun x w' => x = .returned (.bool true) ∧ Below w.heap.size w w' := by
  have AW := Lib.hid (riawake_any w hK)
  have HL := Lib.hid hL
  have HK := Lib.hid hK
  clear hL hK
  have NW := Lib.hid fun w => ri_new M w hM.1 hM.2
  have h1 : decide (M < 1) = false := decide_eq_false (by omega)
  have h2 : decide (60 < M) = false := decide_eq_false (by omega)
  have HM := Lib.hid hM
  clear hM
  go_enter Tryd.func3, Tryd.ntmps3
  go_upto_region 9 with (first
    | (go_at_call 11; refine AW.out.mono ?_; rintro x w1 ⟨rfl, b1⟩)
    | (go_at_call 12; refine (NW.out _).mono ?_; rintro x w2 ⟨P, rfl, hm2, _, _, b2⟩))
  obtain ⟨w3, hw3⟩ : ∃ w3, w2.alloc (.cells #[.slice none 0 0, .int .i64 0] 30) = w3 := ⟨_, rfl⟩
  obtain ⟨S0, i0⟩ := Kd.start b1 hm2 b2 hw3
  have I0 : Hid (KLoop w P w2.heap.size M 0 [] 0 none 0 0 w3) := Lib.hid ⟨⟨S0, 0, i0, by omega⟩, by simp; have := HM.out; omega, fun t ht => by simp at ht⟩
  rw [hw3]
  generalize w2.heap.size = X at I0 ⊢
  clear hm2 hw3 b1 b2 h1 h2 i0
  go_upto_region 10 with fail
  go_loopw [8] (fun iv wr => ∃ (j : Nat) (T : List (List Sg2)) (h : Nat) (a : Option Addr) (n c : Nat), j ≤ l.length ∧ j ≤ 60 ∧ iv = .int .i64 (j : Int) ∧ Hid (KLoop w P X M j T h a n c wr)) (fun iv _ => l.length - (intOf iv).toNat)
  case atStart => exact ⟨0, [], 0, none, 0, 0, Nat.zero_le _, Nat.zero_le _, rfl, I0⟩
  case round =>
    obtain ⟨j, T, h, a, n, c, hj, hj60, rfl, HI⟩ := hrel
    clear I0
    obtain ⟨S, o, hd, ho⟩ := HI.out.ex
    have HD := Lib.hid hd
    have Ho := Lib.hid ho
    clear hd ho
    by_cases hlt : j < l.length
    rotate_left
    · have hj1 : ¬ (j : Int) < l.length := by omega
      have hb := Lib.hid HD.out.b
      go_wp2_with fail
      go_ret
      exact ⟨rfl, hb.out⟩
    by_cases h60 : j < 60
    rotate_left
    · have hj1 : (j : Int) < l.length := by omega
      have hj2 : ¬ (j : Int) < 60 := by omega
      have hb := Lib.hid HD.out.b
      go_wp2_with fail
      go_ret
      exact ⟨rfl, hb.out⟩
    have hj1 : (j : Int) < l.length := by omega
    have hj2 : (j : Int) < 60 := by omega
    have hj0 : (0 : Int) ≤ j := by omega
    obtain ⟨kb, off, k, y, rfl, c0, c1, hy⟩ := kc_at HL.out HD.out.b j hlt
    obtain ⟨W, hW⟩ : ∃ W, wr.alloc (.cells #[.int .i64 k, .slice y.a y.l.length y.c] 33) = W := ⟨_, rfl⟩
    obtain ⟨x0, bW⟩ := BxK.new HD.out #[.int .i64 k, .slice y.a y.l.length y.c] 33 hW
    have D0 := Lib.hid (HD.out.grow bW)
    have X0 := Lib.hid x0
    have HY := Lib.hid hy
    go_upto_region 13 with fail
    obtain ⟨C, hC⟩ : ∃ C, wr.heap.size = C := ⟨_, rfl⟩
    rw [hC] at X0 ⊢
    obtain ⟨e0, e1, zf⟩ := D0.out.cells
    have yy := fun i => cell_of_row _ _ i _ _ _ X0.out.c
    have f0 := yy 0; have f1 := yy 1
    dsimp at f0 f1
    clear x0 bW HD hW c0 c1 hC hy yy
    by_cases h100 : (60 : Int) < y.l.length
    · go_wp2_with fail
      go_ret
      exact ⟨rfl, D0.out.b⟩
    have hy60 : y.l.length ≤ 60 := by omega
    go_upto_region 15 with fail
    generalize newK S wr W = T0 at D0 X0
    clear e0 e1 zf f0 f1
    obtain ⟨e0, e1, zf⟩ := D0.out.cells
    have yy := fun i => cell_of_row _ _ i _ _ _ X0.out.c
    have f0 := yy 0; have f1 := yy 1
    dsimp at f0 f1
    clear yy
    have HTM := Lib.hid HI.out.tm
    have HSZ := Lib.hid HI.out.sz
    clear HI
    go_upto_if 57 with fail
    go_cut [10, 11] from 57 to 130 (fun s10 s11 wx => ∃ (T : List (List Sg2)) (h : Nat) (a : Option Addr) (n c : Nat), Hid (KLoop w P X M (j + 1) T h a n c wx))
    case first =>
      by_cases h9 : (9 : Int) ≤ k
      · by_cases hT : T = []
        · as_aux_lemma =>
            subst hT
            obtain rfl : n = 0 := by have := D0.out.hn; simpa using this.symm
            have Dd := Lib.hid (D0.out.below (Below.refl _ _).drew)
            have y0 := Dd.out.cells.1
            go_upto_region 16 with fail
            go_region_held3 (fun w' => w'.cell? ⟨X, 0, none⟩ = some (.slice a 0 c)) (first | exact y0 | go_keep)
              (first | (go_at_call 13; refine (ri_turn_no Dd.out.r).mono ?_; rintro x w6 ⟨rfl, h6⟩; subst h6))
            clear e0 e1 zf
            obtain ⟨g0, g1, gf⟩ := Dd.out.cells
            go_wp2_with (go_at_call 14; refine (rk_turn_nil a c h _).mono ?_; rintro x w7 ⟨rfl, b7⟩; have D7 := Lib.hid (Dd.out.below b7); obtain ⟨p0, p1, pf⟩ := D7.out.cells; have D8 := Lib.hid (D7.out.store (T' := []) (h' := h) rfl D7.out.k D7.out.e); clear b7)
            go_meet
            exact ⟨[], h, a, 0, c, Lib.hid ⟨⟨_, o, D8.out, by have := Ho.out; omega⟩, by simpa using HTM.out, fun t ht => by simp at ht⟩⟩
        · as_aux_lemma =>
            have hnp : 0 < n := by rw [← D0.out.hn]; exact List.length_pos_iff.2 hT
            have hhn : h < n := by
              rcases D0.out.r.hh with h1 | h1
              · rw [D0.out.hn] at h1; exact h1
              · exact absurd h1.1 hT
            have hn1 : n ≤ 100000 := by have := HTM.out; rw [D0.out.hn] at this; have := HM.out; omega
            have hnp1 : (0 : Int) < (n : Int) := by omega
            have Dd := Lib.hid (D0.out.below (Below.refl _ _).drew)
            have y0 := Dd.out.cells.1
            have HTn := Lib.hid hT
            clear hT
            go_upto_region 16 with fail
            go_region_held3 (fun w' => w'.cell? ⟨X, 0, none⟩ = some (.slice a n c)) (first | exact y0 | exact y6 | go_keep)
              (first | (go_at_call 13; refine (ri_turn Dd.out.r HTn.out).mono ?_; rintro x w6 ⟨rfl, r6, k6⟩; rw [Dd.out.hn] at r6; have D6 := Lib.hid (Dd.out.kept r6 k6); have y6 := D6.out.cells.1; clear r6 k6))
            clear e0 e1 zf y0
            obtain ⟨g0, g1, gf⟩ := D6.out.cells
            go_wp2_with (go_at_call 14; refine (rk_turn a n c h _ hhn hn1).mono ?_; rintro x w7 ⟨rfl, b7⟩; have D7 := Lib.hid (D6.out.below b7); obtain ⟨p0, p1, pf⟩ := D7.out.cells; have D8 := Lib.hid (D7.out.store (T' := T) (h' := tuH h n) D7.out.hn D7.out.k D7.out.e); clear b7)
            go_meet
            exact ⟨T, _, a, n, c, Lib.hid ⟨⟨_, o, D8.out, by have := Ho.out; omega⟩, HTM.out, fun t ht => by have := HSZ.out t ht; omega⟩⟩
      have h9' : k < (9 : Int) := by omega
      by_cases hbad : k < 0 ∨ 2 < k ∨ sgC y.l = false
      · have PB := Lib.hid fun (wx : World) (d : Kd w T0 P X M o T h T h a n c wx) => kd_bad d y (HY.out.below d.b) hy60 k hbad
        have fin : ∀ wx, Kd w T0 P X M o T h T h a n c wx → ∃ (T : List (List Sg2)) (h : Nat) (a : Option Addr) (n c : Nat), Hid (KLoop w P X M (j + 1) T h a n c wx) := fun wx d => ⟨T, h, a, n, c, Lib.hid ⟨⟨_, o, d, by have := Ho.out; omega⟩, HTM.out, fun t ht => by have := HSZ.out t ht; omega⟩⟩
        have FIN := Lib.hid fin
        clear fin
        by_cases hb1 : k < 0
        · as_aux_lemma =>
            clear hbad
            go_wp2_with (go_at_call 15; refine (PB.out _ D0.out).mono ?_; rintro x w6 ⟨rfl, b6⟩; have D6 := Lib.hid (D0.out.below b6); have X6 := Lib.hid (X0.out.below b6); have yy := fun i => cell_of_row _ _ i _ _ _ X6.out.c; have q0 := yy 0; have q1 := yy 1; dsimp at q0 q1; clear yy b6)
            go_meet
            exact FIN.out _ D6.out
        by_cases hb2 : 2 < k
        · as_aux_lemma =>
            clear hbad
            go_wp2_with (go_at_call 15; refine (PB.out _ D0.out).mono ?_; rintro x w6 ⟨rfl, b6⟩; have D6 := Lib.hid (D0.out.below b6); have X6 := Lib.hid (X0.out.below b6); have yy := fun i => cell_of_row _ _ i _ _ _ X6.out.c; have q0 := yy 0; have q1 := yy 1; dsimp at q0 q1; clear yy b6)
            go_meet
            exact FIN.out _ D6.out
        have hno : sgC y.l = false := by
          rcases hbad with h | h | h
          · exact absurd h hb1
          · exact absurd h hb2
          · exact h
        as_aux_lemma =>
          have AL := Lib.hid fun (wx : World) (d : Kd w T0 P X M o T h T h a n c wx) => (by
            have h1 := sgall_ref y.l y.a y.c wx (by omega) (HY.out.below d.b).1.s
            rw [hno] at h1
            exact h1)
          clear hbad hno
          go_wp2_with (first
            | (go_at_call 15; refine (PB.out _ D0.out).mono ?_; rintro x w6 ⟨rfl, b6⟩; have D6 := Lib.hid (D0.out.below b6); have X6 := Lib.hid (X0.out.below b6); have yy := fun i => cell_of_row _ _ i _ _ _ X6.out.c; have q0 := yy 0; have q1 := yy 1; dsimp at q0 q1; clear yy b6)
            | (go_at_call 16; refine (AL.out _ D6.out).mono ?_; rintro x w7 ⟨rfl, b7⟩; have D7 := Lib.hid (D6.out.below b7); clear b7))
          go_meet
          exact FIN.out _ D7.out
      as_aux_lemma =>
        have hk0 : ¬ k < 0 := fun h => hbad (Or.inl h)
        have hk2 : ¬ 2 < k := fun h => hbad (Or.inr (Or.inl h))
        have hok : sgC y.l = true := by
          cases hc : sgC y.l with
          | true => rfl
          | false => exact absurd (Or.inr (Or.inr hc)) hbad
        have hk012 : k = 0 ∨ k = 1 ∨ k = 2 := by omega
        have hsz : ∀ t ∈ T, t.length ≤ 3600 := fun t ht => by have := HSZ.out t ht; omega
        have PG := Lib.hid fun (wx : World) (d : Kd w T0 P X M o T h T h a n c wx) => kd_push d y (HY.out.below d.b) hy60 k hk012 hok hsz HM.out.1 HM.out.2 (by have := Ho.out; omega) HTM.out
        have AL := Lib.hid fun (wx : World) (b : Below w.heap.size w wx) => (by
          have h1 := sgall_ref y.l y.a y.c wx (by omega) (HY.out.below b).1.s
          rw [hok] at h1
          exact h1)
        have RG := Lib.hid fun (o' : Int) (T1 : List (List Sg2)) (h1 : Nat) (wx : World) (d : Kd w T0 P X M o' T1 h1 T h a n c wx) => kd_rpush d y (HY.out.below d.b) hy60 k hk012 hsz HM.out.1 HM.out.2 HTM.out
        have HL2 := Lib.hid (puK_len HM.out.1 y.l k HTM.out)
        have HS2 : Hid (∀ t ∈ puK M T y.l k, t.length ≤ 60 * (j + 1)) := Lib.hid fun t ht => by have := puK_mem HSZ.out ht; omega
        have hd0 : decide (k < 0) = false := decide_eq_false hk0
        have hd2 : decide (2 < k) = false := decide_eq_false hk2
        clear hbad hok hk012 hsz hk0 hk2
        go_wp2_with (first
          | (go_at_call 15; refine (PG.out _ D0.out).mono ?_; rintro x w6 ⟨rfl, o6, ho6, d6, k6⟩; have D6 := Lib.hid d6; have X6 := Lib.hid (X0.out.kept k6); have yy := fun i => cell_of_row _ _ i _ _ _ X6.out.c; have q0 := yy 0; have q1 := yy 1; dsimp at q0 q1; have Ho6 := Lib.hid ho6; clear yy d6 k6 ho6)
          | (go_at_call 16; refine (AL.out _ D6.out.b).mono ?_; rintro x w7 ⟨rfl, b7⟩; have D7 := Lib.hid (D6.out.below b7); have X7 := Lib.hid (X6.out.below b7); have yy := fun i => cell_of_row _ _ i _ _ _ X7.out.c; have r0 := yy 0; have r1 := yy 1; dsimp at r0 r1; obtain ⟨p0, p1, pf⟩ := D7.out.cells; clear yy b7)
          | (go_at_call 17; refine (RG.out _ _ _ _ D7.out).mono ?_; rintro x w8 ⟨a8, n8, c8, h8, rfl, d8, d8'⟩; have D8 := Lib.hid d8; obtain ⟨s0, s1, sf⟩ := d8'.cells; clear d8 d8'))
        go_meet
        exact ⟨_, _, a8, n8, c8, Lib.hid ⟨⟨_, o6, D8.out, by have := Ho.out; have := Ho6.out; omega⟩, HL2.out, HS2.out⟩⟩
    case rest =>
      as_aux_lemma =>
        obtain ⟨T5, h5, a5, n5, c5, D5⟩ := hcut
        clear e0 e1 zf f0 f1 D0 X0
        obtain ⟨S5, o5, d5, ho5⟩ := D5.out.ex
        have Ho5 := Lib.hid ho5
        have Dd := Lib.hid (d5.below (Below.refl _ _).drew)
        have y0 := Dd.out.cells.1
        have y1 := Dd.out.cells.2.1
        clear d5 ho5
        by_cases hT : T5 = []
        · as_aux_lemma =>
            subst hT
            obtain rfl : n5 = 0 := by have := Dd.out.hn; simpa using this.symm
            go_upto_region 25 with fail
            go_region_held3 (fun w' => w'.cell? ⟨X, 0, none⟩ = some (.slice a5 0 c5) ∧ w'.cell? ⟨X, 1, none⟩ = some (.int .i64 (h5 : Int))) (first | exact ⟨y0, y1⟩ | exact ⟨y07, y17⟩ | exact ⟨y08, y18⟩ | exact ⟨y09, y19⟩ | go_keep)
              (first
                | (go_at_call 18; refine (kd_len Dd.out).mono ?_; rintro x w6 ⟨rfl, h6⟩; subst h6)
                | (go_at_call 20; refine (ri_now_no Dd.out.r).mono ?_; rintro x w6 ⟨rfl, h6⟩; subst h6)
                | (go_at_call 21; refine (rk_now_nil a5 c5 h5 _).mono ?_; rintro x w7 ⟨rfl, b7⟩; have D7 := Lib.hid (Dd.out.below b7); have y07 := D7.out.cells.1; have y17 := D7.out.cells.2.1; clear b7)
                | (go_at_call 19; refine (sg_same_t [] none none 0 0 0 _ rfl (by omega) (signs_nil _ _) (signs_nil _ _)).mono ?_; rintro x w8 ⟨rfl, b8⟩; have D8 := Lib.hid (D7.out.below b8); have y08 := D8.out.cells.1; have y18 := D8.out.cells.2.1; clear b8)
                | (go_at_call 23; refine (ri_all_no D8.out.r).mono ?_; rintro x w9 ⟨rfl, h9⟩; subst h9)
                | (go_at_call 22; refine (rk_lists (fun _ => True) (fun _ => True) [] none a5 0 0 c5 _ rfl (by omega) (fun t ht => by simp at ht) (fun i hi => absurd hi (Nat.not_lt_zero i)) (fun i hi => absurd hi (Nat.not_lt_zero i))).mono ?_; rintro x w9 ⟨rfl, b9⟩; have D9 := Lib.hid (D8.out.below b9); have y09 := D9.out.cells.1; have y19 := D9.out.cells.2.1; clear b9))
            clear y0 y1 y07 y17 y08 y18 y09 y19
            go_wp2
            go_roundw
            case rel => exact ⟨j + 1, [], h5, a5, 0, c5, by omega, by omega, by go_num, Lib.hid ⟨⟨_, o5, D9.out, Ho5.out⟩, D5.out.tm, D5.out.sz⟩⟩
            case measure => (simp [intOf]; try omega)
        · as_aux_lemma =>
            have hnp : 0 < n5 := by rw [← Dd.out.hn]; exact List.length_pos_iff.2 hT
            have hhn : h5 < n5 := by
              rcases Dd.out.r.hh with h1 | h1
              · rw [Dd.out.hn] at h1; exact h1
              · exact absurd h1.1 hT
            have hn1 : n5 ≤ 1000 := by have := D5.out.tm; rw [Dd.out.hn] at this; have := HM.out; omega
            have htl : (T5.getD h5 []).length ≤ 3600 := by have := D5.out.sz _ (getD_memT (show h5 < T5.length by rw [Dd.out.hn]; exact hhn)); omega
            have hsz := Lib.hid D5.out.sz
            obtain ⟨m, hm⟩ : ∃ m, (T5.getD h5 []).length = m := ⟨_, rfl⟩
            have NWr := Lib.hid (ri_now Dd.out.r hT)
            have NWk := Lib.hid fun (wx : World) (d : Kd w S5 P X M o5 T5 h5 T5 h5 a5 n5 c5 wx) => rk_now _ T5 a5 n5 c5 h5 wx d.hn hhn (by omega) d.k
            rw [hm] at NWr NWk
            have Hm := Lib.hid hm
            rw [hm] at htl
            have HTn := Lib.hid hT
            have ALr := Lib.hid fun (wx : World) (d : Kd w S5 P X M o5 T5 h5 T5 h5 a5 n5 c5 wx) => (by
              have h1 := ri_all d.r hT (by rw [d.hn]; exact hn1)
              rw [d.hn] at h1
              exact h1)
            have LEr := Lib.hid (by
              have h1 := kd_len Dd.out
              rw [Dd.out.hn] at h1
              exact h1)
            clear hT hm
            go_upto_region 25 with fail
            go_region_held3 (fun w' => w'.cell? ⟨X, 0, none⟩ = some (.slice a5 n5 c5) ∧ w'.cell? ⟨X, 1, none⟩ = some (.int .i64 (h5 : Int))) (first | exact ⟨y0, y1⟩ | exact ⟨y06, y16⟩ | exact ⟨y07, y17⟩ | exact ⟨y08, y18⟩ | exact ⟨y09, y19⟩ | exact ⟨y010, y110⟩ | go_keep)
              (first
                | (go_at_call 18; refine LEr.out.mono ?_; rintro x w6 ⟨rfl, h6⟩; subst h6)
                | (go_at_call 20; refine NWr.out.mono ?_; rintro x w6 ⟨b6, e6, rfl, s6, bl6⟩; have D6 := Lib.hid (Dd.out.below bl6); have S6 := Lib.hid s6; have y06 := D6.out.cells.1; have y16 := D6.out.cells.2.1; clear bl6 s6)
                | (go_at_call 21; refine (NWk.out _ D6.out).mono ?_; rintro x w7 ⟨b7, e7, rfl, s7, bl7⟩; have D7 := Lib.hid (D6.out.below bl7); have S7 := Lib.hid s7; have S67 : Hid (Signs w7 b6 (T5.getD h5 [])) := Lib.hid (by obtain ⟨a2, c2, e2, hs2⟩ := S6.out.sl; rw [Hm.out] at e2; injection e2 with e2 e3 e4; subst e2; exact hs2.s.below bl7); have y07 := D7.out.cells.1; have y17 := D7.out.cells.2.1; clear bl7 s7)
                | (go_at_call 19; refine (sg_same_t (T5.getD h5 []) _ _ m _ _ _ Hm.out (by omega) S67.out S7.out.s).mono ?_; rintro x w8 ⟨rfl, b8⟩; have D8 := Lib.hid (D7.out.below b8); have y08 := D8.out.cells.1; have y18 := D8.out.cells.2.1; clear b8)
                | (go_at_call 23; refine (ALr.out _ D8.out).mono ?_; rintro x w9 ⟨b9, e9, rfl, s9, bl9⟩; have D9 := Lib.hid (D8.out.below bl9); have S9 := Lib.hid s9; have y09 := D9.out.cells.1; have y19 := D9.out.cells.2.1; clear bl9 s9)
                | (go_at_call 22; refine (rk_lists _ _ T5 _ a5 n5 _ c5 _ D9.out.hn (by omega) (fun t ht => by have := hsz.out t ht; omega) S9.out D9.out.k).mono ?_; rintro x w10 ⟨rfl, b10⟩; have D10 := Lib.hid (D9.out.below b10); have y010 := D10.out.cells.1; have y110 := D10.out.cells.2.1; clear b10))
            clear y0 y1 y06 y16 y07 y17 y08 y18 y09 y19 y010 y110
            go_wp2
            go_roundw
            case rel => exact ⟨j + 1, T5, h5, a5, n5, c5, by omega, by omega, by go_num, Lib.hid ⟨⟨_, o5, D10.out, Ho5.out⟩, D5.out.tm, D5.out.sz⟩⟩
            case measure => (simp [intOf]; try omega)
theorem killdoes_any (M : Int) (l : List (Int × SgArg)) (aL : Option Addr) (cL : Nat) (w : World) (hK : UT w) (hl : l.length ≤ 9223372036854775807) (hL : KCallsIn w w.heap.size aL l) : Calls Tryd.prog 3 #[.int .i64 M, .slice aL l.length cL] w fun x w' => x = .returned (.bool true) ∧ Below w.heap.size w w' := by
  by_cases hM : 1 ≤ M ∧ M ≤ 60
  · exact killdoes_yes M l aL cL w hK hl hL hM
  · exact killdoes_no M _ w hK hM
end Go.Proofs.YtdhhfbglbihapaaDoor
