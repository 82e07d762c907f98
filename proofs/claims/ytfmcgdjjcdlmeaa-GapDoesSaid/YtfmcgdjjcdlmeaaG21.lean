/-
  Gap buffers beside a line that they should say.
-/
import Derived.Test.YtfmcgdjjcdlmeaaG19
import Derived.Test.YtfmcgdjjcdlmeaaG20
import Derived.Test.YtfmcgdjjcdlmeaaArgC
set_option linter.unusedVariables false
set_option linter.unusedSimpArgs false
namespace Go.Proofs.Ytfmcgdjjcdlmeaa
set_option maxRecDepth 100000
open Go.RowKit
theorem GapSt.set {S : Nat → Prop} {p : Nat} {M : Int} {L : List Sn} {a : Nat} {w : World} (h : GapSt S p M L a w) {X : Nat} (hX : S X) (i : Nat) (u : Value) : GapSt S p M L a (w.setCell ⟨X, i, none⟩ u) := by
  obtain ⟨v, R, e, h4, h5, h6⟩ := h
  have hx := h6 X hX
  refine ⟨v, R, e, ⟨?_, h4.room.keep fun r hr => ?_, h4.le1, h4.le2, h4.big, h4.m1, h4.m2⟩, h5, fun k hk => ?_⟩
  · exact (Below.heap_setCell _ _ _ _ (Ne.symm hx.2.1)).trans h4.blk
  · exact Below.heap_setCell _ _ _ _ (fun e => hx.2.2 (by rw [hr, e]))
  · have := h6 k hk
    exact ⟨by simpa [World.setCell] using this.1, this.2⟩
theorem SlS.set {S : Nat → Prop} {w : World} {a : Option Addr} {L : List Sn} {c : Nat} {X : Nat} (h : SlS (fun k => S k ∧ k ≠ X) w a L c) (i : Nat) (u : Value) : SlS (fun k => S k ∧ k ≠ X) (w.setCell ⟨X, i, none⟩ u) a L c :=
  h.keep (by simp [World.setCell]) (fun k hk => Below.heap_setCell _ _ _ _ hk.2)
/-- A buffer says L1, its cursor is at a1; a line at X says L, a. -/
structure Gd (w : World) (S : Nat → Prop) (P X : Nat) (M : Int) (L1 : List Sn) (a1 : Nat) (L : List Sn) (n a : Nat) (ad : Option Addr) (c : Nat) (wr : World) : Prop where
  g : GapSt S P M L1 a1 wr
  hn : L.length = n
  x : wr.heap[X]? = some (.cells #[.slice ad n c, .int .i64 (a : Int)] 30 (0, 0))
  sl : SlS (fun k => S k ∧ k ≠ X) wr ad L c
  sX : S X
  sw : ∀ k, k < w.heap.size → S k
  xw : w.heap.size ≤ X
  b : Below w.heap.size w wr
/-- A box that stays. -/
structure Bx (S : Nat → Prop) (X C : Nat) (cc : Array Value) (wr : World) : Prop where
  c : wr.heap[C]? = some (.cells cc 32 (0, 0))
  s : S C
  ne : C ≠ X
section
variable {w : World} {S : Nat → Prop} {P X : Nat} {M : Int} {L1 : List Sn} {a1 : Nat} {L : List Sn} {n a : Nat} {ad : Option Addr} {c : Nat} {wr : World}
def newB (S : Nat → Prop) (wr w' : World) : Nat → Prop := fun k => S k ∨ (wr.heap.size ≤ k ∧ k < w'.heap.size)
theorem Gd.below (h : Gd w S P X M L1 a1 L n a ad c wr) {w' : World} (hb : Below wr.heap.size wr w') : Gd w S P X M L1 a1 L n a ad c w' :=
  ⟨h.g.grow hb (fun k hk => Or.inl hk), h.hn, blk_below h.x hb, h.sl.below hb, h.sX, h.sw, h.xw, seqB h.b hb⟩
theorem Gd.grow (h : Gd w S P X M L1 a1 L n a ad c wr) {w' : World} (hb : Below wr.heap.size wr w') : Gd w (newB S wr w') P X M L1 a1 L n a ad c w' :=
  ⟨h.g.grow hb (fun k hk => hk), h.hn, blk_below h.x hb, (h.sl.below hb).mono (fun k hk => ⟨Or.inl hk.1, hk.2⟩), Or.inl h.sX, fun k hk => Or.inl (h.sw k hk), h.xw, seqB h.b hb⟩
theorem Gd.kept (h : Gd w S P X M L1 a1 L n a ad c wr) {w' : World} {L2 : List Sn} {a2 : Nat} (g : GapSt S P M L2 a2 w') (k : KeptS S wr w') : Gd w S P X M L2 a2 L n a ad c w' :=
  ⟨g, h.hn, (k.block X h.sX).trans h.x, h.sl.keep k.size (fun j hj => k.block j hj.1), h.sX, h.sw, h.xw, h.b.trans (k.below w.heap.size h.sw)⟩
theorem Gd.lt (h : Gd w S P X M L1 a1 L n a ad c wr) : ∀ k, S k → k < wr.heap.size := fun k hk => by
  obtain ⟨v, R, e, _, _, h6⟩ := h.g
  exact (h6 k hk).1
theorem Gd.cells (h : Gd w S P X M L1 a1 L n a ad c wr) : wr.cell? ⟨X, 0, none⟩ = some (.slice ad n c) ∧ wr.cell? ⟨X, 1, none⟩ = some (.int .i64 (a : Int)) ∧ ∀ i, wr.frozen? ⟨X, i, none⟩ = false := by
  have y := fun i => cell_of_row _ _ i _ _ _ h.x
  exact ⟨y 0, y 1, fun i => frozen_of_row _ X i _ _ h.x⟩
/-- Another line comes into the box. -/
theorem Gd.store (h : Gd w S P X M L1 a1 L n a ad c wr) {L' : List Sn} {n' a' : Nat} {ad' : Option Addr} {c' : Nat} (ai : Int) (hai : ai = (a' : Int)) (hn : L'.length = n') (sl : SlS (fun k => S k ∧ k ≠ X) wr ad' L' c') :
    Gd w S P X M L1 a1 L' n' a' ad' c' ((wr.setCell ⟨X, 0, none⟩ (.slice ad' n' c')).setCell ⟨X, 1, none⟩ (.int .i64 ai)) := by
  subst hai
  exact ⟨(h.g.set h.sX 0 _).set h.sX 1 _, hn, blk_set (blk_set h.x 0 _) 1 _, (sl.set 0 _).set 1 _, h.sX, h.sw, h.xw, two_below _ w X _ _ h.xw h.b⟩
/-- .. one that was made since. -/
theorem Gd.storeNew (h : Gd w S P X M L1 a1 L n a ad c wr) {w' : World} (hb : Below wr.heap.size wr w') {L' : List Sn} {n' a' : Nat} {ad' : Option Addr} {c' : Nat} (ai : Int) (hai : ai = (a' : Int)) (hn : L'.length = n') (sl : SlS (fun k => wr.heap.size ≤ k ∧ k < w'.heap.size) w' ad' L' c') :
    Gd w (newB S wr w') P X M L1 a1 L' n' a' ad' c' ((w'.setCell ⟨X, 0, none⟩ (.slice ad' n' c')).setCell ⟨X, 1, none⟩ (.int .i64 ai)) := by
  have hx := h.lt X h.sX
  exact (h.grow hb).store ai hai hn (sl.mono fun k hk => ⟨Or.inr hk, by omega⟩)
theorem Gd.nums (h : Gd w S P X M L a L n a ad c wr) : a ≤ n ∧ n ≤ 65536 := by
  have := h.g.nums
  rw [h.hn] at this
  exact ⟨this.1, this.2.1⟩
theorem Gd.storeA (h : Gd w S P X M L1 a1 L n a ad c wr) (a' : Nat) : Gd w S P X M L1 a1 L n a' ad c (wr.setCell ⟨X, 1, none⟩ (.int .i64 (a' : Int))) :=
  ⟨h.g.set h.sX 1 _, h.hn, blk_set h.x 1 _, h.sl.set 1 _, h.sX, h.sw, h.xw, h.b.setCell (p := ⟨X, 1, none⟩) h.xw _⟩
theorem Bx.below {C : Nat} {cc : Array Value} (h : Bx S X C cc wr) {w' : World} (hb : Below wr.heap.size wr w') : Bx S X C cc w' := ⟨blk_below h.c hb, h.s, h.ne⟩
theorem Bx.grow {C : Nat} {cc : Array Value} (h : Bx S X C cc wr) {w' : World} (hb : Below wr.heap.size wr w') : Bx (newB S wr w') X C cc w' := ⟨blk_below h.c hb, Or.inl h.s, h.ne⟩
theorem Bx.kept {C : Nat} {cc : Array Value} (h : Bx S X C cc wr) {w' : World} (k : KeptS S wr w') : Bx S X C cc w' := ⟨(k.block C h.s).trans h.c, h.s, h.ne⟩
/-- A box that is made. -/
theorem Bx.new (h : Gd w S P X M L1 a1 L n a ad c wr) (cc : Array Value) {w' : World} (hw : wr.alloc (.cells cc 32) = w') : Bx (newB S wr w') X wr.heap.size cc w' ∧ Below wr.heap.size wr w' := by
  subst hw
  refine ⟨⟨heap_alloc_new _ _, Or.inr ⟨Nat.le_refl _, by simp⟩, ?_⟩, below_alloc _ _⟩
  have := blk_lt h.x; omega
theorem Bx.cells {C : Nat} {v0 v1 v2 : Value} (h : Bx S X C #[v0, v1, v2] wr) : wr.cell? ⟨C, 0, none⟩ = some v0 ∧ wr.cell? ⟨C, 1, none⟩ = some v1 ∧ wr.cell? ⟨C, 2, none⟩ = some v2 := by
  have y := fun i => cell_of_row _ _ i _ _ _ h.c
  exact ⟨y 0, y 1, y 2⟩
theorem gd_len (h : Gd w S P X M L a L n a ad c wr) : Calls Try.prog 20 #[.pointer (some ⟨P, 0, none⟩)] wr fun x w' => x = .returned (.int .i64 (n : Int)) ∧ Below wr.heap.size wr w' := by
  have := st_len h.g
  rw [h.hn] at this
  exact this
theorem gd_at (h : Gd w S P X M L a L n a ad c wr) : Calls Try.prog 21 #[.pointer (some ⟨P, 0, none⟩)] wr fun x w' => x = .returned (.int .i64 (a : Int)) ∧ wr = w' := st_at h.g
theorem gd_all (h : Gd w S P X M L a L n a ad c wr) : Calls Try.prog 22 #[.pointer (some ⟨P, 0, none⟩)] wr fun x w' => ∃ bd, x = .returned (.slice bd n n) ∧ Signs w' bd L ∧ Below wr.heap.size wr w' := by
  refine (st_all h.g).mono ?_
  rintro x w' ⟨bd, rfl, hu, hb⟩
  obtain ⟨bd', e, hs, _⟩ := hu.signs
  cases e
  exact ⟨bd, by rw [h.hn], hs, hb⟩
theorem gd_line (h : Gd w S P X M L a L n a ad c wr) : Calls Try.prog 24 #[.pointer (some ⟨P, 0, none⟩)] wr fun x w' => ∃ bd, x = .returned (.agg #[.slice bd n n, .int .i64 (a : Int)]) ∧ Signs w' bd L ∧ Below wr.heap.size wr w' := by
  refine (st_line h.g).mono ?_
  rintro x w' ⟨bd, rfl, hu, hb⟩
  obtain ⟨bd', e, hs, _⟩ := hu.signs
  cases e
  exact ⟨bd, by rw [h.hn], hs, hb⟩
theorem gd_same (h : Gd w S P X M L1 a1 L n a ad c wr) (bd : Option Addr) (d : Nat) (hs : Signs wr bd L) (hl : n ≤ 1000000) : Calls Try.prog 14 #[.slice bd n d, .slice ad n c] wr fun x w' => x = .returned (.bool true) ∧ Below wr.heap.size wr w' := by
  have hn := h.hn
  have := sgsame_ref L L bd ad d c wr (by omega) (by omega) hs h.sl.s
  rw [decide_eq_true (rfl : L = L), hn] at this
  exact this
theorem gd_lsame (h : Gd w S P X M L1 a1 L n a ad c wr) (bd : Option Addr) (d : Nat) (hs : Signs wr bd L) (hl : n ≤ 1000000) : Calls Try.prog 23 #[.agg #[.slice bd n d, .int .i64 (a : Int)], .agg #[.slice ad n c, .int .i64 (a : Int)]] wr fun x w' => x = .returned (.bool true) ∧ Below wr.heap.size wr w' := by
  have hn := h.hn
  have := lsame_ref L (a : Int) bd ad d c wr (by omega) hs h.sl.s
  rw [hn] at this
  exact this
theorem gd_insert (h : Gd w S P X M L a L n a ad c wr) {b : Option Addr} {l : List Sn} {m d : Nat} (hm : l.length = m) (hs : SlS S wr b l d) (hok : sgC l = true) (hM : (m : Int) + (n : Int) ≤ M) :
    Calls Try.prog 9 #[.pointer (some ⟨P, 0, none⟩), .slice b m d] wr fun x w' => x = .returned (.int .i64 0) ∧ Gd w S P X M (L.take a ++ l ++ L.drop a) (a + m) L n a ad c w' ∧ KeptS S wr w' := by
  have hn := h.hn
  subst hm
  refine (st_insert d h.g hs.s (fun hne x e => hs.st x e hne) hok (by rw [hn]; exact hM)).mono ?_
  rintro x w' ⟨rfl, g, k⟩
  exact ⟨rfl, h.kept g k, k⟩
theorem gd_set (h : Gd w S P X M L a L n a ad c wr) {b : Option Addr} {l : List Sn} {m d : Nat} (i : Int) (hm : l.length = m) (hs : SlS S wr b l d) (hok : sgC l = true) (hM : (m : Int) ≤ M) (hi : i ≤ 9223372036854775807) :
    Calls Try.prog 18 #[.pointer (some ⟨P, 0, none⟩), .slice b m d, .int .i64 i] wr fun x w' => x = .returned (.int .i64 0) ∧ Gd w S P X M l (mvT m i) L n a ad c w' ∧ KeptS S wr w' := by
  subst hm
  refine (st_set d i h.g hs.s (fun hne x e => hs.st x e hne) hok hM hi).mono ?_
  rintro x w' ⟨rfl, g, k⟩
  exact ⟨rfl, h.kept g k, k⟩
theorem gd_move (h : Gd w S P X M L a L n a ad c wr) (i : Int) (hi : i ≤ 9223372036854775807) :
    Calls Try.prog 17 #[.pointer (some ⟨P, 0, none⟩), .int .i64 i] wr fun x w' => x = .returned (.tuple #[]) ∧ Gd w S P X M L (mvT n i) L n a ad c w' ∧ KeptS S wr w' := by
  refine (st_move i h.g hi).mono ?_
  rintro x w' ⟨rfl, g, k⟩
  rw [h.hn] at g
  exact ⟨rfl, h.kept g k, k⟩
theorem gd_get_in (h : Gd w S P X M L a L n a ad c wr) (p : Nat) (hp : p < n) : ∃ (x y : Int) (b o : Nat), ad = some ⟨b, o, none⟩ ∧ wr.cell? ⟨b, o + p * 2, none⟩ = some (.int .i64 x) ∧ wr.cell? ⟨b, o + p * 2 + 1, none⟩ = some (.int .i64 y) ∧ b < wr.heap.size ∧
    Calls Try.prog 19 #[.pointer (some ⟨P, 0, none⟩), .int .i64 (p : Int)] wr fun x' w' => x' = .returned (.tuple #[.agg #[.int .i64 x, .int .i64 y], .bool true]) ∧ Below wr.heap.size wr w' := by
  have hn := h.hn
  obtain ⟨b, o, e, hb, h1, h2⟩ := h.sl.s p (by omega)
  have := st_get (p : Int) h.g
  unfold gtV gtB at this
  rw [if_pos (by omega), Int.toNat_natCast, decide_eq_true (by omega : (0 : Int) ≤ (p : Int) ∧ (p : Int) < (L.length : Int))] at this
  exact ⟨_, _, b, o, e, h1, h2, hb, this⟩
theorem gd_get_out (h : Gd w S P X M L a L n a ad c wr) (i : Int) (hi : i < 0 ∨ (n : Int) ≤ i) :
    Calls Try.prog 19 #[.pointer (some ⟨P, 0, none⟩), .int .i64 i] wr fun x' w' => x' = .returned (.tuple #[.agg #[.int .i64 0, .int .i64 0], .bool false]) ∧ Below wr.heap.size wr w' := by
  have hn := h.hn
  have := st_get i h.g
  have hv : gtV L i = (0, 0) := by
    unfold gtV; split
    · rw [List.getD, List.getElem?_eq_none (by omega)]; rfl
    · rfl
  unfold gtB at this
  rw [hv, decide_eq_false (by omega : ¬ ((0 : Int) ≤ i ∧ i < (L.length : Int)))] at this
  exact this
theorem gd_get (h : Gd w S P X M L a L n a ad c wr) (i : Int) : Calls Try.prog 19 #[.pointer (some ⟨P, 0, none⟩), .int .i64 i] wr fun x w' => x = .returned (.tuple #[.agg #[.int .i64 (gtV L i).1, .int .i64 (gtV L i).2], .bool (gtB L i)]) ∧ Below wr.heap.size wr w' := st_get i h.g
theorem gd_insert_err (h : Gd w S P X M L a L n a ad c wr) {b : Option Addr} {l : List Sn} {m d : Nat} (er : Int) (hm : l.length = m) (hs : SlS S wr b l d) (hl : m ≤ 100000) (her : gmE l M (n : Int) = er) (hne : er ≠ 0) :
    Calls Try.prog 9 #[.pointer (some ⟨P, 0, none⟩), .slice b m d] wr fun x w' => x = .returned (.int .i64 er) ∧ Below wr.heap.size wr w' := by
  subst hm
  exact st_insert_err d er h.g hs.s (by omega) (by rw [h.hn]; exact her) hne
theorem gd_set_err (h : Gd w S P X M L a L n a ad c wr) {b : Option Addr} {l : List Sn} {m d : Nat} (i : Int) (er : Int) (hm : l.length = m) (hs : SlS S wr b l d) (hl : m ≤ 100000) (her : gmE l M 0 = er) (hne : er ≠ 0) :
    Calls Try.prog 18 #[.pointer (some ⟨P, 0, none⟩), .slice b m d, .int .i64 i] wr fun x w' => x = .returned (.int .i64 er) ∧ Below wr.heap.size wr w' := by
  subst hm
  exact st_set_err d i er h.g hs.s (by omega) her hne
theorem gd_cut (h : Gd w S P X M L a L n a ad c wr) (i : Int) (hn1 : -9223372036854775808 ≤ i) (hn2 : i ≤ 9223372036854775807) (f t : Nat) (hf : cutF a i = f) (ht : cutT n a i = t) :
    Calls Try.prog 15 #[.pointer (some ⟨P, 0, none⟩), .int .i64 i] wr fun x w' => ∃ bd, x = .returned (.slice bd (t - f) (t - f)) ∧ Signs w' bd ((L.drop f).take (t - f)) ∧ Gd w S P X M (L.take f ++ L.drop t) f L n a ad c w' ∧ KeptS S wr w' := by
  refine (st_cut i h.g hn1 hn2 f t hf (by rw [h.hn]; exact ht)).mono ?_
  rintro x w' ⟨bd, rfl, hu, hlen, g, k⟩
  obtain ⟨bd', e, hs, _⟩ := hu.signs
  rw [hlen] at e
  cases e
  exact ⟨bd, rfl, hs, h.kept g k, k⟩
end
end Go.Proofs.Ytfmcgdjjcdlmeaa
