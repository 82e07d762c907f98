/-
  Joined: In0 In1 In2 In3 Tp1 In4 In5 Tp2 In6 In7 In8 In9.
-/
import Derived.Test.YtangpdaoacjinaaDoorJW04
import Derived.Test.YtangpdaoacjinaaDoorJW06
import Derived.Test.YtangpdaoacjinaaDoorJW07
import Derived.Test.YtangpdaoacjinaaDoorJW08
import Derived.Test.YtangpdaoacjinaaDoorJW09
import Derived.Test.YtangpdaoacjinaaDoorJW12
import Derived.Deep.RegionHeld3
import Derived.BigQuiet
import Derived.WalkMore
import Derived.ScopeJumps
set_option linter.unusedVariables false
set_option linter.unusedSimpArgs false
set_option maxRecDepth 100000
set_option linter.unusedVariables false
set_option linter.unusedSimpArgs false
namespace Go.Proofs.YtangpdaoacjinaaDoor
open Go.RowKit
/-- An input, by what it holds. -/
structure IS where
  most : Int
  wait : List UInt8
  pas : Bool
  pb : List UInt8
  ct : Nat
  mt : Nat
def u8L (l : List UInt8) : List Value := l.map fun b => Value.int .u8 (b.toNat : Int)
/-- A row of bytes of the object's own. -/
def OwU (w : World) (v : Value) (l : List UInt8) : Prop := w.ownsRow 0 5 1 v l.length (u8L l)
theorem owu_nil (w : World) : OwU w (.slice none 0 0) [] := World.ownsRow_nil _ _ _ _
theorem OwU.below {w w' : World} {v : Value} {l : List UInt8} (h : OwU w v l) (hb : Below w.heap.size w w') : OwU w' v l := by
  refine h.kept (row := none) ⟨hb.os, hb.tape, hb.output, hb.size, fun k hk _ => hb.block k hk⟩ ?_
  cases v.ownBlock <;> simp
/-- The object's cells. -/
def inC (s : IS) (bv : Value) : Array Value := #[.int .i64 s.most, .string (mkL s.wait), .bool s.pas, bv, .int .i64 (s.ct : Int), .int .i64 (s.mt : Int)]
/-- An input lies at p, the keys under way behind q; the blocks S are none of theirs. -/
structure InS (S : Nat → Prop) (p q B : Nat) (s : IS) (K : List Ky) (w : World) : Prop where
  ex : ∃ bv kv, w.heap[p]? = some (.cells (inC s bv) 275 (0, 0)) ∧ OwU w bv s.pb ∧
    w.heap[q]? = some (.cells #[kv] 223 (0, 0)) ∧ OwK w B kv K ∧
    ∀ k, S k → k < w.heap.size ∧ k ≠ p ∧ k ≠ q ∧ bv.ownBlock ≠ some k ∧ kv.ownBlock ≠ some k
  le : B ≤ w.heap.size
theorem tIn_ne_q : 275 ≠ 223 := by decide
theorem tIn_ne_u : 275 ≠ 5 := by decide
theorem tIn_ne_k : 275 ≠ 171 := by decide
theorem tq_ne_u : 223 ≠ 5 := by decide
theorem tq_ne_k : 223 ≠ 171 := by decide
theorem tu_ne_k : 5 ≠ 171 := by decide
theorem blk_ne {w : World} {a b : Nat} {c d : Array Value} {t u : TypeId} {f g : Nat × Nat} (h : w.heap[a]? = some (.cells c t f)) (h' : w.heap[b]? = some (.cells d u g)) (hT : t ≠ u) : a ≠ b := by
  rintro rfl
  rw [h] at h'; simp at h'; exact hT h'.2.1
section
variable {S : Nat → Prop} {p q B : Nat} {s : IS} {K : List Ky} {w w' : World}
theorem InS.grow (h : InS S p q B s K w) (hb : Below w.heap.size w w') {T : Nat → Prop} (hT : ∀ k, T k → S k ∨ (w.heap.size ≤ k ∧ k < w'.heap.size)) : InS T p q B s K w' := by
  obtain ⟨bv, kv, h1, h2, h3, h4, h5⟩ := h.ex
  refine ⟨⟨bv, kv, blk_below h1 hb, h2.below hb, blk_below h3 hb, h4.below hb, fun k hk => ?_⟩, Nat.le_trans h.le hb.size⟩
  rcases hT k hk with hk | ⟨hk1, hk2⟩
  · have := h5 k hk
    exact ⟨Nat.lt_of_lt_of_le this.1 hb.size, this.2⟩
  · refine ⟨hk2, fun e => ?_, fun e => ?_, fun e => ?_, fun e => ?_⟩
    · have := blk_lt h1; omega
    · have := blk_lt h3; omega
    · have := (h2.lt k e).2; omega
    · have := (h4.lt k e).2; omega
theorem InS.below (h : InS S p q B s K w) (hb : Below w.heap.size w w') : InS S p q B s K w' := h.grow hb (fun _ hk => Or.inl hk)
theorem InS.lt (h : InS S p q B s K w) : ∀ k, S k → k < w.heap.size := fun k hk => by
  obtain ⟨_, _, _, _, _, _, h5⟩ := h.ex
  exact (h5 k hk).1
theorem InS.ne (h : InS S p q B s K w) : ∀ k, S k → k ≠ p ∧ k ≠ q := fun k hk => by
  obtain ⟨_, _, _, _, _, _, h5⟩ := h.ex
  exact ⟨(h5 k hk).2.1, (h5 k hk).2.2.1⟩
theorem InS.pq (h : InS S p q B s K w) : p ≠ q := by
  obtain ⟨_, _, h1, _, h3, _⟩ := h.ex
  exact blk_ne h1 h3 tIn_ne_q
theorem InS.p_lt (h : InS S p q B s K w) : p < w.heap.size ∧ q < w.heap.size := by
  obtain ⟨_, _, h1, _, h3, _⟩ := h.ex
  exact ⟨blk_lt h1, blk_lt h3⟩
/-- A cell of the object is set, the bytes' aside. -/
theorem InS.setC (h : InS S p q B s K w) (i : Nat) (v : Value) (s' : IS) (hs : ∀ bv, (inC s bv).setIfInBounds i v = inC s' bv) (hp : s'.pb = s.pb) :
    InS S p q B s' K (w.setCell ⟨p, i, none⟩ v) ∧ KeptM S w (w.setCell ⟨p, i, none⟩ v) := by
  obtain ⟨bv, kv, h1, h2, h3, h4, h5⟩ := h.ex
  have hz : (w.setCell ⟨p, i, none⟩ v).heap.size = w.heap.size := by simp [World.setCell]
  have n1 : bv.ownBlock ≠ some p := own_ne_kind h2 h1 tIn_ne_u
  have n2 : kv.ownBlock ≠ some p := own_ne_kind h4 h1 tIn_ne_k
  have e := blk_set h1 i v
  rw [hs bv] at e
  refine ⟨⟨⟨bv, kv, e, ?_, (Below.heap_setCell _ _ _ _ (fun e => h.pq e.symm)).trans h3, own_set h4 n2 _, fun k hk => by rw [hz]; exact h5 k hk⟩, by rw [hz]; exact h.le⟩, kept_set (fun k hk => (h5 k hk).2.1) i v⟩
  unfold OwU; rw [hp]; exact own_set h2 n1 _
theorem InS.setW (h : InS S p q B s K w) (x : List UInt8) : InS S p q B { s with wait := x } K (w.setCell ⟨p, 1, none⟩ (.string (mkL x))) ∧ KeptM S w (w.setCell ⟨p, 1, none⟩ (.string (mkL x))) :=
  h.setC 1 _ _ (fun _ => rfl) rfl
/-- The keys' row grows by what an append made. -/
theorem InS.putK {w1 : World} {L : List Ky} (h : InS S p q B s K w) {v u : Value} (hv : w.cell? ⟨q, 0, none⟩ = some v) (ho : OwK w1 B u L) (hg : w.grownBy w1 v.ownBlock) (hp : ∀ k, u.ownBlock = some k → v.ownBlock = some k ∨ w.heap.size ≤ k) :
    InS S p q B s L (w1.setCell ⟨q, 0, none⟩ u) ∧ KeptM S w (w1.setCell ⟨q, 0, none⟩ u) := by
  obtain ⟨bv, kv, h1, h2, h3, h4, h5⟩ := h.ex
  have y := cell_of_row _ _ 0 _ _ _ h3
  rw [hv] at y
  obtain rfl : kv = v := by simpa using y.symm
  have hq := blk_lt h3
  have hz : (w1.setCell ⟨q, 0, none⟩ u).heap.size = w1.heap.size := by simp [World.setCell]
  have nq : kv.ownBlock ≠ some q := own_ne_kind h4 h3 tq_ne_k
  have np : kv.ownBlock ≠ some p := own_ne_kind h4 h1 tIn_ne_k
  have hk : ∀ k, k < w.heap.size → k ≠ q → kv.ownBlock ≠ some k → (w1.setCell ⟨q, 0, none⟩ u).heap[k]? = w.heap[k]? := fun k hk1 hk2 hk3 => (Below.heap_setCell _ _ _ _ hk2).trans (hg.block k hk1 (fun e => hk3 e.symm))
  have hu : ∀ k, k < w.heap.size → kv.ownBlock ≠ some k → u.ownBlock ≠ some k := fun k hk1 hk2 e => by
    rcases hp k e with e2 | e2
    · exact hk2 e2
    · omega
  have hq1 : w1.heap[q]? = some (.cells #[kv] 223 (0, 0)) := (hg.block q hq (fun e => nq e.symm)).trans h3
  have hbv : OwU (w1.setCell ⟨q, 0, none⟩ u) bv s.pb := by
    unfold OwU at h2 ⊢
    refine ⟨h2.1, ?_⟩
    rcases h2.2 with h2' | ⟨g, cap, cur, e, hB, hgg, r⟩
    · exact .inl h2'
    · refine .inr ⟨g, cap, cur, e, hB, (hk g (blk_lt hgg) ?_ ?_).trans hgg, r⟩
      · exact blk_ne hgg h3 (Ne.symm tq_ne_u)
      · exact own_ne_kind h4 hgg tu_ne_k
  refine ⟨⟨⟨bv, u, (hk p (blk_lt h1) h.pq np).trans h1, hbv, blk_set hq1 0 u, own_set ho (hu q hq nq) _, fun k hk' => ?_⟩, by rw [hz]; exact Nat.le_trans h.le hg.size⟩, ⟨hg.os, hg.tape, hg.output, by rw [hz]; exact hg.size, fun k hk' => hk k (h5 k hk').1 (h5 k hk').2.2.1 (h5 k hk').2.2.2.2⟩⟩
  have := h5 k hk'
  exact ⟨by rw [hz]; exact Nat.lt_of_lt_of_le this.1 hg.size, this.2.1, this.2.2.1, this.2.2.2.1, hu k this.1 this.2.2.2.2⟩
end
set_option maxHeartbeats 4000000 in
/-- A key is told. -/
theorem tellk_any {S : Nat → Prop} {p q B : Nat} {s : IS} {K : List Ky} {w : World} (k : Ky) (h : InS S p q B s K w) (hK : K.length ≤ 99000) :
    Calls Tryd.prog 194 #[.agg #[.int .i64 k.1, .int .i64 k.2.1, .string k.2.2.1, .bool k.2.2.2], .pointer (some ⟨q, 0, none⟩)] w fun e w' => e = .returned (.tuple #[]) ∧ InS S p q B s (K ++ [k]) w' ∧ KeptM S w w' := by
  obtain ⟨n, hn⟩ : ∃ n, K.length = n := ⟨_, rfl⟩
  have B1 := below_alloc w (.cells #[.int .i64 k.1, .int .i64 k.2.1, .string k.2.2.1, .bool k.2.2.2] 171)
  have q1 := heap_alloc_new w (.cells #[.int .i64 k.1, .int .i64 k.2.1, .string k.2.2.1, .bool k.2.2.2] 171)
  obtain ⟨W, hW⟩ : ∃ W, w.alloc (.cells #[.int .i64 k.1, .int .i64 k.2.1, .string k.2.2.1, .bool k.2.2.2] 171) = W := ⟨_, rfl⟩
  rw [hW] at B1 q1
  have B2 := below_alloc W (.cells #[.int .i64 k.1, .int .i64 k.2.1, .string k.2.2.1, .bool k.2.2.2] 171)
  have S2 := Lib.hid (key_new1 W k)
  obtain ⟨_, kv, _, _, h3, h4, _⟩ := h.ex
  obtain ⟨ad, c, rfl⟩ := h4.form hn
  have h3' := blk_below h3 B1
  have y := cell_of_row _ _ 0 _ _ _ h3'; have d0 := y; clear y; dsimp at d0
  have yy := fun i => cell_of_row _ _ i _ _ _ q1
  have e0 := yy 0; have e1 := yy 1; have e2 := yy 2; have e3 := yy 3
  dsimp at e0 e1 e2 e3
  have B12 := seqB B1 B2
  have H2 := Lib.hid (h.below B12)
  have O2 := Lib.hid (h4.below B12)
  have KP := Lib.hid (KeptM.of (S := S) B12 h.lt)
  have h3'' := blk_below h3 B12
  have y := cell_of_row _ _ 0 _ _ _ h3''; have d2 := Lib.hid y; clear y; dsimp at d2
  have F2 := Lib.hid h3''
  have HN := Lib.hid hn; have HK := Lib.hid hK
  clear h h3 h4 h3' h3'' yy B1 B2 B12 q1 hn hK
  go_enter Tryd.func194, Tryd.ntmps194
  go_wp2_with (at_builtin; refine wpList_app_keys rfl _ _ rfl B _ n K rfl HN.out O2.out (some ⟨W.heap.size, 0, none⟩) 1 1 [k] rfl rfl S2.out (fun e => (by cases e)) ?g3 ?g4 ?_)
  case g3 => have := HN.out; have := HK.out; omega
  case g4 => exact H2.out.le
  intro ad5 c5 w5 o5 g5 p5
  have z5 := (g5.block q H2.out.p_lt.2 (fun e => own_ne_kind O2.out F2.out tq_ne_k e.symm)).trans F2.out
  have zf : w5.frozen? ⟨q, 0, none⟩ = false := frozen_of_row _ q 0 _ _ z5
  have z2 : w5.cell? ⟨q, 0, none⟩ = some (.slice ad n c) := by rw [cell_of_row _ _ _ _ _ _ z5]; rfl
  have HF := Lib.hid (InS.putK H2.out d2.out (L := K ++ [k]) (by exact o5) g5 (fun k h => (p5 k h).imp id (fun h => by simpa using h)))
  clear o5 g5 p5 z5
  go_wp2
  go_end0
  exact ⟨rfl, HF.out.1, KP.out.trans HF.out.2⟩
end Go.Proofs.YtangpdaoacjinaaDoor
set_option linter.unusedVariables false
set_option linter.unusedSimpArgs false
namespace Go.Proofs.YtangpdaoacjinaaDoor
open Go.RowKit
/-- The tables lie in blocks that stay. -/
structure US (S : Nat → Prop) (w : World) : Prop where
  u : UT w
  a : S 4
  b : S 5
theorem US.kept {S : Nat → Prop} {w w' : World} (h : US S w) (k : KeptM S w w') : US S w' := by
  have hc : ∀ b, S b → ∀ i, w'.cell? ⟨b, i, none⟩ = w.cell? ⟨b, i, none⟩ := fun b hb i => by unfold World.cell?; rw [k.block b hb]
  obtain ⟨⟨u1, u2⟩, u3, u4⟩ := h.u
  exact ⟨⟨⟨fun c hc' => (hc _ h.a _).trans (u1 c hc'), fun i hi => ⟨(hc _ h.b _).trans (u2 i hi).1, (hc _ h.b _).trans (u2 i hi).2⟩⟩, Nat.lt_of_lt_of_le u3 k.size, Nat.lt_of_lt_of_le u4 k.size⟩, h.a, h.b⟩
theorem KeptM.refl (S : Nat → Prop) (w : World) : KeptM S w w := ⟨rfl, rfl, rfl, Nat.le_refl _, fun _ _ => rfl⟩
/-- A key by its kind and value. -/
def kv0 (a v : Int) : Ky := (a, v, ⟨#[]⟩, false)
/-- The keys of what waits, settled. -/
def stK (l : List UInt8) : List Ky := if l = [27] then [kv0 5 0] else if pB (mkL l) = true then l.map (fun b => kv0 1 (1114112 + (b.toNat : Int))) else []
/-- The kind of the key that a letter is of; 0: none. -/
def letF (x : Int) : Int := if x = 65 then 7 else if x = 66 then 8 else if x = 67 then 9 else if x = 68 then 10 else if x = 72 then 11 else if x = 70 then 12 else 0
theorem letF_none {x : Int} (h1 : x ≠ 65) (h2 : x ≠ 66) (h3 : x ≠ 67) (h4 : x ≠ 68) (h5 : x ≠ 72) (h6 : x ≠ 70) : letF x = 0 := by
  unfold letF; rw [if_neg h1, if_neg h2, if_neg h3, if_neg h4, if_neg h5, if_neg h6]
theorem letter_any (x : Int) (w : World) : Calls Tryd.prog 320 #[.int .u8 x] w fun e w' => e = .returned (.int .i64 (letF x)) ∧ w = w' := by
  by_cases h1 : x = 65
  · subst h1; go_enter Tryd.func320, Tryd.ntmps320; go_wp2; go_ret; exact ⟨rfl, rfl⟩
  by_cases h2 : x = 66
  · subst h2; go_enter Tryd.func320, Tryd.ntmps320; go_wp2; go_ret; exact ⟨rfl, rfl⟩
  by_cases h3 : x = 67
  · subst h3; go_enter Tryd.func320, Tryd.ntmps320; go_wp2; go_ret; exact ⟨rfl, rfl⟩
  by_cases h4 : x = 68
  · subst h4; go_enter Tryd.func320, Tryd.ntmps320; go_wp2; go_ret; exact ⟨rfl, rfl⟩
  by_cases h5 : x = 72
  · subst h5; go_enter Tryd.func320, Tryd.ntmps320; go_wp2; go_ret; exact ⟨rfl, rfl⟩
  by_cases h6 : x = 70
  · subst h6; go_enter Tryd.func320, Tryd.ntmps320; go_wp2; go_ret; exact ⟨rfl, rfl⟩
  rw [letF_none h1 h2 h3 h4 h5 h6]
  go_enter Tryd.func320, Tryd.ntmps320
  go_wp2
  go_ret
  exact ⟨rfl, rfl⟩
section
variable {S : Nat → Prop} {p q B : Nat} {s : IS} {K : List Ky} {w w' : World}
/-- The object's cells, and that they may be set. -/
theorem InS.cells (h : InS S p q B s K w) : ∃ bv, OwU w bv s.pb ∧ w.cell? ⟨p, 0, none⟩ = some (.int .i64 s.most) ∧ w.cell? ⟨p, 1, none⟩ = some (.string (mkL s.wait)) ∧ w.cell? ⟨p, 2, none⟩ = some (.bool s.pas) ∧ w.cell? ⟨p, 3, none⟩ = some bv ∧
    w.cell? ⟨p, 4, none⟩ = some (.int .i64 (s.ct : Int)) ∧ w.cell? ⟨p, 5, none⟩ = some (.int .i64 (s.mt : Int)) ∧ ∀ i, w.frozen? ⟨p, i, none⟩ = false := by
  obtain ⟨bv, kv, h1, h2, _⟩ := h.ex
  have y := fun i => cell_of_row _ _ i _ _ _ h1
  exact ⟨bv, h2, by rw [y 0]; rfl, by rw [y 1]; rfl, by rw [y 2]; rfl, by rw [y 3]; rfl, by rw [y 4]; rfl, by rw [y 5]; rfl, fun i => frozen_of_row _ p i _ _ h1⟩
theorem idx_run (l : List UInt8) (k : Nat) (hk : k < l.length) (w : World) : (Instr.index 9 (.string (mkL l)) (.int .i64 (k : Int))).run Tryd.prog w = .ok (.int .u8 ((l.getD k 0).toNat : Int)) w := by
  rw [run_index_string (P := Tryd.prog) w 9 (mkL l) .i64 (k : Int) Tryd.underlying9, dif_pos ⟨by omega, by rw [mkL_size]; omega⟩]
  rw [List.getD, List.getElem?_eq_getElem hk]
  rfl
theorem mkL_ne {a b : List UInt8} (h : a ≠ b) : ¬ mkL a = mkL b := fun e => h (by
  have := congrArg ByteArray.data e
  simpa [mkL] using this)
theorem mkL_toList (l : List UInt8) : (mkL l).toList = l := by rw [ByteArray.toList_eq]; simp [mkL]
theorem bq_ne {a b : List UInt8} (h : a ≠ b) : ((mkL a).toList == b) = false := by rw [mkL_toList]; simpa using h
set_option maxHeartbeats 4000000 in
theorem settle_any (h : InS S p q B s K w) (hU : US S w) (hw : s.wait.length ≤ 9) (hK : K.length ≤ 98900) :
    Calls Tryd.prog 196 #[.pointer (some ⟨p, 0, none⟩), .func (.func 194) #[] #[.pointer (some ⟨q, 0, none⟩)]] w fun e w' => e = .returned (.tuple #[]) ∧ InS S p q B { s with wait := [] } (K ++ stK s.wait) w' ∧ KeptM S w w' := by
  have H1 : Hid (InS S p q B { s with wait := [] } K (w.setCell ⟨p, 1, none⟩ (.string ⟨#[]⟩))) := Lib.hid (h.setW []).1
  have K1 : Hid (KeptM S w (w.setCell ⟨p, 1, none⟩ (.string ⟨#[]⟩))) := Lib.hid (h.setW []).2
  obtain ⟨bv, _, _, c1, _, _, _, _, fz⟩ := h.cells
  have f1 := fz 1
  obtain ⟨most, wait, pas, pb, ct, mt⟩ := s
  dsimp only at H1 c1 hw ⊢
  have HK := Lib.hid hK
  by_cases h27 : wait = [27]
  · subst h27
    have TL := Lib.hid (fun w h => tellk_any (S := S) (p := p) (q := q) (B := B) (s := ⟨most, [], pas, pb, ct, mt⟩) (K := K) (w := w) (kv0 5 0) h (by have := HK.out; omega))
    rw [show stK [27] = [kv0 5 0] from rfl]
    have c1' : w.cell? ⟨p, 1, none⟩ = some (.string ⟨#[27]⟩) := c1
    clear c1
    clear h hU hw hK fz
    go_enter Tryd.func196, Tryd.ntmps196
    go_wp2_with (go_at_call 194; refine (TL.out _ H1.out).mono ?_; rintro e w2 ⟨rfl, h2, k2⟩; have H2 := Lib.hid h2; have K2 := Lib.hid k2; clear h2 k2)
    go_end0
    exact ⟨rfl, H2.out, K1.out.trans K2.out⟩
  · have hne := bq_ne h27
    have PT := Lib.hid (fun w hT => partial_any (mkL wait) w hT (by rw [mkL_size]; omega))
    have U1 := Lib.hid (hU.kept K1.out)
    by_cases hp : pB (mkL wait) = true
    · have hst : stK wait = wait.map (fun b => kv0 1 (1114112 + (b.toNat : Int))) := by unfold stK; rw [if_neg h27, if_pos hp]
      rw [hst, ← List.take_length (l := wait)]
      obtain ⟨n, hn⟩ : ∃ n, wait.length = n := ⟨_, rfl⟩
      have hsz : (mkL wait).size = n := by rw [mkL_size, hn]
      have IX := Lib.hid (fun k (hk : k < n) wx => idx_run wait k (by omega) wx)
      have TL := Lib.hid (fun K v w h hl => tellk_any (S := S) (p := p) (q := q) (B := B) (s := ⟨most, [], pas, pb, ct, mt⟩) (K := K) (w := w) (kv0 1 v) h hl)
      have hn9 : Hid (n ≤ 9) := Lib.hid (by rw [← hn]; exact hw)
      have HN := Lib.hid hn
      have HZ := Lib.hid hsz
      rw [hp] at PT
      rw [hn]
      clear h hU hw hK fz hp hst h27 hsz hn
      obtain ⟨W, hW⟩ : ∃ W, w.setCell ⟨p, 1, none⟩ (.string ⟨#[]⟩) = W := ⟨_, rfl⟩
      rw [hW] at H1 K1 U1
      go_enter Tryd.func196, Tryd.ntmps196
      go_upto_region 6 with (go_at_call 257; refine (PT.out _ U1.out.u).mono ?_; rintro e w2 ⟨rfl, hb⟩; have H2 := Lib.hid (H1.out.below hb); have K2 := Lib.hid (KeptM.of hb H1.out.lt); clear hb)
      clear c1 f1 PT
      go_loopw [5] (fun iv wr => ∃ (k : Nat), k ≤ n ∧ iv = .int .i64 (k : Int) ∧ Hid (InS S p q B ⟨most, [], pas, pb, ct, mt⟩ (K ++ (wait.take k).map (fun b => kv0 1 (1114112 + (b.toNat : Int)))) wr) ∧ Hid (KeptM S w wr)) (fun iv _ => n - (intOf iv).toNat)
      case atStart => exact ⟨0, Nat.zero_le _, rfl, Lib.hid (by rw [List.take_zero, List.map_nil, List.append_nil]; exact H2.out), Lib.hid (K1.out.trans K2.out)⟩
      case round =>
        clear H2 K2 H1 K1 U1
        obtain ⟨k, hk, rfl, HI, HR⟩ := hrel
        by_cases hlt : k < n
        · have hk1 : (k : Int) < ((mkL wait).size : Int) := by rw [HZ.out]; omega
          have hix := IX.out k hlt
          have hk9 : k < 9 := by have := hn9.out; omega
          have hlk : Hid ((K ++ (wait.take k).map (fun b => kv0 1 (1114112 + (b.toNat : Int)))).length ≤ 99000) := Lib.hid (by have := HK.out; have := hn9.out; rw [List.length_append, List.length_map, List.length_take]; omega)
          have htk : Hid ((wait.take k).map (fun b => kv0 1 (1114112 + (b.toNat : Int))) ++ [kv0 1 (1114112 + ((wait.getD k 0).toNat : Int))] = (wait.take (k + 1)).map (fun b => kv0 1 (1114112 + (b.toNat : Int)))) := Lib.hid (by
            have hkl : k < wait.length := by rw [HN.out]; exact hlt
            rw [List.take_succ_eq_append_getElem hkl, List.map_append, List.getD, List.getElem?_eq_getElem hkl]; rfl)
          have hbn : (wait.getD k 0).toNat < 256 := (wait.getD k 0).toNat_lt
          generalize (wait.getD k 0).toNat = x at *
          go_wp2_with (go_at_call 194; refine (TL.out _ (1114112 + (x : Int)) _ HI.out hlk.out).mono ?_; rintro e w3 ⟨rfl, h3, k3⟩; have H3 := Lib.hid h3; have K3 := Lib.hid k3; clear h3 k3)
          go_roundw
          case rel => exact ⟨k + 1, by omega, by go_num, Lib.hid (by rw [← htk.out, ← List.append_assoc]; exact H3.out), Lib.hid (HR.out.trans K3.out)⟩
          case measure => (simp [intOf]; try omega)
        · have hk1 : ¬ ((k : Int) < ((mkL wait).size : Int)) := by rw [HZ.out]; omega
          obtain rfl : k = n := by omega
          go_wp2
          go_end0
          exact ⟨rfl, by rw [← List.map_take]; exact HI.out, HR.out⟩
    · have hst : stK wait = [] := by unfold stK; rw [if_neg h27, if_neg hp]
      have hp' : pB (mkL wait) = false := by simpa using hp
      rw [hp'] at PT
      rw [hst, List.append_nil]
      clear h hU hw hK fz hp hp' hst h27
      obtain ⟨W, hW⟩ : ∃ W, w.setCell ⟨p, 1, none⟩ (.string ⟨#[]⟩) = W := ⟨_, rfl⟩
      rw [hW] at H1 K1 U1
      go_enter Tryd.func196, Tryd.ntmps196
      go_wp2_with (go_at_call 257; refine (PT.out _ U1.out.u).mono ?_; rintro e w2 ⟨rfl, hb⟩; have H2 := Lib.hid (H1.out.below hb); have K2 := Lib.hid (KeptM.of hb H1.out.lt); clear hb)
      go_end0
      exact ⟨rfl, H2.out, K1.out.trans K2.out⟩
end
end Go.Proofs.YtangpdaoacjinaaDoor
set_option linter.unusedVariables false
set_option linter.unusedSimpArgs false
namespace Go.Proofs.YtangpdaoacjinaaDoor
open Go.RowKit
/-- What waits behind a byte while nothing waits, and the keys. -/
def frW (b : UInt8) : List UInt8 := if 128 ≤ b.toNat ∧ pB (mkL [b]) = true then [b] else []
def frK (b : UInt8) : List Ky :=
  if b.toNat < 32 then [kv0 2 b.toNat] else if b.toNat = 127 then [kv0 6 0] else if b.toNat < 127 then [kv0 1 b.toNat] else if pB (mkL [b]) = true then [] else [kv0 1 (1114112 + (b.toNat : Int))]
/-- The text of one byte. -/
theorem txt1 (b : UInt8) : txt [(b.toNat : Int)] = mkL [b] := by rw [mkL_txt]; rfl
theorem convB (b : UInt8) (w : World) : ∀ dst, Tryd.prog.underlying dst = some .string → (convert 97 dst (.slice (some ⟨w.heap.size, 0, none⟩) 1 1)).run Tryd.prog (w.alloc (Obj.cells #[.int .u8 (b.toNat : Int)] 5)) = .ok (.string (mkL [b])) (w.alloc (Obj.cells #[.int .u8 (b.toNat : Int)] 5)) := by
  intro dst hd
  rw [← txt1]
  exact conv_new w [(b.toNat : Int)] 1 rfl dst hd
section
variable {S : Nat → Prop} {p q B : Nat} {s : IS} {K : List Ky} {w w' : World}
set_option maxHeartbeats 4000000 in
theorem fresh_any (b : UInt8) (h : InS S p q B s K w) (hU : US S w) (hw : s.wait = []) (hK : K.length ≤ 98900) :
    Calls Tryd.prog 258 #[.pointer (some ⟨p, 0, none⟩), .int .u8 (b.toNat : Int), .func (.func 194) #[] #[.pointer (some ⟨q, 0, none⟩)]] w fun e w' => e = .returned (.tuple #[]) ∧ InS S p q B { s with wait := frW b } (K ++ frK b) w' ∧ KeptM S w w' := by
  have hlt : b.toNat < 256 := b.toNat_lt
  have hcv := convB b w
  have B1 := below_alloc w (.cells #[.int .u8 (b.toNat : Int)] 5)
  have H1 := Lib.hid (h.below B1)
  have K1 := Lib.hid (KeptM.of (S := S) B1 h.lt)
  have U1 := Lib.hid (hU.kept K1.out)
  have TL := Lib.hid (fun w (k : Ky) h => tellk_any (S := S) (p := p) (q := q) (B := B) (s := s) (K := K) (w := w) k h (by omega))
  have hs0 : s = { s with wait := [] } := by cases s; simp_all
  have PT := Lib.hid (fun w hT => partial_any (mkL [b]) w hT (by rw [mkL_size]; simp))
  have HK := Lib.hid hK
  clear h hU hw hK B1
  by_cases h1 : b.toNat < 32
  · have e1 : frW b = [] := by unfold frW; rw [if_neg (by omega)]
    have e2 : frK b = [kv0 2 b.toNat] := by unfold frK; rw [if_pos h1]
    rw [e1, e2, ← hs0]
    clear e1 e2 PT
    generalize b.toNat = x at *
    go_enter Tryd.func258, Tryd.ntmps258
    go_wp2_with (go_at_call 194; refine (TL.out _ (kv0 2 x) H1.out).mono ?_; rintro e w3 ⟨rfl, h3, k3⟩; have H3 := Lib.hid h3; have K3 := Lib.hid k3; clear h3 k3)
    go_end0
    exact ⟨rfl, H3.out, K1.out.trans K3.out⟩
  by_cases h2 : b.toNat = 127
  · have e1 : frW b = [] := by unfold frW; rw [if_neg (by omega)]
    have e2 : frK b = [kv0 6 0] := by unfold frK; rw [if_neg h1, if_pos h2]
    rw [e1, e2, ← hs0]
    rw [show (b.toNat : Int) = 127 by omega] at hcv H1 K1 U1 ⊢
    clear e1 e2 PT h1 h2 hlt
    go_enter Tryd.func258, Tryd.ntmps258
    go_wp2_with (go_at_call 194; refine (TL.out _ (kv0 6 0) H1.out).mono ?_; rintro e w3 ⟨rfl, h3, k3⟩; have H3 := Lib.hid h3; have K3 := Lib.hid k3; clear h3 k3)
    go_end0
    exact ⟨rfl, H3.out, K1.out.trans K3.out⟩
  by_cases h3 : b.toNat < 127
  · have e1 : frW b = [] := by unfold frW; rw [if_neg (by omega)]
    have e2 : frK b = [kv0 1 b.toNat] := by unfold frK; rw [if_neg h1, if_neg h2, if_pos h3]
    rw [e1, e2, ← hs0]
    clear e1 e2 PT
    generalize b.toNat = x at *
    go_enter Tryd.func258, Tryd.ntmps258
    go_wp2_with (go_at_call 194; refine (TL.out _ (kv0 1 x) H1.out).mono ?_; rintro e w3 ⟨rfl, h3, k3⟩; have H3 := Lib.hid h3; have K3 := Lib.hid k3; clear h3 k3)
    go_end0
    exact ⟨rfl, H3.out, K1.out.trans K3.out⟩
  by_cases h4 : pB (mkL [b]) = true
  · have e1 : frW b = [b] := by unfold frW; rw [if_pos ⟨by omega, h4⟩]
    have e2 : frK b = [] := by unfold frK; rw [if_neg h1, if_neg h2, if_neg h3, if_pos h4]
    rw [e1, e2, List.append_nil]
    rw [h4] at PT
    clear e1 e2 TL hs0 h4
    generalize b.toNat = x at *
    go_enter Tryd.func258, Tryd.ntmps258
    go_wp2_with (go_at_call 257; refine (PT.out _ U1.out.u).mono ?_; rintro e w2 ⟨rfl, hb⟩; have H2 := Lib.hid (H1.out.below hb); have K2 := Lib.hid (KeptM.of hb H1.out.lt); clear hb; obtain ⟨_, _, _, c2, _, _, _, _, f2⟩ := H2.out.cells; have f21 := f2 1; have HS := Lib.hid (H2.out.setW [b]); clear f2)
    go_end0
    exact ⟨rfl, HS.out.1, (K1.out.trans K2.out).trans HS.out.2⟩
  · have e1 : frW b = [] := by unfold frW; rw [if_neg (fun h => h4 h.2)]
    have e2 : frK b = [kv0 1 (1114112 + (b.toNat : Int))] := by unfold frK; rw [if_neg h1, if_neg h2, if_neg h3, if_neg h4]
    have h4' : pB (mkL [b]) = false := by simpa using h4
    rw [e1, e2, ← hs0]
    rw [h4'] at PT
    clear e1 e2 h4 h4'
    generalize b.toNat = x at *
    generalize mkL [b] = m at *
    go_enter Tryd.func258, Tryd.ntmps258
    go_wp2_with (first
      | (go_at_call 257; refine (PT.out _ U1.out.u).mono ?_; rintro e w2 ⟨rfl, hb⟩; have H2 := Lib.hid (H1.out.below hb); have K2 := Lib.hid (KeptM.of hb H1.out.lt); clear hb)
      | (go_at_call 194; refine (TL.out _ (kv0 1 (1114112 + x)) H2.out).mono ?_; rintro e w3 ⟨rfl, h3, k3⟩; have H3 := Lib.hid h3; have K3 := Lib.hid k3; clear h3 k3))
    go_end0
    exact ⟨rfl, H3.out, (K1.out.trans K2.out).trans K3.out⟩
end
end Go.Proofs.YtangpdaoacjinaaDoor
set_option linter.unusedVariables false
set_option linter.unusedSimpArgs false
namespace Go.Proofs.YtangpdaoacjinaaDoor
open Go.RowKit
theorem mkL_cat (a b : List UInt8) : mkL a ++ mkL b = mkL (a ++ b) := by
  apply ByteArray.ext
  simp [mkL]
/-- A byte behind 27. -/
def beS (b : UInt8) : List UInt8 × List Ky × Bool :=
  if b.toNat = 91 ∨ b.toNat = 79 then ([27, b], [], false) else if b.toNat ≤ 127 then ([], [kv0 3 b.toNat], false) else ([], [kv0 5 0], true)
/-- The key of a letter. -/
def lkK (b : UInt8) : List Ky := if letF b.toNat = 0 then [] else [kv0 (letF b.toNat) 0]
theorem dec_edge (x : Nat) : (decide ((x : Int) < 32) || decide (126 < (x : Int))) = decide (x < 32 ∨ 126 < x) := by
  by_cases h : x < 32
  · rw [decide_eq_true (show (x : Int) < 32 by omega), decide_eq_true (Or.inl h)]; rfl
  · by_cases h2 : 126 < x
    · rw [decide_eq_false (show ¬ (x : Int) < 32 by omega), decide_eq_true (show 126 < (x : Int) by omega), decide_eq_true (Or.inr h2)]; rfl
    · rw [decide_eq_false (show ¬ (x : Int) < 32 by omega), decide_eq_false (show ¬ 126 < (x : Int) by omega), decide_eq_false (by omega)]; rfl
section
variable {S : Nat → Prop} {p q B : Nat} {s : IS} {K : List Ky} {w w' : World}
set_option maxHeartbeats 4000000 in
theorem bescape_any (b : UInt8) (h : InS S p q B s K w) (hU : US S w) (hw : s.wait = [27]) (hK : K.length ≤ 98900) :
    Calls Tryd.prog 303 #[.pointer (some ⟨p, 0, none⟩), .int .u8 (b.toNat : Int), .func (.func 194) #[] #[.pointer (some ⟨q, 0, none⟩)]] w fun e w' => e = .returned (.bool (beS b).2.2) ∧ InS S p q B { s with wait := (beS b).1 } (K ++ (beS b).2.1) w' ∧ KeptM S w w' := by
  have hlt : b.toNat < 256 := b.toNat_lt
  have HK := Lib.hid hK
  have ST := Lib.hid (fun w h u => settle_any (S := S) (p := p) (q := q) (B := B) (s := s) (K := K) (w := w) h u (by rw [hw]; decide) hK)
  rw [hw] at ST
  have TL := Lib.hid (fun w (k : Ky) h => tellk_any (S := S) (p := p) (q := q) (B := B) (s := { s with wait := [] }) (K := K) (w := w) k h (by omega))
  have HU := Lib.hid hU
  by_cases h1 : b.toNat = 91 ∨ b.toNat = 79
  · have e : beS b = ([27, b], [], false) := by unfold beS; rw [if_pos h1]
    rw [e, List.append_nil]
    dsimp only
    obtain ⟨x, hx⟩ : ∃ x : Int, (b.toNat : Int) = x := ⟨_, rfl⟩
    have B1 : Below w.heap.size w (w.alloc (.cells #[.int .u8 x] 5)).drew := (below_alloc w (.cells #[.int .u8 x] 5)).drew
    have H1 := Lib.hid (h.below B1)
    have K1 := Lib.hid (KeptM.of (S := S) B1 h.lt)
    obtain ⟨_, _, _, c1, _⟩ := h.cells
    obtain ⟨_, _, _, d1, _, _, _, _, f1⟩ := H1.out.cells
    have f11 := f1 1
    rw [hw] at c1 d1
    have hcv : ∀ dst, Tryd.prog.underlying dst = some .string → (convert 97 dst (.slice (some ⟨w.heap.size, 0, none⟩) 1 1)).run Tryd.prog (w.alloc (Obj.cells #[.int .u8 x] 5)).drew = .ok (.string (mkL [b])) (w.alloc (Obj.cells #[.int .u8 x] 5)).drew := by
      rw [← hx]; exact convB b w.drew
    have HS := Lib.hid (H1.out.setW [27, b])
    rw [show [27, b] = [27] ++ [b] from rfl, ← mkL_cat] at HS
    rw [hx]
    have h1' : x = 91 ∨ x = 79 := by omega
    have hsum : ¬ 9223372036854775807 < (mkL [27]).size + (mkL [b]).size := by rw [mkL_size, mkL_size]; simp
    clear h hU hw hK B1 TL ST e f1 h1 hx hlt
    rcases h1' with rfl | rfl
    · go_enter Tryd.func303, Tryd.ntmps303
      go_upto_region 2 with fail
      go_region_law (fail)
      all_goals go_wp2
      all_goals go_ret
      all_goals exact ⟨rfl, HS.out.1, K1.out.trans HS.out.2⟩
    · go_enter Tryd.func303, Tryd.ntmps303
      go_upto_region 2 with fail
      go_region_law (fail)
      all_goals go_wp2
      all_goals go_ret
      all_goals exact ⟨rfl, HS.out.1, K1.out.trans HS.out.2⟩
  by_cases h2 : b.toNat ≤ 127
  · have e : beS b = ([], [kv0 3 b.toNat], false) := by unfold beS; rw [if_neg h1, if_pos h2]
    rw [e]
    dsimp only
    have HS : Hid (InS S p q B { s with wait := [] } K (w.setCell ⟨p, 1, none⟩ (.string ⟨#[]⟩)) ∧ KeptM S w (w.setCell ⟨p, 1, none⟩ (.string ⟨#[]⟩))) := Lib.hid (h.setW [])
    obtain ⟨_, _, _, c1, _, _, _, _, f1⟩ := h.cells
    have f11 := f1 1
    clear h hU hw hK ST e f1
    generalize b.toNat = x at *
    have h3 : ((x : Int) == 91) = false := by simp; omega
    have h4 : ((x : Int) == 79) = false := by simp; omega
    clear h1
    go_enter Tryd.func303, Tryd.ntmps303
    go_wp2_with (go_at_call 194; refine (TL.out _ (kv0 3 x) HS.out.1).mono ?_; rintro e w3 ⟨rfl, h3, k3⟩; have H3 := Lib.hid h3; have K3 := Lib.hid k3; clear h3 k3)
    go_ret
    exact ⟨rfl, H3.out, HS.out.2.trans K3.out⟩
  · have e : beS b = ([], [kv0 5 0], true) := by unfold beS; rw [if_neg h1, if_neg h2]
    rw [e]
    dsimp only
    have H := Lib.hid h
    clear h hU hw hK e TL
    generalize b.toNat = x at *
    have h3 : ((x : Int) == 91) = false := by simp; omega
    have h4 : ((x : Int) == 79) = false := by simp; omega
    clear h1
    go_enter Tryd.func303, Tryd.ntmps303
    go_wp2_with (go_at_call 196; refine (ST.out _ H.out HU.out).mono ?_; rintro e w3 ⟨rfl, h3, k3⟩; have H3 := Lib.hid h3; have K3 := Lib.hid k3; clear h3 k3)
    go_ret
    exact ⟨rfl, H3.out, K3.out⟩
set_option maxHeartbeats 4000000 in
theorem bsingle_any (b : UInt8) (h : InS S p q B s K w) (hK : K.length ≤ 98900) :
    Calls Tryd.prog 304 #[.pointer (some ⟨p, 0, none⟩), .int .u8 (b.toNat : Int), .func (.func 194) #[] #[.pointer (some ⟨q, 0, none⟩)]] w fun e w' => e = .returned (.bool (decide (b.toNat < 32 ∨ 126 < b.toNat))) ∧ InS S p q B { s with wait := [] } (K ++ lkK b) w' ∧ KeptM S w w' := by
  have hlt : b.toNat < 256 := b.toNat_lt
  have TL := Lib.hid (fun w (k : Ky) h => tellk_any (S := S) (p := p) (q := q) (B := B) (s := { s with wait := [] }) (K := K) (w := w) k h (by omega))
  have HS : Hid (InS S p q B { s with wait := [] } K (w.setCell ⟨p, 1, none⟩ (.string ⟨#[]⟩)) ∧ KeptM S w (w.setCell ⟨p, 1, none⟩ (.string ⟨#[]⟩))) := Lib.hid (h.setW [])
  obtain ⟨_, _, _, c1, _, _, _, _, f1⟩ := h.cells
  have f11 := f1 1
  have LT := Lib.hid (fun w => letter_any (b.toNat : Int) w)
  clear h hK f1
  unfold lkK
  by_cases h0 : letF b.toNat = 0
  · rw [if_pos h0, List.append_nil]
    rw [h0] at LT
    clear h0
    generalize b.toNat = x at *
    have HD : Hid ((decide ((x : Int) < 32) || decide (126 < (x : Int))) = decide (x < 32 ∨ 126 < x)) := Lib.hid (dec_edge x)
    by_cases h1 : x < 32
    · go_enter Tryd.func304, Tryd.ntmps304
      go_wp2_with (go_at_call 320; refine (LT.out _).mono ?_; rintro e w3 ⟨rfl, rfl⟩)
      go_ret
      first | exact ⟨rfl, HS.out.1, HS.out.2⟩ | exact ⟨congrArg (fun b => Ending.returned (.bool b)) HD.out, HS.out.1, HS.out.2⟩
    · go_enter Tryd.func304, Tryd.ntmps304
      go_wp2_with (go_at_call 320; refine (LT.out _).mono ?_; rintro e w3 ⟨rfl, rfl⟩)
      go_ret
      first | exact ⟨rfl, HS.out.1, HS.out.2⟩ | exact ⟨congrArg (fun b => Ending.returned (.bool b)) HD.out, HS.out.1, HS.out.2⟩
  · rw [if_neg h0]
    have hx : ¬ b.toNat < 32 ∧ ¬ 126 < b.toNat := by
      refine ⟨fun h => h0 (letF_none ?_ ?_ ?_ ?_ ?_ ?_), fun h => h0 (letF_none ?_ ?_ ?_ ?_ ?_ ?_)⟩ <;> omega
    obtain ⟨h1, h2⟩ := hx
    have HD : Hid ((decide ((b.toNat : Int) < 32) || decide (126 < (b.toNat : Int))) = decide (b.toNat < 32 ∨ 126 < b.toNat)) := Lib.hid (dec_edge b.toNat)
    generalize hy : letF b.toNat = y at *
    generalize b.toNat = x at *
    clear hy
    go_enter Tryd.func304, Tryd.ntmps304
    go_wp2_with (first
      | (go_at_call 320; refine (LT.out _).mono ?_; rintro e w3 ⟨rfl, rfl⟩)
      | (go_at_call 194; refine (TL.out _ (kv0 y 0) HS.out.1).mono ?_; rintro e w3 ⟨rfl, h3, k3⟩; have H3 := Lib.hid h3; have K3 := Lib.hid k3; clear h3 k3))
    go_ret
    exact ⟨congrArg (fun b => Ending.returned (.bool b)) HD.out, H3.out, HS.out.2.trans K3.out⟩
end
end Go.Proofs.YtangpdaoacjinaaDoor
set_option linter.unusedVariables false
set_option linter.unusedSimpArgs false
namespace Go.Proofs.YtangpdaoacjinaaDoor
open Go.RowKit
set_option maxHeartbeats 2000000 in
set_option maxRecDepth 100000 in
theorem tbyte_any (B b : Nat) (bs : List Value) (c : Int) (w : World) (h : IsBld B b bs w) (hlen : bs.length + 1 ≤ 140737488355328) (hBw : B ≤ w.heap.size) :
    Calls Tryd.prog 53 #[.pointer (some ⟨b, 0, none⟩), .int .u8 c] w fun e w' => e = .returned .nilIface ∧ BldAt B b (.pointer (some ⟨b, 0, none⟩)) (bs ++ [.int .u8 c]) w' ∧ Below B w w' := by
  obtain ⟨i0, hi, hz0, hz1, hz2⟩ := info_parts infoU8
  have C := Lib.hid (bcheck_any B b bs w h)
  clear h
  go_enter Tryd.func53, Tryd.ntmps53
  go_wp2_with (go_at_call 110; refine C.out.mono ?_)
  rintro e w1 ⟨rfl, ⟨hB, v, hbk0, hown0, hne⟩, hb0⟩
  have BA := below_alloc w1 (.cells #[.int .u8 c] 5)
  have hbk := blk_below hbk0 BA
  have hb1 := hb0.trans (BA.mono (show B ≤ w1.heap.size by have := hb0.size; omega))
  have hown := hown0.alloc (.cells #[.int .u8 c] 5)
  have hnew : ∀ j x, ([Value.int .u8 c] : List Value)[j]? = some x → (w1.alloc (.cells #[.int .u8 c] 5)).cell? ((⟨w1.heap.size, 0, none⟩ : Addr).add j) = some x := fun j x hj => app_cells rfl hj
  have hsz1 : B ≤ (w1.alloc (.cells #[.int .u8 c] 5)).heap.size := by have := hb1.size; omega
  have e1 := Lib.cell_of_heap hbk0 1
  dsimp at e1
  clear hbk0 hown0 hb0 BA
  obtain ⟨g, hg⟩ : ∃ g, w1.heap.size = g := ⟨_, rfl⟩
  obtain ⟨W, hW⟩ : ∃ W, w1.alloc (.cells #[.int .u8 c] 5) = W := ⟨_, rfl⟩
  rw [hW, hg] at hnew
  rw [hW] at hbk hb1 hown hsz1
  have c0 := Lib.cell_of_heap hbk 0; have c1 := Lib.cell_of_heap hbk 1
  dsimp at c0 c1
  go_wp2_with (at_builtin; refine wpList_append_own _ rfl _ _ 97 rfl B 5 i0 (.int .u8 0) 1 1 Tryd.underlying97 hi hz0 hz1 hz2 rfl (by decide) _ _ _ rfl hown ⟨g, 0, none⟩ 1 1 [.int .u8 c] rfl rfl hnew (by simp [Value.oneCell']) ?g3 ?g4 ?g5 ?_)
  case g3 => unfold maxLen; omega
  case g4 => omega
  case g5 => exact hsz1
  intro v' w2 hown' hgrow _
  have hlt := blk_lt hbk
  have hb2 : w2.heap[b]? = some (.cells #[.pointer (some ⟨b, 0, none⟩), v] 99 (0, 0)) := (hgrow.block b hlt (fun e => hne e.symm)).trans hbk
  have d0 := Lib.cell_of_heap hb2 0
  have d1 := Lib.cell_of_heap hb2 1
  have f1 : w2.frozen? ⟨b, 1, none⟩ = false := Lib.frozen_of_heap hb2 1
  dsimp at d0 d1
  obtain ⟨ao, n', cap, rfl⟩ : ∃ ao n' cap, v' = .slice ao n' cap := by
    rcases hown'.2 with ⟨hv, _⟩ | ⟨g, cap, cur, hv, _⟩
    · exact ⟨_, _, _, hv⟩
    · exact ⟨_, _, _, hv⟩
  go_wp2
  go_ret
  refine ⟨rfl, ?_, ?_⟩
  · exact Lib.BuilderAt.put (T := 99) (e := 5) hB hb2 (bs' := bs ++ [.int .u8 c]) (by simpa using hown') (by decide)
  · exact (hb1.grown hgrow hsz1 (fun k hk => (hown.lt k hk).1)).setCell (p := ⟨b, 1, none⟩) hB _
/-- A byte in a word. -/
def wdP (b : UInt8) : Prop := 33 ≤ b.toNat ∧ b.toNat ≤ 126 ∧ b.toNat ≠ 92
instance (b : UInt8) : Decidable (wdP b) := by unfold wdP; infer_instance
def wdB (b : UInt8) : List UInt8 := if wdP b then [b] else 92 :: hexN (b.toNat : Int) 2
def wdL (s : List UInt8) : List UInt8 := 46 :: s.flatMap wdB
theorem wdB_len (b : UInt8) : (wdB b).length ≤ 3 := by
  unfold wdB
  split
  · rw [List.length_singleton]; omega
  · have := (hex2 b).1
    rw [List.length_cons, this]; decide
theorem wdL_len (s : List UInt8) : (wdL s).length ≤ 1 + 3 * s.length := by
  unfold wdL
  rw [List.length_cons]
  have : (s.flatMap wdB).length ≤ 3 * s.length := by
    induction s with
    | nil => exact Nat.zero_le _
    | cons x s ih => rw [List.flatMap_cons, List.length_append, List.length_cons]; have := wdB_len x; omega
  omega
theorem wdL_take (s : List UInt8) (k : Nat) (h : k < s.length) : wdL (s.take (k + 1)) = wdL (s.take k) ++ wdB (s.getD k 0) := by
  unfold wdL
  rw [List.take_succ_eq_append_getElem h, List.flatMap_append, List.getD, List.getElem?_eq_getElem h, List.flatMap_cons, List.flatMap_nil, List.append_nil]; rfl
set_option maxHeartbeats 4000000 in
set_option maxRecDepth 100000 in
theorem tword_any (s : List UInt8) (w : World) (hs : s.length ≤ 1000000) : Calls Tryd.prog 13 #[.string (mkL s)] w fun e w' => e = .returned (.string (mkL (wdL s))) ∧ Below w.heap.size w w' := by
  obtain ⟨n, hn⟩ : ∃ n, s.length = n := ⟨_, rfl⟩
  have hz : (mkL s).size = n := by rw [mkL_size, hn]
  have HN := Lib.hid hn
  have I0 := Lib.hid (kbld_new w)
  have B1 := below_alloc w (.cells #[.pointer none, .slice none 0 0] 99)
  have W1 := Lib.hid (fun (B : Nat) (w : World) h hB => bwrite_any B B [] ⟨#[46]⟩ w h (by show 0 + 1 ≤ _; omega) hB)
  have HE : Hid (([] : List Value) ++ Lib.strCells ⟨#[46]⟩ = Lib.byteCells (wdL (s.take 0))) := Lib.hid (by rw [List.take_zero]; exact strC [46])
  rw [hn] at hs
  clear hn
  go_enter Tryd.func13, Tryd.ntmps13
  go_upto_region 3 with (go_at_call 52; refine (W1.out _ _ I0.out B1.size).mono ?_; rintro e w2 ⟨rfl, hI2, hb2⟩; have N2 := B1.trans hb2)
  rw [HE.out] at hI2
  go_upto_region 4 with fail
  go_loopw [4] (fun iv wr => ∃ k : Nat, k ≤ n ∧ iv = .int .i64 (k : Int) ∧ Hid (IsBld w.heap.size w.heap.size (Lib.byteCells (wdL (s.take k))) wr) ∧ Below w.heap.size w wr) (fun iv _ => n - (intOf iv).toNat)
  case atStart => exact ⟨0, Nat.zero_le _, rfl, Lib.hid (Or.inr hI2), N2⟩
  case round =>
    obtain ⟨k, hk, rfl, hI, hb⟩ := hrel
    have hPw : w.heap.size ≤ wr.heap.size := hb.size
    have hlen : (Lib.byteCells (wdL (s.take k))).length ≤ 1 + 3 * k := by
      rw [Lib.byteCells_length]; have := wdL_len (s.take k); rw [List.length_take] at this; omega
    by_cases hlt : k < n
    · have hkl : k < s.length := by rw [HN.out]; exact hlt
      have hk1 : (k : Int) < n := by omega
      have hk0 : (0 : Int) ≤ k := by omega
      have ix := fun w => idx_run s k hkl w
      have hst := wdL_take s k hkl
      generalize s.getD k 0 = u at *
      have hu := u.toNat_lt
      by_cases hp : wdP u
      · have hcell : Hid (Lib.byteCells (wdL (s.take (k + 1))) = Lib.byteCells (wdL (s.take k)) ++ [.int .u8 (u.toNat : Int)]) := Lib.hid (by rw [hst, Lib.byteCells_append]; unfold wdB; rw [if_pos hp]; rfl)
        obtain ⟨h33, h126, h92⟩ := hp
        have WB := Lib.hid (fun (w' : World) h2 hB => tbyte_any w.heap.size w.heap.size (Lib.byteCells (wdL (s.take k))) (u.toNat : Int) w' h2 (by omega) hB)
        have g33 : (33 : Int) ≤ (u.toNat : Int) := by omega
        have g126 : (u.toNat : Int) ≤ 126 := by omega
        have g92 : ((u.toNat : Int) == 92) = false := by rw [beq_eq_false_iff_ne]; omega
        clear hst hkl h33 h126 h92 hlen hu
        generalize (u.toNat : Int) = y at *
        generalize Lib.byteCells (wdL (s.take k)) = bs at *
        go_wp2_with (go_at_call 53; refine (WB.out _ hI.out hPw).mono ?_; rintro e w4 ⟨rfl, hI4, hb4⟩; have N4 := hb.trans hb4)
        go_roundw
        case rel => exact ⟨k + 1, by omega, by go_num, Lib.hid (Or.inr (by rw [hcell.out]; exact hI4)), N4⟩
        case measure => (simp [intOf]; try omega)
      · have H : ∀ w, Calls Tryd.prog 54 #[.int .i64 (u.toNat : Int), .int .i64 2] w fun e w' => e = .returned (.string (mkS (hexN (u.toNat : Int) 2))) ∧ Below w.heap.size w w' := fun w => khex2 (u.toNat : Int) w (by omega) (by omega)
        have hl2 := (hex2 u).1
        have hcell : Hid (Lib.byteCells (wdL (s.take (k + 1))) = Lib.byteCells (wdL (s.take k)) ++ [.int .u8 92] ++ Lib.strCells (mkS (hexN (u.toNat : Int) 2))) := Lib.hid (by rw [hst, Lib.byteCells_append, strC]; unfold wdB; rw [if_neg hp, List.append_assoc]; rfl)
        have hus : (mkS (hexN (u.toNat : Int) 2)).size ≤ 2 := by rw [mkS_size]; omega
        generalize mkS (hexN (u.toNat : Int) 2) = hx at *
        have WB := Lib.hid (fun (w' : World) h2 hB => tbyte_any w.heap.size w.heap.size (Lib.byteCells (wdL (s.take k))) 92 w' h2 (by omega) hB)
        have WS := Lib.hid (fun (w' : World) h2 hB => bwrite_any w.heap.size w.heap.size (Lib.byteCells (wdL (s.take k)) ++ [.int .u8 92]) hx w' h2 (by rw [List.length_append, List.length_singleton]; omega) hB)
        have hc : ¬ (33 : Int) ≤ (u.toNat : Int) ∨ ((33 : Int) ≤ (u.toNat : Int) ∧ ¬ (u.toNat : Int) ≤ 126) ∨ ((33 : Int) ≤ (u.toNat : Int) ∧ (u.toNat : Int) ≤ 126 ∧ (u.toNat : Int) = 92) := by
          unfold wdP at hp; omega
        have hu' : (u.toNat : Int) < 256 := by omega
        have hu0 : (0 : Int) ≤ (u.toNat : Int) := by omega
        replace H := Lib.hid H
        clear hst hkl hlen hus hl2 hp hu
        generalize (u.toNat : Int) = y at *
        generalize Lib.byteCells (wdL (s.take k)) = bs at *
        rcases hc with g | ⟨g, g2⟩ | ⟨g, g2, g3⟩
        all_goals
          try subst g3
          go_wp2_with (first
            | (go_at_call 53; refine (WB.out _ hI.out hPw).mono ?_; rintro e w4 ⟨rfl, hI4, hb4⟩; have I4 := Lib.hid (Or.inr hI4 : IsBld w.heap.size w.heap.size _ w4); have N4 := hb.trans hb4; have hP4 := N4.size; clear hI4 hb4)
            | (go_at_call 54; refine (H.out _).mono ?_; rintro e w5 ⟨rfl, hb5⟩; have I5 := Lib.hid (kbld_below I4.out hb5); have N5 := N4.trans (hb5.mono hP4); have hP5 := N5.size; clear hb5)
            | (go_at_call 52; refine (WS.out _ I5.out hP5).mono ?_; rintro e w6 ⟨rfl, hI6, hb6⟩; have N6 := N5.trans hb6))
          go_roundw
          case rel => exact ⟨k + 1, by omega, by go_num, Lib.hid (Or.inr (by rw [hcell.out]; exact hI6)), N6⟩
          case measure => (simp [intOf]; try omega)
    · obtain rfl : k = n := by omega
      have hnn : ¬ (k : Int) < (k : Int) := by omega
      have htk : s.take k = s := List.take_of_length_le (by rw [HN.out]; exact Nat.le_refl _)
      rw [htk] at hI hlen
      have ST := Lib.hid (fun (B : Nat) (w : World) h hB => Tryd.Builder_String_any B B (wdL s) w h hB)
      have hmk : Hid ((⟨(wdL s).toArray⟩ : ByteArray) = mkL (wdL s)) := Lib.hid rfl
      generalize hls : wdL s = ls at *
      have HLS := Lib.hid hls
      clear hlen htk hls
      go_wp2_with (go_at_call 55; refine (ST.out _ _ hI.out hPw).mono ?_; rintro e w5 ⟨rfl, hb5⟩; rw [hmk.out])
      go_ret
      exact ⟨by first | rfl | (rw [HLS.out]; rfl), hb.trans hb5⟩
end Go.Proofs.YtangpdaoacjinaaDoor
set_option linter.unusedVariables false
set_option linter.unusedSimpArgs false
namespace Go.Proofs.YtangpdaoacjinaaDoor
open Go.RowKit
/-- The key of signs before the last letter; none: none. -/
def sgK (g : List UInt8) : List Ky :=
  if g = [49] ∨ g = [55] then [kv0 11 0] else if g = [52] ∨ g = [56] then [kv0 12 0] else if g = [51] then [kv0 13 0] else if g = [53] then [kv0 14 0] else if g = [54] then [kv0 14 1] else []
/-- The keys that signs and a letter ask for. -/
def dnK (g : List UInt8) (b : UInt8) : List Ky := if b.toNat = 126 then sgK g else if g = [] then lkK b else []
/-- What is behind them: a paste begins, or nothing. -/
def dnS (s : IS) (g : List UInt8) (b : UInt8) : IS := if b.toNat = 126 ∧ g = [50, 48, 48] then { s with pas := true, pb := [], ct := 0, mt := 0 } else s
section
variable {S : Nat → Prop} {p q B : Nat} {s : IS} {K : List Ky} {w w' : World}
/-- The paste is set anew. -/
theorem InS.setP (h : InS S p q B s K w) (b : Bool) :
    InS S p q B { s with pas := b, pb := [], ct := 0, mt := 0 } K ((((w.setCell ⟨p, 2, none⟩ (.bool b)).setCell ⟨p, 3, none⟩ (.slice none 0 0)).setCell ⟨p, 4, none⟩ (.int .i64 0)).setCell ⟨p, 5, none⟩ (.int .i64 0)) ∧
    KeptM S w ((((w.setCell ⟨p, 2, none⟩ (.bool b)).setCell ⟨p, 3, none⟩ (.slice none 0 0)).setCell ⟨p, 4, none⟩ (.int .i64 0)).setCell ⟨p, 5, none⟩ (.int .i64 0)) := by
  obtain ⟨h1, k1⟩ := h.setC 2 (.bool b) { s with pas := b } (fun _ => rfl) rfl
  have h2 : InS S p q B { s with pas := b, pb := [] } K ((w.setCell ⟨p, 2, none⟩ (.bool b)).setCell ⟨p, 3, none⟩ (.slice none 0 0)) := by
    obtain ⟨bv, kv, h2, h3, h4, h5, h6⟩ := h1.ex
    have hz : ((w.setCell ⟨p, 2, none⟩ (.bool b)).setCell ⟨p, 3, none⟩ (.slice none 0 0)).heap.size = (w.setCell ⟨p, 2, none⟩ (.bool b)).heap.size := by simp [World.setCell]
    refine ⟨⟨.slice none 0 0, kv, blk_set h2 3 _, owu_nil _, (Below.heap_setCell _ _ _ _ (fun e => h1.pq e.symm)).trans h4, own_set h5 (own_ne_kind h5 h2 tIn_ne_k) _, fun k hk => ?_⟩, by rw [hz]; exact h1.le⟩
    have := h6 k hk
    exact ⟨by rw [hz]; exact this.1, this.2.1, this.2.2.1, by simp [Value.ownBlock], this.2.2.2.2⟩
  have k2 := kept_set (P := p) (w := w.setCell ⟨p, 2, none⟩ (.bool b)) (fun k hk => (h1.ne k hk).1) 3 (.slice none 0 0)
  obtain ⟨h3, k3⟩ := h2.setC 4 (.int .i64 0) { s with pas := b, pb := [], ct := 0 } (fun _ => rfl) rfl
  obtain ⟨h4, k4⟩ := h3.setC 5 (.int .i64 0) { s with pas := b, pb := [], ct := 0, mt := 0 } (fun _ => rfl) rfl
  exact ⟨h4, ((k1.trans k2).trans k3).trans k4⟩
set_option maxHeartbeats 8000000 in
theorem done_any (g : List UInt8) (b : UInt8) (h : InS S p q B s K w) (hK : K.length ≤ 98900) :
    Calls Tryd.prog 321 #[.pointer (some ⟨p, 0, none⟩), .string (mkL g), .int .u8 (b.toNat : Int), .func (.func 194) #[] #[.pointer (some ⟨q, 0, none⟩)]] w fun e w' => e = .returned (.tuple #[]) ∧ InS S p q B (dnS s g b) (K ++ dnK g b) w' ∧ KeptM S w w' := by
  have hlt : b.toNat < 256 := b.toNat_lt
  have TL := Lib.hid (fun w (k : Ky) h => tellk_any (S := S) (p := p) (q := q) (B := B) (s := s) (K := K) (w := w) k h (by omega))
  have H := Lib.hid h
  have KR := Lib.hid (KeptM.refl S w)
  by_cases h126 : b.toNat = 126
  · have e1 : dnK g b = sgK g := by unfold dnK; rw [if_pos h126]
    rw [e1, show (b.toNat : Int) = 126 by omega]
    by_cases hg : g = [50, 48, 48]
    · have e2 : dnS s g b = { s with pas := true, pb := [], ct := 0, mt := 0 } := by unfold dnS; rw [if_pos ⟨h126, hg⟩]
      rw [e2]
      subst hg
      have e3 : mkL [50, 48, 48] = ⟨#[50, 48, 48]⟩ := rfl
      rw [show sgK [50, 48, 48] = [] from by decide, List.append_nil, e3]
      have HS := Lib.hid (h.setP true)
      obtain ⟨bv, c3', c0, c1, c2, c3, c4, c5, fz⟩ := h.cells
      have hz : ∀ i, (fun i => w.frozen? ⟨p, i, none⟩) i = false := fz
      have f2 := fz 2; have f3 := fz 3; have f4 := fz 4; have f5 := fz 5
      clear h hK e1 e2 e3 hz fz c3' h126 hlt
      go_enter Tryd.func321, Tryd.ntmps321
      go_wp2
      go_end0
      exact ⟨rfl, HS.out.1, HS.out.2⟩
    · have e2 : dnS s g b = s := by unfold dnS; rw [if_neg (fun h => hg h.2)]
      rw [e2]
      have n200 := bq_ne hg
      by_cases g0 : g = [49]
      · subst g0
        rw [show sgK [49] = [kv0 11 0] from by decide]
        have e3 : mkL [49] = ⟨#[49]⟩ := rfl
        rw [e3]
        clear h hK e1 e2 e3 h126 hlt n200 hg
        go_enter Tryd.func321, Tryd.ntmps321
        go_wp2_with (go_at_call 194; refine (TL.out _ (kv0 11 0) H.out).mono ?_; rintro e w3 ⟨rfl, h3, k3⟩; have H3 := Lib.hid h3; have K3 := Lib.hid k3; clear h3 k3)
        go_end0
        exact ⟨rfl, H3.out, K3.out⟩
      by_cases g1 : g = [55]
      · subst g1
        rw [show sgK [55] = [kv0 11 0] from by decide]
        have e3 : mkL [55] = ⟨#[55]⟩ := rfl
        rw [e3]
        clear h hK e1 e2 e3 h126 hlt n200 hg
        go_enter Tryd.func321, Tryd.ntmps321
        go_wp2_with (go_at_call 194; refine (TL.out _ (kv0 11 0) H.out).mono ?_; rintro e w3 ⟨rfl, h3, k3⟩; have H3 := Lib.hid h3; have K3 := Lib.hid k3; clear h3 k3)
        go_end0
        exact ⟨rfl, H3.out, K3.out⟩
      by_cases g2 : g = [52]
      · subst g2
        rw [show sgK [52] = [kv0 12 0] from by decide]
        have e3 : mkL [52] = ⟨#[52]⟩ := rfl
        rw [e3]
        clear h hK e1 e2 e3 h126 hlt n200 hg
        go_enter Tryd.func321, Tryd.ntmps321
        go_wp2_with (go_at_call 194; refine (TL.out _ (kv0 12 0) H.out).mono ?_; rintro e w3 ⟨rfl, h3, k3⟩; have H3 := Lib.hid h3; have K3 := Lib.hid k3; clear h3 k3)
        go_end0
        exact ⟨rfl, H3.out, K3.out⟩
      by_cases g3 : g = [56]
      · subst g3
        rw [show sgK [56] = [kv0 12 0] from by decide]
        have e3 : mkL [56] = ⟨#[56]⟩ := rfl
        rw [e3]
        clear h hK e1 e2 e3 h126 hlt n200 hg
        go_enter Tryd.func321, Tryd.ntmps321
        go_wp2_with (go_at_call 194; refine (TL.out _ (kv0 12 0) H.out).mono ?_; rintro e w3 ⟨rfl, h3, k3⟩; have H3 := Lib.hid h3; have K3 := Lib.hid k3; clear h3 k3)
        go_end0
        exact ⟨rfl, H3.out, K3.out⟩
      by_cases g4 : g = [51]
      · subst g4
        rw [show sgK [51] = [kv0 13 0] from by decide]
        have e3 : mkL [51] = ⟨#[51]⟩ := rfl
        rw [e3]
        clear h hK e1 e2 e3 h126 hlt n200 hg
        go_enter Tryd.func321, Tryd.ntmps321
        go_wp2_with (go_at_call 194; refine (TL.out _ (kv0 13 0) H.out).mono ?_; rintro e w3 ⟨rfl, h3, k3⟩; have H3 := Lib.hid h3; have K3 := Lib.hid k3; clear h3 k3)
        go_end0
        exact ⟨rfl, H3.out, K3.out⟩
      by_cases g5 : g = [53]
      · subst g5
        rw [show sgK [53] = [kv0 14 0] from by decide]
        have e3 : mkL [53] = ⟨#[53]⟩ := rfl
        rw [e3]
        clear h hK e1 e2 e3 h126 hlt n200 hg
        go_enter Tryd.func321, Tryd.ntmps321
        go_wp2_with (go_at_call 194; refine (TL.out _ (kv0 14 0) H.out).mono ?_; rintro e w3 ⟨rfl, h3, k3⟩; have H3 := Lib.hid h3; have K3 := Lib.hid k3; clear h3 k3)
        go_end0
        exact ⟨rfl, H3.out, K3.out⟩
      by_cases g6 : g = [54]
      · subst g6
        rw [show sgK [54] = [kv0 14 1] from by decide]
        have e3 : mkL [54] = ⟨#[54]⟩ := rfl
        rw [e3]
        clear h hK e1 e2 e3 h126 hlt n200 hg
        go_enter Tryd.func321, Tryd.ntmps321
        go_wp2_with (go_at_call 194; refine (TL.out _ (kv0 14 1) H.out).mono ?_; rintro e w3 ⟨rfl, h3, k3⟩; have H3 := Lib.hid h3; have K3 := Lib.hid k3; clear h3 k3)
        go_end0
        exact ⟨rfl, H3.out, K3.out⟩
      have es : sgK g = [] := by unfold sgK; rw [if_neg (not_or.2 ⟨g0, g1⟩), if_neg (not_or.2 ⟨g2, g3⟩), if_neg g4, if_neg g5, if_neg g6]
      rw [es, List.append_nil]
      have m0 := bq_ne g0
      have m1 := bq_ne g1
      have m2 := bq_ne g2
      have m3 := bq_ne g3
      have m4 := bq_ne g4
      have m5 := bq_ne g5
      have m6 := bq_ne g6
      clear h hK e1 e2 h126 hlt hg TL es g0 g1 g2 g3 g4 g5 g6
      go_enter Tryd.func321, Tryd.ntmps321
      go_wp2
      go_end0
      exact ⟨rfl, H.out, KR.out⟩
  · have e2 : dnS s g b = s := by unfold dnS; rw [if_neg (fun h => h126 h.1)]
    have e1 : dnK g b = if g = [] then lkK b else [] := by unfold dnK; rw [if_neg h126]
    rw [e1, e2]
    have LT := Lib.hid (fun w => letter_any (b.toNat : Int) w)
    have hb : ((b.toNat : Int) == 126) = false := by simp; omega
    clear h hK e1 e2
    by_cases hg : g = []
    · subst hg
      rw [if_pos rfl]
      unfold lkK
      have e3 : mkL [] = ⟨#[]⟩ := rfl
      rw [e3]
      by_cases h0 : letF b.toNat = 0
      · rw [if_pos h0, List.append_nil]
        rw [h0] at LT
        clear h0 h126
        generalize b.toNat = x at *
        go_enter Tryd.func321, Tryd.ntmps321
        go_wp2_with (go_at_call 320; refine (LT.out _).mono ?_; rintro e w3 ⟨rfl, rfl⟩)
        refine bodyPost_ret (results_none rfl _ _ _) rfl ?_
        exact ⟨rfl, H.out, KR.out⟩
      · rw [if_neg h0]
        clear h126
        generalize letF b.toNat = y at *
        generalize b.toNat = x at *
        go_enter Tryd.func321, Tryd.ntmps321
        go_wp2_with (first
          | (go_at_call 320; refine (LT.out _).mono ?_; rintro e w3 ⟨rfl, rfl⟩)
          | (go_at_call 194; refine (TL.out _ (kv0 y 0) H.out).mono ?_; rintro e w3 ⟨rfl, h3, k3⟩; have H3 := Lib.hid h3; have K3 := Lib.hid k3; clear h3 k3))
        refine bodyPost_ret (results_none rfl _ _ _) rfl ?_
        exact ⟨rfl, H3.out, K3.out⟩
    · rw [if_neg hg, List.append_nil]
      have n1 := bq_ne hg
      clear h126
      generalize letF b.toNat = y at *
      generalize b.toNat = x at *
      go_enter Tryd.func321, Tryd.ntmps321
      go_wp2_with (go_at_call 320; refine (LT.out _).mono ?_; rintro e w3 ⟨rfl, rfl⟩)
      refine bodyPost_ret (results_none rfl _ _ _) rfl ?_
      exact ⟨rfl, H.out, KR.out⟩
end
end Go.Proofs.YtangpdaoacjinaaDoor
set_option linter.unusedVariables false
set_option linter.unusedSimpArgs false
namespace Go.Proofs.YtangpdaoacjinaaDoor
open Go.RowKit
/-- What waits behind a byte behind a bracket and signs. -/
def bcW (g : List UInt8) (b : UInt8) : List UInt8 := if 32 ≤ b.toNat ∧ b.toNat ≤ 63 then (if g.length < 4 then 27 :: 91 :: (g ++ [b]) else 27 :: 91 :: g) else []
def bcS (s : IS) (g : List UInt8) (b : UInt8) : IS := if 64 ≤ b.toNat ∧ b.toNat ≤ 126 then dnS { s with wait := [] } g b else { s with wait := bcW g b }
def bcK (g : List UInt8) (b : UInt8) : List Ky := if 64 ≤ b.toNat ∧ b.toNat ≤ 126 then dnK g b else []
def bcB (b : UInt8) : Bool := !decide (32 ≤ b.toNat ∧ b.toNat ≤ 126)
section
variable {S : Nat → Prop} {p q B : Nat} {s : IS} {K : List Ky} {w w' : World}
set_option maxHeartbeats 8000000 in
theorem bcontrol_any (g : List UInt8) (b : UInt8) (h : InS S p q B s K w) (hw : s.wait = 27 :: 91 :: g) (hg : g.length ≤ 4) (hK : K.length ≤ 98900) :
    Calls Tryd.prog 305 #[.pointer (some ⟨p, 0, none⟩), .int .u8 (b.toNat : Int), .func (.func 194) #[] #[.pointer (some ⟨q, 0, none⟩)]] w fun e w' => e = .returned (.bool (bcB b)) ∧ InS S p q B (bcS s g b) (K ++ bcK g b) w' ∧ KeptM S w w' := by
  have hlt : b.toNat < 256 := b.toNat_lt
  have DN := Lib.hid (fun w h => done_any (S := S) (p := p) (q := q) (B := B) (s := { s with wait := [] }) (K := K) (w := w) g b h hK)
  have H := Lib.hid h
  have KR := Lib.hid (KeptM.refl S w)
  obtain ⟨n, hn⟩ : ∃ n, g.length = n := ⟨_, rfl⟩
  have z1 : (mkL s.wait).size = n + 2 := by rw [mkL_size, hw]; simp [hn]
  have z2 : (mkL s.wait).extract 2 (n + 2) = mkL g := by rw [mkL_ext, hw]; simp [← hn]
  have z3 : (mkL g).size = n := by rw [mkL_size, hn]
  have z4 : (mkL [b]).size = 1 := by rw [mkL_size]; rfl
  obtain ⟨_, _, _, c1, _, _, _, _, f1⟩ := h.cells
  have f11 := f1 1
  by_cases h1 : 32 ≤ b.toNat ∧ b.toNat ≤ 63
  · have e1 : bcS s g b = { s with wait := bcW g b } := by unfold bcS; rw [if_neg (by omega)]
    have e2 : bcK g b = [] := by unfold bcK; rw [if_neg (by omega)]
    have e3 : bcB b = false := by unfold bcB; rw [decide_eq_true (by omega)]; rfl
    rw [e1, e2, e3, List.append_nil]
    by_cases h4 : n < 4
    · have e4 : bcW g b = s.wait ++ [b] := by unfold bcW; rw [if_pos h1, if_pos (by omega), hw]; rfl
      rw [e4]
      obtain ⟨x, hx⟩ : ∃ x : Int, (b.toNat : Int) = x := ⟨_, rfl⟩
      have B1 : Below w.heap.size w (w.alloc (.cells #[.int .u8 x] 5)).drew := (below_alloc w (.cells #[.int .u8 x] 5)).drew
      have H1 := Lib.hid (h.below B1)
      have K1 := Lib.hid (KeptM.of (S := S) B1 h.lt)
      obtain ⟨_, _, _, d1, _, _, _, _, g1⟩ := H1.out.cells
      have g11 := g1 1
      have hcv : ∀ dst, Tryd.prog.underlying dst = some .string → (convert 97 dst (.slice (some ⟨w.heap.size, 0, none⟩) 1 1)).run Tryd.prog (w.alloc (Obj.cells #[.int .u8 x] 5)).drew = .ok (.string (mkL [b])) (w.alloc (Obj.cells #[.int .u8 x] 5)).drew := by
        rw [← hx]; exact convB b w.drew
      have HS := Lib.hid (H1.out.setW (s.wait ++ [b]))
      rw [← mkL_cat] at HS
      rw [hx]
      have hx1 : 32 ≤ x ∧ x ≤ 63 := by omega
      clear h hw hK B1 DN e1 e2 e3 e4 f1 g1 h1 hx hlt hg H KR
      generalize mkL s.wait = m at *
      generalize mkL [b] = mb at *
      generalize mkL g = mg at *
      obtain ⟨hx1, hx2⟩ := hx1
      have hsum : ¬ 9223372036854775807 < n + 2 + 1 := by omega
      go_enter Tryd.func305, Tryd.ntmps305
      go_upto_region 4 with fail
      go_region_law (fail)
      all_goals go_wp2
      all_goals go_ret
      all_goals exact ⟨rfl, HS.out.1, K1.out.trans HS.out.2⟩
    · have e4 : bcW g b = s.wait := by unfold bcW; rw [if_pos h1, if_neg (by omega), hw]
      rw [e4]
      obtain ⟨x, hx⟩ : ∃ x : Int, (b.toNat : Int) = x := ⟨_, rfl⟩
      rw [hx]
      have hx1 : 32 ≤ x ∧ x ≤ 63 := by omega
      clear h hw hK DN e1 e2 e3 e4 f1 h1 hx hlt hg
      generalize hm : mkL s.wait = m at *
      generalize mkL g = mg at *
      obtain ⟨hx1, hx2⟩ := hx1
      go_enter Tryd.func305, Tryd.ntmps305
      go_wp2
      go_ret
      exact ⟨rfl, H.out, KR.out⟩
  · have e4 : bcW g b = [] := by unfold bcW; rw [if_neg h1]
    have HS : Hid (InS S p q B { s with wait := [] } K (w.setCell ⟨p, 1, none⟩ (.string ⟨#[]⟩)) ∧ KeptM S w (w.setCell ⟨p, 1, none⟩ (.string ⟨#[]⟩))) := Lib.hid (h.setW [])
    by_cases h2 : 64 ≤ b.toNat ∧ b.toNat ≤ 126
    · have e1 : bcS s g b = dnS { s with wait := [] } g b := by unfold bcS; rw [if_pos h2]
      have e2 : bcK g b = dnK g b := by unfold bcK; rw [if_pos h2]
      have e3 : bcB b = false := by unfold bcB; rw [decide_eq_true (by omega)]; rfl
      rw [e1, e2, e3]
      have hx1 : ¬ b.toNat ≤ 63 := by omega
      obtain ⟨hx2, hx3⟩ := h2
      clear h hw hK e1 e2 e3 e4 f1 h1 hg
      generalize mkL s.wait = m at *
      generalize mkL g = mg at *
      generalize dnS { s with wait := [] } g b = s2 at *
      generalize dnK g b = k2 at *
      generalize b.toNat = x at *
      go_enter Tryd.func305, Tryd.ntmps305
      go_wp2_with (go_at_call 321; refine (DN.out _ HS.out.1).mono ?_; rintro e w3 ⟨rfl, h3, k3⟩; have H3 := Lib.hid h3; have K3 := Lib.hid k3; clear h3 k3)
      go_ret
      exact ⟨rfl, H3.out, HS.out.2.trans K3.out⟩
    · have e1 : bcS s g b = { s with wait := [] } := by unfold bcS; rw [if_neg h2, e4]
      have e2 : bcK g b = [] := by unfold bcK; rw [if_neg h2]
      have e3 : bcB b = true := by unfold bcB; rw [decide_eq_false (by omega)]; rfl
      rw [e1, e2, e3, List.append_nil]
      have hx : b.toNat < 32 ∨ 126 < b.toNat := by omega
      clear h hw hK e1 e2 e3 e4 f1 h1 h2 hg DN
      generalize mkL s.wait = m at *
      generalize mkL g = mg at *
      generalize b.toNat = x at *
      rcases hx with hx | hx
      · go_enter Tryd.func305, Tryd.ntmps305
        go_wp2
        go_ret
        exact ⟨rfl, HS.out.1, HS.out.2⟩
      · go_enter Tryd.func305, Tryd.ntmps305
        go_wp2
        go_ret
        exact ⟨rfl, HS.out.1, HS.out.2⟩
end
end Go.Proofs.YtangpdaoacjinaaDoor
set_option linter.unusedVariables false
set_option linter.unusedSimpArgs false
namespace Go.Proofs.YtangpdaoacjinaaDoor
open Go.RowKit
set_option maxHeartbeats 4000000 in
set_option maxRecDepth 100000 in
theorem rword_ref (s : List UInt8) (w : World) (hs : s.length ≤ 1000000) : Calls Tryd.prog 15 #[.string (mkL s)] w fun e w' => e = .returned (.string (mkL (wdL s))) ∧ w = w' := by
  obtain ⟨n, hn⟩ : ∃ n, s.length = n := ⟨_, rfl⟩
  have hz : (mkL s).size = n := by rw [mkL_size, hn]
  have HN := Lib.hid hn
  obtain ⟨R, hR⟩ : ∃ R, wdL s = R := ⟨_, rfl⟩
  rw [hR]
  have HR := Lib.hid hR
  rw [hn] at hs
  clear hn hR
  go_enter Tryd.func15, Tryd.ntmps15
  go_upto_region 3 with fail
  go_loopw [3, 4] (fun ov iv wr => ∃ (k : Nat) (L : List UInt8), k ≤ n ∧ iv = .int .i64 (k : Int) ∧ ov = .string (mkL L) ∧ Hid (wdL (s.take k) = L) ∧ w = wr) (fun _ iv _ => n - (intOf iv).toNat)
  case atStart => exact ⟨0, [46], Nat.zero_le _, rfl, rfl, Lib.hid rfl, rfl⟩
  case round =>
    obtain ⟨k, L, hk, rfl, rfl, HL, rfl⟩ := hrel
    have hlen : L.length ≤ 1 + 3 * k := by
      rw [← HL.out]; have := wdL_len (s.take k); rw [List.length_take] at this; omega
    by_cases hlt : k < n
    · have hkl : k < s.length := by rw [HN.out]; exact hlt
      have hk1 : (k : Int) < n := by omega
      have hk0 : (0 : Int) ≤ k := by omega
      have hk2 : (k : Int) + 1 ≤ n := by omega
      have ix := fun w => idx_run s k hkl w
      have hst := wdL_take s k hkl
      rw [HL.out] at hst
      have hx : (mkL s).extract k (k + 1) = mkL [s.getD k 0] := by
        rw [mkL_ext, Nat.add_sub_cancel_left, List.drop_eq_getElem_cons hkl, List.getD, List.getElem?_eq_getElem hkl]
        rfl
      generalize s.getD k 0 = u at *
      have hu := u.toNat_lt
      have z1 : (mkL L).size = L.length := mkL_size L
      by_cases hp : wdP u
      · have hst' : wdL (s.take (k + 1)) = L ++ [u] := by rw [hst]; unfold wdB; rw [if_pos hp]
        have HS := Lib.hid hst'
        obtain ⟨h33, h126, h92⟩ := hp
        have g33 : (33 : Int) ≤ (u.toNat : Int) := by omega
        have g126 : (u.toNat : Int) ≤ 126 := by omega
        have g92 : ((u.toNat : Int) == 92) = false := by rw [beq_eq_false_iff_ne]; omega
        have zc := mkL_cat L [u]
        have z2 : (mkL [u]).size = 1 := mkL_size _
        have hs9 : ¬ 9223372036854775807 < L.length + 1 := by omega
        clear hst hst' hkl h33 h126 h92 hu
        generalize (u.toNat : Int) = y at *
        generalize mkL [u] = mu at *
        go_wp2
        go_roundw
        case rel => exact ⟨k + 1, L ++ [u], by omega, by go_num, by first | rfl | rw [zc], HS, by first | rfl | trivial⟩
        case measure => (simp [intOf]; try omega)
      · have H := Lib.hid (fun w => rhex2 (u.toNat : Int) w (by omega) (by omega))
        have hl2 := (hex2 u).1
        have hst' : wdL (s.take (k + 1)) = L ++ 92 :: hexN (u.toNat : Int) 2 := by rw [hst]; unfold wdB; rw [if_neg hp]
        have HS := Lib.hid hst'
        have hc : ¬ (33 : Int) ≤ (u.toNat : Int) ∨ ((33 : Int) ≤ (u.toNat : Int) ∧ ¬ (u.toNat : Int) ≤ 126) ∨ ((33 : Int) ≤ (u.toNat : Int) ∧ (u.toNat : Int) ≤ 126 ∧ (u.toNat : Int) = 92) := by
          unfold wdP at hp; omega
        have hu' : (u.toNat : Int) < 256 := by omega
        have hu0 : (0 : Int) ≤ (u.toNat : Int) := by omega
        generalize hexN (u.toNat : Int) 2 = X at *
        have zc : mkL L ++ ⟨#[92]⟩ = mkL (L ++ [92]) := mkL_cat L [92]
        have zd : mkL (L ++ [92]) ++ mkS X = mkL (L ++ 92 :: X) := by
          rw [show mkS X = mkL X from rfl, mkL_cat, List.append_assoc]; rfl
        have z2 : (⟨#[92]⟩ : ByteArray).size = 1 := rfl
        have z3 : (mkL (L ++ [92])).size = L.length + 1 := by rw [mkL_size, List.length_append]; rfl
        have z4 : (mkS X).size = 2 := by rw [mkS_size, hl2]
        have hs9 : ¬ 9223372036854775807 < L.length + 1 := by omega
        have hs8 : ¬ 9223372036854775807 < L.length + 1 + 2 := by omega
        clear hst hst' hkl hl2 hp hu hx
        generalize (u.toNat : Int) = y at *
        generalize mkS X = mx at *
        rcases hc with g | ⟨g, g2⟩ | ⟨g, g2, g3⟩
        all_goals
          try subst g3
          go_wp2_with (go_at_call 58; refine (H.out _).mono ?_; rintro e w4 ⟨rfl, rfl⟩)
          go_roundw
          case rel => exact ⟨k + 1, L ++ 92 :: X, by omega, by go_num, by first | rfl | rw [zc, zd] | rw [zd], HS, by first | rfl | trivial⟩
          case measure => (simp [intOf]; try omega)
    · obtain rfl : k = n := by omega
      have hnn : ¬ (k : Int) < (k : Int) := by omega
      have htk : s.take k = s := List.take_of_length_le (by rw [HN.out]; exact Nat.le_refl _)
      have hh := HL.out
      rw [htk, HR.out] at hh
      subst hh
      clear htk
      go_wp2
      go_ret
      exact ⟨rfl, rfl⟩
end Go.Proofs.YtangpdaoacjinaaDoor
set_option linter.unusedVariables false
set_option linter.unusedSimpArgs false
namespace Go.Proofs.YtangpdaoacjinaaDoor
open Go.RowKit
/-- A byte behind the beginning of a value: what waits, the keys, whether it is to be taken anew. -/
def buW (l : List UInt8) (b : UInt8) : List UInt8 := if pB (mkL (l ++ [b])) = true then l ++ [b] else []
def buK (l : List UInt8) (b : UInt8) : List Ky := if pB (mkL (l ++ [b])) = true then [] else if (oneS (mkL (l ++ [b]))).2 = l.length + 1 then [kv0 1 ((oneS (mkL (l ++ [b]))).1 : Int)] else stK l
def buB (l : List UInt8) (b : UInt8) : Bool := !(pB (mkL (l ++ [b])) || decide ((oneS (mkL (l ++ [b]))).2 = l.length + 1))
section
variable {S : Nat → Prop} {p q B : Nat} {s : IS} {K : List Ky} {w w' : World}
set_option maxHeartbeats 8000000 in
theorem behindU_any (b : UInt8) (h : InS S p q B s K w) (hU : US S w) (hne : s.wait ≠ []) (h0 : s.wait.getD 0 0 ≠ 27) (hl : s.wait.length ≤ 3) (hK : K.length ≤ 98900) :
    Calls Tryd.prog 259 #[.pointer (some ⟨p, 0, none⟩), .int .u8 (b.toNat : Int), .func (.func 194) #[] #[.pointer (some ⟨q, 0, none⟩)]] w fun e w' => e = .returned (.bool (buB s.wait b)) ∧ InS S p q B { s with wait := buW s.wait b } (K ++ buK s.wait b) w' ∧ KeptM S w w' := by
  have hlt : b.toNat < 256 := b.toNat_lt
  have hpos := List.length_pos_iff.2 hne
  have ST := Lib.hid (fun w h u => settle_any (S := S) (p := p) (q := q) (B := B) (s := s) (K := K) (w := w) h u (by omega) hK)
  have TL := Lib.hid (fun w (k : Ky) h => tellk_any (S := S) (p := p) (q := q) (B := B) (s := { s with wait := [] }) (K := K) (w := w) k h (by omega))
  have PT := Lib.hid (fun w hT => partial_any (mkL (s.wait ++ [b])) w hT (by rw [mkL_size, List.length_append, List.length_singleton]; omega))
  have OT := Lib.hid (fun w hT => one_any (mkL (s.wait ++ [b])) w hT (by rw [mkL_size, List.length_append, List.length_singleton]; omega))
  have H := Lib.hid h
  have HU := Lib.hid hU
  obtain ⟨_, _, _, c1, _⟩ := h.cells
  obtain ⟨n, hn⟩ : ∃ n, s.wait.length = n := ⟨_, rfl⟩
  have z1 : (mkL s.wait).size = n := by rw [mkL_size, hn]
  have z2 : (mkL [b]).size = 1 := by rw [mkL_size]; rfl
  have z3 : (mkL (s.wait ++ [b])).size = n + 1 := by rw [mkL_size, List.length_append, hn]; rfl
  have zc := mkL_cat s.wait [b]
  have n1 : ((mkL s.wait).toList == [27]) = false := bq_ne (fun e => h0 (by rw [e]; rfl))
  have n2 : ((mkL s.wait).toList == [27, 79]) = false := bq_ne (fun e => h0 (by rw [e]; rfl))
  have ix := fun w => idx_run s.wait 0 hpos w
  obtain ⟨y, hy⟩ : ∃ y : Int, ((s.wait.getD 0 0).toNat : Int) = y := ⟨_, rfl⟩
  have hy27 : (y == 27) = false := by
    have : (s.wait.getD 0 0).toNat ≠ 27 := fun e => h0 (UInt8.toNat_inj.1 e)
    simp; omega
  have hcb := fun w => convB b w
  have hy28 : (y == ((({ data := #[27] } : ByteArray)[0]'(by decide)).toNat : Int)) = false := hy27
  have hp : (0 : Int) < (n : Int) := by omega
  have hp0 : 0 < n := by omega
  have hn3 : n ≤ 3 := by omega
  rw [show ((0 : Nat) : Int) = 0 from rfl, hy] at ix
  obtain ⟨x, hx⟩ : ∃ x : Int, (b.toNat : Int) = x := ⟨_, rfl⟩
  rw [hx]
  rw [hx] at hcb
  have hsum : ¬ 9223372036854775807 < n + 1 := by omega
  have HS := Lib.hid (fun w (h : InS S p q B s K w) => h.setW (s.wait ++ [b]))
  have HZ : Hid (∀ w, InS S p q B s K w → (InS S p q B { s with wait := [] } K (w.setCell ⟨p, 1, none⟩ (.string ⟨#[]⟩)) ∧ KeptM S w (w.setCell ⟨p, 1, none⟩ (.string ⟨#[]⟩)))) := Lib.hid (fun w h => h.setW [])
  have hnl : Hid (s.wait.length = n) := Lib.hid hn
  clear h hU hne h0 hl hpos hy hn
  by_cases hpb : pB (mkL (s.wait ++ [b])) = true
  · have e1 : buW s.wait b = s.wait ++ [b] := by unfold buW; rw [if_pos hpb]
    have e2 : buK s.wait b = [] := by unfold buK; rw [if_pos hpb]
    have e3 : buB s.wait b = false := by unfold buB; rw [hpb]; rfl
    rw [e1, e2, e3, List.append_nil]
    rw [hpb] at PT
    clear e1 e2 e3 hpb ST TL OT
    go_enter Tryd.func259, Tryd.ntmps259
    go_upto_region 5 with fail
    go_quiet (fail)
    have B0 : Below w.heap.size w (w.drewN nq) := ⟨rfl, rfl, rfl, Nat.le_refl _, fun _ _ => rfl⟩
    obtain ⟨W, hW⟩ : ∃ W, w.drewN nq = W := ⟨_, rfl⟩
    rw [hW] at B0 ⊢
    have H0 := Lib.hid (H.out.below B0)
    have K0 := Lib.hid (KeptM.of (S := S) B0 H.out.lt)
    clear hW B0 c1
    obtain ⟨_, _, _, c1, _⟩ := H0.out.cells
    have B1 : Below W.heap.size W (W.alloc (.cells #[.int .u8 x] 5)).drew := (below_alloc W (.cells #[.int .u8 x] 5)).drew
    have H1 := Lib.hid (H0.out.below B1)
    have K1 := Lib.hid (K0.out.trans (KeptM.of (S := S) B1 H0.out.lt))
    have U1 := Lib.hid (HU.out.kept K1.out)
    obtain ⟨_, _, _, d1, _⟩ := H1.out.cells
    have hcv : ∀ dst, Tryd.prog.underlying dst = some .string → (convert 97 dst (.slice (some ⟨W.heap.size, 0, none⟩) 1 1)).run Tryd.prog (W.alloc (Obj.cells #[.int .u8 x] 5)).drew = .ok (.string (mkL [b])) (W.alloc (Obj.cells #[.int .u8 x] 5)).drew := hcb W.drew
    clear B1 hcb
    go_upto_region 7 with fail
    go_region_law (fail)
    all_goals go_wp2_with (go_at_call 257; refine (PT.out _ U1.out.u).mono ?_; rintro e w2 ⟨rfl, hb⟩; have H2 := Lib.hid (H1.out.below hb); have K2 := Lib.hid (K1.out.trans (KeptM.of hb H1.out.lt)); clear hb; obtain ⟨_, _, _, e1, _, _, _, _, f1⟩ := H2.out.cells; have f11 := f1 1; clear f1; have X := Lib.hid (HS.out _ H2.out))
    all_goals go_ret
    all_goals exact ⟨rfl, X.out.1, K2.out.trans X.out.2⟩
  have hpf : pB (mkL (s.wait ++ [b])) = false := by simpa using hpb
  rw [hpf] at PT
  obtain ⟨v, hv⟩ : ∃ v : Int, ((oneS (mkL (s.wait ++ [b]))).1 : Int) = v := ⟨_, rfl⟩
  obtain ⟨m, hm⟩ : ∃ m : Nat, (oneS (mkL (s.wait ++ [b]))).2 = m := ⟨_, rfl⟩
  have e1 : buW s.wait b = [] := by unfold buW; rw [if_neg hpb]
  have e2 : buK s.wait b = if m = n + 1 then [kv0 1 v] else stK s.wait := by unfold buK; rw [if_neg hpb, hm, hv, hnl.out]
  have e3 : buB s.wait b = !decide (m = n + 1) := by unfold buB; rw [hpf, hm, hnl.out]; rfl
  rw [e1, e2, e3]
  rw [hv, hm] at OT
  clear e1 e2 e3 hpb hpf hv hm HS
  by_cases hmn : m = n + 1
  · rw [if_pos hmn, decide_eq_true hmn]
    subst hmn
    clear ST
    go_enter Tryd.func259, Tryd.ntmps259
    go_upto_region 5 with fail
    go_quiet (fail)
    have B0 : Below w.heap.size w (w.drewN nq) := ⟨rfl, rfl, rfl, Nat.le_refl _, fun _ _ => rfl⟩
    obtain ⟨W, hW⟩ : ∃ W, w.drewN nq = W := ⟨_, rfl⟩
    rw [hW] at B0 ⊢
    have H0 := Lib.hid (H.out.below B0)
    have K0 := Lib.hid (KeptM.of (S := S) B0 H.out.lt)
    clear hW B0 c1
    obtain ⟨_, _, _, c1, _⟩ := H0.out.cells
    have B1 : Below W.heap.size W (W.alloc (.cells #[.int .u8 x] 5)).drew := (below_alloc W (.cells #[.int .u8 x] 5)).drew
    have H1 := Lib.hid (H0.out.below B1)
    have K1 := Lib.hid (K0.out.trans (KeptM.of (S := S) B1 H0.out.lt))
    have U1 := Lib.hid (HU.out.kept K1.out)
    obtain ⟨_, _, _, d1, _⟩ := H1.out.cells
    have hcv : ∀ dst, Tryd.prog.underlying dst = some .string → (convert 97 dst (.slice (some ⟨W.heap.size, 0, none⟩) 1 1)).run Tryd.prog (W.alloc (Obj.cells #[.int .u8 x] 5)).drew = .ok (.string (mkL [b])) (W.alloc (Obj.cells #[.int .u8 x] 5)).drew := hcb W.drew
    clear B1 hcb
    go_upto_region 7 with fail
    go_region_law (fail)
    all_goals go_wp2_with (first
      | (go_at_call 257; refine (PT.out _ U1.out.u).mono ?_; rintro e w2 ⟨rfl, hb⟩; have H2 := Lib.hid (H1.out.below hb); have K2 := Lib.hid (K1.out.trans (KeptM.of hb H1.out.lt)); have U2 := Lib.hid (HU.out.kept K2.out); clear hb)
      | (go_at_call 208; refine (OT.out _ U2.out.u).mono ?_; rintro e w3 ⟨rfl, hb⟩; have H3 := Lib.hid (H2.out.below hb); have K3 := Lib.hid (K2.out.trans (KeptM.of hb H2.out.lt)); clear hb; obtain ⟨_, _, _, e1, _, _, _, _, f1⟩ := H3.out.cells; have f11 := f1 1; clear f1; have X := Lib.hid (HZ.out _ H3.out))
      | (go_at_call 194; refine (TL.out _ (kv0 1 v) X.out.1).mono ?_; rintro e w4 ⟨rfl, h4, k4⟩; have H4 := Lib.hid h4; have K4 := Lib.hid k4; clear h4 k4))
    all_goals go_ret
    all_goals exact ⟨rfl, H4.out, (K3.out.trans X.out.2).trans K4.out⟩
  · rw [if_neg hmn, decide_eq_false hmn]
    have hmi : ((m : Int) == (n : Int) + 1) = false := by simp; omega
    clear TL HZ
    go_enter Tryd.func259, Tryd.ntmps259
    go_upto_region 5 with fail
    go_quiet (fail)
    have B0 : Below w.heap.size w (w.drewN nq) := ⟨rfl, rfl, rfl, Nat.le_refl _, fun _ _ => rfl⟩
    obtain ⟨W, hW⟩ : ∃ W, w.drewN nq = W := ⟨_, rfl⟩
    rw [hW] at B0 ⊢
    have H0 := Lib.hid (H.out.below B0)
    have K0 := Lib.hid (KeptM.of (S := S) B0 H.out.lt)
    clear hW B0 c1
    obtain ⟨_, _, _, c1, _⟩ := H0.out.cells
    have B1 : Below W.heap.size W (W.alloc (.cells #[.int .u8 x] 5)).drew := (below_alloc W (.cells #[.int .u8 x] 5)).drew
    have H1 := Lib.hid (H0.out.below B1)
    have K1 := Lib.hid (K0.out.trans (KeptM.of (S := S) B1 H0.out.lt))
    have U1 := Lib.hid (HU.out.kept K1.out)
    obtain ⟨_, _, _, d1, _⟩ := H1.out.cells
    have hcv : ∀ dst, Tryd.prog.underlying dst = some .string → (convert 97 dst (.slice (some ⟨W.heap.size, 0, none⟩) 1 1)).run Tryd.prog (W.alloc (Obj.cells #[.int .u8 x] 5)).drew = .ok (.string (mkL [b])) (W.alloc (Obj.cells #[.int .u8 x] 5)).drew := hcb W.drew
    clear B1 hcb
    go_upto_region 7 with fail
    go_region_law (fail)
    all_goals go_wp2_with (first
      | (go_at_call 257; refine (PT.out _ U1.out.u).mono ?_; rintro e w2 ⟨rfl, hb⟩; have H2 := Lib.hid (H1.out.below hb); have K2 := Lib.hid (K1.out.trans (KeptM.of hb H1.out.lt)); have U2 := Lib.hid (HU.out.kept K2.out); clear hb)
      | (go_at_call 208; refine (OT.out _ U2.out.u).mono ?_; rintro e w3 ⟨rfl, hb⟩; have H3 := Lib.hid (H2.out.below hb); have K3 := Lib.hid (K2.out.trans (KeptM.of hb H2.out.lt)); have U3 := Lib.hid (HU.out.kept K3.out); clear hb)
      | (go_at_call 196; refine (ST.out _ H3.out U3.out).mono ?_; rintro e w4 ⟨rfl, h4, k4⟩; have H4 := Lib.hid h4; have K4 := Lib.hid k4; clear h4 k4))
    all_goals go_ret
    all_goals exact ⟨rfl, H4.out, K3.out.trans K4.out⟩
end
end Go.Proofs.YtangpdaoacjinaaDoor
set_option linter.unusedVariables false
set_option linter.unusedSimpArgs false
namespace Go.Proofs.YtangpdaoacjinaaDoor
open Go.RowKit
/-- What may wait. -/
def WOk (l : List UInt8) : Prop := l = [27] ∨ l = [27, 79] ∨ (∃ g, l = 27 :: 91 :: g ∧ g.length ≤ 4) ∨ (l ≠ [] ∧ l.getD 0 0 ≠ 27 ∧ l.length ≤ 3)
/-- A byte behind what waits: the object, the keys, whether it is to be taken anew. -/
def bhR (s : IS) (b : UInt8) : IS × List Ky × Bool :=
  if s.wait = [27] then ({ s with wait := (beS b).1 }, (beS b).2.1, (beS b).2.2)
  else if s.wait = [27, 79] then ({ s with wait := [] }, lkK b, decide (b.toNat < 32 ∨ 126 < b.toNat))
  else if s.wait.getD 0 0 = 27 then (bcS s (s.wait.drop 2) b, bcK (s.wait.drop 2) b, bcB b)
  else ({ s with wait := buW s.wait b }, buK s.wait b, buB s.wait b)
section
variable {S : Nat → Prop} {p q B : Nat} {s : IS} {K : List Ky} {w w' : World}
set_option maxHeartbeats 8000000 in
theorem behind_any (b : UInt8) (h : InS S p q B s K w) (hU : US S w) (hW : WOk s.wait) (hK : K.length ≤ 98900) :
    Calls Tryd.prog 259 #[.pointer (some ⟨p, 0, none⟩), .int .u8 (b.toNat : Int), .func (.func 194) #[] #[.pointer (some ⟨q, 0, none⟩)]] w fun e w' => e = .returned (.bool (bhR s b).2.2) ∧ InS S p q B (bhR s b).1 (K ++ (bhR s b).2.1) w' ∧ KeptM S w w' := by
  have H := Lib.hid h
  have HU := Lib.hid hU
  obtain ⟨_, _, _, c1, _⟩ := h.cells
  rcases hW with hw | hw | ⟨g, hw, hg⟩ | ⟨h1, h2, h3⟩
  · have e : bhR s b = ({ s with wait := (beS b).1 }, (beS b).2.1, (beS b).2.2) := by unfold bhR; rw [if_pos hw]
    rw [e]
    dsimp only
    have CL := Lib.hid (fun w h u => bescape_any (S := S) (p := p) (q := q) (B := B) (s := s) (K := K) (w := w) b h u hw hK)
    rw [hw, show mkL [27] = ⟨#[27]⟩ from rfl] at c1
    clear h hU hK hw e
    generalize (beS b).2.2 = rb at *
    generalize (beS b).2.1 = rk at *
    generalize (beS b).1 = rs at *
    generalize b.toNat = x at *
    go_enter Tryd.func259, Tryd.ntmps259
    go_wp2_with (go_at_call 303; refine (CL.out _ H.out HU.out).mono ?_; rintro e w4 ⟨rfl, h4, k4⟩; have H4 := Lib.hid h4; have K4 := Lib.hid k4; clear h4 k4)
    go_ret
    exact ⟨rfl, H4.out, K4.out⟩
  · have e : bhR s b = ({ s with wait := [] }, lkK b, decide (b.toNat < 32 ∨ 126 < b.toNat)) := by unfold bhR; rw [if_neg (by rw [hw]; decide), if_pos hw]
    rw [e]
    dsimp only
    have CL := Lib.hid (fun w h => bsingle_any (S := S) (p := p) (q := q) (B := B) (s := s) (K := K) (w := w) b h hK)
    rw [hw, show mkL [27, 79] = ⟨#[27, 79]⟩ from rfl] at c1
    clear h hU hK hw e
    generalize decide (b.toNat < 32 ∨ 126 < b.toNat) = rb at *
    generalize lkK b = rk at *
    generalize b.toNat = x at *
    go_enter Tryd.func259, Tryd.ntmps259
    go_wp2_with (go_at_call 304; refine (CL.out _ H.out).mono ?_; rintro e w4 ⟨rfl, h4, k4⟩; have H4 := Lib.hid h4; have K4 := Lib.hid k4; clear h4 k4)
    go_ret
    exact ⟨rfl, H4.out, K4.out⟩
  · have n1 : s.wait ≠ [27] := by rw [hw]; simp
    have n2 : s.wait ≠ [27, 79] := by rw [hw]; simp
    have e : bhR s b = (bcS s g b, bcK g b, bcB b) := by unfold bhR; rw [if_neg n1, if_neg n2, if_pos (by rw [hw]; rfl), hw]; rfl
    rw [e]
    dsimp only
    have CL := Lib.hid (fun w h => bcontrol_any (S := S) (p := p) (q := q) (B := B) (s := s) (K := K) (w := w) g b h hw hg hK)
    have m1 := bq_ne n1
    have m2 := bq_ne n2
    have hpos : 0 < s.wait.length := by rw [hw]; simp
    have ix := fun w => idx_run s.wait 0 hpos w
    rw [show ((0 : Nat) : Int) = 0 from rfl, show ((s.wait.getD 0 0).toNat : Int) = 27 by rw [hw]; rfl] at ix
    have z1 : (mkL s.wait).size = g.length + 2 := by rw [mkL_size, hw]; rfl
    clear h hU hK hw e n1 n2
    generalize bcB b = rb at *
    generalize bcK g b = rk at *
    generalize bcS s g b = rs at *
    generalize b.toNat = x at *
    go_enter Tryd.func259, Tryd.ntmps259
    go_upto_region 5 with fail
    go_quiet (fail)
    have B0 : Below w.heap.size w (w.drewN nq) := ⟨rfl, rfl, rfl, Nat.le_refl _, fun _ _ => rfl⟩
    obtain ⟨W, hW⟩ : ∃ W, w.drewN nq = W := ⟨_, rfl⟩
    rw [hW] at B0 ⊢
    have H0 := Lib.hid (H.out.below B0)
    have K0 := Lib.hid (KeptM.of (S := S) B0 H.out.lt)
    clear hW B0 c1
    go_wp2_with (go_at_call 305; refine (CL.out _ H0.out).mono ?_; rintro e w4 ⟨rfl, h4, k4⟩; have H4 := Lib.hid h4; have K4 := Lib.hid k4; clear h4 k4)
    go_ret
    exact ⟨rfl, H4.out, K0.out.trans K4.out⟩
  · have e : bhR s b = ({ s with wait := buW s.wait b }, buK s.wait b, buB s.wait b) := by
      unfold bhR
      rw [if_neg (fun e => h2 (by rw [e]; rfl)), if_neg (fun e => h2 (by rw [e]; rfl)), if_neg h2]
    rw [e]
    exact behindU_any b h hU h1 h2 h3 hK
/-- Behind what waits, a byte to be taken anew leaves nothing. -/
theorem bh_anew (s : IS) (b : UInt8) (h : (bhR s b).2.2 = true) : (bhR s b).1 = { s with wait := [] } := by
  unfold bhR at h ⊢
  by_cases h1 : s.wait = [27]
  · rw [if_pos h1] at h ⊢
    dsimp only at h ⊢
    unfold beS at h ⊢
    split at h
    · simp at h
    · rename_i hh
      rw [if_neg hh]
      split at h
      · simp at h
      · rename_i h2
        rw [if_neg h2]
  rw [if_neg h1] at h ⊢
  by_cases h2 : s.wait = [27, 79]
  · rw [if_pos h2]
  rw [if_neg h2] at h ⊢
  by_cases h3 : s.wait.getD 0 0 = 27
  · rw [if_pos h3] at h ⊢
    dsimp only at h ⊢
    unfold bcB at h
    have h4 : ¬ (32 ≤ b.toNat ∧ b.toNat ≤ 126) := by simp at h; omega
    unfold bcS bcW
    rw [if_neg (by omega), if_neg (by omega)]
  · rw [if_neg h3] at h ⊢
    dsimp only at h ⊢
    unfold buB at h
    unfold buW
    have h4 : ¬ pB (mkL (s.wait ++ [b])) = true := fun h5 => by rw [h5] at h; simp at h
    rw [if_neg h4]
end
end Go.Proofs.YtangpdaoacjinaaDoor
set_option linter.unusedVariables false
set_option linter.unusedSimpArgs false
namespace Go.Proofs.YtangpdaoacjinaaDoor
open Go.RowKit
/-- A byte outside of pastes: the object and the keys. -/
def tkR (s : IS) (b : UInt8) : IS × List Ky :=
  if b.toNat = 13 ∨ b.toNat = 10 then ({ s with wait := [] }, stK s.wait ++ [kv0 4 b.toNat])
  else if b.toNat = 27 then ({ s with wait := [27] }, stK s.wait)
  else if s.wait = [] then ({ s with wait := frW b }, frK b)
  else if (bhR s b).2.2 = true then ({ s with wait := frW b }, (bhR s b).2.1 ++ frK b)
  else ((bhR s b).1, (bhR s b).2.1)
section
variable {S : Nat → Prop} {p q B : Nat} {s : IS} {K : List Ky} {w w' : World}
theorem stK_len {l : List UInt8} (h : l.length ≤ 9) : (stK l).length ≤ 9 := by
  unfold stK
  split
  · simp
  · split
    · rw [List.length_map]; exact h
    · simp
theorem dnK_len (g : List UInt8) (b : UInt8) : (dnK g b).length ≤ 9 := by
  unfold dnK sgK lkK
  repeat' split
  all_goals simp
theorem bhK_len (s : IS) (b : UInt8) (h : s.wait.length ≤ 9) : (bhR s b).2.1.length ≤ 9 := by
  unfold bhR
  split
  · unfold beS; repeat' split
    all_goals simp
  split
  · unfold lkK; split <;> simp
  split
  · dsimp only
    unfold bcK; split
    · exact dnK_len _ _
    · simp
  · dsimp only
    unfold buK
    split
    · simp
    · split
      · simp
      · exact stK_len h
set_option maxHeartbeats 8000000 in
theorem take_any (b : UInt8) (h : InS S p q B s K w) (hU : US S w) (hW : s.wait = [] ∨ WOk s.wait) (hK : K.length ≤ 98800) :
    Calls Tryd.prog 197 #[.pointer (some ⟨p, 0, none⟩), .int .u8 (b.toNat : Int), .func (.func 194) #[] #[.pointer (some ⟨q, 0, none⟩)]] w fun e w' => e = .returned (.tuple #[]) ∧ InS S p q B (tkR s b).1 (K ++ (tkR s b).2) w' ∧ KeptM S w w' := by
  have hlt : b.toNat < 256 := b.toNat_lt
  have H := Lib.hid h
  have HU := Lib.hid hU
  have hw9 : s.wait.length ≤ 9 := by
    rcases hW with h | h | h | ⟨g, h, hg⟩ | ⟨_, _, h⟩
    · rw [h]; simp
    · rw [h]; simp
    · rw [h]; simp
    · rw [h]; simp; omega
    · omega
  have ST := Lib.hid (fun w h u => settle_any (S := S) (p := p) (q := q) (B := B) (s := s) (K := K) (w := w) h u hw9 (by omega))
  obtain ⟨_, _, _, c1, _⟩ := h.cells
  by_cases h1 : b.toNat = 13 ∨ b.toNat = 10
  · have e : tkR s b = ({ s with wait := [] }, stK s.wait ++ [kv0 4 b.toNat]) := by unfold tkR; rw [if_pos h1]
    rw [e]
    dsimp only
    rw [← List.append_assoc]
    obtain ⟨x, hx⟩ : ∃ x : Int, (b.toNat : Int) = x := ⟨_, rfl⟩
    have TL := Lib.hid (fun w h => tellk_any (S := S) (p := p) (q := q) (B := B) (s := { s with wait := [] }) (K := K ++ stK s.wait) (w := w) (kv0 4 x) h (by rw [List.length_append]; have := stK_len hw9; omega))
    rw [hx]
    have h1' : x = 13 ∨ x = 10 := by omega
    clear h hU hK hW hw9 e h1 hx
    rcases h1' with rfl | rfl
    · go_enter Tryd.func197, Tryd.ntmps197
      go_wp2
      go_step3
      go_wp2
      go_step3
      go_wp2_with (first
        | (go_at_call 196; refine (ST.out _ H.out HU.out).mono ?_; rintro e w4 ⟨rfl, h4, k4⟩; have H4 := Lib.hid h4; have K4 := Lib.hid k4; clear h4 k4)
        | (go_at_call 194; refine (TL.out _ H4.out).mono ?_; rintro e w5 ⟨rfl, h5, k5⟩; have H5 := Lib.hid h5; have K5 := Lib.hid k5; clear h5 k5))
      rw [Exit.noGoto_normal]
      go_end0
      exact ⟨rfl, H5.out, K4.out.trans K5.out⟩
    · go_enter Tryd.func197, Tryd.ntmps197
      go_wp2
      go_step3
      go_wp2
      go_step3
      go_wp2_with (first
        | (go_at_call 196; refine (ST.out _ H.out HU.out).mono ?_; rintro e w4 ⟨rfl, h4, k4⟩; have H4 := Lib.hid h4; have K4 := Lib.hid k4; clear h4 k4)
        | (go_at_call 194; refine (TL.out _ H4.out).mono ?_; rintro e w5 ⟨rfl, h5, k5⟩; have H5 := Lib.hid h5; have K5 := Lib.hid k5; clear h5 k5))
      rw [Exit.noGoto_normal]
      go_end0
      exact ⟨rfl, H5.out, K4.out.trans K5.out⟩
  by_cases h2 : b.toNat = 27
  · have e : tkR s b = ({ s with wait := [27] }, stK s.wait) := by unfold tkR; rw [if_neg h1, if_pos h2]
    rw [e, show (b.toNat : Int) = 27 by omega]
    dsimp only
    clear h hU hK hW hw9 e h1 h2 hlt
    go_enter Tryd.func197, Tryd.ntmps197
    go_wp2
    go_step3
    go_wp2
    go_step3
    go_wp2_with (go_at_call 196; refine (ST.out _ H.out HU.out).mono ?_; rintro e w4 ⟨rfl, h4, k4⟩; have H4 := Lib.hid h4; have K4 := Lib.hid k4; clear h4 k4; obtain ⟨_, _, _, d1, _, _, _, _, f1⟩ := H4.out.cells; have f11 := f1 1; clear f1; have X : Hid (InS S p q B { s with wait := [27] } (K ++ stK s.wait) (w4.setCell ⟨p, 1, none⟩ (.string ⟨#[27]⟩)) ∧ KeptM S w4 (w4.setCell ⟨p, 1, none⟩ (.string ⟨#[27]⟩))) := Lib.hid (H4.out.setW [27]))
    rw [Exit.noGoto_normal]
    go_end0
    exact ⟨rfl, X.out.1, K4.out.trans X.out.2⟩
  obtain ⟨x, hx⟩ : ∃ x : Int, (b.toNat : Int) = x := ⟨_, rfl⟩
  have x1 : (x == 13) = false := by simp; omega
  have x2 : (x == 10) = false := by simp; omega
  have x3 : (x == 27) = false := by simp; omega
  have FR := Lib.hid (fun w K h u hl => fresh_any (S := S) (p := p) (q := q) (B := B) (s := { s with wait := [] }) (K := K) (w := w) b h u rfl hl)
  rw [hx] at FR ⊢
  by_cases h3 : s.wait = []
  · have e : tkR s b = ({ s with wait := frW b }, frK b) := by unfold tkR; rw [if_neg h1, if_neg h2, if_pos h3]
    rw [e]
    dsimp only
    rw [h3, show mkL [] = ⟨#[]⟩ from rfl] at c1
    have H' : Hid (InS S p q B { s with wait := [] } K w) := Lib.hid (by have : s = { s with wait := [] } := by cases s; simp_all
                                                                         rw [← this]; exact h)
    have FR' := Lib.hid (FR.out w K H'.out HU.out (by omega))
    clear h hU hK hW hw9 e h1 h2 hlt hx ST FR
    go_enter Tryd.func197, Tryd.ntmps197
    go_wp2
    go_step3
    go_wp2
    go_step3
    go_wp2_with (go_at_call 258; refine FR'.out.mono ?_; rintro e w4 ⟨rfl, h4, k4⟩; have H4 := Lib.hid h4; have K4 := Lib.hid k4; clear h4 k4)
    rw [Exit.noGoto_normal]
    go_end0
    exact ⟨rfl, H4.out, K4.out⟩
  have hWk : WOk s.wait := by
    rcases hW with h | h
    · exact absurd h h3
    · exact h
  have BH := Lib.hid (behind_any b h hU hWk (by omega))
  rw [hx] at BH
  have hne := bq_ne h3
  by_cases h4 : (bhR s b).2.2 = true
  · have e : tkR s b = ({ s with wait := frW b }, (bhR s b).2.1 ++ frK b) := by unfold tkR; rw [if_neg h1, if_neg h2, if_neg h3, if_pos h4]
    rw [e]
    dsimp only
    rw [h4, bh_anew s b h4] at BH
    have hkl : Hid ((bhR s b).2.1.length ≤ 9) := Lib.hid (bhK_len s b hw9)
    have HKl := Lib.hid hK
    rw [← List.append_assoc]
    generalize (bhR s b).2.1 = ks at *
    clear h hU hK hW hw9 e h1 h2 hlt hx ST h3 h4 hWk
    go_enter Tryd.func197, Tryd.ntmps197
    go_wp2
    refine wp_scope_jumps 0 (fun a' w' => a' = { tmps := #[.pointer (some ⟨p, 0, none⟩), .int .u8 x, .func (.func 194) #[] #[.pointer (some ⟨q, 0, none⟩)], undef, undef, undef, .bool false, .int .u8 x, .bool false, .bool false, .int .u8 x, .bool false, .bool false, undef, undef, undef, undef, undef, undef, undef, undef, .bool false, .int .u8 x, .bool false, undef, undef, undef, undef, undef, undef, .bool false, .pointer (some ⟨p, 0, none⟩), .pointer (some ⟨p, 0, none⟩), .pointer (some ⟨p, 1, none⟩), .string (mkL s.wait), .bool false, undef, undef, undef, undef, .bool true, .pointer (some ⟨p, 0, none⟩), .int .u8 x, .func (.func 194) #[] #[.pointer (some ⟨q, 0, none⟩)], .bool true], defers := [] } ∧ Hid (InS S p q B { s with wait := [] } (K ++ ks) w') ∧ Hid (KeptM S w w')) (fun _ _ => 0) rfl ?_ ?_
    · go_wp2
      go_step3
      go_wp2_with (go_at_call 259; refine BH.out.mono ?_; rintro e w4 ⟨rfl, h4, k4⟩; have H4 := Lib.hid h4; have K4 := Lib.hid k4; clear h4 k4)
      go_step3
      exact ⟨rfl, rfl, H4, K4⟩
    · rintro a' w' ⟨rfl, HI, HR⟩
      obtain ⟨_, _, _, d1, _⟩ := HI.out.cells
      have FR' := Lib.hid (FR.out w' (K ++ ks) HI.out (HU.out.kept HR.out) (by rw [List.length_append]; have := hkl.out; have := HKl.out; omega))
      dsimp only at d1
      rw [show mkL [] = ⟨#[]⟩ from rfl] at d1
      clear c1 FR BH
      go_wp2_with (go_at_call 258; refine FR'.out.mono ?_; rintro e w4 ⟨rfl, h4, k4⟩; have H4 := Lib.hid h4; have K4 := Lib.hid k4; clear h4 k4)
      simp only [Exit.jump]
      go_end0
      exact ⟨rfl, H4.out, HR.out.trans K4.out⟩
  · have e : tkR s b = ((bhR s b).1, (bhR s b).2.1) := by unfold tkR; rw [if_neg h1, if_neg h2, if_neg h3, if_neg h4]
    have h4' : (bhR s b).2.2 = false := by simpa using h4
    rw [e]
    dsimp only
    rw [h4'] at BH
    clear h hU hK hW hw9 e h1 h2 hlt hx ST h3 h4 hWk FR h4'
    generalize (bhR s b).2.1 = ks at *
    generalize (bhR s b).1 = s2 at *
    go_enter Tryd.func197, Tryd.ntmps197
    go_wp2
    go_step3
    go_wp2
    go_step3
    go_wp2_with (go_at_call 259; refine BH.out.mono ?_; rintro e w4 ⟨rfl, h4, k4⟩; have H4 := Lib.hid h4; have K4 := Lib.hid k4; clear h4 k4)
    rw [Exit.noGoto_normal]
    go_end0
    exact ⟨rfl, H4.out, K4.out⟩
end
end Go.Proofs.YtangpdaoacjinaaDoor
set_option linter.unusedVariables false
set_option linter.unusedSimpArgs false
namespace Go.Proofs.YtangpdaoacjinaaDoor
open Go.RowKit
theorem u8L_len (l : List UInt8) : (u8L l).length = l.length := by simp [u8L]
theorem OwU.form {w : World} {v : Value} {l : List UInt8} {n : Nat} (h : OwU w v l) (hn : l.length = n) : ∃ a c, v = .slice a n c := by
  unfold OwU at h
  rcases h.2 with ⟨rfl, h0⟩ | ⟨g, cap, cur, rfl, _⟩
  · exact ⟨none, 0, by rw [← hn, h0]⟩
  · exact ⟨_, cap, by rw [hn]⟩
/-- An append of a byte to a row of the object's own. -/
theorem wpList_app_u8 {w : World} {ops : Array Oper} {rest : List Oper} {o : Oper} {a : Act} {Q : Exit → Act → World → Prop} (hgd : Region.wanted o (yielded ops a.tmps) = true) (s x : Operand)
    (ho : o.op = .call { callee := .builtin .append, args := #[s, x], argTypes := #[97, 97] })
    (v : Value) (np : Nat) (p : List UInt8) (hs : a.eval s = v) (hp : p.length = np) (hown : OwU w v p) (ad : Addr) (b : UInt8) (hx : a.eval x = .slice (some ad) 1 1) (hc : w.cell? (ad.add 0) = some (.int .u8 (b.toNat : Int)))
    (hlen : np + 1 ≤ 1000000)
    (h : ∀ ad' c' w', OwU w' (.slice ad' (np + 1) c') (p ++ [b]) → w.grownBy w' v.ownBlock → (∀ k, (Value.slice ad' (np + 1) c').ownBlock = some k → v.ownBlock = some k ∨ w.heap.size ≤ k) → wpList Tryd.prog ops Q rest (a.put o.dst (.slice ad' (np + 1) c')) w') : wpList Tryd.prog ops Q (o :: rest) a w := by
  refine wpList_step fun K hK => ?_
  obtain ⟨i0, hi, hz0, hz1, hz2⟩ := info_parts infoU8
  subst hp
  rw [if_pos hgd]
  obtain ⟨v', w', hr, a1, a2, a3⟩ := run_append_place (P := Tryd.prog) w 0 97 o.type 5 i0 _ 1 1 Tryd.underlying97 hi hz0 hz1 hz2 rfl (by decide) v p.length _ hown ad 1 1 [.int .u8 (b.toNat : Int)] rfl
    (fun j u hj => by
      match j with
      | 0 => simp at hj; rw [← hj]; exact hc
      | j + 1 => simp at hj) (by simp [Value.oneCell']) (by unfold maxLen; omega) (by omega) (Nat.zero_le _)
  have a1' : OwU w' v' (p ++ [b]) := by
    unfold OwU
    rw [List.length_append, show u8L (p ++ [b]) = u8L p ++ [.int .u8 (b.toNat : Int)] by simp [u8L]]
    exact a1
  obtain ⟨ad', c', rfl⟩ := a1'.form (n := p.length + 1) (by rw [List.length_append]; rfl)
  have h' := hK _ _ (h ad' c' w' a1' a2 a3)
  unfold Oper.wp execOp
  simp only [ho, resolve, invoke, builtin, Sem.run_bind, Sem.run_pure, Result.andThen_ok, List.map_toArray, List.map_cons, List.map_nil, hs, hx, hr]
  exact h'
section
variable {S : Nat → Prop} {p q B : Nat} {s : IS} {K : List Ky} {w w' : World}
/-- The bytes' row grows by what an append made. -/
theorem InS.putB {w1 : World} {L : List UInt8} (h : InS S p q B s K w) {v u : Value} (hv : w.cell? ⟨p, 3, none⟩ = some v) (ho : OwU w1 u L) (hg : w.grownBy w1 v.ownBlock) (hp : ∀ k, u.ownBlock = some k → v.ownBlock = some k ∨ w.heap.size ≤ k) :
    InS S p q B { s with pb := L } K (w1.setCell ⟨p, 3, none⟩ u) ∧ KeptM S w (w1.setCell ⟨p, 3, none⟩ u) := by
  obtain ⟨bv, kv, h1, h2, h3, h4, h5⟩ := h.ex
  have y := cell_of_row _ _ 3 _ _ _ h1
  rw [hv] at y
  obtain rfl : bv = v := by simpa [inC] using y.symm
  have hpl := blk_lt h1
  have hz : (w1.setCell ⟨p, 3, none⟩ u).heap.size = w1.heap.size := by simp [World.setCell]
  have np : bv.ownBlock ≠ some p := own_ne_kind h2 h1 tIn_ne_u
  have nq : bv.ownBlock ≠ some q := own_ne_kind h2 h3 tq_ne_u
  have hk : ∀ k, k < w.heap.size → k ≠ p → bv.ownBlock ≠ some k → (w1.setCell ⟨p, 3, none⟩ u).heap[k]? = w.heap[k]? := fun k hk1 hk2 hk3 => (Below.heap_setCell _ _ _ _ hk2).trans (hg.block k hk1 (fun e => hk3 e.symm))
  have hu : ∀ k, k < w.heap.size → bv.ownBlock ≠ some k → u.ownBlock ≠ some k := fun k hk1 hk2 e => by
    rcases hp k e with e2 | e2
    · exact hk2 e2
    · omega
  have hp1 : w1.heap[p]? = some (.cells (inC s bv) 275 (0, 0)) := (hg.block p hpl (fun e => np e.symm)).trans h1
  have hkv : OwK (w1.setCell ⟨p, 3, none⟩ u) B kv K := by
    unfold OwK at h4 ⊢
    refine ⟨h4.1, ?_⟩
    rcases h4.2 with h2' | ⟨g, cap, cur, e, hB, hgg, r⟩
    · exact .inl h2'
    · refine .inr ⟨g, cap, cur, e, hB, (hk g (blk_lt hgg) ?_ ?_).trans hgg, r⟩
      · exact blk_ne hgg h1 (Ne.symm tIn_ne_k)
      · exact own_ne_kind h2 hgg (Ne.symm tu_ne_k)
  have ho' : OwU (w1.setCell ⟨p, 3, none⟩ u) u L := own_set ho (hu p hpl np) _
  refine ⟨⟨⟨u, kv, blk_set hp1 3 u, ho', (hk q (blk_lt h3) (fun e => h.pq e.symm) nq).trans h3, hkv, fun k hk' => ?_⟩, by rw [hz]; exact Nat.le_trans h.le hg.size⟩, ⟨hg.os, hg.tape, hg.output, by rw [hz]; exact hg.size, fun k hk' => hk k (h5 k hk').1 (h5 k hk').2.1 (h5 k hk').2.2.2.1⟩⟩
  have := h5 k hk'
  exact ⟨by rw [hz]; exact Nat.lt_of_lt_of_le this.1 hg.size, this.2.1, this.2.2.1, hu k this.1 this.2.2.2.1, this.2.2.2.2⟩
/-- The text of the first bytes of a row. -/
theorem conv_ownU {w : World} {v : Value} {l : List UInt8} (h : OwU w v l) (hne : l ≠ []) : ∃ g c, v = .slice (some ⟨g, 0, none⟩) l.length c ∧ l.length ≤ c ∧
    ∀ k, k ≤ l.length → ∀ c' dst, Tryd.prog.underlying dst = some .string → (convert 97 dst (.slice (some ⟨g, 0, none⟩) k c')).run Tryd.prog w = .ok (.string (mkL (l.take k))) w := by
  unfold OwU at h
  rcases h.2 with ⟨rfl, h0⟩ | ⟨g, cap, cur, rfl, hB, hg, hle, hr⟩
  · exact absurd (by simpa [u8L] using h0) hne
  · refine ⟨g, cap, rfl, ?_, fun k hk c' dst hd => ?_⟩
    · have := h.1
      omega
    · have hl : (l.take k).length = k := by rw [List.length_take]; omega
      have := run_convert_bytes_back (P := Tryd.prog) w 97 dst 5 ⟨g, 0, none⟩ c' (l.take k) Tryd.underlying97 Tryd.underlying5 hd (fun j hj => by
        rw [hl] at hj
        have hc := h.cellAt j (by omega)
        have e : (⟨g, 0, none⟩ : Addr).add j = ⟨g, j, none⟩ := by unfold Addr.add; split <;> simp_all
        rw [e, hc]
        have hj2 : j < l.length := by omega
        simp [u8L, List.getElem?_eq_getElem hj2])
      rw [hl] at this
      exact this
end
end Go.Proofs.YtangpdaoacjinaaDoor
