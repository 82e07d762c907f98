/-
  Joined: Ki10 Gu15 Gu16 Gu17 Gu18 ArgI.
-/
import Derived.Test.YtdifkjmpdmlobaaDoorJG03
import Derived.Test.YtdifkjmpdmlobaaDoorJG04
import Derived.Test.YtdifkjmpdmlobaaDoorJG08
import Derived.Test.YtdifkjmpdmlobaaDoorJG12
import Derived.Test.YtdifkjmpdmlobaaDoorJG14
set_option linter.unusedVariables false
set_option linter.unusedSimpArgs false
set_option maxRecDepth 100000
set_option linter.unusedVariables false
set_option linter.unusedSimpArgs false
namespace Go.Proofs.YtdifkjmpdmlobaaDoor
open Go.RowKit
theorem or1_new (w : World) : OwR1 (w.alloc (.cells #[] 28)) w.heap.size (.slice (some ⟨w.heap.size, 0, none⟩) 0 0) [] :=
  ⟨rfl, .inr ⟨w.heap.size, 0, #[], rfl, Nat.le_refl _, heap_alloc_new _ _, Nat.le_refl _, by decide, rfl, rfl⟩⟩
/-- What a call of the document's Push leaves. -/
def RkPost (S : Nat → Prop) (R : List (List Sg2)) (h : Nat) (w : World) (e : Ending) (w' : World) : Prop :=
  ∃ a' c', e = .returned (kV a' R.length c' h) ∧ SgsK (fun k => S k ∨ (w.heap.size ≤ k ∧ k < w'.heap.size)) w' a' R ∧ (R = [] → a' = none ∧ c' = 0) ∧ Below w.heap.size w w'
theorem els_sgs {S : Nat → Prop} {w : World} {B n c : Nat} {a : Option Addr} {vs : List Value} {E : List (List Sg2)} (h : OwR1 w B (.slice a n c) vs) (hn : vs.length = n) (e : Els S w vs E) : SgsK (fun k => S k ∨ (B ≤ k ∧ k < w.heap.size)) w a E ∧ n ≤ c := by
  have hE := e.1
  rcases h.2 with ⟨h1, h0⟩ | ⟨g, cap, cur, h1, hB, hg, hle, _⟩
  · injection h1 with h1 h2 h3
    exact ⟨fun i hi => absurd hi (by rw [← hE, h0]; exact Nat.not_lt_zero i), by omega⟩
  · injection h1 with h1 h2 h3
    subst h1; subst h3; subst hn
    refine ⟨fun i hi => ?_, hle⟩
    obtain ⟨ai, ci, ei, hs⟩ := e.2 i hi
    exact ⟨g, 0, ai, ci, rfl, Or.inr ⟨hB, blk_lt hg⟩, blk_lt hg, by rw [Nat.zero_add, h.cellAt i (by omega)]; exact ei, hs.mono (fun k hk => Or.inl hk)⟩
theorem sgs_cut {S : Nat → Prop} {w : World} {a : Option Addr} {x : List Sg2} {E : List (List Sg2)} (h : SgsK S w a (x :: E)) : SgsK S w (a.map fun x => { block := x.block, off := x.off + 1 }) E := fun i hi => by
  obtain ⟨b, off, ai, ci, rfl, h1, h2, h3, h4⟩ := h (i + 1) (by simp; omega)
  refine ⟨b, off + 1, ai, ci, rfl, h1, h2, ?_, h4⟩
  rw [show off + 1 + i = off + (i + 1) by omega]; exact h3
theorem elemSl : Tryd.prog.elem 22 = 28 := by kernel_rfl
theorem sizeSl (w : World) : (sizeOf 28).run Tryd.prog w = .ok 1 w := by kernel_rfl
theorem run_cut1 (w : World) (a : Option Addr) (n c : Nat) (h : 1 ≤ n) : (Instr.slice 22 (.slice a n c) (some (.int .i64 1)) none none).run Tryd.prog w = .ok (.slice (if c = 1 then a else a.map (·.add (1 * 1))) (n - 1) (c - 1)) w := by
  have := run_slice_l (P := Tryd.prog) w 22 a n c (by kernel_rfl) .i64 (1 : Int) (by omega) (by omega)
  rw [elemSl, sizeSl] at this
  exact this
theorem sgs_one {w w' : World} (aj : Option Addr) (m cj : Nat) (hw : w.alloc (.cells #[.slice aj m cj] 28) = w') : ∀ b, (some (⟨w.heap.size, 0, none⟩ : Addr)) = some b → ∀ j u, ([Value.slice aj m cj] : List Value)[j]? = some u → w'.cell? (b.add j) = some u := by
  intro b e j u hj
  injection e with e; subst e; subst hw
  exact app_cells rfl hj
section
variable {S : Nat → Prop} {M : Int} {T : List (List Sg2)} {l : List Sg2} {a b : Option Addr} {n c m d h : Nat} {w w' : World}
end
end Go.Proofs.YtdifkjmpdmlobaaDoor
set_option linter.unusedVariables false
set_option linter.unusedSimpArgs false
namespace Go.Proofs.YtdifkjmpdmlobaaDoor
open Go.RowKit
/-- An append of nothing. -/
theorem run_append_noneD {P : Program} {w : World} (base : Nat) (t ty e : TypeId) (i : TypeInfo) (size d : Nat) (ht : P.underlying t = some (.slice e)) (hi : P.info? e = some i)
    (v : Value) (n : Nat) (xs : List Value) (hown : w.ownsRow base e size v n xs) :
    (Builtin.append_ #[t, t] ty #[v, .slice none 0 d]).run P w = .ok v w := by
  rcases hown.2 with ⟨rfl, rfl⟩ | ⟨g, cap, cur, rfl, _, _, hnc, _⟩
  · simp [Builtin.append_, run_underlying ht, sizeOf, typeInfo, hi, Builtin.lenOf, Builtin.firstCells]
  · simp [Builtin.append_, run_underlying ht, sizeOf, typeInfo, hi, Builtin.lenOf, Builtin.firstCells, hnc, storeCells]
/-- An append of a row of slices that lies, to a row of the call's own. -/
theorem wpList_app_sg {w : World} {ops : Array Oper} {rest : List Oper} {o : Oper} {a : Act} {Q : Exit → Act → World → Prop} (hgd : Region.wanted o (yielded ops a.tmps) = true) (s x : Operand)
    (ho : o.op = .call { callee := .builtin .append, args := #[s, x], argTypes := #[22, 22] }) (base : Nat)
    (v : Value) (np : Nat) (p : List Value) (hs : a.eval s = v) (hp : p.length = np) (hown : OwR1 w base v p) (ad : Option Addr) (n c : Nat) (S : Nat → Prop) (H : List (List Sg2)) (hx : a.eval x = .slice ad n c) (hl : H.length = n) (hsg : SgsK S w ad H)
    (hlen : np + n ≤ 1000000) (hbase : base ≤ w.heap.size)
    (h : ∀ l ad' c' w', Els S w l H → OwR1 w' base (.slice ad' (np + n) c') (p ++ l) → w.grownBy w' v.ownBlock → (∀ k, (Value.slice ad' (np + n) c').ownBlock = some k → v.ownBlock = some k ∨ w.heap.size ≤ k) → wpList Tryd.prog ops Q rest (a.put o.dst (.slice ad' (np + n) c')) w') : wpList Tryd.prog ops Q (o :: rest) a w := by
  obtain ⟨l, hE, hc⟩ := hsg.els
  have hll : l.length = n := hE.1.trans hl
  cases ad with
  | some b => exact wpList_app_sl hgd s x ho base v np p hs hp hown (some b) n c l hx hll hc hE.one (fun e => by cases e) hlen hbase (fun ad' c' w' h1 h2 h3 => h l ad' c' w' hE h1 h2 h3)
  | none =>
    have hH : H = [] := by
      cases H with
      | nil => rfl
      | cons y H => obtain ⟨_, _, _, _, e, _⟩ := hsg 0 (by simp); cases e
    subst hH
    obtain rfl : n = 0 := by simpa using hl.symm
    have hl0 : l = [] := List.eq_nil_of_length_eq_zero hll
    subst hl0
    obtain ⟨i0, hi, hz0, hz1, hz2⟩ := info_parts infoSl
    have hrun := run_append_noneD (P := Tryd.prog) (w := w) base 22 o.type 28 i0 1 c Tryd.underlying22 hi v p.length _ hown
    obtain ⟨ad', c', rfl⟩ := hown.form hp
    have h' := h [] ad' c' w hE (by rw [List.append_nil]; exact hown) ⟨rfl, rfl, rfl, Nat.le_refl _, fun _ _ _ => rfl⟩ (fun k hk => Or.inl hk)
    refine wpList_step fun K hK => ?_
    rw [if_pos hgd]
    unfold Oper.wp
    simp [execOp, ho, resolve, invoke, builtin, hs, hx, hrun, Result.andThen]
    exact hK _ _ h'
/-- The texts of all. -/
def catT (K : List Int) (l : List ByteArray) : List ByteArray := K.flatMap fun n => tdT n l false
theorem catT_next (K : List Int) (l : List ByteArray) (j : Nat) (hj : j < K.length) : catT (K.take (j + 1)) l = catT (K.take j) l ++ tdT (K.getD j 0) l false := by
  unfold catT
  rw [List.take_add_one, List.getElem?_eq_getElem hj, List.flatMap_append, List.getD, List.getElem?_eq_getElem hj]
  simp
theorem tL_app (a b : List ByteArray) : tL (a ++ b) = tL a ++ tL b := List.map_append ..
theorem catT_len (K : List Int) (l : List ByteArray) (hlg : lgT l = true) : (catT K l).length ≤ K.length * 20 := by
  unfold catT
  induction K with
  | nil => simp
  | cons n K ih =>
    rw [List.flatMap_cons, List.length_append, List.length_cons]
    have := (tdT_z (n := n) (b := false) hlg).1
    omega
theorem Els.app {S : Nat → Prop} {w : World} {vs us : List Value} {E F : List (List Sg2)} (h : Els S w vs E) (g : Els S w us F) : Els S w (vs ++ us) (E ++ F) := by
  refine ⟨by rw [List.length_append, List.length_append, h.1, g.1], fun i hi => ?_⟩
  rw [List.length_append] at hi
  by_cases hlt : i < E.length
  · obtain ⟨ai, ci, e, hx⟩ := h.2 i hlt
    have e2 : (E ++ F).getD i [] = E.getD i [] := by rw [List.getD, List.getElem?_append_left hlt, List.getD]
    rw [e2]
    exact ⟨ai, ci, by rw [List.getElem?_append_left (by rw [h.1]; exact hlt)]; exact e, hx⟩
  · obtain ⟨ai, ci, e, hx⟩ := g.2 (i - E.length) (by omega)
    have e2 : (E ++ F).getD i [] = F.getD (i - E.length) [] := by rw [List.getD, List.getElem?_append_right (by omega), List.getD]
    rw [e2]
    exact ⟨ai, ci, by rw [List.getElem?_append_right (by rw [h.1]; omega), h.1]; exact e, hx⟩
/-- A row of slices of the call's own whose signs lie in other blocks. -/
structure RwK (X : Nat → Prop) (B : Nat) (v : Value) (E : List (List Sg2)) (w : World) : Prop where
  ex : ∃ vs, OwR1 w B v vs ∧ Els (fun q => v.ownBlock ≠ some q ∧ ¬ X q ∧ q < w.heap.size) w vs E
  le : B ≤ w.heap.size
theorem RwK.below {X : Nat → Prop} {B : Nat} {v : Value} {E : List (List Sg2)} {w w' : World} (h : RwK X B v E w) (hb : Below w.heap.size w w') : RwK X B v E w' := by
  obtain ⟨⟨vs, h1, h2⟩, h3⟩ := h
  exact ⟨⟨vs, h1.below hb, (h2.keep hb.size (fun k hk => hb.block k hk.2.2)).mono (fun k hk => ⟨hk.1, hk.2.1, Nat.lt_of_lt_of_le hk.2.2 hb.size⟩)⟩, Nat.le_trans h3 hb.size⟩
theorem RwK.len {X : Nat → Prop} {B : Nat} {v : Value} {E : List (List Sg2)} {w : World} {n : Nat} (h : RwK X B v E w) (hn : E.length = n) : ∃ a c, v = .slice a n c := by
  obtain ⟨⟨vs, h1, h2⟩, _⟩ := h
  exact h1.form (h2.1.trans hn)
theorem RwK.sgs {X : Nat → Prop} {B n c : Nat} {a : Option Addr} {E : List (List Sg2)} {w : World} (h : RwK X B (.slice a n c) E w) : SgsK (fun _ => True) w a E := by
  obtain ⟨⟨vs, h1, h2⟩, _⟩ := h
  obtain ⟨_, _, e⟩ := h1.form rfl
  have hn : vs.length = n := by injection e with _ e2 _; exact e2.symm
  exact (els_sgs h1 hn h2).1.mono (fun _ _ => trivial)
theorem RwK.nil (X : Nat → Prop) (w : World) : RwK X w.heap.size (.slice none 0 0) [] w := ⟨⟨[], World.ownsRow_nil _ _ _ _, ⟨rfl, fun i hi => absurd hi (Nat.not_lt_zero i)⟩⟩, Nat.le_refl _⟩
/-- Behind an append. -/
theorem RwK.app {X : Nat → Prop} {B : Nat} {v v' : Value} {p us : List Value} {E F : List (List Sg2)} {S : Nat → Prop} {w w' : World} (h1 : OwR1 w B v p) (h2 : Els (fun q => v.ownBlock ≠ some q ∧ ¬ X q ∧ q < w.heap.size) w p E) (hB : B ≤ w.heap.size)
    (hu : Els S w us F) (hS : ∀ q, S q → v.ownBlock ≠ some q ∧ ¬ X q ∧ q < w.heap.size) (ho : OwR1 w' B v' (p ++ us)) (hg : w.grownBy w' v.ownBlock) (hv : ∀ k, v'.ownBlock = some k → v.ownBlock = some k ∨ w.heap.size ≤ k) : RwK X B v' (E ++ F) w' := by
  refine ⟨⟨p ++ us, ho, ((h2.app (hu.mono hS)).keep hg.size (fun k hk => hg.block k hk.2.2 (fun e => hk.1 e.symm))).mono (fun k hk => ⟨fun e => ?_, hk.2.1, Nat.lt_of_lt_of_le hk.2.2 hg.size⟩)⟩, Nat.le_trans hB hg.size⟩
  rcases hv k e with h | h
  · exact hk.1 h
  · exact absurd hk.2.2 (by omega)
theorem RwK.set {X : Nat → Prop} {B Z : Nat} {v u : Value} {E : List (List Sg2)} {w : World} {i : Nat} (h : RwK X B v E w) (hZ : X Z) (hne : v.ownBlock ≠ some Z) : RwK X B v E (w.setCell ⟨Z, i, none⟩ u) := by
  obtain ⟨⟨vs, h1, h2⟩, h3⟩ := h
  have hz : (w.setCell ⟨Z, i, none⟩ u).heap.size = w.heap.size := by simp [World.setCell]
  exact ⟨⟨vs, own_set h1 hne u, (h2.keep (by rw [hz]; exact Nat.le_refl _) (fun k hk => Below.heap_setCell w ⟨Z, i, none⟩ u k (fun e => hk.2.1 (by have e : k = Z := e; rw [e]; exact hZ)))).mono (fun k hk => ⟨hk.1, hk.2.1, by rw [hz]; exact hk.2.2⟩)⟩, by rw [hz]; exact h3⟩
end Go.Proofs.YtdifkjmpdmlobaaDoor
set_option linter.unusedVariables false
set_option linter.unusedSimpArgs false
namespace Go.Proofs.YtdifkjmpdmlobaaDoor
open Go.RowKit
theorem infoEr : (Tryd.prog.info? 25).map (fun i => (i.zero, i.size, i.bytes)) = some (some (.int .i64 0), 1, 8) := by kernel_rfl
/-- Guests that lie. -/
def GsK (w : World) (ga : Option Addr) (K : List Int) (a : Option Addr) (t c : Nat) (l : List ByteArray) : Prop := ∀ j, j < K.length → ∃ g off Qn Ql, ga = some ⟨g, off, none⟩ ∧ g < w.heap.size ∧ w.cell? ⟨g, off + j, none⟩ = some (gV Qn Ql) ∧ MdB w Qn Ql (K.getD j 0) a t c l
theorem GsK.below {w w' : World} {ga : Option Addr} {K : List Int} {a : Option Addr} {t c : Nat} {l : List ByteArray} (h : GsK w ga K a t c l) (hb : Below w.heap.size w w') : GsK w' ga K a t c l := fun j hj => by
  obtain ⟨g, off, Qn, Ql, e, hg, hc, hM⟩ := h j hj
  exact ⟨g, off, Qn, Ql, e, Nat.lt_of_lt_of_le hg hb.size, (hb.cell (p := ⟨g, off + j, none⟩) hg).trans hc, hM.below hb⟩
/-- The errors, under way. -/
def valE (K : List Int) (k : Nat) : List Int := (K.take k).map (fun n => tdE n false) ++ List.replicate (K.length - k) 0
theorem valE_len (K : List Int) (k : Nat) (h : k ≤ K.length) : (valE K k).length = K.length := by simp [valE]; omega
/-- What All leaves. -/
def AllPost (K : List Int) (l : List ByteArray) (w : World) (e : Ending) (w' : World) : Prop := ∃ b n d E, e = .returned (.tuple #[.slice b n d, .slice (some ⟨E, 0, none⟩) K.length K.length]) ∧ (catT K l).length = n ∧ SgsK (fun _ => True) w' b (tL (catT K l)) ∧ w'.heap[E]? = some (.cells (iRow (K.map fun n => tdE n false)) 25 (0, 0)) ∧ Below w.heap.size w w'
section
variable {l : List ByteArray} {a : Option Addr} {t c : Nat} {L : List (Int × Int)} {xa : Option Addr} {m xc : Nat} {x : Int} {w : World}
set_option maxHeartbeats 8000000 in
theorem all_any (K : List Int) (ga : Option Addr) (kn gc : Nat) (hU : UT w) (hK : K.length = kn) (hkn : kn ≤ 20) (hlg : lgT l = true) (hT : l.length = t) (hG : GsK w ga K a t c l) (hL : L.length = m) (hl : m ≤ 90000) (hs : SlS (fun _ => True) w xa L xc) (hok : mayL L x = true) :
    Calls Tryd.prog 39 #[.agg #[.slice xa m xc, .int .i64 x], .slice ga kn gc] w (AllPost K l w) := by
  obtain ⟨i0, hi, hz0, hz1, hz2⟩ := info_parts infoEr
  have hmk := make_rowN (P := Tryd.prog) 76 25 i0 _ Tryd.underlying76 hi hz0 kn (by rw [hz2]; omega) (by omega)
  rw [hz1] at hmk
  have hmade : madeCells (Value.int .i64 0).cells (kn * 1) = iRow (valE K 0) := by rw [show (Value.int .i64 0).cells = #[.int .i64 0] from rfl, made_ints]; simp [valE, hK]
  rw [hmade] at hmk
  obtain ⟨ht20, hz60⟩ := lg_z hlg
  obtain ⟨Qx, hQ⟩ : ∃ Q, w.heap.size = Q := ⟨_, rfl⟩
  have b1 := below_alloc w (.cells #[.slice xa m xc, .int .i64 x] 42)
  have r1 := heap_alloc_new w (.cells #[.slice xa m xc, .int .i64 x] 42)
  obtain ⟨W1, hW1⟩ : ∃ W, w.alloc (.cells #[.slice xa m xc, .int .i64 x] 42) = W := ⟨_, rfl⟩
  rw [hW1] at b1 r1
  obtain ⟨E, hE⟩ : ∃ Q, W1.heap.size = Q := ⟨_, rfl⟩
  have b2 := below_alloc W1 (.cells (iRow (valE K 0)) 25)
  have r2 := heap_alloc_new W1 (.cells (iRow (valE K 0)) 25)
  obtain ⟨W2, hW2⟩ : ∃ W, W1.alloc (.cells (iRow (valE K 0)) 25) = W := ⟨_, rfl⟩
  rw [hW2] at b2 r2
  rw [hE] at r2
  rw [hQ] at r1
  have hEQ : Qx < E := by rw [← hE]; exact blk_lt r1
  have X2 : Hid (W2.heap[Qx]? = some (.cells #[.slice xa m xc, .int .i64 x] 42 (0, 0))) := Lib.hid (blk_below r1 b2)
  have R2 := Lib.hid r2
  have N2 := Lib.hid (seqB b1 b2)
  have HU := Lib.hid fun w' (hb : Below w.heap.size w w') => hU.below hb
  have HG := Lib.hid fun w' (hb : Below w.heap.size w w') => hG.below hb
  have HS := Lib.hid fun w' (hb : Below w.heap.size w w') => hs.below hb
  have HK := Lib.hid hK
  have HL := Lib.hid hL
  have HT := Lib.hid hT
  have HOK := Lib.hid hok
  have HLG := Lib.hid hlg
  have HZ := Lib.hid hz60
  have HE : Hid (w.heap.size ≤ E) := Lib.hid (by omega)
  have HQE := Lib.hid hEQ
  have hB : Hid (E < W2.heap.size) := Lib.hid (blk_lt r2)
  have ht : t ≤ 20 := by omega
  clear hU hG hs hK hL hT hok hlg hz60 b1 b2 r1 r2 hmade hEQ ht20
  go_enter Tryd.func39, Tryd.ntmps39
  go_upto_region 4 with fail
  clear hmk
  go_loopw [6, 17] (fun ov iv wr => ∃ k : Nat, k ≤ kn ∧ iv = .int .i64 (k : Int) ∧ Hid (RwK (fun q => q = E) W2.heap.size ov (tL (catT (K.take k) l)) wr) ∧ Hid (wr.heap[E]? = some (.cells (iRow (valE K k)) 25 (0, 0))) ∧ Hid (wr.heap[Qx]? = some (.cells #[.slice xa m xc, .int .i64 x] 42 (0, 0))) ∧ Hid (Below w.heap.size w wr)) (fun _ iv _ => kn - (intOf iv).toNat)
  case atStart => exact ⟨0, Nat.zero_le _, rfl, Lib.hid (RwK.nil _ _), R2, X2, N2⟩
  case round =>
    clear hW1 hW2 hE hQ R2 X2
    obtain ⟨k, hk, rfl, HR, HE2, HX, HB⟩ := hrel
    have hcl : (catT (K.take k) l).length ≤ 400 := by
      have := catT_len (K.take k) l HLG.out
      have h2 : (K.take k).length ≤ 20 := by have := HK.out; rw [List.length_take]; omega
      omega
    obtain ⟨cn, hcn⟩ : ∃ cn, (catT (K.take k) l).length = cn := ⟨_, rfl⟩
    obtain ⟨ov1, oc1, rfl⟩ := HR.out.len (n := cn) (by rw [tL_len]; exact hcn)
    have HCN := Lib.hid hcn
    rw [hcn] at hcl
    clear hcn
    by_cases hlt : k < kn
    · have hk1 : (k : Int) < kn := by omega
      have hk0 : (0 : Int) ≤ k := by omega
      have hnext : tL (catT (K.take (k + 1)) l) = tL (catT (K.take k) l) ++ tL (tdT (K.getD k 0) l false) := by rw [catT_next K l k (by rw [HK.out]; exact hlt), tL_app]
      have hset : (valE K k).set k (tdE (K.getD k 0) false) = valE K (k + 1) := put_snoc K (fun n => tdE n false) 0 0 k (by rw [HK.out]; exact hlt)
      have hset2 := iRow_set (valE K k) k (tdE (K.getD k 0) false)
      have hvl := valE_len K k (by rw [HK.out]; exact hk)
      obtain ⟨g, off, Qn, Ql, rfl, hg, cg, hM⟩ := HG.out _ HB.out k (by rw [HK.out]; exact hlt)
      have y0 := cell_of_row _ _ 0 _ _ _ HX.out
      have y1 := cell_of_row _ _ 1 _ _ _ HX.out
      dsimp at y0 y1
      have hTz := tdT_z (n := K.getD k 0) (b := false) HLG.out
      generalize K.getD k 0 = n at *
      have AC := Lib.hid (ask_call (gV Qn Ql) (tdT n l false) (tdE n false) (x := x) (m := m) (xa := xa) (xc := xc) (w := wr) fun w2 hb2 => ask_every (HU.out _ (seqB HB.out hb2)) (fun i hi => by have := HZ.out i hi; omega) (hM.below hb2) HL.out hl (by omega) (HS.out _ (seqB HB.out hb2)) HOK.out)
      generalize tdT n l false = T at *
      generalize tdE n false = er at *
      have hT20 : T.length ≤ 20 := hTz.1
      have HN := Lib.hid hnext
      have HS1 : Hid (iRow (valE K (k + 1)) = (iRow (valE K k)).setIfInBounds k (.int .i64 er)) := Lib.hid (by rw [← hset]; exact hset2.symm)
      have HVL : Hid ((valE K k).length = kn) := Lib.hid (hvl.trans HK.out)
      clear hnext hset hset2 hvl hTz hM hg
      go_wp2_with (first
        | (go_at_call 32; refine AC.out.mono ?_; rintro e w5 ⟨b5, n5, d5, rfl, hn5, hs5, hb5⟩; have HN5 := Lib.hid hn5; have S5 := Lib.hid hs5; have D5 := Lib.hid hb5; have R5 := Lib.hid (HR.out.below hb5); have E5 := Lib.hid (blk_below HE2.out hb5); have X5 := Lib.hid (blk_below HX.out hb5); have N5 := Lib.hid (seqB HB.out hb5); obtain ⟨⟨vs, ho5, he5⟩, hB5⟩ := R5.out; have O5 := Lib.hid ho5; have L5 := Lib.hid he5; have Z5 := Lib.hid hB5; have V5 : Hid (vs.length = cn) := Lib.hid (by rw [he5.1, tL_len]; exact HCN.out); clear hs5 hb5 ho5 he5 hB5 AC y0 y1 cg)
        | (at_builtin; refine wpList_app_sg rfl _ _ rfl W2.heap.size _ cn vs rfl V5.out O5.out b5 n5 d5 _ (tL T) rfl (by rw [tL_len]; exact HN5.out) S5.out ?g1 Z5.out ?_))
      case g1 => have := HN5.out; omega
      intro us ad6 c6 w6 hu6 ho6 hg6 hp6
      have hne : (Value.slice ov1 cn oc1).ownBlock ≠ some E := fun e => by
        have := (O5.out.lt E e).1
        have := hB.out
        omega
      have N6 := Lib.hid (N5.out.grown hg6 (Nat.le_trans N2.out.size Z5.out) (fun j hj => Nat.le_trans N2.out.size (O5.out.lt j hj).1))
      have E6 : Hid (w6.heap[E]? = some (.cells (iRow (valE K k)) 25 (0, 0))) := Lib.hid ((hg6.block E (blk_lt E5.out) (fun e => hne e.symm)).trans E5.out)
      have hneX : (Value.slice ov1 cn oc1).ownBlock ≠ some Qx := fun e => by
        have h1 := (O5.out.lt Qx e).1
        have := hB.out
        have := HQE.out
        omega
      have X6 : Hid (w6.heap[Qx]? = some (.cells #[.slice xa m xc, .int .i64 x] 42 (0, 0))) := Lib.hid ((hg6.block Qx (blk_lt X5.out) (fun e => hneX e.symm)).trans X5.out)
      have R6 : Hid (RwK (fun q => q = E) W2.heap.size (.slice ad6 (cn + n5) c6) (tL (catT (K.take k) l) ++ tL T) w6) := Lib.hid (RwK.app O5.out L5.out Z5.out hu6 (fun q hq => ⟨fun e => by
          obtain ⟨⟨vr, hor, _⟩, _⟩ := HR.out
          have := (hor.lt q e).2
          have := hq.1
          omega, fun e => by
          have := blk_lt HE2.out
          have := hq.1
          omega, hq.2⟩) ho6 hg6 hp6)
      have hne6 : Hid ((Value.slice ad6 (cn + n5) c6).ownBlock ≠ some E) := Lib.hid (fun e => by
        have := (ho6.lt E e).1
        have := hB.out
        omega)
      have x6 := i_cell E6.out (k := k) (by rw [HVL.out]; exact hlt)
      have f6 := frozen_of_row _ E k _ _ E6.out
      generalize (valE K k).getD k 0 = q6 at *
      clear hu6 ho6 hg6 hp6 hne hneX
      go_wp2_with fail
      go_roundw
      case rel =>
        refine ⟨k + 1, by omega, by go_num, Lib.hid ?_, Lib.hid ?_, Lib.hid ?_, Lib.hid (N6.out.setCell (p := ⟨E, k, none⟩) HE.out _)⟩
        · rw [HN.out]; exact R6.out.set rfl hne6.out
        · rw [HS1.out]; exact blk_set E6.out k _
        · exact (Below.heap_setCell w6 ⟨E, k, none⟩ _ Qx (by show Qx ≠ E; have := HQE.out; omega)).trans X6.out
      case measure => (simp [intOf]; try omega)
    · obtain rfl : k = kn := by omega
      have hk1 : ¬ (k : Int) < k := by omega
      have hfin : valE K k = K.map fun n => tdE n false := by unfold valE; rw [← HK.out, List.take_length, Nat.sub_self, List.replicate_zero, List.append_nil]
      have htk : K.take k = K := by rw [← HK.out, List.take_length]
      have HFIN := Lib.hid hfin
      have HTK := Lib.hid htk
      clear hfin htk
      go_wp2_with fail
      refine bodyPost_ret (results_tmp2 rfl _ _ _) rfl ?_
      refine ⟨ov1, cn, oc1, E, by rw [HK.out]; rfl, by rw [← HTK.out]; exact HCN.out, ?_, by rw [← HFIN.out]; exact HE2.out, HB.out⟩
      have h := HR.out.sgs
      rw [HTK.out] at h
      exact h
end
end Go.Proofs.YtdifkjmpdmlobaaDoor
set_option linter.unusedVariables false
set_option linter.unusedSimpArgs false
namespace Go.Proofs.YtdifkjmpdmlobaaDoor
open Go.RowKit
theorem infoGs : (Tryd.prog.info? 112).map (fun i => (i.zero, i.size, i.bytes)) = some (some .nilIface, 1, 16) := by kernel_rfl
/-- A row of guests of the call's own. -/
abbrev OwRg (w : World) (B : Nat) (v : Value) (vs : List Value) : Prop := w.ownsRow B 112 1 v vs.length vs
theorem OwRg.form {w : World} {B n : Nat} {v : Value} {vs : List Value} (h : OwRg w B v vs) (hn : vs.length = n) : ∃ a c, v = .slice a n c := by
  rcases h.2 with ⟨rfl, h0⟩ | ⟨g, cap, cur, rfl, _⟩
  · exact ⟨none, 0, by rw [← hn, h0]⟩
  · exact ⟨_, cap, by rw [hn]⟩
theorem OwRg.below {w w' : World} {B : Nat} {v : Value} {vs : List Value} (h : OwRg w B v vs) (hb : Below w.heap.size w w') : OwRg w' B v vs :=
  World.ownsRow.kept h (row := none) ⟨hb.os, hb.tape, hb.output, hb.size, fun k hk _ => hb.block k hk⟩ (by cases v.ownBlock <;> simp)
theorem own_typ {w : World} {B n s : Nat} {T : TypeId} {v : Value} {vs : List Value} (h : w.ownsRow B T s v n vs) (q : Nat) (hq : v.ownBlock = some q) : ∃ cs, w.heap[q]? = some (.cells cs T (0, 0)) := by
  rcases h.2 with ⟨rfl, _⟩ | ⟨g, cap, cur, rfl, _, hg, _⟩
  · simp [Value.ownBlock] at hq
  · have e : g = q := by simpa [Value.ownBlock] using hq
    subst e
    exact ⟨cur, hg⟩
theorem typ_ne {w : World} {q : Nat} {c1 c2 : Array Value} {T1 T2 : TypeId} (hT : T1 ≠ T2) (h1 : w.heap[q]? = some (.cells c1 T1 (0, 0))) (h2 : w.heap[q]? = some (.cells c2 T2 (0, 0))) : False := by
  have h := h1.symm.trans h2
  injection h with h
  injection h with _ h2 _
  exact hT h2
theorem own_kept {w w' : World} {B n s : Nat} {T T' : TypeId} {v : Value} {vs : List Value} {u : Option Nat} (h : w.ownsRow B T s v n vs) (hg : w.grownBy w' u) (hu : ∀ q, u = some q → ∃ cs, w.heap[q]? = some (.cells cs T' (0, 0))) (hT : T ≠ T') : w'.ownsRow B T s v n vs := by
  refine World.ownsRow.kept h hg ?_
  cases hv : v.ownBlock with
  | none => exact Or.inl rfl
  | some q =>
    refine Or.inr fun e => ?_
    obtain ⟨c1, h1⟩ := own_typ h q hv
    obtain ⟨c2, h2⟩ := hu q e.symm
    exact typ_ne hT h1 h2
theorem wpList_app_gs {w : World} {ops : Array Oper} {rest : List Oper} {o : Oper} {a : Act} {Q : Exit → Act → World → Prop} (hgd : Region.wanted o (yielded ops a.tmps) = true) (s x : Operand)
    (ho : o.op = .call { callee := .builtin .append, args := #[s, x], argTypes := #[75, 75] }) (base : Nat)
    (v : Value) (np : Nat) (p : List Value) (hs : a.eval s = v) (hp : p.length = np) (hown : OwRg w base v p) (ad : Addr) (c : Nat) (u : Value) (hx : a.eval x = .slice (some ad) 1 c) (hu : ∀ j y, ([u] : List Value)[j]? = some y → w.cell? (ad.add j) = some y) (h1 : u.oneCell' = true)
    (hlen : np + 1 ≤ 1000000) (hbase : base ≤ w.heap.size)
    (h : ∀ ad' c' w', OwRg w' base (.slice ad' (np + 1) c') (p ++ [u]) → w.grownBy w' v.ownBlock → (∀ k, (Value.slice ad' (np + 1) c').ownBlock = some k → v.ownBlock = some k ∨ w.heap.size ≤ k) → wpList Tryd.prog ops Q rest (a.put o.dst (.slice ad' (np + 1) c')) w') : wpList Tryd.prog ops Q (o :: rest) a w := by
  refine wpList_step fun K hK => ?_
  obtain ⟨i0, hi, hz0, hz1, hz2⟩ := info_parts infoGs
  subst hp
  rw [if_pos hgd]
  have hfin : ∀ v' w', OwRg w' base v' (p ++ [u]) → w.grownBy w' v.ownBlock → (∀ k, v'.ownBlock = some k → v.ownBlock = some k ∨ w.heap.size ≤ k) → K (a.put o.dst v') w' := by
    intro v' w' h1 h2 h3
    obtain ⟨ad', c', rfl⟩ := h1.form (n := p.length + 1) (by rw [List.length_append]; rfl)
    exact hK _ _ (h ad' c' w' h1 h2 h3)
  obtain ⟨v', w', hr, a1, a2, a3⟩ := run_append_placeK (P := Tryd.prog) w base 75 o.type 112 i0 _ 1 16 Tryd.underlying75 hi hz0 hz1 hz2 rfl (by decide) v p.length _ hown ad 1 c [u] rfl hu (by simpa using h1) (by unfold maxLen; omega) (by omega) hbase
  have h' := hfin v' w' (by unfold OwRg; rw [List.length_append]; exact a1) a2 a3
  unfold Oper.wp execOp
  simp only [ho, resolve, invoke, builtin, Sem.run_bind, Sem.run_pure, Result.andThen_ok, List.map_toArray, List.map_cons, List.map_nil, hs, hx, hr]
  exact h'
/-- Guests that the law has made. -/
structure GoK (B : Nat) (v : Value) (K : List Int) (a : Option Addr) (t c : Nat) (l : List ByteArray) (w : World) : Prop where
  ex : ∃ vs, OwRg w B v vs ∧ vs.length = K.length ∧ ∀ j, j < K.length → ∃ Qn Ql, vs[j]? = some (gV Qn Ql) ∧ MdB w Qn Ql (K.getD j 0) a t c l
  le : B ≤ w.heap.size
section
variable {B : Nat} {v : Value} {K : List Int} {a : Option Addr} {t c : Nat} {l : List ByteArray} {w w' : World}
theorem GoK.nil : GoK w.heap.size (.slice none 0 0) [] a t c l w := ⟨⟨[], World.ownsRow_nil _ _ _ _, rfl, fun j hj => absurd hj (Nat.not_lt_zero j)⟩, Nat.le_refl _⟩
theorem GoK.below (h : GoK B v K a t c l w) (hb : Below w.heap.size w w') : GoK B v K a t c l w' := by
  obtain ⟨⟨vs, h1, h2, h3⟩, h4⟩ := h
  exact ⟨⟨vs, h1.below hb, h2, fun j hj => by obtain ⟨Qn, Ql, e, hM⟩ := h3 j hj; exact ⟨Qn, Ql, e, hM.below hb⟩⟩, Nat.le_trans h4 hb.size⟩
theorem MdB.grow {Qn Ql : Nat} {n : Int} {u : Option Nat} {T : TypeId} (h : MdB w Qn Ql n a t c l) (hg : w.grownBy w' u) (hu : ∀ q, u = some q → ∃ cs, w.heap[q]? = some (.cells cs T (0, 0))) (hT : 3 ≠ T ∧ 61 ≠ T) (hs : StrsIn w' a l) : MdB w' Qn Ql n a t c l := by
  refine ⟨(hg.block Qn (blk_lt h.qn) fun e => ?_).trans h.qn, (hg.block Ql (blk_lt h.ql) fun e => ?_).trans h.ql, hs, h.len, h.cap⟩
  · obtain ⟨cs, hc⟩ := hu Qn e.symm
    exact typ_ne hT.1 h.qn hc
  · obtain ⟨cs, hc⟩ := hu Ql e.symm
    exact typ_ne hT.2 h.ql hc
theorem GoK.grow {u : Option Nat} (h : GoK B v K a t c l w) (hg : w.grownBy w' u) (hu : ∀ q, u = some q → ∃ cs, w.heap[q]? = some (.cells cs 28 (0, 0))) (hs : StrsIn w' a l) : GoK B v K a t c l w' := by
  obtain ⟨⟨vs, h1, h2, h3⟩, h4⟩ := h
  exact ⟨⟨vs, own_kept h1 hg hu (by decide), h2, fun j hj => by obtain ⟨Qn, Ql, e, hM⟩ := h3 j hj; exact ⟨Qn, Ql, e, hM.grow hg hu ⟨by decide, by decide⟩ hs⟩⟩, Nat.le_trans h4 hg.size⟩
theorem GoK.app {v' : Value} {p : List Value} {Qn Ql : Nat} {n : Int} (h1 : OwRg w B v p) (h2 : p.length = K.length) (h3 : ∀ j, j < K.length → ∃ Qn Ql, p[j]? = some (gV Qn Ql) ∧ MdB w Qn Ql (K.getD j 0) a t c l) (hB : B ≤ w.heap.size)
    (ho : OwRg w' B v' (p ++ [gV Qn Ql])) (hg : w.grownBy w' v.ownBlock) (hM : MdB w Qn Ql n a t c l) (hs : StrsIn w' a l) : GoK B v' (K ++ [n]) a t c l w' := by
  refine ⟨⟨_, ho, by simp [h2], fun j hj => ?_⟩, Nat.le_trans hB hg.size⟩
  rw [List.length_append, List.length_singleton] at hj
  by_cases hlt : j < K.length
  · obtain ⟨Qa, Qb, e, hM⟩ := h3 j hlt
    refine ⟨Qa, Qb, by rw [List.getElem?_append_left (by rw [h2]; exact hlt)]; exact e, ?_⟩
    have e2 : (K ++ [n]).getD j 0 = K.getD j 0 := by rw [List.getD, List.getElem?_append_left hlt, List.getD]
    rw [e2]
    exact hM.grow hg (own_typ h1) ⟨by decide, by decide⟩ hs
  · obtain rfl : j = K.length := by omega
    refine ⟨Qn, Ql, by rw [List.getElem?_append_right (by rw [h2]; exact Nat.le_refl _), h2, Nat.sub_self]; rfl, ?_⟩
    have e2 : (K ++ [n]).getD K.length 0 = n := by rw [List.getD, List.getElem?_append_right (Nat.le_refl _), Nat.sub_self]; rfl
    rw [e2]
    exact hM.grow hg (own_typ h1) ⟨by decide, by decide⟩ hs
theorem GoK.gs {ga : Option Addr} {n gc : Nat} (h : GoK B (.slice ga n gc) K a t c l w) : GsK w ga K a t c l := fun j hj => by
  obtain ⟨⟨vs, h1, h2, h3⟩, _⟩ := h
  obtain ⟨Qn, Ql, e, hM⟩ := h3 j hj
  rcases h1.2 with ⟨_, h0⟩ | ⟨g, cap, cur, e1, _, hg, _⟩
  · rw [h0] at h2
    exact absurd hj (by rw [← h2]; exact Nat.not_lt_zero j)
  · injection e1 with e1 e2 e3
    subst e1; subst e3; subst e2
    exact ⟨g, 0, Qn, Ql, rfl, blk_lt hg, by rw [Nat.zero_add, h1.cellAt j (by rw [Nat.mul_one, h2]; exact hj)]; exact e, hM⟩
theorem GoK.len {n : Nat} (h : GoK B v K a t c l w) (hn : K.length = n) : ∃ a c, v = .slice a n c := by
  obtain ⟨⟨vs, h1, h2, _⟩, _⟩ := h
  exact h1.form (h2.trans hn)
end
/-- The wanted ones while the guests' row grows. -/
theorem RwK.grow {X Y : Nat → Prop} {B : Nat} {v : Value} {E : List (List Sg2)} {w w' : World} {u : Option Nat} (h : RwK X B v E w) (hg : w.grownBy w' u) (hu : ∀ q, u = some q → ∃ cs, w.heap[q]? = some (.cells cs 112 (0, 0))) (hX : ∀ q, u = some q → X q) (hY : ∀ q, Y q → X q ∨ w.heap.size ≤ q) : RwK Y B v E w' := by
  obtain ⟨⟨vs, h1, h2⟩, h3⟩ := h
  refine ⟨⟨vs, own_kept h1 hg hu (by decide), (h2.keep hg.size (fun k hk => hg.block k hk.2.2 (fun e => hk.2.1 (hX k e.symm)))).mono (fun k hk => ⟨hk.1, fun hy => ?_, Nat.lt_of_lt_of_le hk.2.2 hg.size⟩)⟩, Nat.le_trans h3 hg.size⟩
  rcases hY k hy with h | h
  · exact hk.2.1 h
  · exact absurd hk.2.2 (by omega)
theorem catT_z (K : List Int) (l : List ByteArray) (hlg : lgT l = true) : ∀ i, i < (catT K l).length → ((catT K l).getD i ⟨#[]⟩).size ≤ 60 := fun i hi => by
  have hm : (catT K l).getD i ⟨#[]⟩ ∈ catT K l := by rw [List.getD, List.getElem?_eq_getElem hi]; exact List.getElem_mem hi
  generalize (catT K l).getD i ⟨#[]⟩ = s at hm ⊢
  unfold catT at hm
  rw [List.mem_flatMap] at hm
  obtain ⟨n, _, hm⟩ := hm
  obtain ⟨j, hj, rfl⟩ := List.getElem_of_mem hm
  have := (tdT_z (n := n) (b := false) hlg).2 j hj
  rw [List.getD, List.getElem?_eq_getElem hj] at this
  exact this
end Go.Proofs.YtdifkjmpdmlobaaDoor
set_option linter.unusedVariables false
set_option linter.unusedSimpArgs false
namespace Go.Proofs.YtdifkjmpdmlobaaDoor
open Go.RowKit
section
variable {l : List ByteArray} {a : Option Addr} {t c : Nat} {L : List (Int × Int)} {xa : Option Addr} {m xc : Nat} {x : Int} {K : List Int} {ka : Option Addr} {kn kc : Nat} {w : World}
theorem guestall_far (hU : UT w) (h60 : 60 < m) (hl : m ≤ 9223372036854775807) (v1 v2 : Value) :
    Calls Tryd.prog 9 #[.agg #[.slice xa m xc, .int .i64 x], v1, v2] w fun e w' => e = .returned (.bool true) ∧ Below w.heap.size w w' := by
  have b1 := below_alloc w (.cells #[.slice xa m xc, .int .i64 x] 42)
  have AW := Lib.hid (gawake_any (w.alloc (.cells #[.slice xa m xc, .int .i64 x] 42)) (hU.below b1))
  have N1 := Lib.hid b1
  have h60i : (60 : Int) < m := by omega
  clear hU b1
  go_enter Tryd.func9, Tryd.ntmps9
  go_wp2_with (go_at_call 30; refine AW.out.mono ?_; rintro e w2 ⟨rfl, hb⟩; have N2 := Lib.hid (seqB N1.out hb); clear hb AW)
  go_ret
  exact ⟨rfl, N2.out⟩
theorem guestall_dark (hU : UT w) (h60 : ¬ 60 < m) (hT : l.length = t) (ht : t ≤ 9223372036854775807) (hz : ∀ i, i < l.length → (l.getD i ⟨#[]⟩).size ≤ 9223372036854775807) (hs : StrsIn w a l) (hlg : lgT l = false) (v1 : Value) :
    Calls Tryd.prog 9 #[.agg #[.slice xa m xc, .int .i64 x], v1, .slice a t c] w fun e w' => e = .returned (.bool true) ∧ Below w.heap.size w w' := by
  have b1 := below_alloc w (.cells #[.slice xa m xc, .int .i64 x] 42)
  have LI := glight_any l a t c (w.alloc (.cells #[.slice xa m xc, .int .i64 x] 42)) hT ht hz (hs.below b1)
  rw [hlg] at LI
  have LI := Lib.hid LI
  have HU := Lib.hid fun w' (hb : Below w.heap.size w w') => gawake_any w' (hU.below hb)
  have N1 := Lib.hid b1
  have h60i : ¬ (60 : Int) < m := by omega
  clear hU b1 hs hz
  go_enter Tryd.func9, Tryd.ntmps9
  go_wp2_with (first
    | (go_at_call 29; refine LI.out.mono ?_; rintro e w2 ⟨rfl, hb⟩; have N2 := Lib.hid (seqB N1.out hb); clear hb LI)
    | (go_at_call 30; refine (HU.out _ N2.out).mono ?_; rintro e w3 ⟨rfl, hb⟩; have N3 := Lib.hid (seqB N2.out hb); clear hb HU))
  go_ret
  exact ⟨rfl, N3.out⟩
theorem guestall_many (hU : UT w) (h60 : ¬ 60 < m) (hT : l.length = t) (hs : StrsIn w a l) (hlg : lgT l = true) (hk : 20 < kn) (hkm : kn ≤ 9223372036854775807) :
    Calls Tryd.prog 9 #[.agg #[.slice xa m xc, .int .i64 x], .slice ka kn kc, .slice a t c] w fun e w' => e = .returned (.bool true) ∧ Below w.heap.size w w' := by
  obtain ⟨ht20, hz60⟩ := lg_z hlg
  have b1 := below_alloc w (.cells #[.slice xa m xc, .int .i64 x] 42)
  have LI := glight_any l a t c (w.alloc (.cells #[.slice xa m xc, .int .i64 x] 42)) hT (by omega) (fun i hi => by have := hz60 i hi; omega) (hs.below b1)
  rw [hlg] at LI
  have LI := Lib.hid LI
  have HU := Lib.hid fun w' (hb : Below w.heap.size w w') => gawake_any w' (hU.below hb)
  have N1 := Lib.hid b1
  have h60i : ¬ (60 : Int) < m := by omega
  have hki : (20 : Int) < kn := by omega
  clear hU b1 hs hz60
  go_enter Tryd.func9, Tryd.ntmps9
  go_wp2_with (first
    | (go_at_call 29; refine LI.out.mono ?_; rintro e w2 ⟨rfl, hb⟩; have N2 := Lib.hid (seqB N1.out hb); clear hb LI)
    | (go_at_call 30; refine (HU.out _ N2.out).mono ?_; rintro e w3 ⟨rfl, hb⟩; have N3 := Lib.hid (seqB N2.out hb); clear hb HU))
  go_ret
  exact ⟨rfl, N3.out⟩
theorem guestall_bad (hU : UT w) (h60 : ¬ 60 < m) (hL : L.length = m) (hT : l.length = t) (hs : StrsIn w a l) (hlg : lgT l = true) (hk : ¬ 20 < kn) (hsx : SlS (fun _ => True) w xa L xc) (hok : mayL L x = false) :
    Calls Tryd.prog 9 #[.agg #[.slice xa m xc, .int .i64 x], .slice ka kn kc, .slice a t c] w fun e w' => e = .returned (.bool true) ∧ Below w.heap.size w w' := by
  obtain ⟨ht20, hz60⟩ := lg_z hlg
  obtain ⟨Qx, hQ⟩ : ∃ Q, w.heap.size = Q := ⟨_, rfl⟩
  have b1 := below_alloc w (.cells #[.slice xa m xc, .int .i64 x] 42)
  have r1 := heap_alloc_new w (.cells #[.slice xa m xc, .int .i64 x] 42)
  obtain ⟨W, hW⟩ : ∃ W, w.alloc (.cells #[.slice xa m xc, .int .i64 x] 42) = W := ⟨_, rfl⟩
  rw [hW] at b1 r1
  rw [hQ] at r1
  have LI := glight_any l a t c W hT (by omega) (fun i hi => by have := hz60 i hi; omega) (hs.below b1)
  rw [hlg] at LI
  replace LI := Lib.hid LI
  have HU := Lib.hid fun w' (hb : Below w.heap.size w w') => gawake_any w' (hU.below hb)
  have MY := Lib.hid fun w' (hb : Below w.heap.size w w') => (by
    have h := r17_may L xa m xc x w' hL (by omega) (hsx.below hb).s
    rw [show (decide (0 ≤ x) && decide (x ≤ m) && sgC L) = mayL L x by rw [mayL, hL, Bool.and_assoc], hok] at h
    exact h : Calls Tryd.prog 35 #[.agg #[.slice xa m xc, .int .i64 x]] w' fun e w1 => e = .returned (.bool false) ∧ Below w'.heap.size w' w1)
  have X0 : Hid (LnG W Qx xa m xc x) := Lib.hid r1
  have M0 := Lib.hid b1
  have z0 := X0.out.cells.1
  have z1 := X0.out.cells.2
  have h60i : ¬ (60 : Int) < m := by omega
  have hki : ¬ (20 : Int) < kn := by omega
  have ht : t ≤ 20 := by omega
  clear hU hL hT hs hlg hsx hok b1 r1 ht20 hz60
  go_enter Tryd.func9, Tryd.ntmps9
  go_wp2_with (first
    | (go_at_call 29; refine LI.out.mono ?_; rintro e w2 ⟨rfl, hb⟩; have M2 := Lib.hid (seqB M0.out hb); have X2 := Lib.hid (X0.out.below hb); have z02 := X2.out.cells.1; have z12 := X2.out.cells.2; clear hb LI z0 z1)
    | (go_at_call 35; refine (MY.out _ M2.out).mono ?_; rintro e w3 ⟨rfl, hb⟩; have M3 := Lib.hid (seqB M2.out hb); clear hb MY z02 z12)
    | (go_at_call 30; refine (HU.out _ M3.out).mono ?_; rintro e w4 ⟨rfl, hb⟩; have M4 := Lib.hid (seqB M3.out hb); clear hb HU))
  go_ret
  exact ⟨rfl, M4.out⟩
set_option maxHeartbeats 16000000 in
theorem guestall_yes (hU : UT w) (h60 : ¬ 60 < m) (hL : L.length = m) (hK : K.length = kn) (hT : l.length = t) (hc : t ≤ c) (hs : StrsIn w a l) (hlg : lgT l = true) (hk : ¬ 20 < kn) (hsx : SlS (fun _ => True) w xa L xc) (hR : Row w ka K) (hok : mayL L x = true) :
    Calls Tryd.prog 9 #[.agg #[.slice xa m xc, .int .i64 x], .slice ka kn kc, .slice a t c] w fun e w' => e = .returned (.bool true) ∧ Below w.heap.size w w' := by
  obtain ⟨ht20, hz60⟩ := lg_z hlg
  obtain ⟨Qx, hQ⟩ : ∃ Q, w.heap.size = Q := ⟨_, rfl⟩
  have b1 := below_alloc w (.cells #[.slice xa m xc, .int .i64 x] 42)
  have r1 := heap_alloc_new w (.cells #[.slice xa m xc, .int .i64 x] 42)
  obtain ⟨W, hW⟩ : ∃ W, w.alloc (.cells #[.slice xa m xc, .int .i64 x] 42) = W := ⟨_, rfl⟩
  rw [hW] at b1 r1
  rw [hQ] at r1
  have LI := glight_any l a t c W hT (by omega) (fun i hi => by have := hz60 i hi; omega) (hs.below b1)
  rw [hlg] at LI
  replace LI := Lib.hid LI
  have HU := Lib.hid fun w' (hb : Below w.heap.size w w') => gawake_any w' (hU.below hb)
  have MY := Lib.hid fun w' (hb : Below w.heap.size w w') => (by
    have h := r17_may L xa m xc x w' hL (by omega) (hsx.below hb).s
    rw [show (decide (0 ≤ x) && decide (x ≤ m) && sgC L) = mayL L x by rw [mayL, hL, Bool.and_assoc], hok] at h
    exact h : Calls Tryd.prog 35 #[.agg #[.slice xa m xc, .int .i64 x]] w' fun e w1 => e = .returned (.bool true) ∧ Below w'.heap.size w' w1)
  have X0 : Hid (LnG W Qx xa m xc x) := Lib.hid r1
  have M0 := Lib.hid b1
  have z0 := X0.out.cells.1
  have z1 := X0.out.cells.2
  have h60i : ¬ (60 : Int) < m := by omega
  have hki : ¬ (20 : Int) < kn := by omega
  have ht : t ≤ 20 := by omega
  have hQm : Qx < W.heap.size := blk_lt r1
  have HUT := Lib.hid fun w' (hb : Below w.heap.size w w') => hU.below hb
  have HS := Lib.hid fun w' (hb : Below w.heap.size w w') => hs.below hb
  have HX := Lib.hid fun w' (hb : Below w.heap.size w w') => hsx.below hb
  have HK := Lib.hid hK
  have HL := Lib.hid hL
  have HT := Lib.hid hT
  have HR := Lib.hid hR
  have HOK := Lib.hid hok
  have HLG := Lib.hid hlg
  have HQm := Lib.hid hQm
  clear hU hL hT hs hlg hsx hok b1 r1 ht20 hz60 hK hR hQm
  go_enter Tryd.func9, Tryd.ntmps9
  go_upto_region 6 with (first
    | (go_at_call 29; refine LI.out.mono ?_; rintro e w2 ⟨rfl, hb⟩; have M2 := Lib.hid (seqB M0.out hb); have X2 := Lib.hid (X0.out.below hb); have HQ2 := Lib.hid (Nat.lt_of_lt_of_le HQm.out hb.size); have z02 := X2.out.cells.1; have z12 := X2.out.cells.2; clear hb LI z0 z1)
    | (go_at_call 35; refine (MY.out _ M2.out).mono ?_; rintro e w3 ⟨rfl, hb⟩; have M3 := Lib.hid (seqB M2.out hb); have X3 := Lib.hid (X2.out.below hb); have HQ3 := Lib.hid (Nat.lt_of_lt_of_le HQ2.out hb.size); clear hb MY z02 z12))
  clear hW hQ X0 M0 M2 X2 HQm HQ2
  go_loopw [7, 8, 9] (fun gv ov iv wr => ∃ k : Nat, k ≤ kn ∧ iv = .int .i64 (k : Int) ∧ Hid (GoK w3.heap.size gv (K.take k) a t c l wr) ∧ Hid (RwK (fun q => gv.ownBlock = some q) w3.heap.size ov (tL (catT (K.take k) l)) wr) ∧ Hid (LnG wr Qx xa m xc x) ∧ Hid (Below w.heap.size w wr)) (fun _ _ iv _ => kn - (intOf iv).toNat)
  case atStart => exact ⟨0, Nat.zero_le _, rfl, Lib.hid GoK.nil, Lib.hid (RwK.nil _ _), X3, M3⟩
  case round =>
    clear X3
    obtain ⟨k, hk, rfl, HG, HW, HXr, HB⟩ := hrel
    have hcl : (catT (K.take k) l).length ≤ 400 := by
      have := catT_len (K.take k) l HLG.out
      have h2 : (K.take k).length ≤ 20 := by have := HK.out; rw [List.length_take]; omega
      omega
    obtain ⟨cn, hcn⟩ : ∃ cn, (catT (K.take k) l).length = cn := ⟨_, rfl⟩
    obtain ⟨oa, oc, rfl⟩ := HW.out.len (n := cn) (by rw [tL_len]; exact hcn)
    have hkl : (K.take k).length = k := by rw [List.length_take, HK.out]; omega
    obtain ⟨ga, gc, rfl⟩ := HG.out.len (n := k) hkl
    have HKL := Lib.hid hkl
    have HCN := Lib.hid hcn
    rw [hcn] at hcl
    clear hcn hkl
    by_cases hlt : k < kn
    · have hk1 : (k : Int) < kn := by omega
      have hk0 : (0 : Int) ≤ k := by omega
      have hnext : tL (catT (K.take (k + 1)) l) = tL (catT (K.take k) l) ++ tL (tdT (K.getD k 0) l false) := by rw [catT_next K l k (by rw [HK.out]; exact hlt), tL_app]
      have htk : K.take (k + 1) = K.take k ++ [K.getD k 0] := by
        rw [List.take_add_one, List.getElem?_eq_getElem (by rw [HK.out]; exact hlt), List.getD, List.getElem?_eq_getElem (by rw [HK.out]; exact hlt)]
        rfl
      obtain ⟨kb, koff, rfl, c0, hkb⟩ := HR.out k (by rw [HK.out]; exact hlt)
      have c1 := (HB.out.cell (p := ⟨kb, koff + k, none⟩) hkb).trans c0
      have hTz := tdT_z (n := K.getD k 0) (b := false) HLG.out
      have hTz2 := hTz.2
      generalize K.getD k 0 = n at *
      have HC0 : Hid (∀ w', Below w.heap.size w w' → w'.cell? ⟨kb, koff + k, none⟩ = some (.int .i64 n)) := Lib.hid fun w' hb => (hb.cell (p := ⟨kb, koff + k, none⟩) hkb).trans c0
      have MD := Lib.hid (made_any n l a t c wr HT.out hc (HS.out _ HB.out))
      have TD := Lib.hid fun w' hb => told_ref n l false a t c w' HT.out hc (HS.out w' hb)
      have HN := Lib.hid hnext
      have HTK := Lib.hid htk
      have HTZ := Lib.hid hTz
      obtain ⟨⟨gs, hg1, hg2, hg3⟩, hg4⟩ := HG.out
      have G1 := Lib.hid hg1
      have G2 : Hid (gs.length = k) := Lib.hid (hg2.trans HKL.out)
      have G4 := Lib.hid hg4
      have G3 := Lib.hid hg3
      clear hnext htk hTz hTz2 c0 hkb hg1 hg2 hg3 hg4
      go_wp2_with (first
        | (go_at_call 33; refine MD.out.mono ?_; rintro e w4 ⟨Qn, Ql, rfl, hm, hb⟩; have BA := below_alloc w4 (.cells #[gV Qn Ql] 112); have hb5 := seqB hb BA; have B5 := Lib.hid hb5; have O5 := Lib.hid (G1.out.below hb5); have D5 := Lib.hid (hm.below BA); have GK5 := Lib.hid (HG.out.below hb5); have W5 := Lib.hid (HW.out.below hb5); have X5 := Lib.hid (HXr.out.below hb5); have N5 := Lib.hid (seqB HB.out hb5); have Z5 := Lib.hid (Nat.le_trans G4.out hb5.size); have hnew : ∀ j y, ([gV Qn Ql] : List Value)[j]? = some y → (w4.alloc (.cells #[gV Qn Ql] 112)).cell? ((⟨w4.heap.size, 0, none⟩ : Addr).add j) = some y := (fun j y hj => app_cells rfl hj); clear hm hb hb5 BA MD c1 G1)
        | (at_builtin; refine wpList_app_gs rfl _ _ rfl w3.heap.size _ k gs rfl G2.out O5.out ⟨w4.heap.size, 0, none⟩ 1 (gV Qn Ql) rfl hnew rfl ?g1 Z5.out ?_))
      case g1 => omega
      intro ga6 gc6 w6 ho6 hgr6 hp6
      have hlt6 := O5.out.lt
      have N6 := Lib.hid (N5.out.grown hgr6 (Nat.le_trans M3.out.size Z5.out) (fun j hj => Nat.le_trans M3.out.size (hlt6 j hj).1))
      have GK6 : Hid (GoK w3.heap.size (.slice ga6 (k + 1) gc6) (K.take k ++ [n]) a t c l w6) := Lib.hid (GoK.app O5.out (G2.out.trans HKL.out.symm) (fun j hj => by obtain ⟨Qa, Qb, e, hM⟩ := G3.out j hj; exact ⟨Qa, Qb, e, hM.below B5.out⟩) Z5.out ho6 hgr6 D5.out (HS.out _ N6.out))
      have W6 : Hid (RwK (fun q => (Value.slice ga6 (k + 1) gc6).ownBlock = some q) w3.heap.size (.slice oa cn oc) (tL (catT (K.take k) l)) w6) := Lib.hid (W5.out.grow hgr6 (own_typ O5.out) (fun q hq => hq) (fun q hq => by rw [show (w4.alloc (.cells #[gV Qn Ql] 112)).heap.size = w4.heap.size + 1 by simp]; exact hp6 q hq))
      have X6 : Hid (LnG w6 Qx xa m xc x) := Lib.hid ((hgr6.block Qx (blk_lt X5.out) (fun e => by
        have := (hlt6 Qx e.symm).1
        have := HQ3.out
        omega)).trans X5.out)
      have c6 := HC0.out _ N6.out
      clear hlt6 ho6 hgr6 hp6 hnew B5 O5 D5 GK5 W5 X5 N5 Z5 HG HW HXr HB G2 G3 G4
      go_wp2_with (first
        | (go_at_call 34; refine (TD.out _ N6.out).mono ?_; rintro e w7 ⟨a7, m7, c7, rfl, hm7, hs7, hc7, hb⟩; have GK7 := Lib.hid (GK6.out.below hb); have W7 := Lib.hid (W6.out.below hb); have X7 := Lib.hid (X6.out.below hb); have N7 := Lib.hid (seqB N6.out hb); have L7 := Lib.hid hm7; have SG := Lib.hid (rsigns_ref (tdT n l false) a7 m7 c7 w7 hm7 (by have := HTZ.out.1; omega) (fun i hi => by have := HTZ.out.2 i hi; omega) hs7); clear hm7 hs7 hc7 hb TD c6 GK6 W6 X6 N6)
        | (go_at_call 37; refine SG.out.mono ?_; rintro e w8 ⟨b8, d8, rfl, hs8, hb⟩; have S8 := Lib.hid hs8; have GK8 := Lib.hid (GK7.out.below hb); have W8 := Lib.hid (W7.out.below hb); have X8 := Lib.hid (X7.out.below hb); have N8 := Lib.hid (seqB N7.out hb); obtain ⟨⟨vs, ho8, he8⟩, hB8⟩ := W8.out; have O8 := Lib.hid ho8; have L8 := Lib.hid he8; have Z8 := Lib.hid hB8; have V8 : Hid (vs.length = cn) := Lib.hid (by rw [he8.1, tL_len]; exact HCN.out); clear hs8 hb ho8 he8 hB8 SG)
        | (at_builtin; refine wpList_app_sg rfl _ _ rfl w3.heap.size _ cn vs rfl V8.out O8.out b8 m7 d8 _ (tL (tdT n l false)) rfl (by rw [tL_len]; exact L7.out) S8.out ?g2 Z8.out ?_))
      case g2 => have := L7.out; have := HTZ.out.1; omega
      intro us oa9 oc9 w9 hu9 ho9 hg9 hp9
      have hlt9 := O8.out.lt
      have N9 := Lib.hid (N8.out.grown hg9 (Nat.le_trans M3.out.size Z8.out) (fun j hj => Nat.le_trans M3.out.size (hlt9 j hj).1))
      have R9 : Hid (RwK (fun q => (Value.slice ga6 (k + 1) gc6).ownBlock = some q) w3.heap.size (.slice oa9 (cn + m7) oc9) (tL (catT (K.take k) l) ++ tL (tdT n l false)) w9) := Lib.hid (RwK.app O8.out L8.out Z8.out hu9 (fun q hq => ⟨fun e => by
          obtain ⟨⟨vr, hor, _⟩, _⟩ := W7.out
          have := (hor.lt q e).2
          have := hq.1
          omega, fun e => by
          obtain ⟨⟨vr, hor, _⟩, _⟩ := GK7.out
          have := (hor.lt q e).2
          have := hq.1
          omega, hq.2⟩) ho9 hg9 hp9)
      have GK9 := Lib.hid (GK8.out.grow hg9 (own_typ O8.out) (HS.out _ N9.out))
      have X9 : Hid (LnG w9 Qx xa m xc x) := Lib.hid ((hg9.block Qx (blk_lt X8.out) (fun e => by
        have := (hlt9 Qx e.symm).1
        have := HQ3.out
        omega)).trans X8.out)
      clear hlt9 hu9 ho9 hg9 hp9
      go_wp2_with fail
      go_roundw
      case rel => exact ⟨k + 1, by omega, by go_num, Lib.hid (by rw [HTK.out]; exact GK9.out), Lib.hid (by rw [HN.out]; exact R9.out), X9, N9⟩
      case measure => (simp [intOf]; try omega)
    · obtain rfl : k = kn := by omega
      have hk1 : ¬ (k : Int) < k := by omega
      have htk : K.take k = K := by rw [← HK.out, List.take_length]
      have hGS := HG.out.gs
      have hSW := HW.out.sgs
      have hcn := HCN.out
      rw [htk] at hGS hSW hcn
      have AL := Lib.hid (all_any K ga k gc (HUT.out _ HB.out) HK.out (by omega) HLG.out HT.out hGS HL.out (by omega) (HX.out _ HB.out) HOK.out)
      have SW := Lib.hid hSW
      have HCK := Lib.hid hcn
      obtain ⟨y0, y1⟩ := HXr.out.cells
      have LS : Hid (∀ (a' b' : Option Addr) (c' d' : Nat) (w' : World), SgsK (fun _ => True) w' a' (tL (catT K l)) → SgsK (fun _ => True) w' b' (tL (catT K l)) → Calls Tryd.prog 36 #[.slice a' cn c', .slice b' cn d'] w' fun e w1 => e = .returned (.bool true) ∧ Below w'.heap.size w' w1) := Lib.hid fun a' b' c' d' w' h1 h2 => rk_lists _ _ (tL (catT K l)) a' b' cn c' d' w' (by rw [tL_len, HCK.out]) (by omega) (tL_z (catT_z K l HLG.out)) h1 h2
      clear htk hGS hSW hcn
      go_upto_region 13 with (go_at_call 39; refine AL.out.mono ?_; rintro e w5 ⟨b5, n5, d5, E, rfl, hn5, hs5, he5, hb5⟩; obtain rfl : n5 = cn := hn5.symm.trans HCK.out; rw [HK.out]; have S5 := Lib.hid hs5; have E5 := Lib.hid he5; have W5 := Lib.hid (SW.out.below hb5); have N5 := Lib.hid (seqB HB.out hb5); clear hn5 hs5 he5 hb5 AL SW y0 y1)
      clear HG HW HXr HB
      go_loopw [14] (fun iv wq => ∃ j : Nat, j ≤ k ∧ iv = .int .i64 (j : Int) ∧ Hid (SgsK (fun _ => True) wq b5 (tL (catT K l))) ∧ Hid (SgsK (fun _ => True) wq oa (tL (catT K l))) ∧ Hid (wq.heap[E]? = some (.cells (iRow (K.map fun n => tdE n false)) 25 (0, 0))) ∧ Hid (Below w.heap.size w wq)) (fun iv _ => k - (intOf iv).toNat)
      case atStart => exact ⟨0, Nat.zero_le _, rfl, S5, W5, E5, N5⟩
      case round =>
        clear S5 W5 E5 N5
        obtain ⟨j, hj, rfl, SA, SB, EE, HB⟩ := hrel
        by_cases hjt : j < k
        · have hj1 : (j : Int) < k := by omega
          have hj0 : (0 : Int) ≤ j := by omega
          obtain ⟨kb, koff, rfl, c0, hkb⟩ := HR.out j (by rw [HK.out]; exact hjt)
          have c1 := (HB.out.cell (p := ⟨kb, koff + j, none⟩) hkb).trans c0
          have hat : (K.map fun n => tdE n false).getD j 0 = tdE (K.getD j 0) false := by
            rw [List.getD, List.getElem?_map, List.getD, List.getElem?_eq_getElem (by rw [HK.out]; exact hjt)]
            rfl
          generalize K.getD j 0 = n at *
          have TD := Lib.hid (told_ref n l false a t c wr HT.out hc (HS.out _ HB.out))
          have HAT := Lib.hid hat
          have HJL : Hid (j < (K.map fun n => tdE n false).length) := Lib.hid (by rw [List.length_map, HK.out]; exact hjt)
          clear c0 hkb hat
          go_wp2_with (go_at_call 34; refine TD.out.mono ?_; rintro e w7 ⟨a7, m7, c7, rfl, hm7, hs7, hc7, hb⟩; have SA7 := Lib.hid (SA.out.below hb); have SB7 := Lib.hid (SB.out.below hb); have E7 := Lib.hid (blk_below EE.out hb); have N7 := Lib.hid (seqB HB.out hb); have x7 := i_cell E7.out HJL.out; rw [HAT.out] at x7; generalize tdE n false = er at *; clear hm7 hs7 hc7 hb TD c1)
          go_roundw
          case rel => exact ⟨j + 1, by omega, by go_num, SA7, SB7, E7, N7⟩
          case measure => (simp [intOf]; try omega)
        · obtain rfl : j = k := by omega
          have hj1 : ¬ (j : Int) < j := by omega
          go_wp2_with (first
            | (go_at_call 30; refine (HU.out _ HB.out).mono ?_; rintro e w8 ⟨rfl, hb⟩; have SA8 := Lib.hid (SA.out.below hb); have SB8 := Lib.hid (SB.out.below hb); have N8 := Lib.hid (seqB HB.out hb); clear hb HU)
            | (go_at_call 36; refine (LS.out _ _ _ _ _ SA8.out SB8.out).mono ?_; rintro e w9 ⟨rfl, hb⟩; have N9 := Lib.hid (seqB N8.out hb); clear hb LS))
          go_ret
          exact ⟨rfl, N9.out⟩
/-- Of any line, numbers and texts. -/
theorem guestall_any (hU : UT w) (hL : L.length = m) (hm : m ≤ 9223372036854775807) (hK : K.length = kn) (hkm : kn ≤ 9223372036854775807) (hR : Row w ka K) (hT : l.length = t) (ht : t ≤ 9223372036854775807) (hz : ∀ i, i < l.length → (l.getD i ⟨#[]⟩).size ≤ 9223372036854775807) (hc : t ≤ c) (hs : StrsIn w a l) (hsx : SlS (fun _ => True) w xa L xc) :
    Calls Tryd.prog 9 #[.agg #[.slice xa m xc, .int .i64 x], .slice ka kn kc, .slice a t c] w fun e w' => e = .returned (.bool true) ∧ Below w.heap.size w w' := by
  by_cases h60 : 60 < m
  · exact guestall_far hU h60 hm _ _
  by_cases hlg : lgT l = true
  · by_cases hk : 20 < kn
    · exact guestall_many hU h60 hT hs hlg hk hkm
    by_cases hok : mayL L x = true
    · exact guestall_yes hU h60 hL hK hT hc hs hlg hk hsx hR hok
    · exact guestall_bad hU h60 hL hT hs hlg hk hsx (by simpa using hok)
  · exact guestall_dark hU h60 hT ht hz hs (by simpa using hlg) _
end
end Go.Proofs.YtdifkjmpdmlobaaDoor
set_option linter.unusedVariables false
set_option linter.unusedSimpArgs false
namespace Go.Proofs.YtdifkjmpdmlobaaDoor
open Go.ChangeShapes Go.WideShapes Go.ChangeAt Go.RowKit Go.Deep Go.Joins
section
variable {H : Type} {enc : TypeId × Value → H} {W : World}
theorem addI (b off k : Nat) : (⟨b, off, none⟩ : Addr).add k = ⟨b, off + k, none⟩ := by unfold Addr.add; split <;> simp_all
theorem cellsI : Tryd.prog.cellsOf 3 = 1 := by kernel_rfl
theorem arg_intR {base : Nat} {v0 : Value} {d0 : DataW H} {p : List MemPlace} (hv : Value.okWide Tryd.prog W .any base 34 v0) (h : DataW.Trod enc Tryd.prog W 0 (fun _ => true) true 34 v0 d0 p) :
    ∃ (l : List Int) (a : Option Addr) (c : Nat), v0 = .slice a l.length c ∧ Row W a l ∧ l.length ≤ 9223372036854775807 := by
  obtain ⟨a0, len, cap, rfl⟩ := okWide_slice Tryd.underlying34 hv
  obtain ⟨fuel, hf⟩ := h
  rcases open_ints Tryd.underlying34 Tryd.underlying3 cellsI hf with ⟨hcs, _⟩ | ⟨a, len', cap', zs, hcs, _, hl, hm, hz, _, hcell, _⟩
  · simp [Value.cells] at hcs
    obtain ⟨rfl, rfl, rfl⟩ := hcs
    exact ⟨[], none, 0, rfl, fun j hj => absurd hj (Nat.not_lt_zero j), by simp⟩
  · simp [Value.cells] at hcs
    obtain ⟨rfl, rfl, rfl⟩ := hcs
    simp only [if_true] at hz
    have hlen : (zs.take len).length = len := by rw [List.length_take]; omega
    refine ⟨zs.take len, some a, cap, by rw [hlen], fun j hj => ?_, by rw [hlen]; unfold maxLen at hm; omega⟩
    have hj2 : j < len := by rw [hlen] at hj; exact hj
    obtain ⟨b, off, sp⟩ := a
    have h0 := hcell 0 (by omega)
    have hsp : sp = none := by
      have h1 : W.cell? ⟨b, off, sp⟩ = some (.int .i64 (zs.getD 0 0)) := by simpa [Addr.add] using h0
      exact cell_spot h1
    subst hsp
    have hcj := hcell j (by omega)
    rw [addI] at hcj
    refine ⟨b, off, rfl, ?_, block_lt_of_cell hcj⟩
    rw [hcj]
    simp only [List.getD, List.getElem?_take, hj2, if_true]
end
end Go.Proofs.YtdifkjmpdmlobaaDoor
