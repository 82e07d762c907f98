/-
  vfs: rows of changes that wait; a disk in memory.
-/
import Derived.Test.YtlkocmnnchgdeaaVf1
import Derived.Deep.Onto
import Derived.Laws.AppendOwnNone
set_option linter.unusedVariables false
set_option linter.unusedSimpArgs false
namespace Go.Proofs.Ytlkocmnnchgdeaa
set_option maxRecDepth 100000
open Go.RowKit
/-- A change: its kind, its name, the other name, the text. -/
abbrev ChR := Int × ByteArray × ByteArray × ByteArray
def vA (q : ChR) : Array Value := #[.int .i64 q.1, .string q.2.1, .string q.2.2.1, .string q.2.2.2]
def vC (L : List ChR) : List Value := L.flatMap fun q => [Value.int .i64 q.1, Value.string q.2.1, Value.string q.2.2.1, Value.string q.2.2.2]
def c0 : ChR := (0, ⟨#[]⟩, ⟨#[]⟩, ⟨#[]⟩)
theorem vC_at (L : List ChR) : ∀ i, i < L.length → (vC L)[i * 4]? = some (.int .i64 (L.getD i c0).1) ∧ (vC L)[i * 4 + 1]? = some (.string (L.getD i c0).2.1) ∧ (vC L)[i * 4 + 2]? = some (.string (L.getD i c0).2.2.1) ∧ (vC L)[i * 4 + 3]? = some (.string (L.getD i c0).2.2.2) := by
  induction L with
  | nil => intro i hi; simp at hi
  | cons x L ih =>
    intro i hi
    cases i with
    | zero => exact ⟨rfl, rfl, rfl, rfl⟩
    | succ i =>
      have h := ih i (by simpa using hi)
      rw [show (i + 1) * 4 = i * 4 + 1 + 1 + 1 + 1 by omega]
      exact h
theorem vC_len (L : List ChR) : (vC L).length = L.length * 4 := by
  unfold vC
  induction L with
  | nil => rfl
  | cons x L ih => simp only [List.flatMap_cons, List.length_append, List.length_cons, List.length_nil, ih]; omega
theorem vC_app (a b : List ChR) : vC (a ++ b) = vC a ++ vC b := by simp [vC]
theorem vC_one (l : List ChR) : ∀ u ∈ vC l, u.oneCell' = true := by
  intro u hu
  unfold vC at hu
  rw [List.mem_flatMap] at hu
  obtain ⟨p, _, hp⟩ := hu
  simp at hp
  rcases hp with rfl | rfl | rfl | rfl <;> rfl
theorem vC_news {w : World} {b : Nat} {q : ChR} {T : TypeId} {f : Nat × Nat} (h : w.heap[b]? = some (.cells (vA q) T f)) : ∀ j u, (vC [q])[j]? = some u → w.cell? ((⟨b, 0, none⟩ : Addr).add j) = some u := by
  intro j u hj
  have hadd : (⟨b, 0, none⟩ : Addr).add j = ⟨b, j, none⟩ := by unfold Addr.add; split <;> simp_all
  rw [hadd, cell_of_row w b j _ _ _ h]
  have e : vC [q] = (vA q).toList := rfl
  rw [e] at hj
  rw [← hj]; exact (Array.getElem?_toList).symm
/-- A row of changes of the disk's own. -/
def OwW (w : World) (B : Nat) (v : Value) (L : List ChR) : Prop := w.ownsRow B 47 4 v L.length (vC L)
theorem bytesCh : ∃ b, (Try.prog.info? 47).map (fun i => (i.zero, i.size, i.bytes)) = some (some (.agg #[.int .i64 0, .string ⟨#[]⟩, .string ⟨#[]⟩, .string ⟨#[]⟩]), 4, b) ∧ 1 ≤ b ∧ b ≤ 64 := ⟨56, by kernel_rfl, by decide, by decide⟩
theorem oww_nil (w : World) (B : Nat) : OwW w B (.slice none 0 0) [] := World.ownsRow_nil _ _ _ _
theorem rows_keep {w w' : World} {B : Nat} {e : TypeId} {s : Nat} {v : Value} {n : Nat} {xs : List Value} (h : w.ownsRow B e s v n xs) (hk : ∀ k, v.ownBlock = some k → w'.heap[k]? = w.heap[k]?) : w'.ownsRow B e s v n xs := by
  refine ⟨h.1, ?_⟩
  rcases h.2 with hn | ⟨g, cap, cur, rfl, hb, hg, rest⟩
  · exact .inl hn
  · exact .inr ⟨g, cap, cur, rfl, hb, (hk g rfl).trans hg, rest⟩
theorem rows_below {w w' : World} {B : Nat} {e : TypeId} {s : Nat} {v : Value} {n : Nat} {xs : List Value} (h : w.ownsRow B e s v n xs) (hb : Below w.heap.size w w') : w'.ownsRow B e s v n xs := rows_keep h fun k hk => hb.block k (World.ownsRow.lt h k hk).2
/-- The block of a row is one of cells of its type. -/
theorem rows_typ {w : World} {B : Nat} {e : TypeId} {s : Nat} {v : Value} {n : Nat} {xs : List Value} (h : w.ownsRow B e s v n xs) {k : Nat} {cs : Array Value} {t : TypeId} {f : Nat × Nat} (hk : w.heap[k]? = some (.cells cs t f)) (ht : t ≠ e) : v.ownBlock ≠ some k := fun e1 => by
  rcases h.2 with ⟨rfl, _⟩ | ⟨g, cap, cur, rfl, _, h3, _⟩
  · cases e1
  · have e2 : g = k := Option.some.inj e1
    subst e2
    rw [h3] at hk
    injection hk with hk
    injection hk with _ e3 _
    exact ht e3.symm
theorem rows_two {w : World} {B B' : Nat} {e e' : TypeId} {s s' : Nat} {v u : Value} {n n' : Nat} {xs ys : List Value} (h : w.ownsRow B e s v n xs) (h2 : w.ownsRow B' e' s' u n' ys) (ht : e ≠ e') : ∀ k, v.ownBlock = some k → u.ownBlock ≠ some k := fun k hk hk' => by
  rcases h.2 with ⟨rfl, _⟩ | ⟨g, cap, cur, rfl, _, h3, _⟩
  · cases hk
  · have e2 : g = k := Option.some.inj hk
    subst e2
    exact rows_typ h2 h3 ht hk'
theorem rows_map {w : World} {B : Nat} {e : TypeId} {s : Nat} {v : Value} {n : Nat} {xs : List Value} (h : w.ownsRow B e s v n xs) {b m : Nat} {f : Fls} (hm : FlM w b f m) : v.ownBlock ≠ some b := fun e1 => by
  rcases h.2 with ⟨rfl, _⟩ | ⟨g, cap, cur, rfl, _, h3, _⟩
  · cases e1
  · have e2 : g = b := Option.some.inj e1
    exact hm.ne h3 e2
theorem OwW.form {w : World} {B : Nat} {v : Value} {L : List ChR} {n : Nat} (h : OwW w B v L) (hn : L.length = n) : ∃ a c, v = .slice a n c := by
  subst hn
  rcases h.2 with ⟨rfl, h0⟩ | ⟨g, cap, cur, rfl, _⟩
  · exact ⟨none, 0, by rw [h0]⟩
  · exact ⟨_, cap, rfl⟩
/-- A change of the row: its four cells. -/
theorem OwW.cell {w : World} {B n : Nat} {a : Option Addr} {c : Nat} {L : List ChR} (h : OwW w B (.slice a n c) L) (hn : L.length = n) (i : Nat) (hi : i < n) :
    ∃ g, a = some ⟨g, 0, none⟩ ∧ g < w.heap.size ∧ w.cell? ⟨g, i * 4, none⟩ = some (.int .i64 (L.getD i c0).1) ∧ w.cell? ⟨g, i * 4 + 1, none⟩ = some (.string (L.getD i c0).2.1) ∧ w.cell? ⟨g, i * 4 + 2, none⟩ = some (.string (L.getD i c0).2.2.1) ∧ w.cell? ⟨g, i * 4 + 3, none⟩ = some (.string (L.getD i c0).2.2.2) := by
  subst hn
  rcases h.2 with ⟨e, h0⟩ | ⟨g, cap, cur, e, _, hg, _⟩
  · omega
  · injection e with e1 e2 e3
    subst e1; subst e3
    have := vC_at L i hi
    refine ⟨g, rfl, vlt hg, ?_, ?_, ?_, ?_⟩
    · rw [World.ownsRow.cellAt h (i * 4) (by omega)]; exact this.1
    · rw [World.ownsRow.cellAt h (i * 4 + 1) (by omega)]; exact this.2.1
    · rw [World.ownsRow.cellAt h (i * 4 + 2) (by omega)]; exact this.2.2.1
    · rw [World.ownsRow.cellAt h (i * 4 + 3) (by omega)]; exact this.2.2.2
/-- An append of changes. -/
theorem app_ch {w : World} (ty : TypeId) (B : Nat) (v : Value) (L : List ChR) (h : OwW w B v L) (b c : Nat) (q : ChR) (hq : ∀ j u, (vC [q])[j]? = some u → w.cell? ((⟨b, 0, none⟩ : Addr).add j) = some u) (hl : L.length ≤ 1000) (hB : B ≤ w.heap.size) :
    ∃ a d w', (Builtin.append_ #[39, 39] ty #[v, .slice (some ⟨b, 0, none⟩) 1 c]).run Try.prog w = .ok (.slice a (L.length + 1) d) w' ∧ OwW w' B (.slice a (L.length + 1) d) (L ++ [q]) ∧ w.grownBy w' v.ownBlock := by
  obtain ⟨bb, hbb, hb1, hb2⟩ := bytesCh
  obtain ⟨i0, hi, hz0, hz1, hz2⟩ := info_parts hbb
  obtain ⟨v', w', hr, a1, a2, _⟩ := run_append_own (P := Try.prog) w B 39 ty 47 i0 _ 4 bb Try.underlying39 hi hz0 hz1 hz2 rfl (by decide) v L.length _ h ⟨b, 0, none⟩ 1 c (vC [q]) (vC_len [q]) hq (vC_one [q]) (by unfold maxLen; omega) (Nat.le_trans (Nat.mul_le_mul (show L.length + 1 ≤ 1000000 by omega) hb2) (by decide)) hB
  have hO : OwW w' B v' (L ++ [q]) := by unfold OwW; rw [List.length_append, vC_app]; exact a1
  obtain ⟨a, d, rfl⟩ := hO.form (n := L.length + 1) (by rw [List.length_append]; rfl)
  exact ⟨a, d, w', hr, hO, a2⟩
theorem app_none {w : World} (ty : TypeId) (B : Nat) (v : Value) (L : List ChR) (h : OwW w B v L) : (Builtin.append_ #[39, 39] ty #[v, .slice none 0 0]).run Try.prog w = .ok v w := by
  obtain ⟨bb, hbb, hb1, hb2⟩ := bytesCh
  obtain ⟨i0, hi, hz0, hz1, hz2⟩ := info_parts hbb
  exact run_append_owned_none (P := Try.prog) (w := w) B 39 ty 47 i0 4 Try.underlying39 hi v L.length _ h
theorem elemCh : Try.prog.elem 39 = 47 := by kernel_rfl
theorem sizeCh (w : World) : (sizeOf 47).run Try.prog w = .ok 4 w := by kernel_rfl
theorem zeroCh (w : World) : (zeroValue 47).run Try.prog w = .ok (.agg #[.int .i64 0, .string ⟨#[]⟩, .string ⟨#[]⟩, .string ⟨#[]⟩]) w := by kernel_rfl
/-- All of a row is cleared, and it is cut to nothing. -/
theorem clear_ch {w : World} (ty : TypeId) (B : Nat) (L : List ChR) {a : Option Addr} {n c : Nat} (h : OwW w B (.slice a n c) L) (hn : L.length = n) (hp : 0 < n) :
    ∃ w', (Builtin.clear_ #[39] ty #[.slice a n c]).run Try.prog w = .ok (.tuple #[]) w' ∧ (∀ w, (Instr.slice 39 (.slice a n c) none (some (.int .i64 0)) none).run Try.prog w = .ok (.slice a 0 c) w) ∧ OwW w' B (.slice a 0 c) [] ∧ w.grownBy w' (Value.slice a n c).ownBlock := by
  subst hn
  rcases h.2 with ⟨e, h0⟩ | ⟨g, cap, cur, e, hBg, hg, hle, hm, hcs, _⟩
  · omega
  injection e with e1 e2 e3
  subst e1; subst e3
  obtain ⟨zs, hz⟩ : ∃ zs, (Builtin.zeroCells #[.int .i64 0, .string ⟨#[]⟩, .string ⟨#[]⟩, .string ⟨#[]⟩] L.length).toList = zs := ⟨_, rfl⟩
  have hzl : zs.length = L.length * 4 := by rw [← hz]; simp [Builtin.zeroCells]
  have hzo : ∀ v ∈ zs, v.oneCell' = true := fun v hv => by
    rw [← hz] at hv
    simp only [Builtin.zeroCells, Array.toList_map, List.mem_map] at hv
    obtain ⟨i, _, rfl⟩ := hv
    have h4 : i % 4 < 4 := Nat.mod_lt _ (by decide)
    have : i % 4 = 0 ∨ i % 4 = 1 ∨ i % 4 = 2 ∨ i % 4 = 3 := by omega
    have hs4 : (#[Value.int .i64 0, .string ⟨#[]⟩, .string ⟨#[]⟩, .string ⟨#[]⟩] : Array Value).size = 4 := rfl
    rw [hs4]
    rcases this with h | h | h | h <;> rw [h] <;> rfl
  have hst := run_storeCells_at Try.prog g 0 47 zs 0 cur w hg (by rw [hzl, hcs]; simp; exact Nat.mul_le_mul_right _ hle) hzo
  obtain ⟨w', hw'⟩ : ∃ w', w.setRow g (cur.toList.take (0 + 0) ++ zs ++ cur.toList.drop (0 + 0 + zs.length)).toArray = w' := ⟨_, rfl⟩
  rw [hw'] at hst
  have e : (Value.agg #[.int .i64 0, .string ⟨#[]⟩, .string ⟨#[]⟩, .string ⟨#[]⟩]).cells = #[.int .i64 0, .string ⟨#[]⟩, .string ⟨#[]⟩, .string ⟨#[]⟩] := rfl
  have y1 := setRow_heap w g cur (cur.toList.take (0 + 0) ++ zs ++ cur.toList.drop (0 + 0 + zs.length)).toArray _ _ hg
  rw [hw'] at y1
  refine ⟨w', ?_, fun w => ?_, ⟨rfl, .inr ⟨g, c, _, rfl, hBg, y1, Nat.zero_le _, hm, ?_, by simp [vC]⟩⟩, ?_⟩
  · obtain ⟨m, hm⟩ : ∃ m, L.length = m + 1 := ⟨L.length - 1, by omega⟩
    rw [hm] at hz ⊢
    simp [Builtin.clear_, run_underlying Try.underlying39, zeroCh, e, hz, hst]
  · rw [run_slice_h (P := Try.prog) w 39 _ L.length c (by kernel_rfl) .i64 (0 : Int) (by omega) (by omega), elemCh, sizeCh]
    show Result.ok (Value.slice (if c = 0 then _ else _) 0 c) w = _
    rw [if_neg (by omega)]
    have hadd : (⟨g, 0, none⟩ : Addr).add (0 * 4) = ⟨g, 0, none⟩ := by unfold Addr.add; split <;> simp_all
    rw [Option.map_some, hadd]
  · simp only [List.size_toArray, List.length_append, List.length_take, List.length_drop, Array.length_toList]
    rw [hzl, hcs]
    have := Nat.mul_le_mul_right 4 hle
    omega
  · rw [← hw']
    exact ⟨rfl, rfl, rfl, by simp, fun k hk hne => setRow_other w g k _ (fun e => hne (by rw [e]; rfl))⟩
/-- What a disk holds. -/
structure VD where
  b1 : Nat
  b2 : Nat
  f1 : Fls
  f2 : Fls
  n1 : Nat
  n2 : Nat
  W : List ChR
  wv : Value
  cv : Value
  ka : Option Addr
  kn : Nat
  kc : Nat
  K : List Int
def kR (K : List Int) : List Value := K.map fun k => .int .u8 k
/-- A disk in block P, all its own from B on; its two fields of what is seen and what waits may be behind. -/
structure Dk (B P : Nat) (D : VD) (ops : Int) (down : Bool) (g2 g3 : Value) (w : World) : Prop where
  blk : w.heap[P]? = some (.cells #[.map (some D.b1), g2, g3, D.cv, .int .i64 ops, .bool down] 42 (0, 0))
  m1 : FlM w D.b1 D.f1 D.n1
  m2 : FlM w D.b2 D.f2 D.n2
  ne : D.b1 ≠ D.b2
  wr : OwW w B D.wv D.W
  cr : w.ownsRow B 30 2 D.cv 1 [.int .i64 3, .slice D.ka D.kn D.kc]
  ks : w.ownsRow B 5 1 (.slice D.ka D.kn D.kc) D.kn (kR D.K)
  kl : D.K.length = D.kn
  lP : B ≤ P
  l1 : B ≤ D.b1
  l2 : B ≤ D.b2
abbrev DkS (B P : Nat) (D : VD) (ops : Int) (down : Bool) (w : World) : Prop := Dk B P D ops down (.map (some D.b2)) D.wv w
theorem typ_dc : 42 ≠ 47 := by decide
theorem typ_dr : 42 ≠ 30 := by decide
theorem typ_du : 42 ≠ 5 := by decide
theorem typ_cr : 47 ≠ 30 := by decide
theorem typ_cu : 47 ≠ 5 := by decide
section
variable {B P : Nat} {D : VD} {ops : Int} {down : Bool} {g2 g3 : Value} {w w' : World}
theorem Dk.below (h : Dk B P D ops down g2 g3 w) (hb : Below w.heap.size w w') : Dk B P D ops down g2 g3 w' :=
  ⟨vbelow h.blk hb, h.m1.below hb, h.m2.below hb, h.ne, rows_below h.wr hb, rows_below h.cr hb, rows_below h.ks hb, h.kl, h.lP, h.l1, h.l2⟩
theorem Dk.hB (h : Dk B P D ops down g2 g3 w) : B ≤ w.heap.size := by have := h.lP; have := vlt h.blk; omega
/-- A field is written. -/
theorem Dk.put (h : Dk B P D ops down g2 g3 w) (i : Nat) (u : Value) {ops' : Int} {down' : Bool} {g2' g3' : Value} (hc : (#[.map (some D.b1), g2, g3, D.cv, .int .i64 ops, .bool down] : Array Value).setIfInBounds i u = #[.map (some D.b1), g2', g3', D.cv, .int .i64 ops', .bool down']) : Dk B P D ops' down' g2' g3' (w.setCell ⟨P, i, none⟩ u) ∧ Below B w (w.setCell ⟨P, i, none⟩ u) := by
  have hF : ∀ k, k ≠ P → (w.setCell ⟨P, i, none⟩ u).heap[k]? = w.heap[k]? := fun k hk => Below.heap_setCell w ⟨P, i, none⟩ u k hk
  have b1 := vset h.blk i u
  rw [hc] at b1
  exact ⟨⟨b1, h.m1.blk (hF _ (fun e => h.m1.ne h.blk e.symm)), h.m2.blk (hF _ (fun e => h.m2.ne h.blk e.symm)), h.ne, rows_keep h.wr fun k hk => hF k (fun e => rows_typ h.wr h.blk typ_dc (e ▸ hk)), rows_keep h.cr fun k hk => hF k (fun e => rows_typ h.cr h.blk typ_dr (e ▸ hk)), rows_keep h.ks fun k hk => hF k (fun e => rows_typ h.ks h.blk typ_du (e ▸ hk)), h.kl, h.lP, h.l1, h.l2⟩,
    (Below.refl B w).setCell (p := ⟨P, i, none⟩) h.lP u⟩
/-- What waits is another row. -/
theorem Dk.wait (h : Dk B P D ops down g2 g3 w) {v : Value} {L : List ChR} (ho : OwW w' B v L) (hg : w.grownBy w' D.wv.ownBlock) : Dk B P { D with wv := v, W := L } ops down g2 g3 w' ∧ Below B w w' := by
  have hF : ∀ k, k < w.heap.size → D.wv.ownBlock ≠ some k → w'.heap[k]? = w.heap[k]? := fun k hk hn => hg.block k hk (fun e => hn e.symm)
  refine ⟨⟨(hF P (vlt h.blk) (rows_typ h.wr h.blk typ_dc)).trans h.blk, h.m1.blk (hF _ h.m1.lt (rows_map h.wr h.m1)), h.m2.blk (hF _ h.m2.lt (rows_map h.wr h.m2)), h.ne, ho, rows_keep h.cr fun k hk => hF k (World.ownsRow.lt h.cr k hk).2 (fun e => rows_two h.wr h.cr typ_cr k e hk), rows_keep h.ks fun k hk => hF k (World.ownsRow.lt h.ks k hk).2 (fun e => rows_two h.wr h.ks typ_cu k e hk), h.kl, h.lP, h.l1, h.l2⟩, ?_⟩
  exact ⟨hg.os, hg.tape, hg.output, hg.size, fun k hk => hF k (by have := h.hB; omega) (fun e => by have := (World.ownsRow.lt h.wr k e).1; omega)⟩
/-- A file of what is seen is written. -/
theorem Dk.put2 (h : Dk B P D ops down g2 g3 w) {f : Fls} {n : Nat} (hm : FlM w' D.b2 f n) (hg : w.grownBy w' (some D.b2)) : Dk B P { D with f2 := f, n2 := n } ops down g2 g3 w' ∧ Below B w w' := by
  have hF : ∀ k, k < w.heap.size → k ≠ D.b2 → w'.heap[k]? = w.heap[k]? := fun k hk hn => hg.block k hk (fun e => hn (Option.some.inj e))
  refine ⟨⟨(hF P (vlt h.blk) (h.m2.ne h.blk)).trans h.blk, h.m1.blk (hF _ h.m1.lt h.ne), hm, h.ne, rows_keep h.wr fun k hk => hF k (World.ownsRow.lt h.wr k hk).2 (fun e => rows_map h.wr h.m2 (e ▸ hk)), rows_keep h.cr fun k hk => hF k (World.ownsRow.lt h.cr k hk).2 (fun e => rows_map h.cr h.m2 (e ▸ hk)), rows_keep h.ks fun k hk => hF k (World.ownsRow.lt h.ks k hk).2 (fun e => rows_map h.ks h.m2 (e ▸ hk)), h.kl, h.lP, h.l1, h.l2⟩, ?_⟩
  exact ⟨hg.os, hg.tape, hg.output, hg.size, fun k hk => hF k (by have := h.hB; omega) (fun e => by have := h.l2; omega)⟩
/-- A file of what stays is written. -/
theorem Dk.put1 (h : Dk B P D ops down g2 g3 w) {f : Fls} {n : Nat} (hm : FlM w' D.b1 f n) (hg : w.grownBy w' (some D.b1)) : Dk B P { D with f1 := f, n1 := n } ops down g2 g3 w' ∧ Below B w w' := by
  have hF : ∀ k, k < w.heap.size → k ≠ D.b1 → w'.heap[k]? = w.heap[k]? := fun k hk hn => hg.block k hk (fun e => hn (Option.some.inj e))
  refine ⟨⟨(hF P (vlt h.blk) (h.m1.ne h.blk)).trans h.blk, hm, h.m2.blk (hF _ h.m2.lt (fun e => h.ne e.symm)), h.ne, rows_keep h.wr fun k hk => hF k (World.ownsRow.lt h.wr k hk).2 (fun e => rows_map h.wr h.m1 (e ▸ hk)), rows_keep h.cr fun k hk => hF k (World.ownsRow.lt h.cr k hk).2 (fun e => rows_map h.cr h.m1 (e ▸ hk)), rows_keep h.ks fun k hk => hF k (World.ownsRow.lt h.ks k hk).2 (fun e => rows_map h.ks h.m1 (e ▸ hk)), h.kl, h.lP, h.l1, h.l2⟩, ?_⟩
  exact ⟨hg.os, hg.tape, hg.output, hg.size, fun k hk => hF k (by have := h.hB; omega) (fun e => by have := h.l1; omega)⟩
/-- What is seen is another map. -/
theorem Dk.seen (h : Dk B P D ops down g2 g3 w) {b : Nat} (hm : FlM w b D.f1 D.n1) (hb : B ≤ b) (hne : D.b1 ≠ b) : Dk B P { D with b2 := b, f2 := D.f1, n2 := D.n1 } ops down g2 g3 w :=
  ⟨h.blk, h.m1, hm, hne, h.wr, h.cr, h.ks, h.kl, h.lP, h.l1, hb⟩
end
end Go.Proofs.Ytlkocmnnchgdeaa
