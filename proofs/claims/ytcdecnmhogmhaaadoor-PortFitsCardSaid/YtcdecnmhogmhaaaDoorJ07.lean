/-
  Joined: R5 R15 R12 R13 R14 R7 R8 R24 R25 R26 R27 ArgS ArgF.
-/
import Derived.Test.YtcdecnmhogmhaaaDoorJ01
import Derived.Test.YtcdecnmhogmhaaaDoorJ04
import Derived.Test.YtcdecnmhogmhaaaDoorJ05
import Derived.Test.YtcdecnmhogmhaaaDoorJ06
import Derived.Laws.AppendOwnNone
import Derived.Deep.AppendLies
import Derived.Laws.CopyOwn
import Derived.Deep.RegionHeld3
import Derived.Lib.QuietBelow
import Derived.Deep.SlicePairs
import Derived.ChangeArms
import Derived.Lib.LaidTab
import Derived.Lib.LaidU8
import Derived.Lib.SmallJoins
set_option linter.unusedVariables false
set_option linter.unusedSimpArgs false
set_option maxRecDepth 100000
set_option linter.unusedVariables false
set_option linter.unusedSimpArgs false
namespace Go.Proofs.YtcdecnmhogmhaaaDoor
open Go.RowKit
/-- Cells that lie somewhere, as the cells that append reads. -/
theorem cells_news {w : World} {ad : Addr} {L : List Cl} (h : CellsIn w (some ad) L) : ∀ j u, (cCells L)[j]? = some u → w.cell? (ad.add j) = some u := by
  intro j u hj
  have hlen := cCells_len L
  have hj2 : j < L.length * 5 := by rw [← hlen]; exact (List.getElem?_eq_some_iff.1 hj).1
  obtain ⟨b, off, e, _, h1, h2, h3, h4, h5⟩ := h (j / 5) (by omega)
  injection e with e
  subst e
  have hadd : (⟨b, off, none⟩ : Addr).add j = ⟨b, off + j, none⟩ := by unfold Addr.add; split <;> simp_all
  obtain ⟨g1, g2, g3, g4, g5⟩ := cCells_at L (j / 5) (by omega)
  rw [hadd]
  rcases (by omega : j = j / 5 * 5 ∨ j = j / 5 * 5 + 1 ∨ j = j / 5 * 5 + 2 ∨ j = j / 5 * 5 + 3 ∨ j = j / 5 * 5 + 4) with k | k | k | k | k
  · rw [k, g1] at hj; rw [← hj, ← h1]; congr 2; omega
  · rw [k, g2] at hj; rw [← hj, ← h2]; congr 2; omega
  · rw [k, g3] at hj; rw [← hj, ← h3]; congr 2; omega
  · rw [k, g4] at hj; rw [← hj, ← h4]; congr 2; omega
  · rw [k, g5] at hj; rw [← hj, ← h5]; congr 2; omega
theorem ownC_new (w : World) : ownC (w.alloc (.cells #[] 51)) w.heap.size (.slice (some ⟨w.heap.size, 0, none⟩) 0 0) [] :=
  ⟨rfl, .inr ⟨w.heap.size, 0, #[], rfl, Nat.le_refl _, heap_alloc_new _ _, Nat.le_refl _, by decide, rfl, rfl⟩⟩
/-- A blank. -/
abbrev clB : Cl := (0, 0, -1, 0, 0)
/-- A row with j blanks behind it. -/
def fillN (L : List Cl) (j : Nat) : List Cl := L ++ List.replicate j clB
theorem fillN_len (L : List Cl) (j : Nat) : (fillN L j).length = L.length + j := by simp [fillN]
theorem fillN_succ (L : List Cl) (j : Nat) : fillN L (j + 1) = fillN L j ++ [clB] := by unfold fillN; rw [List.replicate_succ', List.append_assoc]
set_option maxHeartbeats 4000000 in
theorem fill_ref (L : List Cl) (n : Nat) (a : Option Addr) (c : Nat) (w : World) (hl : L.length ≤ 100000) (hn : n ≤ 1000) (ha : CellsIn w a L) (h0 : a = none → c = 0) :
    Calls Tryd.prog 72 #[.slice a L.length c, .int .i64 n] w fun e w' => ∃ x, e = .returned x ∧ ownC w' w.heap.size x (fillN L (n - L.length)) ∧ Below w.heap.size w w' := by
  obtain ⟨i0, hi, hz0, hz1, hz2⟩ := info_parts infoCell
  have N0 := below_alloc w (.cells #[] 51)
  have H0 := Lib.hid (ownC_new w)
  have HA := Lib.hid (ha.below N0)
  have hsz : (w.alloc (.cells #[] 51)).heap.size = w.heap.size + 1 := by simp
  have hnil : a = none → L = [] := fun h => by
    cases L with
    | nil => rfl
    | cons x L => obtain ⟨_, _, e, _⟩ := ha 0 (by simp); rw [h] at e; cases e
  clear ha
  generalize hW : w.alloc (.cells #[] 51) = W at *
  cases a with
  | none =>
    obtain rfl := hnil rfl
    obtain rfl := h0 rfl
    clear hnil h0 HA
    go_enter Tryd.func72, Tryd.ntmps72
    go_wp2_with (at_builtin; refine wpList_append_own_none rfl _ _ 36 rfl w.heap.size 51 i0 5 Tryd.underlying36 hi _ 0 [] rfl H0.out rfl ?_)
    go_loopw [5] (fun ov wr => ∃ j cap : Nat, ∃ b, j ≤ n ∧ ov = .slice b j cap ∧ Hid (ownC wr w.heap.size ov (fillN [] j)) ∧ Below w.heap.size w wr) (fun ov _ => n - (match ov with | .slice _ j _ => j | _ => 0))
    case atStart => exact ⟨0, 0, _, Nat.zero_le _, rfl, H0, N0⟩
    case round =>
      obtain ⟨j, cap, b, hj, rfl, hO, hbl⟩ := hrel
      have hsz2 := hbl.size
      have hown := hO.out
      unfold ownC at hown
      rw [fillN_len] at hown
      by_cases hlt : j < n
      · have hk1 : (j : Int) < n := by omega
        have hst := Lib.hid (fillN_succ [] j)
        simp only [List.length_nil, Nat.zero_add] at hown
        go_wp2_with (at_builtin; refine wpList_append_own _ rfl _ _ 36 rfl w.heap.size 51 i0 _ 5 40 Tryd.underlying36 hi hz0 hz1 hz2 rfl (by decide) _ _ _ rfl (hown.alloc _) ⟨wr.heap.size, 0, none⟩ 1 1 [.int .i64 0, .int .i64 0, .int .i64 (-1), .int .i64 0, .int .i64 0] rfl rfl (fun j x hj => app_cells rfl hj) ?g2 ?g3 ?g4 ?g5 ?_)
        case g2 => simp [Value.oneCell']
        case g3 => unfold maxLen; omega
        case g4 => omega
        case g5 => first | omega | (simp; omega)
        intro v' w5 hown5 hgrow5 _
        have N5 := (hbl.alloc hbl.size (.cells #[.int .i64 0, .int .i64 0, .int .i64 (-1), .int .i64 0, .int .i64 0] 51)).grown hgrow5 (by have := hbl.size; simp; omega) (fun j hj => (hown.lt j hj).1)
        obtain ⟨g, cap', rfl⟩ := ownsRow_pos hown5 (by omega)
        have HO := Lib.hid hown5
        clear hown5 hgrow5 hown
        go_wp2
        go_roundw
        case rel => exact ⟨j + 1, cap', _, by omega, rfl, Lib.hid (by rw [hst.out]; unfold ownC; rw [List.length_append, cCells_snoc, fillN_len]; simpa using HO.out), N5⟩
        case measure => first | (simp; omega) | (simp [intOf]; try omega)
      · obtain rfl : j = n := by omega
        go_wp2
        go_ret
        exact ⟨_, rfl, by simpa using hO.out, hbl⟩
  | some ad =>
    clear hnil h0
    go_enter Tryd.func72, Tryd.ntmps72
    go_wp2_with (at_builtin; refine wpList_append_own _ rfl _ _ 36 rfl w.heap.size 51 i0 _ 5 40 Tryd.underlying36 hi hz0 hz1 hz2 rfl (by decide) _ 0 [] rfl H0.out ad L.length c (cCells L) rfl (cCells_len L) (cells_news HA.out) (cCells_one L) ?k3 ?k4 ?k5 ?_)
    case k3 => unfold maxLen; omega
    case k4 => omega
    case k5 => omega
    intro v0 w0 hown0 hgrow0 _
    have NN := N0.grown hgrow0 (by omega) (fun j hj => by simp [Value.ownBlock] at hj; omega)
    have HH : ownC w0 w.heap.size v0 (fillN L 0) := by unfold ownC fillN; rw [List.replicate_zero, List.append_nil]; simpa using hown0
    have hv0 : ∃ b cap, v0 = .slice b L.length cap := by
      obtain ⟨b, cap, e, _⟩ := cells_of_own HH
      rw [fillN_len, Nat.add_zero] at e
      exact ⟨b, cap, e⟩
    obtain ⟨bb, cc, rfl⟩ := hv0
    have HH2 := Lib.hid HH
    clear hown0 hgrow0 HH
    go_wp2
    go_loopw [5] (fun ov wr => ∃ j cap : Nat, ∃ b, (j = 0 ∨ L.length + j ≤ n) ∧ ov = .slice b (L.length + j) cap ∧ Hid (ownC wr w.heap.size ov (fillN L j)) ∧ Below w.heap.size w wr) (fun ov _ => n - (match ov with | .slice _ j _ => j | _ => 0))
    case atStart => exact ⟨0, cc, bb, Or.inl rfl, rfl, HH2, NN⟩
    case round =>
      obtain ⟨j, cap, b, hj, rfl, hO, hbl⟩ := hrel
      have hsz2 := hbl.size
      have hown := hO.out
      unfold ownC at hown
      rw [fillN_len] at hown
      by_cases hlt : L.length + j < n
      · have hk1 : (L.length : Int) + (j : Int) < n := by omega
        have hk2 : ((L.length + j : Nat) : Int) < n := by omega
        have hst := Lib.hid (fillN_succ L j)
        generalize hm : L.length + j = m at *
        go_wp2_with (at_builtin; refine wpList_append_own _ rfl _ _ 36 rfl w.heap.size 51 i0 _ 5 40 Tryd.underlying36 hi hz0 hz1 hz2 rfl (by decide) _ _ _ rfl (hown.alloc _) ⟨wr.heap.size, 0, none⟩ 1 1 [.int .i64 0, .int .i64 0, .int .i64 (-1), .int .i64 0, .int .i64 0] rfl rfl (fun j x hj => app_cells rfl hj) ?g2 ?g3 ?g4 ?g5 ?_)
        case g2 => simp [Value.oneCell']
        case g3 => unfold maxLen; omega
        case g4 => omega
        case g5 => first | omega | (simp; omega)
        intro v' w5 hown5 hgrow5 _
        have N5 := (hbl.alloc hbl.size (.cells #[.int .i64 0, .int .i64 0, .int .i64 (-1), .int .i64 0, .int .i64 0] 51)).grown hgrow5 (by have := hbl.size; simp; omega) (fun j hj => (hown.lt j hj).1)
        obtain ⟨g, cap', rfl⟩ := ownsRow_pos hown5 (by omega)
        have HO := Lib.hid hown5
        clear hown5 hgrow5 hown
        go_wp2
        go_roundw
        case rel => exact ⟨j + 1, cap', _, Or.inr (by omega), by rw [← Nat.add_assoc, hm], Lib.hid (by rw [hst.out]; unfold ownC; rw [List.length_append, cCells_snoc, fillN_len, hm]; simpa using HO.out), N5⟩
        case measure => first | (simp; omega) | (simp [intOf]; try omega)
      · have hk1 : ¬ (L.length : Int) + (j : Int) < n := by omega
        have hk2 : ¬ ((L.length + j : Nat) : Int) < n := by omega
        have hjn : j = n - L.length := by omega
        go_wp2
        go_ret
        exact ⟨_, rfl, by rw [← hjn]; exact hO.out, hbl⟩
end Go.Proofs.YtcdecnmhogmhaaaDoor
set_option linter.unusedVariables false
set_option linter.unusedSimpArgs false
namespace Go.Proofs.YtcdecnmhogmhaaaDoor
open Go.RowKit
theorem own_ne_kind {w : World} {B n size b : Nat} {e T : TypeId} {v : Value} {xs : List Value} {cs : Array Value} {fr : Nat × Nat} (h : w.ownsRow B e size v n xs) (hb : w.heap[b]? = some (.cells cs T fr)) (hT : T ≠ e) : v.ownBlock ≠ some b := by
  rcases h.2 with ⟨rfl, _⟩ | ⟨g, cap, cur, rfl, _, hg, _⟩
  · simp [Value.ownBlock]
  · intro e'
    obtain rfl : g = b := by simpa [Value.ownBlock] using e'
    rw [hg] at hb; simp at hb; exact hT hb.2.1.symm
theorem own_ne_own {w : World} {B B' n n' size size' : Nat} {e e' : TypeId} {v v' : Value} {xs xs' : List Value} (h : w.ownsRow B e size v n xs) (h' : w.ownsRow B' e' size' v' n' xs') (hT : e ≠ e') : v.ownBlock = none ∨ v.ownBlock ≠ v'.ownBlock := by
  rcases h.2 with ⟨rfl, _⟩ | ⟨g, cap, cur, rfl, _, hg, _⟩
  · exact .inl rfl
  · exact .inr fun e'' => own_ne_kind h' hg hT e''.symm
theorem own_set {w : World} {B n size : Nat} {e : TypeId} {v : Value} {xs : List Value} (h : w.ownsRow B e size v n xs) {a : Addr} (ha : v.ownBlock ≠ some a.block) (u : Value) : (w.setCell a u).ownsRow B e size v n xs := by
  refine ⟨h.1, ?_⟩
  rcases h.2 with h2 | ⟨g, cap, cur, rfl, hB, hg, r⟩
  · exact .inl h2
  · exact .inr ⟨g, cap, cur, rfl, hB, by rw [Below.heap_setCell _ _ _ _ (fun e => ha (by rw [← e]; rfl))]; exact hg, r⟩
/-- Rows of cells of the call's own, behind the variable q: v holds them all, vy the last one. -/
structure LayM (w : World) (B q : Nat) (v vy : Value) (vs : List Value) (X : List (List Cl)) (y : List Cl) : Prop where
  var : w.heap[q]? = some (.cells #[v] 26 (0, 0))
  len : vs.length = X.length
  out : w.ownsRow B 36 1 v (X.length + 1) (vs ++ [vy])
  last : ownC w B vy y
  old : ∀ i, i < X.length → ∃ u, vs[i]? = some u ∧ ownC w B u (X.getD i []) ∧ (u.ownBlock = none ∨ u.ownBlock ≠ vy.ownBlock)
/-- What putting into rows leaves as it was. -/
structure PutK (B : Nat) (w w' : World) : Prop where
  below : Below B w w'
  kind : ∀ (k : Nat) (cs : Array Value) (T : TypeId) (fr : Nat × Nat), w.heap[k]? = some (.cells cs T fr) → T ≠ 26 → T ≠ 36 → T ≠ 51 → w'.heap[k]? = w.heap[k]?
theorem PutK.refl {B : Nat} (w : World) : PutK B w w := ⟨Below.refl _ _, fun _ _ _ _ _ _ _ _ => rfl⟩
theorem PutK.trans {B : Nat} {w w' w'' : World} (h : PutK B w w') (h' : PutK B w' w'') : PutK B w w'' :=
  ⟨h.below.trans h'.below, fun k cs T fr hk h1 h2 h3 => by
    have e := h.kind k cs T fr hk h1 h2 h3
    exact (h'.kind k cs T fr (e.trans hk) h1 h2 h3).trans e⟩
theorem PutK.alloc {B : Nat} {w w' : World} (h : PutK B w w') (hB : B ≤ w'.heap.size) (o : Obj) : PutK B w (w'.alloc o) :=
  h.trans ⟨(Below.refl _ _).alloc hB o, fun k cs T fr hk _ _ _ => Below.heap_alloc _ _ _ (blk_lt hk)⟩
theorem PutK.drew {B : Nat} {w w' : World} (h : PutK B w w') : PutK B w w'.drew := ⟨h.below.drew, h.kind⟩
theorem PutK.own {B B' n size : Nat} {e : TypeId} {v : Value} {xs : List Value} {w w' : World} (h : PutK B w w') (ho : w.ownsRow B' e size v n xs) (h1 : e ≠ 26) (h2 : e ≠ 36) (h3 : e ≠ 51) : w'.ownsRow B' e size v n xs := by
  refine ⟨ho.1, ?_⟩
  rcases ho.2 with h0 | ⟨g, cap, cur, rfl, hB, hg, r⟩
  · exact .inl h0
  · exact .inr ⟨g, cap, cur, rfl, hB, (h.kind g cur e _ hg h1 h2 h3).trans hg, r⟩
theorem PutK.cell {B : Nat} {w w' : World} (h : PutK B w w') {k : Nat} {cs : Array Value} {T : TypeId} {fr : Nat × Nat} (hk : w.heap[k]? = some (.cells cs T fr)) (h1 : T ≠ 26) (h2 : T ≠ 36) (h3 : T ≠ 51) : w'.heap[k]? = some (.cells cs T fr) := (h.kind k cs T fr hk h1 h2 h3).trans hk
theorem PutK.grown {B n size : Nat} {e : TypeId} {v : Value} {xs : List Value} {w w' w'' : World} (h : PutK B w w') (hB : B ≤ w'.heap.size) (ho : w'.ownsRow B e size v n xs) (hg : w'.grownBy w'' v.ownBlock) (he : e = 36 ∨ e = 51) : PutK B w w'' :=
  h.trans ⟨(Below.refl _ _).grown hg hB (fun k hk => (ho.lt k hk).1), fun k cs T fr hk h1 h2 h3 => hg.block k (blk_lt hk) (fun e' => own_ne_kind ho hk (by rcases he with rfl | rfl <;> assumption) e'.symm)⟩
theorem PutK.set {B : Nat} {w w' : World} (h : PutK B w w') {a : Addr} {cs : Array Value} {T : TypeId} {fr : Nat × Nat} (ha : B ≤ a.block) (hb : w'.heap[a.block]? = some (.cells cs T fr)) (hT : T = 26 ∨ T = 36 ∨ T = 51) (u : Value) : PutK B w (w'.setCell a u) :=
  h.trans ⟨(Below.refl _ _).setCell ha u, fun k cs' T' fr' hk h1 h2 h3 => Below.heap_setCell _ _ _ _ (fun e => by
    rw [e, hb] at hk; simp at hk
    rcases hT with e | e | e
    · exact h1 (hk.2.1 ▸ e)
    · exact h2 (hk.2.1 ▸ e)
    · exact h3 (hk.2.1 ▸ e))⟩
theorem LayM.alloc {w : World} {B q : Nat} {v vy : Value} {vs : List Value} {X : List (List Cl)} {y : List Cl} (h : LayM w B q v vy vs X y) (o : Obj) : LayM (w.alloc o) B q v vy vs X y :=
  ⟨(Below.heap_alloc _ _ _ (blk_lt h.var)).trans h.var, h.len, h.out.alloc o, h.last.alloc o, fun i hi => by
    obtain ⟨u, h1, h2, h3⟩ := h.old i hi
    exact ⟨u, h1, h2.alloc o, h3⟩⟩
theorem LayM.drew {w : World} {B q : Nat} {v vy : Value} {vs : List Value} {X : List (List Cl)} {y : List Cl} (h : LayM w B q v vy vs X y) : LayM w.drew B q v vy vs X y := ⟨h.var, h.len, h.out, h.last, h.old⟩
theorem LayM.form {w : World} {B q : Nat} {v vy : Value} {vs : List Value} {X : List (List Cl)} {y : List Cl} (h : LayM w B q v vy vs X y) : ∃ g cap, v = .slice (some ⟨g, 0, none⟩) (X.length + 1) cap ∧ B ≤ g ∧ g < w.heap.size ∧ w.cell? ⟨g, X.length, none⟩ = some vy ∧ w.frozen? ⟨g, X.length, none⟩ = false := by
  obtain ⟨g, cap, rfl, h1, h2⟩ := h.out.form (by omega)
  refine ⟨g, cap, rfl, h1, h2, ?_, h.out.frozenAt _⟩
  rw [h.out.cellAt X.length (by omega), ← h.len, List.getElem?_append_right (Nat.le_refl _), Nat.sub_self]; rfl
theorem LayM.cells {w : World} {B q : Nat} {v vy : Value} {vs : List Value} {X : List (List Cl)} {y : List Cl} (h : LayM w B q v vy vs X y) : w.cell? ⟨q, 0, none⟩ = some v ∧ w.frozen? ⟨q, 0, none⟩ = false := by
  refine ⟨?_, frozen_of_row w q 0 _ _ h.var⟩
  rw [cell_of_row _ _ _ _ _ _ h.var]; rfl
theorem LayM.set {w : World} {B q : Nat} {v vy : Value} {vs : List Value} {X : List (List Cl)} {y : List Cl} (h : LayM w B q v vy vs X y) {a : Addr} {cs : Array Value} {T : TypeId} {fr : Nat × Nat} (hb : w.heap[a.block]? = some (.cells cs T fr)) (h1 : T ≠ 26) (h2 : T ≠ 36) (h3 : T ≠ 51) (u : Value) : LayM (w.setCell a u) B q v vy vs X y :=
  ⟨(Below.heap_setCell _ _ _ _ (fun e => by rw [← e, h.var] at hb; simp at hb; exact h1 hb.2.1.symm)).trans h.var, h.len, own_set h.out (own_ne_kind h.out hb h2) _, own_set h.last (own_ne_kind h.last hb h3) _, fun i hi => by
    obtain ⟨x, g1, g2, g3⟩ := h.old i hi
    exact ⟨x, g1, own_set g2 (own_ne_kind g2 hb h3) _, g3⟩⟩
theorem PutK.fresh {B : Nat} {w w' : World} (h : PutK B w w') (hB : B ≤ w.heap.size) {a : Addr} (ha : w.heap.size ≤ a.block) (u : Value) : PutK B w (w'.setCell a u) :=
  ⟨h.below.setCell (Nat.le_trans hB ha) u, fun k cs T fr hk h1 h2 h3 => (Below.heap_setCell _ _ _ _ (fun e => by have := blk_lt hk; omega)).trans (h.kind k cs T fr hk h1 h2 h3)⟩
/-- A new last row. -/
theorem LayM.fresh {w w1 : World} {B q : Nat} {v v' vy : Value} {vs : List Value} {X : List (List Cl)} {y : List Cl} (h : LayM w B q v vy vs X y) (ho : w1.ownsRow B 36 1 v' (X.length + 1 + 1) ((vs ++ [vy]) ++ [.slice none 0 0])) (hg : w.grownBy w1 v.ownBlock) :
    LayM (w1.setCell ⟨q, 0, none⟩ v') B q v' (.slice none 0 0) (vs ++ [vy]) (X ++ [y]) [] := by
  have hq : w1.heap[q]? = some (.cells #[v] 26 (0, 0)) := (hg.block q (blk_lt h.var) (fun e => own_ne_kind h.out h.var (by decide) e.symm)).trans h.var
  have keep : ∀ {u : Value} {L : List Cl}, ownC w B u L → ownC (w1.setCell ⟨q, 0, none⟩ v') B u L := fun {u L} hu => by
    have h1 : ownC w1 B u L := World.ownsRow.kept hu hg (own_ne_own hu h.out (by decide))
    exact own_set h1 (own_ne_kind h1 hq (by decide)) _
  refine ⟨?_, by simp [h.len], ?_, World.ownsRow_nil _ _ _ _, fun i hi => ?_⟩
  · have := blk_set hq (0 : Nat) v'
    simpa using this
  · have := own_set ho (own_ne_kind ho hq (by decide) : v'.ownBlock ≠ some (⟨q, 0, none⟩ : Addr).block) v'
    simpa using this
  · rcases Nat.lt_or_ge i X.length with hi' | hi'
    · obtain ⟨u, h1, h2, h3⟩ := h.old i hi'
      refine ⟨u, by rw [List.getElem?_append_left (by rw [h.len]; exact hi')]; exact h1, ?_, ?_⟩
      · rw [List.getD, List.getElem?_append_left hi']; exact keep h2
      · rcases hu : u.ownBlock with _ | k
        · exact .inl rfl
        · exact .inr (by simp [Value.ownBlock])
    · obtain rfl : i = X.length := by simp at hi; omega
      refine ⟨vy, by rw [← h.len, List.getElem?_append_right (Nat.le_refl _), Nat.sub_self]; rfl, ?_, ?_⟩
      · rw [List.getD, List.getElem?_append_right (Nat.le_refl _), Nat.sub_self]; exact keep h.last
      · rcases hu : vy.ownBlock with _ | k
        · exact .inl rfl
        · exact .inr (by simp [Value.ownBlock])
/-- More cells in the last row. -/
theorem LayM.more {w w1 : World} {B q g cap gy capy : Nat} {vy : Value} {vs : List Value} {X : List (List Cl)} {y p : List Cl} (h : LayM w B q (.slice (some ⟨g, 0, none⟩) (X.length + 1) cap) vy vs X y)
    (ho : ownC w1 B (.slice (some ⟨gy, 0, none⟩) (y ++ p).length capy) (y ++ p)) (hg : w.grownBy w1 vy.ownBlock) (hat : vy.ownBlock = some gy ∨ gy = w.heap.size) :
    LayM (w1.setCell ⟨g, X.length, none⟩ (.slice (some ⟨gy, 0, none⟩) (y ++ p).length capy)) B q (.slice (some ⟨g, 0, none⟩) (X.length + 1) cap) (.slice (some ⟨gy, 0, none⟩) (y ++ p).length capy) vs X (y ++ p) := by
  have hq : w1.heap[q]? = some (.cells #[.slice (some ⟨g, 0, none⟩) (X.length + 1) cap] 26 (0, 0)) := (hg.block q (blk_lt h.var) (fun e => own_ne_kind h.last h.var (by decide) e.symm)).trans h.var
  have hout := h.out.kept hg (own_ne_own h.out h.last (by decide))
  have hgq : g ≠ q := fun e => own_ne_kind hout hq (by decide) (by rw [← e]; rfl)
  refine ⟨?_, h.len, ?_, ?_, fun i hi => ?_⟩
  · rw [Below.heap_setCell _ _ _ _ (fun e => hgq e.symm)]; exact hq
  · have := hout.stored X.length (.slice (some ⟨gy, 0, none⟩) (y ++ p).length capy)
    have e : (vs ++ [vy]).set X.length (.slice (some ⟨gy, 0, none⟩) (y ++ p).length capy) = vs ++ [.slice (some ⟨gy, 0, none⟩) (y ++ p).length capy] := by
      rw [← h.len, List.set_append_right _ _ (Nat.le_refl _), Nat.sub_self]; rfl
    rw [e] at this
    exact this.1
  · refine own_set ho ?_ _
    have := own_ne_own ho hout (by decide)
    rcases this with e | e
    · rw [e]; simp
    · exact e
  · obtain ⟨u, h1, h2, h3⟩ := h.old i hi
    have k1 : ownC w1 B u (X.getD i []) := World.ownsRow.kept h2 hg h3
    refine ⟨u, h1, own_set k1 ?_ _, ?_⟩
    · rcases own_ne_own k1 hout (by decide) with e | e
      · rw [e]; simp
      · exact e
    · rcases hat with e | e
      · rcases h3 with h3 | h3
        · exact .inl h3
        · exact .inr (by rw [e] at h3; exact h3)
      · rcases hu : u.ownBlock with _ | k
        · exact .inl rfl
        · right
          have := (World.ownsRow.lt h2 k hu).2
          simp [Value.ownBlock]; omega
end Go.Proofs.YtcdecnmhogmhaaaDoor
set_option linter.unusedVariables false
set_option linter.unusedSimpArgs false
namespace Go.Proofs.YtcdecnmhogmhaaaDoor
open Go.RowKit
/-- May the cell at k be where it is? -/
def CellOk (L : List Cl) (k : Nat) : Prop :=
  (L.getD k cl0).1 ≠ 0 ∧ 0 ≤ (L.getD k cl0).2.1 ∧ (L.getD k cl0).2.1 ≤ 7 ∧
  ((L.getD k cl0).1 = -1 → 0 < k ∧ cls (L.getD (k - 1) cl0).1 = 2 ∧ (L.getD (k - 1) cl0).2.1 = (L.getD k cl0).2.1 ∧ (L.getD (k - 1) cl0).2.2.2.1 = (L.getD k cl0).2.2.2.1 ∧ (L.getD (k - 1) cl0).2.2.2.2 = 0 ∧ (L.getD k cl0).2.2.2.2 = 1) ∧
  ((L.getD k cl0).1 ≠ -1 → cls (L.getD k cl0).1 = 1 ∨ cls (L.getD k cl0).1 = 3 ∨ (cls (L.getD k cl0).1 = 2 ∧ k + 1 < L.length ∧ (L.getD (k + 1) cl0).1 = -1))
def RowOk (L : List Cl) : Prop := ∀ k, k < L.length → CellOk L k
theorem getD_rt {α : Type} (a b : List α) (d : α) (j : Nat) (h : a.length ≤ j) : (a ++ b).getD j d = b.getD (j - a.length) d := by simp [List.getD, List.getElem?_append_right h]
theorem rowOk_nil : RowOk [] := fun k h => absurd h (by simp)
theorem rowOk_app {a b : List Cl} (ha : RowOk a) (hb : RowOk b) : RowOk (a ++ b) := by
  intro k hk
  rw [List.length_append] at hk
  by_cases h : k < a.length
  · obtain ⟨h1, h2, h3, h4, h5⟩ := ha k h
    unfold CellOk
    rw [getD_app a b cl0 k h, getD_app a b cl0 (k - 1) (by omega)]
    refine ⟨h1, h2, h3, h4, fun hv => ?_⟩
    rcases h5 hv with h6 | h6 | ⟨h6, h7, h8⟩
    · exact Or.inl h6
    · exact Or.inr (Or.inl h6)
    · exact Or.inr (Or.inr ⟨h6, by rw [List.length_append]; omega, by rw [getD_app a b cl0 (k + 1) h7]; exact h8⟩)
  · obtain ⟨h1, h2, h3, h4, h5⟩ := hb (k - a.length) (by omega)
    unfold CellOk
    rw [getD_rt a b cl0 k (by omega)]
    refine ⟨h1, h2, h3, fun hv => ?_, fun hv => ?_⟩
    · obtain ⟨h6, h7⟩ := h4 hv
      rw [getD_rt a b cl0 (k - 1) (by omega), show k - 1 - a.length = k - a.length - 1 by omega]
      exact ⟨by omega, h7⟩
    · rcases h5 hv with h6 | h6 | ⟨h6, h7, h8⟩
      · exact Or.inl h6
      · exact Or.inr (Or.inl h6)
      · exact Or.inr (Or.inr ⟨h6, by rw [List.length_append]; omega, by rw [getD_rt a b cl0 (k + 1) (by omega), show k + 1 - a.length = k - a.length + 1 by omega]; exact h8⟩)
theorem rowOk_one {c : Cl} (h1 : c.1 ≠ 0) (h2 : 0 ≤ c.2.1) (h3 : c.2.1 ≤ 7) (h4 : c.1 ≠ -1) (h5 : cls c.1 = 1 ∨ cls c.1 = 3) : RowOk [c] := by
  intro k hk
  obtain rfl : k = 0 := by simpa using hk
  exact ⟨h1, h2, h3, fun h => absurd h h4, fun _ => h5.elim Or.inl fun h => Or.inr (Or.inl h)⟩
theorem rowOk_two {c d : Cl} (h1 : c.1 ≠ 0) (h2 : 0 ≤ c.2.1) (h3 : c.2.1 ≤ 7) (h4 : c.1 ≠ -1) (h5 : cls c.1 = 2) (h6 : d.1 = -1) (h7 : c.2.1 = d.2.1) (h8 : c.2.2.2.1 = d.2.2.2.1) (h9 : c.2.2.2.2 = 0 ∧ d.2.2.2.2 = 1) : RowOk [c, d] := by
  intro k hk
  rcases (by simp at hk; omega : k = 0 ∨ k = 1) with rfl | rfl
  · exact ⟨h1, h2, h3, fun h => absurd h h4, fun _ => Or.inr (Or.inr ⟨h5, by simp, h6⟩)⟩
  · refine ⟨?_, ?_, ?_, fun _ => ⟨by omega, h5, h7, h8, h9⟩, fun h => absurd h6 h⟩
    · show d.1 ≠ 0; omega
    · show 0 ≤ d.2.1; omega
    · show d.2.1 ≤ 7; omega
theorem lkI_rng (v l : Int) : 0 ≤ lkI v l ∧ lkI v l ≤ 7 := by unfold lkI; split <;> split <;> split <;> omega
theorem cls_print (v : Int) (h1 : 32 ≤ v) (h2 : v < 127) : cls v = 1 := by
  have key : ∀ i : Fin 127, 32 ≤ i.val → cls (i.val : Int) = 1 := by decide +kernel
  have := key ⟨v.toNat, by omega⟩ (by show 32 ≤ v.toNat; omega)
  have e : ((v.toNat : Nat) : Int) = v := by omega
  simpa [e] using this
theorem cls_m1 : cls (-1) = 0 := by decide +kernel
theorem rowOk_all {L : List Cl} (h : ∀ c ∈ L, c.1 ≠ 0 ∧ 0 ≤ c.2.1 ∧ c.2.1 ≤ 7 ∧ c.1 ≠ -1 ∧ (cls c.1 = 1 ∨ cls c.1 = 3)) : RowOk L := by
  induction L with
  | nil => exact rowOk_nil
  | cons c L ih =>
    obtain ⟨h1, h2, h3, h4, h5⟩ := h c (by simp)
    exact rowOk_app (rowOk_one h1 h2 h3 h4 h5) (ih fun c hc => h c (by simp [hc]))
theorem rowOk_shK (v l o : Int) : RowOk (shK v l o) := by
  obtain ⟨hl0, hl7⟩ := lkI_rng v l
  have hm := cls_m1
  have hz : cls 0 = 4 := by decide +kernel
  unfold shK
  split
  · rename_i hd
    refine rowOk_all fun c hc => ?_
    unfold tkL at hc
    obtain ⟨i, hi, rfl⟩ := List.mem_map.1 hc
    have hi := List.mem_range.1 hi
    have e : (shT v).get! i = (shT v)[i] := get_get _ i hi
    have h1 := sh_byte v i hi
    have h2 := sh_ascii v hd (shT v)[i] (by show (shT v).data[i] ∈ (shT v).data.toList; rw [Array.mem_toList_iff]; exact Array.getElem_mem _)
    rw [e]
    have hcl := cls_print (((shT v)[i].toNat : Nat) : Int) (by omega) (by omega)
    exact ⟨by show (((shT v)[i].toNat : Nat) : Int) ≠ 0; omega, hl0, hl7, by show (((shT v)[i].toNat : Nat) : Int) ≠ -1; omega, Or.inl hcl⟩
  · rename_i hd
    have hr := cls_rng v
    have v0 : v ≠ 0 := fun e => by rw [e, hz] at hd; omega
    split
    · rename_i h2
      exact rowOk_two v0 hl0 hl7 (fun e => by rw [show v = -1 from e, hm] at h2; omega) h2 rfl rfl rfl ⟨rfl, rfl⟩
    · split
      · exact rowOk_nil
      · rename_i h2 h0
        exact rowOk_one v0 hl0 hl7 (fun e => by rw [show v = -1 from e, hm] at h0; omega) (by show cls v = 1 ∨ cls v = 3; omega)
theorem rowOk_vwG (l : List (Int × Int)) (f : Nat → Int) : ∀ k, RowOk (vwG l f k)
  | 0 => rowOk_nil
  | k + 1 => by rw [vwG_succ]; exact rowOk_app (rowOk_vwG l f k) (rowOk_shK _ _ _)
theorem rowOk_vw (p l : List (Int × Int)) : RowOk (vwOf p l) := rowOk_app (rowOk_vwG _ _ _) (rowOk_vwG _ _ _)
theorem rowOk_lay {L : List Cl} (h : RowOk L) : layB L = true := layB_yes fun j hj e => by
  obtain ⟨h1, h2, _⟩ := (h j hj).2.2.2.1 e
  exact ⟨by omega, fun e2 => by rw [e2, cls_m1] at h2; omega⟩
theorem getD_lt {α : Type} {a : List α} {d : α} {i : Nat} (h : i < a.length) : a.getD i d = a[i] := by simp [List.getD, h]
/-- Cells can be laid up to each beginning of a piece; where there is room, what may be shown may be shown in rows. -/
theorem ly_exists {L : List Cl} {w : Int} (hw : 1 ≤ w) (hL : layB L = true) : ∀ n k, k < n → k ≤ L.length → (k < L.length → (L.getD k cl0).1 ≠ -1) → ∃ X y S, LyI L w k X y S ∧ (1 < w → RowOk L → ∀ r ∈ X ++ [y], RowOk r)
  | 0, k, h, _, _ => absurd h (by omega)
  | n + 1, k, h, hk, hb => by
    have hput : ∀ {X : List (List Cl)} {y p : List Cl} {m : Int}, (∀ r ∈ X ++ [y], RowOk r) → RowOk p → ∀ r ∈ lyX w X y m ++ [lyY w y m ++ p], RowOk r := fun {X y p m} hr hp r h' => by
      unfold lyX lyY at h'
      split at h'
      · rcases List.mem_append.1 h' with h'' | h''
        · exact hr r h''
        · obtain rfl : r = [] ++ p := by simpa using h''
          exact hp
      · rcases List.mem_append.1 h' with h'' | h''
        · exact hr r (List.mem_append_left _ h'')
        · obtain rfl : r = y ++ p := by simpa using h''
          exact rowOk_app (hr y (by simp)) hp
    rcases Nat.eq_zero_or_pos k with rfl | hpos
    · exact ⟨[], [], [], LyI.start L w hw, fun _ _ r hr => by
        obtain rfl : r = [] := by simpa using hr
        exact rowOk_nil⟩
    · by_cases hv : (L.getD (k - 1) cl0).1 = -1
      · obtain ⟨h0, h1⟩ := layB_at hL (j := k - 1) (by omega) hv
        obtain ⟨X, y, S, hI, hR⟩ := ly_exists hw hL n (k - 2) (by omega) (by omega) (fun _ => by rw [show k - 2 = k - 1 - 1 by omega]; exact h1)
        have hv' : (L.getD (k - 2 + 1) cl0).1 = -1 := by rw [show k - 2 + 1 = k - 1 by omega]; exact hv
        have h1' : (L.getD (k - 2) cl0).1 ≠ -1 := by rw [show k - 2 = k - 1 - 1 by omega]; exact h1
        by_cases hw1 : w = 1
        · have := hI.narrow hw1 (by omega) h1' hv'
          rw [show k - 2 + 2 = k by omega] at this
          exact ⟨_, _, _, this, fun h => absurd h (by omega)⟩
        · have := hI.two (by omega) (by omega) h1' hv'
          rw [show k - 2 + 2 = k by omega] at this
          refine ⟨_, _, _, this, fun hw hL => hput (hR hw hL) ?_⟩
          have c1 := hL (k - 2) (by omega)
          have c2 := (hL (k - 2 + 1) (by omega)).2.2.2.1 hv'
          rw [Nat.add_sub_cancel] at c2
          exact rowOk_two c1.1 c1.2.1 c1.2.2.1 h1' c2.2.1 hv' c2.2.2.1 c2.2.2.2.1 c2.2.2.2.2
      · obtain ⟨X, y, S, hI, hR⟩ := ly_exists hw hL n (k - 1) (by omega) (by omega) (fun _ => hv)
        have hn : k - 1 + 1 < L.length → (L.getD (k - 1 + 1) cl0).1 ≠ -1 := by rw [show k - 1 + 1 = k by omega]; exact hb
        have := hI.one hw (by omega) hv hn
        rw [show k - 1 + 1 = k by omega] at this
        refine ⟨_, _, _, this, fun hw hL => hput (hR hw hL) ?_⟩
        have c1 := hL (k - 1) (by omega)
        refine rowOk_one c1.1 c1.2.1 c1.2.2.1 hv ?_
        rcases c1.2.2.2.2 hv with h6 | h6 | ⟨_, h7, h8⟩
        · exact Or.inl h6
        · exact Or.inr h6
        · exact absurd h8 (hn h7)
theorem lyRows_ok {L : List Cl} {w : Int} (hw : 1 ≤ w) (hL : layB L = true) : (∀ r ∈ lyRows L w, (r.length : Int) ≤ w) ∧ (1 < w → RowOk L → ∀ r ∈ lyRows L w, RowOk r) := by
  obtain ⟨X, y, S, hI, hR⟩ := ly_exists hw hL (L.length + 1) L.length (by omega) (Nat.le_refl _) (fun h => absurd h (by omega))
  by_cases hf : (y.length : Int) = w
  · rw [← (hI.full hf).1]
    refine ⟨fun r hr => ?_, fun h1 h2 r hr => ?_⟩
    · rcases List.mem_append.1 hr with h' | h'
      · exact hI.fit_all r h'
      · obtain rfl : r = [] := by simpa using h'
        simp; omega
    · rcases List.mem_append.1 hr with h' | h'
      · exact hR h1 h2 r h'
      · obtain rfl : r = [] := by simpa using h'
        exact rowOk_nil
  · rw [← (hI.rest hf).1]
    exact ⟨hI.fit_all, fun h1 h2 => hR h1 h2⟩
end Go.Proofs.YtcdecnmhogmhaaaDoor
set_option linter.unusedVariables false
set_option linter.unusedSimpArgs false
namespace Go.Proofs.YtcdecnmhogmhaaaDoor
open Go.RowKit
theorem rwS_more (L : List Cl) (w r : Int) (k : Nat) : ∀ n, ∃ t, rwS L w r (k + n) = rwS L w r k ++ t
  | 0 => ⟨[], by simp⟩
  | n + 1 => by
    obtain ⟨t, ht⟩ := rwS_more L w r k n
    exact ⟨t ++ rwO L w r (k + n), by rw [← Nat.add_assoc, rwS_succ, ht, List.append_assoc]⟩
/-- The next column is how long the row is. -/
theorem rw_col (L : List Cl) (w : Int) : ∀ k, k ≤ L.length → ((rwS L w (spS L w k).2.1 k).length : Int) = (spS L w k).2.2
  | 0, _ => by simp [rwS, spS]
  | k + 1, hk => by
    have ih := rw_col L w k (by omega)
    have hat : ∀ p, (spS L w (k + 1)).1 = (spS L w k).1 ++ [p] → ((spAll L w).getD k (0, 0)) = p := fun p e => by
      rw [spAll_at L w (k + 1) k (by omega) (by omega), e]
      have := getD_end (spS L w k).1 p (0, 0)
      rwa [spS_len] at this
    have hst := sp_step L w k
    by_cases hs : spSkip L w k = true
    · rw [if_pos hs] at hst
      have h : (L.getD k cl0).1 = -1 ∧ w = 1 := by unfold spSkip at hs; simpa using hs
      have hO : ∀ r, rwO L w r k = [] := fun r => by unfold rwO; split; rfl; rw [if_pos ⟨h.2, h.1⟩]
      rw [hst, rwS_succ, hO, List.append_nil]; exact ih
    · have h2 : ¬ (w = 1 ∧ (L.getD k cl0).1 = -1) := fun h => hs (by unfold spSkip; rw [decide_eq_true h.1, decide_eq_true h.2]; rfl)
      rw [if_neg hs] at hst
      by_cases hn : spNew L w k (spS L w k).2.2 = true
      · rw [if_pos hn] at hst
        have ha := hat _ (by rw [hst])
        rw [hst]
        show ((rwS L w ((spS L w k).2.1 + 1) (k + 1)).length : Int) = 1
        rw [rwS_at L w _ _ k (by rw [ha]) h2, if_pos rfl, rwS_none L w k (by omega) _ (by omega)]; rfl
      · rw [if_neg hn] at hst
        have ha := hat _ (by rw [hst])
        rw [hst]
        show ((rwS L w (spS L w k).2.1 (k + 1)).length : Int) = (spS L w k).2.2 + 1
        rw [rwS_at L w _ _ k (by rw [ha]) h2, if_pos rfl, List.length_append, List.length_singleton]
        omega
/-- The cell at a cell's place. -/
theorem rw_place (L : List Cl) (w : Int) (hw : w ≠ 1) (j : Nat) (hj : j < L.length) : ∃ c : Nat, (((spAll L w).getD j (0, 0)).2) = c ∧ c < (rwS L w ((spAll L w).getD j (0, 0)).1 L.length).length ∧ (rwS L w ((spAll L w).getD j (0, 0)).1 L.length).getD c cl0 = L.getD j cl0 := by
  have ih := rw_col L w j (by omega)
  have hat : ∀ p, (spS L w (j + 1)).1 = (spS L w j).1 ++ [p] → ((spAll L w).getD j (0, 0)) = p := fun p e => by
    rw [spAll_at L w (j + 1) j (by omega) (by omega), e]
    have := getD_end (spS L w j).1 p (0, 0)
    rwa [spS_len] at this
  have hst := sp_step L w j
  have hs : ¬ spSkip L w j = true := fun h => by unfold spSkip at h; rw [decide_eq_false hw, Bool.and_false] at h; cases h
  have h2 : ¬ (w = 1 ∧ (L.getD j cl0).1 = -1) := fun h => hw h.1
  have hc : rwC L w j = L.getD j cl0 := by unfold rwC; rw [if_neg (fun h => hw h.1)]
  rw [if_neg hs] at hst
  have fin : ∀ r : Int, ((spAll L w).getD j (0, 0)).1 = r → (rwS L w r j).length < (rwS L w r L.length).length ∧ (rwS L w r L.length).getD (rwS L w r j).length cl0 = L.getD j cl0 := fun r hr => by
    obtain ⟨t, ht⟩ := rwS_more L w r (j + 1) (L.length - (j + 1))
    rw [show j + 1 + (L.length - (j + 1)) = L.length by omega, rwS_at L w r r j hr h2, if_pos rfl, hc] at ht
    rw [ht]
    refine ⟨by simp, ?_⟩
    rw [getD_app _ _ _ _ (by simp), getD_end]
  by_cases hn : spNew L w j (spS L w j).2.2 = true
  · rw [if_pos hn] at hst
    have ha := hat _ (by rw [hst])
    rw [ha]
    have hz : rwS L w ((spS L w j).2.1 + 1) j = [] := rwS_none L w j (by omega) _ (by omega)
    have := fin ((spS L w j).2.1 + 1) (by rw [ha])
    rw [hz] at this
    exact ⟨0, rfl, this⟩
  · rw [if_neg hn] at hst
    have ha := hat _ (by rw [hst])
    rw [ha]
    exact ⟨_, ih.symm, fin (spS L w j).2.1 (by rw [ha])⟩
theorem spAll_end (L : List Cl) (w : Int) : (spAll L w).getD L.length (0, 0) = if (spS L w L.length).2.2 = w then ((spS L w L.length).2.1 + 1, 0) else (spS L w L.length).2 := by
  unfold spAll
  have := getD_end (spS L w L.length).1 (if (spS L w L.length).2.2 = w then ((spS L w L.length).2.1 + 1, 0) else (spS L w L.length).2) (0, 0)
  rwa [spS_len] at this
/-- At the end's place there is no cell. -/
theorem rw_end (L : List Cl) (w : Int) : ((rwS L w ((spAll L w).getD L.length (0, 0)).1 L.length).length : Int) = ((spAll L w).getD L.length (0, 0)).2 := by
  rw [spAll_end]
  split
  · show ((rwS L w ((spS L w L.length).2.1 + 1) L.length).length : Int) = 0
    rw [rwS_none L w L.length (Nat.le_refl _) _ (by omega)]; rfl
  · exact rw_col L w L.length (Nat.le_refl _)
/-- In front of. -/
def ltP (p q : Int × Int) : Prop := p.1 < q.1 ∨ p.1 = q.1 ∧ p.2 < q.2
def leP (p q : Int × Int) : Prop := p.1 < q.1 ∨ p.1 = q.1 ∧ p.2 ≤ q.2
theorem sp_next (L : List Cl) (w : Int) (hw : w ≠ 1) (k : Nat) : ∃ p, (spS L w (k + 1)).1 = (spS L w k).1 ++ [p] ∧ leP (spS L w k).2 p ∧ ltP p (spS L w (k + 1)).2 := by
  have hst := sp_step L w k
  have hs : ¬ spSkip L w k = true := fun h => by unfold spSkip at h; rw [decide_eq_false hw, Bool.and_false] at h; cases h
  rw [if_neg hs] at hst
  split at hst
  · refine ⟨_, by rw [hst], Or.inl ?_, ?_⟩
    · show (spS L w k).2.1 < (spS L w k).2.1 + 1; omega
    · rw [hst]; exact Or.inr ⟨rfl, by show (0 : Int) < 1; decide⟩
  · refine ⟨_, by rw [hst], Or.inr ⟨rfl, Int.le_refl _⟩, ?_⟩
    rw [hst]; exact Or.inr ⟨rfl, by show (spS L w k).2.2 < (spS L w k).2.2 + 1; omega⟩
theorem sp_lt (L : List Cl) (w : Int) (hw : w ≠ 1) : ∀ k j, j < k → ltP ((spS L w k).1.getD j (0, 0)) (spS L w k).2
  | 0, j, h => absurd h (by omega)
  | k + 1, j, h => by
    obtain ⟨p, hp, h1, h2⟩ := sp_next L w hw k
    by_cases hj : j < k
    · rw [sp_keep L w k j hj]
      have := sp_lt L w hw k j hj
      unfold ltP leP at *; omega
    · obtain rfl : j = k := by omega
      rw [hp]
      have := getD_end (spS L w j).1 p (0, 0)
      rw [spS_len] at this
      rw [this]; exact h2
/-- Unlike cells have unlike places. -/
theorem spAll_lt (L : List Cl) (w : Int) (hw : w ≠ 1) {i j : Nat} (hij : i < j) (hj : j ≤ L.length) : ltP ((spAll L w).getD i (0, 0)) ((spAll L w).getD j (0, 0)) := by
  rw [spAll_at L w j i hij hj]
  have h1 := sp_lt L w hw j i hij
  by_cases h : j < L.length
  · obtain ⟨p, hp, h2, _⟩ := sp_next L w hw j
    have : (spAll L w).getD j (0, 0) = p := by
      rw [spAll_at L w (j + 1) j (by omega) (by omega), hp]
      have := getD_end (spS L w j).1 p (0, 0)
      rwa [spS_len] at this
    rw [this]
    unfold ltP leP at *; omega
  · obtain rfl : j = L.length := by omega
    rw [spAll_end]
    split
    · rcases h1 with h1 | h1
      · exact Or.inl (by show ((spS L w L.length).1.getD i (0, 0)).1 < (spS L w L.length).2.1 + 1; omega)
      · exact Or.inl (by show ((spS L w L.length).1.getD i (0, 0)).1 < (spS L w L.length).2.1 + 1; omega)
    · exact h1
theorem spAll_inj (L : List Cl) (w : Int) (hw : w ≠ 1) {i j : Nat} (hi : i ≤ L.length) (hj : j ≤ L.length) (e : (spAll L w).getD i (0, 0) = (spAll L w).getD j (0, 0)) : i = j := by
  rcases Nat.lt_trichotomy i j with h | h | h
  · have := spAll_lt L w hw h hj; rw [e] at this; unfold ltP at this; omega
  · exact h
  · have := spAll_lt L w hw h hi; rw [e] at this; unfold ltP at this; omega
/-- Places hang on the values alone. -/
theorem spAll_vals {L M : List Cl} (w : Int) (h : L.map (·.1) = M.map (·.1)) : spAll L w = spAll M w := by
  have hl : L.length = M.length := by simpa using congrArg List.length h
  have hv : ∀ k, (L.getD k cl0).1 = (M.getD k cl0).1 := fun k => by
    have e := congrArg (fun l => l.getD k 0) h
    have := fun (N : List Cl) => show (N.map (·.1)).getD k 0 = (N.getD k cl0).1 by
      simp only [List.getD, List.getElem?_map]; cases N[k]? <;> rfl
    simpa only [this] using e
  have hs : ∀ k, spS L w k = spS M w k := fun k => by
    induction k with
    | zero => rfl
    | succ k ih =>
      rw [sp_step, sp_step, ih]
      have e1 : spSkip L w k = spSkip M w k := by unfold spSkip; rw [hv]
      have e2 : ∀ c, spNew L w k c = spNew M w k c := fun c => by unfold spNew spN; rw [hv, hv, hl]
      rw [e1, e2]
  unfold spAll; rw [hl, hs]
/-- Cells of filled rows, without the blanks. -/
theorem fill_cells (r : List Cl) (n : Nat) (h : ∀ c ∈ r, c.1 ≠ 0) : (fillN r n).filter (fun c => decide (c.1 ≠ 0)) = r := by
  unfold fillN
  rw [List.filter_append, List.filter_eq_self.2 (fun c hc => by simpa using h c hc), List.filter_eq_nil_iff.2 (fun c hc => by
    obtain rfl := List.eq_of_mem_replicate hc
    decide), List.append_nil]
theorem rowOk_ne {r : List Cl} (h : RowOk r) : ∀ c ∈ r, c.1 ≠ 0 := fun c hc => by
  obtain ⟨i, hi, rfl⟩ := List.getElem_of_mem hc
  have := (h i hi).1
  rwa [getD_lt hi] at this
/-- All of the rows' cells are the cells, where a row has more than one column. -/
theorem lyRows_flat {L : List Cl} {w : Int} (hw : 1 < w) (hL : layB L = true) : (lyRows L w).flatten = L := by
  have key : ∀ n k, k < n → k ≤ L.length → (k < L.length → (L.getD k cl0).1 ≠ -1) → ∃ X y S, LyI L w k X y S ∧ (X ++ [y]).flatten = L.take k := by
    intro n
    induction n with
    | zero => intro k h; omega
    | succ n ih =>
      intro k h hk hb
      have hput : ∀ {X : List (List Cl)} {y p : List Cl} {m : Int}, (lyX w X y m ++ [lyY w y m ++ p]).flatten = (X ++ [y]).flatten ++ p := fun {X y p m} => by
        unfold lyX lyY; split <;> simp
      have htk : ∀ j, j < L.length → L.take (j + 1) = L.take j ++ [L.getD j cl0] := fun j hj => by rw [List.take_add_one, List.getElem?_eq_getElem hj, getD_lt hj]; rfl
      rcases Nat.eq_zero_or_pos k with rfl | hpos
      · exact ⟨[], [], [], LyI.start L w (by omega), rfl⟩
      · by_cases hv : (L.getD (k - 1) cl0).1 = -1
        · obtain ⟨h0, h1⟩ := layB_at hL (j := k - 1) (by omega) hv
          obtain ⟨X, y, S, hI, hR⟩ := ih (k - 2) (by omega) (by omega) (fun _ => by rw [show k - 2 = k - 1 - 1 by omega]; exact h1)
          have hv' : (L.getD (k - 2 + 1) cl0).1 = -1 := by rw [show k - 2 + 1 = k - 1 by omega]; exact hv
          have h1' : (L.getD (k - 2) cl0).1 ≠ -1 := by rw [show k - 2 = k - 1 - 1 by omega]; exact h1
          have := hI.two hw (by omega) h1' hv'
          rw [show k - 2 + 2 = k by omega] at this
          refine ⟨_, _, _, this, ?_⟩
          have e := htk (k - 2 + 1) (by omega)
          rw [htk (k - 2) (by omega), show k - 2 + 1 + 1 = k by omega] at e
          rw [hput, hR, e, List.append_assoc]; rfl
        · obtain ⟨X, y, S, hI, hR⟩ := ih (k - 1) (by omega) (by omega) (fun _ => hv)
          have hn : k - 1 + 1 < L.length → (L.getD (k - 1 + 1) cl0).1 ≠ -1 := by rw [show k - 1 + 1 = k by omega]; exact hb
          have := hI.one (by omega) (by omega) hv hn
          rw [show k - 1 + 1 = k by omega] at this
          refine ⟨_, _, _, this, ?_⟩
          have e := htk (k - 1) (by omega)
          rw [show k - 1 + 1 = k by omega] at e
          rw [hput, hR, e]
  obtain ⟨X, y, S, hI, hR⟩ := key (L.length + 1) L.length (by omega) (Nat.le_refl _) (fun h => absurd h (by omega))
  rw [List.take_length] at hR
  by_cases hf : (y.length : Int) = w
  · rw [← (hI.full hf).1, List.flatten_append, hR]; simp
  · rw [← (hI.rest hf).1]; exact hR
end Go.Proofs.YtcdecnmhogmhaaaDoor
set_option linter.unusedVariables false
set_option linter.unusedSimpArgs false
namespace Go.Proofs.YtcdecnmhogmhaaaDoor
open Go.RowKit
/-- The rows of a screen. -/
def scR (L : List Cl) (w top h : Nat) : List (List Cl) := (List.range h).map fun i => fillN (rwS L w ((top + i : Nat) : Int) L.length) (w - (rwS L w ((top + i : Nat) : Int) L.length).length)
theorem scR_len (L : List Cl) (w top h : Nat) : (scR L w top h).length = h := by unfold scR; rw [List.length_map, List.length_range]
theorem scR_at (L : List Cl) (w top h i : Nat) (hi : i < h) : (scR L w top h).getD i [] = fillN (rwS L w ((top + i : Nat) : Int) L.length) (w - (rwS L w ((top + i : Nat) : Int) L.length).length) := by
  unfold scR
  rw [List.getD, List.getElem?_map, List.getElem?_range hi]; rfl
theorem rwS_mem (L : List Cl) (w r : Int) (hw : w ≠ 1) : ∀ k, k ≤ L.length → ∀ c ∈ rwS L w r k, c ∈ L
  | 0, _, c, hc => by simp [rwS] at hc
  | k + 1, hk, c, hc => by
    rw [rwS_succ] at hc
    rcases List.mem_append.1 hc with h | h
    · exact rwS_mem L w r hw k (by omega) c h
    · unfold rwO at h
      split at h
      · simp at h
      · rw [if_neg (fun h => hw h.1), if_neg (fun h => hw h.1)] at h
        obtain rfl : c = L.getD k cl0 := by simpa using h
        rw [getD_lt (by omega)]; exact List.getElem_mem _
theorem flat_more {α : Type} (f : Nat → List α) (n : Nat) : ∀ m, (∀ i, n ≤ i → f i = []) → ((List.range (n + m)).map f).flatten = ((List.range n).map f).flatten
  | 0, _ => rfl
  | m + 1, h => by rw [← Nat.add_assoc, List.range_succ, List.map_append, List.flatten_append, flat_more f n m h]; simp [h (n + m) (by omega)]
theorem lyRows_more {L : List Cl} {w : Int} (i : Nat) (h : (lyRows L w).length ≤ i) : rwS L w (i : Int) L.length = [] := by
  rw [lyRows_len] at h
  refine rwS_none L w L.length (Nat.le_refl _) _ ?_
  have e := spAll_end L w
  have hr := spS_rng L w L.length
  split at e
  · rw [e] at h; simp only at h; omega
  · rw [e] at h; omega
/-- All cells are on the screen, where the rows fit. -/
theorem scR_cells {L : List Cl} {w h : Nat} (hw : 1 < w) (hL : RowOk L) (hh : (lyRows L w).length ≤ h) : (scR L w 0 h).flatten.filter (fun c => decide (c.1 ≠ 0)) = L := by
  rw [List.filter_flatten]
  have e : (scR L w 0 h).map (List.filter fun c => decide (c.1 ≠ 0)) = (List.range h).map fun (i : Nat) => rwS L w (i : Int) L.length := by
    unfold scR
    rw [List.map_map]
    apply List.map_congr_left
    intro i _
    show (fillN (rwS L w ((0 + i : Nat) : Int) L.length) _).filter _ = _
    rw [Nat.zero_add]
    exact fill_cells _ _ fun c hc => rowOk_ne hL c (rwS_mem L w i (by omega) _ (Nat.le_refl _) c hc)
  rw [e]
  have h2 := flat_more (fun (i : Nat) => rwS L w (i : Int) L.length) (lyRows L w).length (h - (lyRows L w).length) (fun i hi => lyRows_more i hi)
  rw [show (lyRows L w).length + (h - (lyRows L w).length) = h by omega] at h2
  rw [h2]
  have h3 := lyRows_flat (L := L) (w := w) (by omega) (rowOk_lay hL)
  have h4 : lyRows L w = (List.range (lyRows L w).length).map fun (i : Nat) => rwS L w (i : Int) L.length := by
    rw [lyRows_len]; rfl
  rw [← h4, h3]
theorem rowsS_seen {x y : List (List Cl)} (hl : x.length = y.length) (h : rowsS x y = true) : x.flatten.map seen = y.flatten.map seen := by
  have key : x.map (List.map seen) = y.map (List.map seen) := by
    apply List.ext_getElem (by simpa using hl)
    intro i h1 h2
    have hi : i < x.length := by simpa using h1
    have hj : i < y.length := by simpa using h2
    unfold rowsS at h
    rw [List.all_eq_true] at h
    have := shS_seen (h i (by simpa using hi))
    rw [getD_lt hi, getD_lt hj] at this
    simpa using this
  rw [List.map_flatten, List.map_flatten, key]
theorem same_seen {L M : List Cl} {w h : Nat} (hw : 1 < w) (hL : RowOk L) (hM : RowOk M) (h1 : (lyRows L w).length ≤ h) (h2 : (lyRows M w).length ≤ h) (hs : rowsS (scR L w 0 h) (scR M w 0 h) = true) : L.map seen = M.map seen := by
  have hc := rowsS_seen (by rw [scR_len, scR_len]) hs
  have key : ∀ l : List Cl, (l.filter fun c => decide (c.1 ≠ 0)).map seen = (l.map seen).filter fun q => decide (q.1 ≠ 0) := fun l => by rw [List.filter_map]; rfl
  have e := congrArg (List.filter fun q => decide (q.1 ≠ 0)) hc
  rwa [← key, ← key, scR_cells hw hL h1, scR_cells hw hM h2] at e
theorem shS_of_seen {x y : List Cl} (h : x.map seen = y.map seen) : shS x y = true := by
  have hl : x.length = y.length := by simpa using congrArg List.length h
  refine shS_yes hl fun j hj => ?_
  have e := congrArg (fun l => l[j]?) h
  simp only [List.getElem?_map, List.getElem?_eq_getElem hj, List.getElem?_eq_getElem (hl ▸ hj : j < y.length), Option.map_some, Option.some.injEq] at e
  rw [getD_lt hj, getD_lt (hl ▸ hj)]
  unfold seen at e
  unfold clE
  rw [(Prod.mk.inj e).1, (Prod.mk.inj e).2]; simp
theorem ln_vals {x y : List (Int × Int)} (h : x.map (·.1) = y.map (·.1)) : ∀ k, lnM x k = lnM y k
  | 0 => rfl
  | k + 1 => by
    have ih := ln_vals h k
    have h1 := lnM_succ x k
    have h2 := lnM_succ y k
    have hv : (x.getD k (0, 0)).1 = (y.getD k (0, 0)).1 := by
      have e := congrArg (fun l => l.getD k 0) h
      have := fun (N : List (Int × Int)) => show (N.map (·.1)).getD k 0 = (N.getD k (0, 0)).1 by
        simp only [List.getD, List.getElem?_map]; cases N[k]? <;> rfl
      simpa only [this] using e
    rw [hv] at h1
    omega
theorem ln_lt {x : List (Int × Int)} (h : sgC x = true) (a : Nat) : ∀ n, 0 < n → a + n ≤ x.length → lnM x a < lnM x (a + n)
  | 0, h0, _ => absurd h0 (by omega)
  | n + 1, _, hn => by
    have h1 := lnM_lt h (i := a + n) (by omega)
    rcases Nat.eq_zero_or_pos n with rfl | hp
    · exact h1
    · have := ln_lt h a n hp (by omega)
      rw [← Nat.add_assoc]; omega
theorem ln_inj {x : List (Int × Int)} (h : sgC x = true) {a b : Nat} (ha : a ≤ x.length) (hb : b ≤ x.length) (e : lnM x a = lnM x b) : a = b := by
  rcases Nat.lt_trichotomy a b with h' | h' | h'
  · have := ln_lt h a (b - a) (by omega) (by omega); rw [show a + (b - a) = b by omega] at this; omega
  · exact h'
  · have := ln_lt h b (a - b) (by omega) (by omega); rw [show b + (a - b) = a by omega] at this; omega
theorem vw_len (p l : List (Int × Int)) : (vwOf p l).length = (vwG p ofP p.length).length + lnM l l.length := by unfold vwOf lnM; rw [List.length_append]
theorem ln_le (x : List (Int × Int)) {a : Nat} (ha : a ≤ x.length) : lnM x a ≤ lnM x x.length := lnM_mono x a x.length ha
/-- Where all rows fit: lines shown the same have the same values; cursors at the same place are at the same place of the line. -/
theorem fits_apart {p x y : List (Int × Int)} {w h a b : Nat} (hw : 1 < w) (hx : sgC x = true) (hy : sgC y = true) (h1 : (lyRows (vwOf p x) w).length ≤ h) (h2 : (lyRows (vwOf p y) w).length ≤ h) (ha : a ≤ x.length) (hb : b ≤ y.length)
    (hs : rowsS (scR (vwOf p x) w 0 h) (scR (vwOf p y) w 0 h) = true) (hc : (spAll (vwOf p x) w).getD (fstM (vwOf p x) a) (0, 0) = (spAll (vwOf p y) w).getD (fstM (vwOf p y) b) (0, 0)) : x.map (·.1) = y.map (·.1) ∧ a = b := by
  have hse := same_seen hw (rowOk_vw p x) (rowOk_vw p y) h1 h2 hs
  have hv := vw_apart hx hy (shS_of_seen hse)
  refine ⟨hv, ?_⟩
  have hvv : (vwOf p x).map (·.1) = (vwOf p y).map (·.1) := by
    have e := congrArg (List.map Prod.fst) hse
    simpa [seen, Function.comp_def] using e
  have hlen : (vwOf p x).length = (vwOf p y).length := by simpa using congrArg List.length hvv
  have hxy : x.length = y.length := by simpa using congrArg List.length hv
  rw [spAll_vals w hvv, fst_line p x hx a ha, fst_line p y hy b hb] at hc
  have hi := spAll_inj (vwOf p y) w (by omega) (by rw [← hlen, vw_len]; have := ln_le x ha; omega) (by rw [vw_len]; have := ln_le y hb; omega) hc
  have hab : lnM x a = lnM y b := by omega
  rw [ln_vals hv] at hab
  exact ln_inj hy (by omega) hb hab
/-- The first cell of a sign of the line. -/
theorem vw_first (p l : List (Int × Int)) (h : sgC l = true) (i : Nat) (hi : i < l.length) : ∃ v a, (vwOf p l).getD ((vwG p ofP p.length).length + lnM l i) cl0 = (v, a, (i : Int), (l.getD i (0, 0)).1, 0) := by
  have hc : cls (l.getD i (0, 0)).1 ≠ 0 := sgC_at h hi
  have hlt := lnM_lt h hi
  unfold vwOf
  rw [getD_rt _ _ _ _ (by omega), Nat.add_sub_cancel_left]
  have hpre : ∃ t, vwG l ofL l.length = vwG l ofL (i + 1) ++ t := by
    have : ∀ n, ∃ t, vwG l ofL (i + 1 + n) = vwG l ofL (i + 1) ++ t := fun n => by
      induction n with
      | zero => exact ⟨[], by simp⟩
      | succ n ih => obtain ⟨t, ht⟩ := ih; exact ⟨_, by rw [← Nat.add_assoc, vwG_succ, ht, List.append_assoc]⟩
    obtain ⟨t, ht⟩ := this (l.length - (i + 1))
    exact ⟨t, by rw [← ht]; congr 1; omega⟩
  obtain ⟨t, ht⟩ := hpre
  rw [ht, getD_app _ _ _ _ (by exact hlt), vwG_succ, getD_rt _ _ _ _ (by unfold lnM; exact Nat.le_refl _), show lnM l i - (vwG l ofL i).length = 0 by unfold lnM; omega]
  generalize (l.getD i (0, 0)).1 = v at *
  generalize (l.getD i (0, 0)).2 = q at *
  unfold shK
  split
  · rename_i hd
    have hsz := (shC_rng v hc).2.2 hd
    unfold shC at hsz
    rw [if_pos hd] at hsz
    refine ⟨(((shT v).get! 0).toNat : Int), lkI v q, ?_⟩
    unfold tkL
    rw [getD_lt (by rw [List.length_map, List.length_range]; omega), List.getElem_map, List.getElem_range]
    rfl
  · split
    · exact ⟨_, _, rfl⟩
    · exact ⟨_, _, rfl⟩
end Go.Proofs.YtcdecnmhogmhaaaDoor
set_option linter.unusedVariables false
set_option linter.unusedSimpArgs false
namespace Go.Proofs.YtcdecnmhogmhaaaDoor
open Go.RowKit
theorem run_copy_wide {P : Program} (w : World) (dT sT ty elem : TypeId) (g o dLen dCap : Nat) (a : Addr) (sLen sCap : Nat) (cur : Array Value) (t : TypeId) (cs : List Value) (size n : Nat)
    (hu : P.underlying dT = some (.slice elem)) (hs : (P.info? elem).map (·.size) = some size)
    (hg : w.heap[g]? = some (.cells cur t (0, 0))) (hn : n = Nat.min sLen dLen) (hl : cs.length = n * size)
    (hsrc : ∀ j v, cs[j]? = some v → w.cell? (a.add j) = some v) (hfit : o + cs.length ≤ cur.size) (h1 : ∀ v ∈ cs, v.oneCell' = true) :
    (Builtin.copy_ #[dT, sT] ty #[.slice (some ⟨g, o, none⟩) dLen dCap, .slice (some a) sLen sCap]).run P w =
      .ok (goInt n) (w.setRow g (cur.toList.take o ++ cs ++ cur.toList.drop (o + cs.length)).toArray) := by
  have hld := run_loadCells_list (P := P) w a cs hsrc
  have hst := run_storeCells_at P g o t cs 0 cur w hg (by simpa using hfit) h1
  cases hq : P.info? elem with
  | none => simp [hq] at hs
  | some i =>
    have hi : i.size = size := by simpa [hq] using hs
    rw [hl] at hld
    simp [Builtin.copy_, run_underlying hu, Builtin.lenOf, Builtin.firstCells, sizeOf, typeInfo, hq, hi, ← hn, hld, hst]
theorem wpList_copy_wide {P : Program} {w : World} {ops : Array Oper} {rest : List Oper} {o : Oper} {a : Act} {Q : Exit → Act → World → Prop} (hgd : o.guard = none) (d s : Operand) (dT sT : TypeId)
    (ho : o.op = .call { callee := .builtin .copy, args := #[d, s], argTypes := #[dT, sT] }) (elem : TypeId) (size : Nat) (hu : P.underlying dT = some (.slice elem)) (hsz : (P.info? elem).map (·.size) = some size)
    (g off dLen dCap : Nat) (ad : Addr) (sLen sCap : Nat) (hd : a.eval d = .slice (some ⟨g, off, none⟩) dLen dCap) (hs : a.eval s = .slice (some ad) sLen sCap)
    (cur : Array Value) (t : TypeId) (hg : w.heap[g]? = some (.cells cur t (0, 0))) (cs : List Value) (n : Nat) (hn : n = Nat.min sLen dLen) (hl : cs.length = n * size)
    (hsrc : ∀ j v, cs[j]? = some v → w.cell? (ad.add j) = some v) (hfit : off + cs.length ≤ cur.size) (h1 : ∀ v ∈ cs, v.oneCell' = true)
    (h : wpList P ops Q rest (a.put o.dst (goInt n)) (w.setRow g (cur.toList.take off ++ (cs ++ cur.toList.drop (off + cs.length))).toArray)) : wpList P ops Q (o :: rest) a w := by
  refine wpList_plain hgd fun K hK => ?_
  have hrun := run_copy_wide (P := P) w dT sT o.type elem g off dLen dCap ad sLen sCap cur t cs size n hu hsz hg hn hl hsrc hfit h1
  unfold Oper.wp
  simp [execOp, ho, resolve, invoke, builtin, hd, hs, hrun, Result.andThen]
  exact hK _ _ h
/-- .. from nil. -/
theorem wpList_copy_nil {P : Program} {w : World} {ops : Array Oper} {rest : List Oper} {o : Oper} {a : Act} {Q : Exit → Act → World → Prop} (hgd : o.guard = none) (d s : Operand) (dT sT : TypeId)
    (ho : o.op = .call { callee := .builtin .copy, args := #[d, s], argTypes := #[dT, sT] }) (elem : TypeId) (hu : P.underlying dT = some (.slice elem)) (hsz : ((P.info? elem).map (·.size)).isSome = true)
    (ad : Addr) (dLen dCap : Nat) (hd : a.eval d = .slice (some ad) dLen dCap) (hs : a.eval s = .slice none 0 0)
    (h : wpList P ops Q rest (a.put o.dst (goInt 0)) w) : wpList P ops Q (o :: rest) a w := by
  refine wpList_plain hgd fun K hK => ?_
  have hrun := run_copy_nil (P := P) w dT sT o.type elem ad dLen dCap hu hsz
  unfold Oper.wp
  simp [execOp, ho, resolve, invoke, builtin, hd, hs, hrun, Result.andThen]
  exact hK _ _ h
end Go.Proofs.YtcdecnmhogmhaaaDoor
set_option linter.unusedVariables false
set_option linter.unusedSimpArgs false
namespace Go.Proofs.YtcdecnmhogmhaaaDoor
open Go.RowKit
theorem pfiller_any (n : Int) (w : World) :
    Calls Tryd.prog 115 #[.int .i64 n] w fun e w' => e = .returned (.func (.func 154) #[] #[.pointer (some ⟨w.heap.size, 0, none⟩)]) ∧ w' = w.alloc (.cells #[.int .i64 n] 3) := by
  go_enter Tryd.func115, Tryd.ntmps115
  go_wp2
  go_ret
  exact ⟨rfl, rfl⟩
/-- The row of n cells when those before k are filled. -/
def flK (L : List Cl) (n k : Nat) : List Cl := fillN L (k - L.length) ++ List.replicate (n - k) cl0
theorem flK_len (L : List Cl) (n k : Nat) (h1 : L.length ≤ k) (h2 : k ≤ n) : (flK L n k).length = n := by
  unfold flK; rw [List.length_append, fillN_len, List.length_replicate]; omega
theorem flK_set (L : List Cl) (n k : Nat) (h1 : L.length ≤ k) (h2 : k < n) : (flK L n k).set k clB = flK L n (k + 1) := by
  have e : (fillN L (k - L.length)).length = k := by rw [fillN_len]; omega
  unfold flK
  rw [List.set_append_right _ _ (by rw [e]; exact Nat.le_refl _), e, Nat.sub_self, show k + 1 - L.length = (k - L.length) + 1 by omega, fillN_succ, List.append_assoc]
  congr 1
  obtain ⟨m, hm⟩ : ∃ m, n - k = m + 1 := ⟨n - k - 1, by omega⟩
  rw [hm, show n - (k + 1) = m by omega]; rfl
theorem flK_copy (L : List Cl) (n : Nat) (h : L.length ≤ n) : ((cRow (List.replicate n cl0)).toList.take 0 ++ (cCells L ++ (cRow (List.replicate n cl0)).toList.drop (0 + (cCells L).length))).toArray = cRow (flK L n L.length) := by
  unfold flK fillN cRow
  rw [List.take_zero, List.nil_append, Nat.zero_add, cCells_len, Nat.sub_self, List.replicate_zero, List.append_nil, cCells_append]
  congr 2
  have key : ∀ a b : Nat, (cCells (List.replicate (a + b) cl0)).drop (a * 5) = cCells (List.replicate b cl0) := by
    intro a
    induction a with
    | zero => intro b; simp
    | succ a ih =>
      intro b
      rw [show a + 1 + b = (a + b) + 1 by omega, List.replicate_succ, show (a + 1) * 5 = a * 5 + 5 by omega]
      show (([Value.int .i64 0, .int .i64 0, .int .i64 0, .int .i64 0, .int .i64 0] ++ cCells (List.replicate (a + b) cl0)).drop (a * 5 + 5)) = _
      rw [Nat.add_comm, ← List.drop_drop]
      exact ih b
  have := key L.length (n - L.length)
  rwa [show L.length + (n - L.length) = n by omega] at this
theorem flK_end (L : List Cl) (n : Nat) : flK L n n = fillN L (n - L.length) := by unfold flK; rw [Nat.sub_self, List.replicate_zero, List.append_nil]
set_option maxHeartbeats 8000000 in
theorem pfiller1_any (L : List Cl) (n p : Nat) (a : Option Addr) (c : Nat) (w : World) (hn : n ≤ 1000) (hl : L.length ≤ n) (ha : CellsIn w a L) (h0 : a = none → c = 0) (hp : p < w.heap.size) (hc : w.cell? ⟨p, 0, none⟩ = some (.int .i64 n)) :
    Calls Tryd.prog 154 #[.slice a L.length c, .pointer (some ⟨p, 0, none⟩)] w fun e w' => e = .returned (.slice (some ⟨w.heap.size, 0, none⟩) n n) ∧ w'.heap[w.heap.size]? = some (.cells (cRow (fillN L (n - L.length))) 51 (0, 0)) ∧ Below w.heap.size w w' := by
  obtain ⟨i0, hi, hz0, hz1, hz2⟩ := info_parts infoCell
  have hsz : (Tryd.prog.info? 51).map (·.size) = some 5 := by rw [hi]; simp [hz1]
  have hmk := make_rowN (P := Tryd.prog) 36 51 i0 _ Tryd.underlying36 hi hz0 n (by rw [hz2]; omega) (by omega)
  rw [hz1] at hmk
  have hmade : madeCells (Value.agg #[.int .i64 0, .int .i64 0, .int .i64 0, .int .i64 0, .int .i64 0]).cells (n * 5) = cRow (List.replicate n cl0) := by rw [show (Value.agg #[.int .i64 0, .int .i64 0, .int .i64 0, .int .i64 0, .int .i64 0]).cells = #[.int .i64 0, .int .i64 0, .int .i64 0, .int .i64 0, .int .i64 0] from rfl, made_cells]
  rw [hmade] at hmk
  have hnil : a = none → L = [] := fun h => by
    cases L with
    | nil => rfl
    | cons x L => obtain ⟨_, _, e, _⟩ := ha 0 (by simp); rw [h] at e; cases e
  have N0 := below_alloc w (.cells (cRow (List.replicate n cl0)) 51)
  have HB := Lib.hid (heap_alloc_new w (.cells (cRow (List.replicate n cl0)) 51))
  have HA := Lib.hid (ha.below N0)
  have hcopy := Lib.hid (flK_copy L n hl)
  have HS := Lib.hid hsz
  have hsize : (cRow (List.replicate n cl0)).size = n * 5 := by rw [cRow, List.size_toArray, cCells_len, List.length_replicate]
  clear ha hmade hsz
  have hq := fun o => (World.cell?_alloc_lt w o (⟨p, 0, none⟩ : Addr) hp).trans hc
  cases a with
  | none =>
    obtain rfl := hnil rfl
    obtain rfl := h0 rfl
    have HG : Hid ((w.alloc (.cells (cRow (List.replicate n cl0)) 51)).heap[w.heap.size]? = some (.cells (cRow (flK [] n ([] : List Cl).length)) 51 (0, 0))) := Lib.hid (by
      have e : flK [] n ([] : List Cl).length = List.replicate n cl0 := rfl
      rw [e]; exact HB.out)
    have NB := N0
    have hrun := run_copy_nil (P := Tryd.prog) (w.alloc (.cells (cRow (List.replicate n cl0)) 51)) 36 36 3 51 ⟨w.heap.size, 0, none⟩ n n Tryd.underlying36 (by rw [HS.out]; rfl)
    clear hnil h0 HA hcopy hsize
    go_enter Tryd.func154, Tryd.ntmps154
    go_wp2
    go_loopw [5] (fun iv wr => ∃ k : Nat, ([] : List Cl).length ≤ k ∧ k ≤ n ∧ iv = .int .i64 (k : Int) ∧ Hid (wr.heap[w.heap.size]? = some (.cells (cRow (flK [] n k)) 51 (0, 0))) ∧ Below w.heap.size w wr) (fun iv _ => n - (intOf iv).toNat)
    case atStart => exact ⟨0, Nat.le_refl _, Nat.zero_le _, rfl, HG, NB⟩
    case round =>
      obtain ⟨k, hk0, hk, rfl, hG, hbl⟩ := hrel
      have hcr := (hbl.cell (p := ⟨p, 0, none⟩) hp).trans hc
      by_cases hlt : k < n
      · have hk1 : (k : Int) < n := by omega
        have hk2 : (0 : Int) ≤ k := by omega
        have hlen := flK_len [] n k hk0 hk
        have hset := flK_set [] n k hk0 hlt
        have hset2 := cRow_set (flK [] n k) k clB (by omega)
        have hcc := cl_cells hG.out (k := k) (by omega)
        have z0 := hcc.1; have z1 := hcc.2.1; have z2 := hcc.2.2.1; have z3 := hcc.2.2.2.1; have z4 := hcc.2.2.2.2
        have y0 := fun i => frozen_of_row wr w.heap.size i _ _ hG.out
        have Hset := Lib.hid hset; have Hset2 := Lib.hid hset2
        generalize (flK [] n k).getD k cl0 = q at *
        clear hset hset2 hcc hlen
        go_wp2
        go_roundw
        case rel => exact ⟨k + 1, by omega, by omega, by go_num, Lib.hid (by rw [← Hset.out, ← Hset2.out]; exact blk_set (blk_set (blk_set (blk_set (blk_set hG.out _ _) _ _) _ _) _ _) _ _), ((((hbl.setCell (Nat.le_refl _) _).setCell (Nat.le_refl _) _).setCell (Nat.le_refl _) _).setCell (Nat.le_refl _) _).setCell (Nat.le_refl _) _⟩
        case measure => (simp [intOf]; try omega)
      · obtain rfl : k = n := by omega
        have HF := hG.out
        rw [flK_end] at HF
        have HF2 := Lib.hid HF
        clear HF
        go_wp2
        go_ret
        exact ⟨rfl, HF2.out, hbl⟩
  | some ad =>
    clear hnil h0
    have hrun := run_copy_wide (P := Tryd.prog) (w.alloc (.cells (cRow (List.replicate n cl0)) 51)) 36 36 3 51 w.heap.size 0 n n ad L.length c (cRow (List.replicate n cl0)) 51 (cCells L) 5 L.length Tryd.underlying36 HS.out HB.out (show L.length = min L.length n by omega) (cCells_len L) (cells_news HA.out) (by rw [cCells_len, hsize]; omega) (cCells_one L)
    rw [List.append_assoc, hcopy.out] at hrun
    have HG := Lib.hid (setRow_heap _ w.heap.size _ (cRow (flK L n L.length)) 51 (0, 0) HB.out)
    have NB := below_setRow N0 (Nat.le_refl _) (cRow (flK L n L.length))
    generalize World.setRow _ _ _ = W1 at *
    go_enter Tryd.func154, Tryd.ntmps154
    go_wp2
    go_loopw [5] (fun iv wr => ∃ k : Nat, L.length ≤ k ∧ k ≤ n ∧ iv = .int .i64 (k : Int) ∧ Hid (wr.heap[w.heap.size]? = some (.cells (cRow (flK L n k)) 51 (0, 0))) ∧ Below w.heap.size w wr) (fun iv _ => n - (intOf iv).toNat)
    case atStart => exact ⟨L.length, Nat.le_refl _, hl, rfl, HG, NB⟩
    case round =>
      obtain ⟨k, hk0, hk, rfl, hG, hbl⟩ := hrel
      have hcr := (hbl.cell (p := ⟨p, 0, none⟩) hp).trans hc
      by_cases hlt : k < n
      · have hk1 : (k : Int) < n := by omega
        have hk2 : (0 : Int) ≤ k := by omega
        have hlen := flK_len L n k hk0 hk
        have hset := flK_set L n k hk0 hlt
        have hset2 := cRow_set (flK L n k) k clB (by omega)
        have hcc := cl_cells hG.out (k := k) (by omega)
        have z0 := hcc.1; have z1 := hcc.2.1; have z2 := hcc.2.2.1; have z3 := hcc.2.2.2.1; have z4 := hcc.2.2.2.2
        have y0 := fun i => frozen_of_row wr w.heap.size i _ _ hG.out
        have Hset := Lib.hid hset; have Hset2 := Lib.hid hset2
        generalize (flK L n k).getD k cl0 = q at *
        clear hset hset2 hcc hlen
        go_wp2
        go_roundw
        case rel => exact ⟨k + 1, by omega, by omega, by go_num, Lib.hid (by rw [← Hset.out, ← Hset2.out]; exact blk_set (blk_set (blk_set (blk_set (blk_set hG.out _ _) _ _) _ _) _ _) _ _), ((((hbl.setCell (Nat.le_refl _) _).setCell (Nat.le_refl _) _).setCell (Nat.le_refl _) _).setCell (Nat.le_refl _) _).setCell (Nat.le_refl _) _⟩
        case measure => (simp [intOf]; try omega)
      · obtain rfl : k = n := by omega
        have HF := hG.out
        rw [flK_end] at HF
        have HF2 := Lib.hid HF
        clear HF
        go_wp2
        go_ret
        exact ⟨rfl, HF2.out, hbl⟩
end Go.Proofs.YtcdecnmhogmhaaaDoor
set_option linter.unusedVariables false
set_option linter.unusedSimpArgs false
namespace Go.Proofs.YtcdecnmhogmhaaaDoor
open Go.RowKit Go.Sort
/-- May the cell at k of a full row be? -/
def FullAt (M : List Cl) (k : Nat) : Prop :=
  ((M.getD k cl0).1 = 0 ∧ (M.getD k cl0).2.1 = 0 ∧ ∀ j, k ≤ j → j < M.length → (M.getD j cl0).1 = 0) ∨
  ((M.getD k cl0).1 ≠ 0 ∧ 0 ≤ (M.getD k cl0).2.1 ∧ (M.getD k cl0).2.1 ≤ 7 ∧
    (((M.getD k cl0).1 = -1 ∧ 0 < k ∧ cls (M.getD (k - 1) cl0).1 = 2 ∧ (M.getD (k - 1) cl0).2.1 = (M.getD k cl0).2.1 ∧ (M.getD (k - 1) cl0).2.2.2.1 = (M.getD k cl0).2.2.2.1 ∧ (M.getD (k - 1) cl0).2.2.2.2 = 0 ∧ (M.getD k cl0).2.2.2.2 = 1) ∨
    ((M.getD k cl0).1 ≠ -1 ∧ (cls (M.getD k cl0).1 = 1 ∨ cls (M.getD k cl0).1 = 3)) ∨
    ((M.getD k cl0).1 ≠ -1 ∧ cls (M.getD k cl0).1 = 2 ∧ k + 1 < M.length ∧ (M.getD (k + 1) cl0).1 = -1 ∧ (M.getD (k + 1) cl0).2.1 = (M.getD k cl0).2.1 ∧ (M.getD (k + 1) cl0).2.2.2.1 = (M.getD k cl0).2.2.2.1 ∧ (M.getD k cl0).2.2.2.2 = 0 ∧ (M.getD (k + 1) cl0).2.2.2.2 = 1)))
/-- May a full row be? -/
def FullOk (M : List Cl) : Prop := (∀ k, k < M.length → FullAt M k) ∧ ∀ k, 0 < k → k < M.length → (M.getD (k - 1) cl0).1 = 0 → (M.getD k cl0).1 = 0
theorem full_ok {r : List Cl} (h : RowOk r) (n : Nat) : FullOk (fillN r n) := by
  have hb : ∀ j, r.length ≤ j → (fillN r n).getD j cl0 = clB ∨ (fillN r n).length ≤ j := fun j hj => by
    by_cases hl : j < (fillN r n).length
    · left
      unfold fillN
      rw [getD_rt _ _ _ _ hj]
      rw [fillN_len] at hl
      rw [List.getD, List.getElem?_replicate, if_pos (by omega)]; rfl
    · right; omega
  have ha : ∀ j, j < r.length → (fillN r n).getD j cl0 = r.getD j cl0 := fun j hj => by unfold fillN; exact getD_app _ _ _ _ hj
  refine ⟨fun k hk => ?_, fun k h0 hk hz => ?_⟩
  · by_cases hkr : k < r.length
    · obtain ⟨h1, h2, h3, h4, h5⟩ := h k hkr
      right
      rw [ha k hkr]
      refine ⟨h1, h2, h3, ?_⟩
      by_cases hv : (r.getD k cl0).1 = -1
      · left
        obtain ⟨g0, g1⟩ := h4 hv
        rw [ha (k - 1) (by omega)]
        exact ⟨hv, g0, g1⟩
      · right
        rcases h5 hv with g | g | ⟨g, g1, g2⟩
        · exact Or.inl ⟨hv, Or.inl g⟩
        · exact Or.inl ⟨hv, Or.inr g⟩
        · right
          rw [ha (k + 1) g1]
          obtain ⟨_, _, _, f4, _⟩ := h (k + 1) g1
          obtain ⟨_, e1, e2, e3, e4⟩ := f4 g2
          rw [Nat.add_sub_cancel] at e1 e2 e3 e4
          exact ⟨hv, g, by rw [fillN_len]; omega, g2, e2.symm, e3.symm, e4⟩
    · left
      have e : ∀ j, k ≤ j → j < (fillN r n).length → (fillN r n).getD j cl0 = clB := fun j h1 h2 => (hb j (by omega)).resolve_right (by omega)
      rw [e k (Nat.le_refl _) hk]
      exact ⟨rfl, rfl, fun j h1 h2 => by rw [e j h1 h2]⟩
  · by_cases hkr : k < r.length
    · rw [ha (k - 1) (by omega)] at hz
      exact absurd hz (h (k - 1) (by omega)).1
    · rw [(hb k (by omega)).resolve_right (by omega)]
theorem pred_small (a : Nat) (h : a ≤ 1000000) (h2 : 0 < a) : (((a : Int) - 1) + 9223372036854775808) % 18446744073709551616 - 9223372036854775808 = ((a - 1 : Nat) : Int) := by omega
theorem lenN_zero {M : List Cl} {k : Nat} : ∀ n, (∀ j, k ≤ j → j < n → (M.getD j cl0).1 = 0) → lenN M n ≤ k
  | 0, _ => Nat.zero_le _
  | n + 1, h => by
    unfold lenN
    by_cases hk : k ≤ n
    · rw [if_neg (by simpa using h n hk (by omega))]
      exact lenN_zero n fun j h1 h2 => h j h1 (by omega)
    · split
      · omega
      · have := lenN_le M n; omega
set_option maxHeartbeats 8000000 in
theorem row_may (M : List Cl) (a : Option Addr) (c : Nat) (w : World) (hl : M.length ≤ 1000000) (hM : FullOk M) (ha : CellsIn w a M) :
    Calls Tryd.prog 75 #[.slice a M.length c] w fun e w' => e = .returned (.bool true) ∧ Below w.heap.size w w' := by
  have HA := Lib.hid ha
  have HF := Lib.hid hM
  have O := Lib.hid (fun v w => by have := of_ref v w; rw [← cls_eq] at this; exact this)
  have LN := Lib.hid (fun w (h : CellsIn w a M) => len_ref M a c w hl h)
  clear ha hM
  go_enter Tryd.func75, Tryd.ntmps75
  go_wp2
  go_loopw [3] (fun iv wr => ∃ k : Nat, k ≤ M.length ∧ iv = .int .i64 (k : Int) ∧ Below w.heap.size w wr) (fun iv _ => M.length - (intOf iv).toNat)
  case atStart => exact ⟨0, Nat.zero_le _, rfl, Below.refl _ _⟩
  case round =>
    obtain ⟨k, hk, rfl, hbl⟩ := hrel
    by_cases hlt : k < M.length
    · have hk1 : (k : Int) < M.length := by omega
      have hk0 : (0 : Int) ≤ k := by omega
      have HAr := Lib.hid (HA.out.below hbl)
      obtain ⟨b1, o1, rfl, hb1, c1, c2, c3, c4, c5⟩ := HAr.out k hlt
      have hF := HF.out.1 k hlt
      rcases hF with ⟨f1, f2, f3⟩ | ⟨f1, f2, f3, f4⟩
      · have hz := lenN_zero M.length f3
        have hz1 : ¬ (k : Int) < (lenN M M.length : Int) := by omega
        rw [f1] at c1; rw [f2] at c2
        generalize lenN M M.length = ln at *
        clear f3 hz
        go_wp2_with (first
          | (go_at_call 42; refine (O.out _ _).mono ?_; rintro e w2 ⟨rfl, hb2⟩; have d1 := (hb2.cell (p := ⟨b1, o1 + k * 5, none⟩) hb1).trans c1; have d2 := (hb2.cell (p := ⟨b1, o1 + k * 5 + 1, none⟩) hb1).trans c2)
          | (go_at_call 116; refine (LN.out _ (HAr.out.below hb2)).mono ?_; rintro e w3 ⟨rfl, rfl⟩))
        exact ⟨⟨k + 1, by omega, by go_num, hbl.trans (hb2.mono hbl.size)⟩, by simp [intOf]; omega⟩
      · have hz : (M.getD k cl0).1 ≠ 0 := f1
        have hzb : ((M.getD k cl0).1 == 0) = false := by rw [beq_eq_false_iff_ne]; exact f1
        have hA0 : ¬ (M.getD k cl0).2.1 < 0 := by omega
        have hA7 : ¬ 7 < (M.getD k cl0).2.1 := by omega
        rcases f4 with ⟨f4, f5, f6, f7, f8, f9, f10⟩ | ⟨f4, f5⟩ | ⟨f4, f5, f6, f7, _, _, _, _⟩
        · obtain ⟨b2, o2, e2, hb2', p1, p2, p3, p4, p5⟩ := HAr.out (k - 1) (by omega)
          obtain ⟨rfl, rfl⟩ : b1 = b2 ∧ o1 = o2 := by simpa using e2
          have hkm : (k : Int) - 1 = ((k - 1 : Nat) : Int) := by omega
          have hkm1 : ((k - 1 : Nat) : Int) < M.length := by omega
          have hkm0 : (0 : Int) ≤ ((k - 1 : Nat) : Int) := by omega
          have hkw : IntKind.i64.wrap ((k : Int) - 1) = ((k - 1 : Nat) : Int) := by rw [IntKind.wrap_i64]; exact pred_small k (by omega) (by omega)
          have hk01 : ((k : Int) == 0) = false := by rw [beq_eq_false_iff_ne]; omega
          rw [f7] at p2; rw [f8] at p4; rw [f9] at p5; rw [f10] at c5; rw [f4] at c1
          have O2 := Lib.hid (fun w => by have := O.out (M.getD (k - 1) cl0).1 w; rw [f6] at this; exact this)
          generalize (M.getD (k - 1) cl0).1 = pv at *
          generalize (M.getD k cl0).2.1 = av at *
          generalize (M.getD k cl0).2.2.2.1 = fv at *
          generalize hmk : k - 1 = m at *
          clear f1 f4 f5 f6 f7 f8 f9 f10 hz hzb c3 p3 e2 hmk
          go_wp2_with (go_at_call 42; refine (O.out _ _).mono ?_; rintro e w2 ⟨rfl, hb2⟩; have d1 := (hb2.cell (p := ⟨b1, o1 + k * 5, none⟩) hb1).trans c1; have d2 := (hb2.cell (p := ⟨b1, o1 + k * 5 + 1, none⟩) hb1).trans c2; have d4 := (hb2.cell (p := ⟨b1, o1 + k * 5 + 3, none⟩) hb1).trans c4; have d5 := (hb2.cell (p := ⟨b1, o1 + k * 5 + 4, none⟩) hb1).trans c5; have g1 := (hb2.cell (p := ⟨b1, o1 + m * 5, none⟩) hb1).trans p1; have g2 := (hb2.cell (p := ⟨b1, o1 + m * 5 + 1, none⟩) hb1).trans p2; have g4 := (hb2.cell (p := ⟨b1, o1 + m * 5 + 3, none⟩) hb1).trans p4; have g5 := (hb2.cell (p := ⟨b1, o1 + m * 5 + 4, none⟩) hb1).trans p5; have hb12 : b1 < w2.heap.size := Nat.lt_of_lt_of_le hb1 hb2.size)
          have G1 := fun d os => cell_regrown g1 d os
          have G2 := fun d os => cell_regrown g2 d os
          have G4 := fun d os => cell_regrown g4 d os
          have G5 := fun d os => cell_regrown g5 d os
          have D2 := fun d os => cell_regrown d2 d os
          have D4 := fun d os => cell_regrown d4 d os
          have D5 := fun d os => cell_regrown d5 d os
          have OQ := Lib.hid (fun d os => (O2.out (grow (redrawn w2 d) os)).regrown_of)
          clear g1 g2 g4 g5 d1 d2 d4 d5 c1 c2 c4 c5 p1 p2 p4 p5
          refine wp_region_quiet_below (by kernel_rfl) (by kernel_rfl) ?_
          repeat (any_goals (go_big_quiet_step ((go_at_call 42; exact OQ.out _ _))))
          refine wpQuiet_nil ?_
          intro _ hw'
          obtain ⟨⟨dq, osq⟩, hw''⟩ := hw'
          subst hw''
          go_wp2
          exact ⟨⟨k + 1, by omega, by go_num, (hbl.trans (hb2.mono hbl.size)).trans ((below_regrown w2 dq osq).mono (Nat.le_trans hbl.size hb2.size))⟩, by simp [intOf]; omega⟩
        · have hv1 : ((M.getD k cl0).1 == -1) = false := by rw [beq_eq_false_iff_ne]; exact f4
          have hcl : ∃ q, cls (M.getD k cl0).1 = q ∧ (q = 1 ∨ q = 3) := ⟨_, rfl, f5⟩
          obtain ⟨q, hq, hq2⟩ := hcl
          have O2 := Lib.hid (fun w => by have := O.out (M.getD k cl0).1 w; rw [hq] at this; exact this)
          generalize (M.getD k cl0).1 = vv at *
          generalize (M.getD k cl0).2.1 = av at *
          clear f1 f4 f5 hz hq
          rcases hq2 with rfl | rfl
          all_goals
            go_wp2_with (go_at_call 42; refine (O2.out _).mono ?_; rintro e w2 ⟨rfl, hb2⟩; have d1 := (hb2.cell (p := ⟨b1, o1 + k * 5, none⟩) hb1).trans c1; have d2 := (hb2.cell (p := ⟨b1, o1 + k * 5 + 1, none⟩) hb1).trans c2)
            exact ⟨⟨k + 1, by omega, by go_num, hbl.trans (hb2.mono hbl.size)⟩, by simp [intOf]; omega⟩
        · have hv1 : ((M.getD k cl0).1 == -1) = false := by rw [beq_eq_false_iff_ne]; exact f4
          obtain ⟨b2, o2, e2, hb2', p1, p2, p3, p4, p5⟩ := HAr.out (k + 1) f6
          obtain ⟨rfl, rfl⟩ : b1 = b2 ∧ o1 = o2 := by simpa using e2
          rw [f7] at p1
          have hk2 : ¬ (M.length : Int) ≤ (k : Int) + 1 := by omega
          have hk3 : (k : Int) + 1 < M.length := by omega
          have hk4 : (0 : Int) ≤ (k : Int) + 1 := by omega
          have O2 := Lib.hid (fun w => by have := O.out (M.getD k cl0).1 w; rw [f5] at this; exact this)
          generalize (M.getD k cl0).1 = vv at *
          generalize (M.getD k cl0).2.1 = av at *
          clear f1 f4 f5 hz f7
          go_wp2_with (go_at_call 42; refine (O2.out _).mono ?_; rintro e w2 ⟨rfl, hb2⟩; have d1 := (hb2.cell (p := ⟨b1, o1 + k * 5, none⟩) hb1).trans c1; have d2 := (hb2.cell (p := ⟨b1, o1 + k * 5 + 1, none⟩) hb1).trans c2; have g1 := (hb2.cell (p := ⟨b1, o1 + (k + 1) * 5, none⟩) hb1).trans p1)
          exact ⟨⟨k + 1, by omega, by go_num, hbl.trans (hb2.mono hbl.size)⟩, by simp [intOf]; omega⟩
    · obtain rfl : k = M.length := by omega
      have hk1 : ¬ (M.length : Int) < M.length := by omega
      go_wp2
      go_ret
      exact ⟨rfl, hbl⟩
end Go.Proofs.YtcdecnmhogmhaaaDoor
set_option linter.unusedVariables false
set_option linter.unusedSimpArgs false
namespace Go.Proofs.YtcdecnmhogmhaaaDoor
open Go.RowKit
set_option maxHeartbeats 8000000 in
theorem signmay_any (M : List Cl) (k : Nat) (a : Option Addr) (c : Nat) (w : World) (hl : M.length ≤ 1000000) (hk : k < M.length) (ha : CellsIn w a M) (hT : Tabs w)
    (hM : (cls (M.getD k cl0).1 = 1 ∨ cls (M.getD k cl0).1 = 3) ∨ (cls (M.getD k cl0).1 = 2 ∧ k + 1 < M.length ∧ (M.getD (k + 1) cl0).1 = -1 ∧ (M.getD (k + 1) cl0).2.1 = (M.getD k cl0).2.1 ∧ (M.getD (k + 1) cl0).2.2.2.1 = (M.getD k cl0).2.2.2.1 ∧ (M.getD k cl0).2.2.2.2 = 0 ∧ (M.getD (k + 1) cl0).2.2.2.2 = 1)) :
    Calls Tryd.prog 118 #[.slice a M.length c, .int .i64 k] w fun e w' => e = .returned (.bool true) ∧ Below w.heap.size w w' := by
  obtain ⟨b1, o1, rfl, hb1, c1, c2, c3, c4, c5⟩ := ha k hk
  have hk1 : (k : Int) < M.length := by omega
  have hk0 : (0 : Int) ≤ k := by omega
  obtain ⟨v, x2, x3, x4, x5, hq⟩ : ∃ v x2 x3 x4 x5, M.getD k cl0 = (v, x2, x3, x4, x5) := ⟨_, _, _, _, _, rfl⟩
  rw [hq] at c1 c2 c3 c4 c5 hM
  simp only at c1 c2 c3 c4 c5 hM
  have B0 := below_alloc w (.cells #[.int .i64 v, .int .i64 x2, .int .i64 x3, .int .i64 x4, .int .i64 x5] 51)
  have O := Lib.hid (of_any v _ (hT.below B0))
  have t0 := heap_alloc_new w (.cells #[.int .i64 v, .int .i64 x2, .int .i64 x3, .int .i64 x4, .int .i64 x5] 51)
  have hA := ha.below B0
  clear hT hq
  rcases hM with h | ⟨h, hk2, f1, f2, f3, f4, f5⟩
  · obtain ⟨q, hq, hq2⟩ : ∃ q, cls v = q ∧ (q = 1 ∨ q = 3) := ⟨_, rfl, h⟩
    rw [hq] at O
    clear h hq hA ha
    rcases hq2 with rfl | rfl
    all_goals
      go_enter Tryd.func118, Tryd.ntmps118
      go_wp2_with (go_at_call 117; refine O.out.mono ?_; rintro e w2 ⟨rfl, hb2⟩)
      go_ret
      exact ⟨rfl, B0.trans (hb2.mono (by simp))⟩
  · rw [h] at O
    obtain ⟨b2, o2, e2, hb2', p1, p2, p3, p4, p5⟩ := hA (k + 1) hk2
    obtain ⟨rfl, rfl⟩ : b1 = b2 ∧ o1 = o2 := by simpa using e2
    rw [f1] at p1; rw [f2] at p2; rw [f3] at p4; rw [f5] at p5
    subst f4
    generalize (M.getD (k + 1) cl0).2.2.1 = y3 at *
    have hk3 : ¬ (k : Int) + 1 = M.length := by omega
    have hk4 : (k : Int) + 1 < M.length := by omega
    have hk5 : (0 : Int) ≤ (k : Int) + 1 := by omega
    have hk6 : ¬ k + 1 = M.length := by omega
    clear h f1 f2 f3 f5 hA ha e2
    go_enter Tryd.func118, Tryd.ntmps118
    go_wp2_with (go_at_call 117; refine O.out.mono ?_; rintro e w2 ⟨rfl, hb2⟩; have d1 := (hb2.cell (p := ⟨b1, o1 + (k + 1) * 5, none⟩) hb2').trans p1; have d2 := (hb2.cell (p := ⟨b1, o1 + (k + 1) * 5 + 1, none⟩) hb2').trans p2; have d3 := (hb2.cell (p := ⟨b1, o1 + (k + 1) * 5 + 2, none⟩) hb2').trans p3; have d4 := (hb2.cell (p := ⟨b1, o1 + (k + 1) * 5 + 3, none⟩) hb2').trans p4; have d5 := (hb2.cell (p := ⟨b1, o1 + (k + 1) * 5 + 4, none⟩) hb2').trans p5; have t2 := blk_below t0 hb2; have hw2 := blk_lt t2; have tc := fun i => cell_of_row _ _ i _ _ _ t2; have u1 := fun o => (World.cell?_alloc_lt w2 o (⟨w.heap.size, 1, none⟩ : Addr) hw2).trans (show w2.cell? ⟨w.heap.size, 1, none⟩ = some (.int .i64 x2) by rw [tc]; rfl); have u3 := fun o => (World.cell?_alloc_lt w2 o (⟨w.heap.size, 3, none⟩ : Addr) hw2).trans (show w2.cell? ⟨w.heap.size, 3, none⟩ = some (.int .i64 x4) by rw [tc]; rfl); have u4 := fun o => (World.cell?_alloc_lt w2 o (⟨w.heap.size, 4, none⟩ : Addr) hw2).trans (show w2.cell? ⟨w.heap.size, 4, none⟩ = some (.int .i64 0) by rw [tc]; rfl); clear tc)
    go_ret
    exact ⟨rfl, (B0.trans (hb2.mono (by simp))).alloc (by have := hb2.size; simp at this; omega) _⟩
set_option maxHeartbeats 8000000 in
theorem rowmay_any (M : List Cl) (a : Option Addr) (c : Nat) (w : World) (hl : M.length ≤ 1000000) (hM : FullOk M) (ha : CellsIn w a M) (hT : Tabs w) :
    Calls Tryd.prog 76 #[.slice a M.length c] w fun e w' => e = .returned (.bool true) ∧ Below w.heap.size w w' := by
  have HA := Lib.hid ha
  have HF := Lib.hid hM
  have HT := Lib.hid hT
  clear ha hM hT
  go_enter Tryd.func76, Tryd.ntmps76
  go_wp2
  go_loopw [7] (fun iv wr => ∃ k : Nat, k ≤ M.length ∧ iv = .int .i64 (k : Int) ∧ Below w.heap.size w wr) (fun iv _ => M.length - (intOf iv).toNat)
  case atStart => exact ⟨0, Nat.zero_le _, rfl, Below.refl _ _⟩
  case round =>
    obtain ⟨k, hk, rfl, hbl⟩ := hrel
    by_cases hlt : k < M.length
    · have hk1 : (k : Int) < M.length := by omega
      have hk0 : (0 : Int) ≤ k := by omega
      have HAr := Lib.hid (HA.out.below hbl)
      obtain ⟨b1, o1, rfl, hb1, c1, c2, c3, c4, c5⟩ := HAr.out k hlt
      have hF := HF.out.1 k hlt
      have hG := HF.out.2 k
      have hP : k = 0 ∨ (0 < k ∧ wr.cell? ⟨b1, o1 + (k - 1) * 5, none⟩ = some (.int .i64 (M.getD (k - 1) cl0).1)) := by
        rcases Nat.eq_zero_or_pos k with h | h
        · exact Or.inl h
        · obtain ⟨b2, o2, e2, _, p1, _⟩ := HAr.out (k - 1) (by omega)
          obtain ⟨rfl, rfl⟩ : b1 = b2 ∧ o1 = o2 := by simpa using e2
          exact Or.inr ⟨h, p1⟩
      have SM := fun w2 (h1 : CellsIn w2 (some ⟨b1, o1, none⟩) M) (h2 : Tabs w2) h3 => signmay_any M k (some ⟨b1, o1, none⟩) c w2 hl hlt h1 h2 h3
      obtain ⟨v, x2, x3, x4, x5, hq⟩ : ∃ v x2 x3 x4 x5, M.getD k cl0 = (v, x2, x3, x4, x5) := ⟨_, _, _, _, _, rfl⟩
      have B1 := below_alloc wr (.cells #[.int .i64 v, .int .i64 x2, .int .i64 x3, .int .i64 x4, .int .i64 x5] 51)
      have HC1 := HAr.out.below B1
      have HT1 := (HT.out.below hbl).below B1
      have SM1 := SM _ HC1 HT1
      have OF := fun u => of_any u _ HT1
      have N1 := hbl.alloc hbl.size (.cells #[.int .i64 v, .int .i64 x2, .int .i64 x3, .int .i64 x4, .int .i64 x5] 51)
      unfold FullAt at hF
      rw [hq] at c1 c2 c3 c4 c5 hF hG SM1
      simp only at c1 c2 c3 c4 c5 hF hG SM1
      have P1 : ∀ m pv, wr.cell? ⟨b1, o1 + m * 5, none⟩ = some (.int .i64 pv) → ∀ o, (wr.alloc o).cell? ⟨b1, o1 + m * 5, none⟩ = some (.int .i64 pv) := fun m pv h o => (World.cell?_alloc_lt wr o (⟨b1, o1 + m * 5, none⟩ : Addr) hb1).trans h
      clear SM hq
      rcases hF with ⟨rfl, rfl, _⟩ | ⟨f1, f2, f3, f4⟩
      · clear SM1 OF HC1 HT1 hG
        rcases hP with rfl | ⟨hp, hp1⟩
        · simp only [Nat.zero_mul, Nat.add_zero] at c1 c2 c3 c4 c5
          go_wp2
          exact ⟨⟨0 + 1, by omega, by go_num, N1⟩, by simp [intOf]; omega⟩
        · have hkm : (k : Int) - 1 = ((k - 1 : Nat) : Int) := by omega
          have hkm1 : ((k - 1 : Nat) : Int) < M.length := by omega
          have hkp : (0 : Int) < k := by omega
          have P2 := P1 _ _ hp1
          generalize hmk : k - 1 = m at *
          generalize (M.getD m cl0).1 = pv at *
          clear hmk P1 hp1
          by_cases hz : pv = 0
          · subst hz
            go_wp2
            exact ⟨⟨k + 1, by omega, by go_num, N1⟩, by simp [intOf]; omega⟩
          · have hzb : (pv == 0) = false := by rw [beq_eq_false_iff_ne]; exact hz
            clear hz
            go_wp2
            exact ⟨⟨k + 1, by omega, by go_num, N1⟩, by simp [intOf]; omega⟩
      · have hvz : (v == 0) = false := by rw [beq_eq_false_iff_ne]; exact f1
        have hvn : (v != 0) = true := by rw [bne_iff_ne]; exact f1
        have hA0 : ¬ x2 < 0 := by omega
        have hA7 : ¬ 7 < x2 := by omega
        rcases f4 with ⟨rfl, g0, g1, gr⟩ | f4
        · obtain ⟨_, hp1⟩ := hP.resolve_left (by omega)
          have hkm : (k : Int) - 1 = ((k - 1 : Nat) : Int) := by omega
          have hkm1 : ((k - 1 : Nat) : Int) < M.length := by omega
          have hkp : (0 : Int) < k := by omega
          have hkz : ((k : Int) == 0) = false := by rw [beq_eq_false_iff_ne]; omega
          have P2 := P1 _ _ hp1
          have hpz : ((M.getD (k - 1) cl0).1 == 0) = false := by
            rw [beq_eq_false_iff_ne]; intro e; exact f1 (hG g0 hlt e)
          have O2 := OF (M.getD (k - 1) cl0).1
          rw [g1] at O2
          replace O2 := Lib.hid O2
          generalize hmk : k - 1 = m at *
          generalize (M.getD m cl0).1 = pv at *
          clear hmk P1 hp1 SM1 OF HC1 HT1 hG f1 g1 hvz hvn gr
          go_wp2_with (go_at_call 117; refine O2.out.mono ?_; rintro e w2 ⟨rfl, hb2⟩)
          exact ⟨⟨k + 1, by omega, by go_num, N1.trans (hb2.mono N1.size)⟩, by simp [intOf]; omega⟩
        · have hv1 : (v == -1) = false := by
            rw [beq_eq_false_iff_ne]
            rcases f4 with ⟨h, _⟩ | ⟨h, _⟩
            · exact h
            · exact h
          have S2 := Lib.hid (SM1 (by
            rcases f4 with ⟨_, h⟩ | ⟨_, h⟩
            · exact Or.inl h
            · exact Or.inr h))
          have hPz : k = 0 ∨ (0 < k ∧ ((M.getD (k - 1) cl0).1 == 0) = false ∧ wr.cell? ⟨b1, o1 + (k - 1) * 5, none⟩ = some (.int .i64 (M.getD (k - 1) cl0).1)) := by
            rcases hP with h | ⟨h, h2⟩
            · exact Or.inl h
            · exact Or.inr ⟨h, by rw [beq_eq_false_iff_ne]; intro e; exact f1 (hG h hlt e), h2⟩
          clear SM1 OF HC1 HT1 hG f4 hP f1
          rcases hPz with rfl | ⟨hp, hpz, hp1⟩
          · simp only [Nat.zero_mul, Nat.add_zero] at c1 c2 c3 c4 c5
            go_wp2_with (go_at_call 118; refine S2.out.mono ?_; rintro e w2 ⟨rfl, hb2⟩)
            exact ⟨⟨0 + 1, by omega, by go_num, N1.trans (hb2.mono N1.size)⟩, by simp [intOf]; omega⟩
          · have hkm : (k : Int) - 1 = ((k - 1 : Nat) : Int) := by omega
            have hkm1 : ((k - 1 : Nat) : Int) < M.length := by omega
            have hkp : (0 : Int) < k := by omega
            have P2 := P1 _ _ hp1
            generalize hmk : k - 1 = m at *
            generalize (M.getD m cl0).1 = pv at *
            clear hmk P1 hp1
            go_wp2_with (go_at_call 118; refine S2.out.mono ?_; rintro e w2 ⟨rfl, hb2⟩)
            exact ⟨⟨k + 1, by omega, by go_num, N1.trans (hb2.mono N1.size)⟩, by simp [intOf]; omega⟩
    · obtain rfl : k = M.length := by omega
      have hk1 : ¬ (M.length : Int) < M.length := by omega
      go_wp2
      go_ret
      exact ⟨rfl, hbl⟩
end Go.Proofs.YtcdecnmhogmhaaaDoor
set_option linter.unusedVariables false
set_option linter.unusedSimpArgs false
namespace Go.Proofs.YtcdecnmhogmhaaaDoor
open Go.RowKit Go.Sort
set_option maxHeartbeats 8000000 in
theorem may_ref (wd h R C : Nat) (l : List (List Cl)) (a : Option Addr) (c : Nat) (w : World) (hw1 : 1 ≤ wd) (hw2 : wd ≤ 1000) (hh1 : 1 ≤ h) (hh2 : h ≤ 1000) (hR : R < h) (hC : C < wd) (hl : l.length = h) (hr : ∀ i, i < h → (l.getD i []).length = wd ∧ FullOk (l.getD i [])) (ha : RowsIn w a l) :
    Calls Tryd.prog 20 #[.agg #[.int .i64 wd, .int .i64 h, .slice a h c, .int .i64 R, .int .i64 C]] w fun e w' => e = .returned (.bool true) ∧ Below w.heap.size w w' := by
  have B0 := below_alloc w (.cells #[.int .i64 wd, .int .i64 h, .slice a h c, .int .i64 R, .int .i64 C] 28)
  have HA := Lib.hid (ha.below B0)
  have hsw : sideB (wd : Int) = true := by unfold sideB; rw [decide_eq_true (by omega), decide_eq_true (by omega)]; rfl
  have hsh : sideB (h : Int) = true := by unfold sideB; rw [decide_eq_true (by omega), decide_eq_true (by omega)]; rfl
  have SD := Lib.hid (fun w => by have := sides_ref (wd : Int) (h : Int) w; rw [hsw, hsh] at this; exact this)
  have t0 := heap_alloc_new w (.cells #[.int .i64 wd, .int .i64 h, .slice a h c, .int .i64 R, .int .i64 C] 28)
  have HRr := Lib.hid hr
  have e1 : ¬ (R : Int) < 0 := by omega
  have e2 : ¬ (h : Int) ≤ (R : Int) := by omega
  have e3 : ¬ (C : Int) < 0 := by omega
  have e4 : ¬ (wd : Int) ≤ (C : Int) := by omega
  have e5 : (R : Int) < h := by omega
  have e6 : (C : Int) < wd := by omega
  clear ha hr hsw hsh
  go_enter Tryd.func20, Tryd.ntmps20
  go_wp2_with (go_at_call 16; refine (SD.out _).mono ?_; rintro e w1 ⟨rfl, rfl⟩)
  clear e1 e2 e3 e4 e5 e6 SD
  generalize w.alloc (.cells #[.int .i64 wd, .int .i64 h, .slice a h c, .int .i64 R, .int .i64 C] 28) = W0 at *
  replace t0 := Lib.hid t0
  have hsz0 := blk_lt t0.out
  go_loopw [3] (fun iv wr => ∃ k : Nat, k ≤ h ∧ iv = .int .i64 (k : Int) ∧ Below W0.heap.size W0 wr) (fun iv _ => h - (intOf iv).toNat)
  case atStart => exact ⟨0, Nat.zero_le _, rfl, Below.refl _ _⟩
  case round =>
    obtain ⟨k, hk, rfl, hbl⟩ := hrel
    have t1 := blk_below t0.out hbl
    have g2 : wr.cell? ⟨w.heap.size, 2, none⟩ = some (.slice a h c) := by rw [cell_of_row _ _ _ _ _ _ t1]; rfl
    by_cases hlt : k < h
    · have hk1 : (k : Int) < h := by omega
      have hk0 : (0 : Int) ≤ k := by omega
      obtain ⟨bb, off, ra, rc, rfl, hbb, hrow, hci⟩ := (HA.out.below hbl) k (by omega)
      obtain ⟨hlen, hfull⟩ := HRr.out k hlt
      generalize l.getD k [] = r at *
      rw [hlen] at hrow
      have g0 : wr.cell? ⟨w.heap.size, 0, none⟩ = some (.int .i64 wd) := by rw [cell_of_row _ _ _ _ _ _ t1]; rfl
      have RO := Lib.hid (fun d os => by
        have := (row_may r ra rc (grow (redrawn wr d) os) (by omega) hfull (hci.below (below_regrown wr d os))).regrown_of
        rw [hlen] at this
        exact this)
      have G0 := fun d os => cell_regrown g0 d os
      have G2 := fun d os => cell_regrown g2 d os
      have G3 := fun d os => cell_regrown hrow d os
      clear hfull hlen hci
      go_wp2
      clear g0 g2 hrow
      refine wp_region_quiet_below (by kernel_rfl) (by kernel_rfl) ?_
      repeat (any_goals (go_big_quiet_step ((go_at_call 75; exact RO.out _ _))))
      refine wpQuiet_nil ?_
      intro _ hw'
      obtain ⟨⟨dq, osq⟩, hw''⟩ := hw'
      subst hw''
      go_wp2
      exact ⟨⟨k + 1, by omega, by go_num, hbl.trans ((below_regrown wr dq osq).mono hbl.size)⟩, by simp [intOf]; omega⟩
    · obtain rfl : k = h := by omega
      have hk1 : ¬ (k : Int) < k := by omega
      go_wp2
      go_ret
      exact ⟨rfl, B0.trans (hbl.mono B0.size)⟩
end Go.Proofs.YtcdecnmhogmhaaaDoor
set_option linter.unusedVariables false
set_option linter.unusedSimpArgs false
namespace Go.Proofs.YtcdecnmhogmhaaaDoor
open Go.RowKit
set_option maxHeartbeats 8000000 in
theorem check_any (wd h R C : Nat) (l : List (List Cl)) (a : Option Addr) (c : Nat) (w : World) (hw1 : 1 ≤ wd) (hw2 : wd ≤ 1000) (hh1 : 1 ≤ h) (hh2 : h ≤ 1000) (hR : R < h) (hC : C < wd) (hl : l.length = h) (hr : ∀ i, i < h → (l.getD i []).length = wd ∧ FullOk (l.getD i [])) (ha : RowsIn w a l) (hT : Tabs w) :
    Calls Tryd.prog 21 #[.agg #[.int .i64 wd, .int .i64 h, .slice a h c, .int .i64 R, .int .i64 C]] w fun e w' => e = .returned (.int .i64 0) ∧ Below w.heap.size w w' := by
  have B0 := below_alloc w (.cells #[.int .i64 wd, .int .i64 h, .slice a h c, .int .i64 R, .int .i64 C] 28)
  have HA := Lib.hid (ha.below B0)
  have HT := Lib.hid (hT.below B0)
  have hsw : sideB (wd : Int) = true := by unfold sideB; rw [decide_eq_true (by omega), decide_eq_true (by omega)]; rfl
  have hsh : sideB (h : Int) = true := by unfold sideB; rw [decide_eq_true (by omega), decide_eq_true (by omega)]; rfl
  have t0 := heap_alloc_new w (.cells #[.int .i64 wd, .int .i64 h, .slice a h c, .int .i64 R, .int .i64 C] 28)
  have HRr := Lib.hid hr
  have e1 : ¬ (R : Int) < 0 := by omega
  have e2 : ¬ (h : Int) ≤ (R : Int) := by omega
  have e3 : ¬ (C : Int) < 0 := by omega
  have e4 : ¬ (wd : Int) ≤ (C : Int) := by omega
  have e5 : (R : Int) < h := by omega
  have e6 : (C : Int) < wd := by omega
  clear ha hr hT
  go_enter Tryd.func21, Tryd.ntmps21
  go_wp2_with (go_at_call 64; refine (side_any _ _).mono ?_; rintro e w1 ⟨rfl, rfl⟩)
  rename ((0 ≤ (R : Int) ∧ ¬h ≤ R) ∧ 0 ≤ (C : Int)) ∧ ¬wd ≤ C => hsp
  clear hsp e1 e2 e3 e4 e5 e6 hsw hsh hR hC
  generalize w.alloc (.cells #[.int .i64 wd, .int .i64 h, .slice a h c, .int .i64 R, .int .i64 C] 28) = W0 at *
  replace t0 := Lib.hid t0
  go_loopw [50] (fun iv wr => ∃ k : Nat, k ≤ h ∧ iv = .int .i64 (k : Int) ∧ Below W0.heap.size W0 wr) (fun iv _ => h - (intOf iv).toNat)
  case atStart => exact ⟨0, Nat.zero_le _, rfl, Below.refl _ _⟩
  case round =>
    obtain ⟨k, hk, rfl, hbl⟩ := hrel
    have t1 := blk_below t0.out hbl
    by_cases hlt : k < h
    · have hk1 : (k : Int) < h := by omega
      have hk0 : (0 : Int) ≤ k := by omega
      obtain ⟨bb, off, ra, rc, rfl, hbb, hrow, hci⟩ := (HA.out.below hbl) k (by omega)
      obtain ⟨hlen, hfull⟩ := HRr.out k hlt
      generalize l.getD k [] = r at *
      rw [hlen] at hrow
      have g0 : wr.cell? ⟨w.heap.size, 0, none⟩ = some (.int .i64 wd) := by rw [cell_of_row _ _ _ _ _ _ t1]; rfl
      have RO := rowmay_any r ra rc wr (by omega) hfull hci (HT.out.below hbl)
      rw [hlen] at RO
      replace RO := Lib.hid RO
      clear hfull hlen hci
      go_wp2_with (go_at_call 76; refine RO.out.mono ?_; rintro e w5 ⟨rfl, hb5⟩)
      go_roundw
      case rel => exact ⟨k + 1, by omega, by go_num, hbl.trans (hb5.mono hbl.size)⟩
      case measure => first | (simp [intOf]; omega) | (simp; omega)
    · obtain rfl : k = h := by omega
      have hk1 : ¬ (k : Int) < k := by omega
      go_wp2
      go_ret
      exact ⟨rfl, B0.trans (hbl.mono B0.size)⟩
end Go.Proofs.YtcdecnmhogmhaaaDoor
set_option linter.unusedVariables false
set_option linter.unusedSimpArgs false
namespace Go.Proofs.YtcdecnmhogmhaaaDoor
open Go.ChangeShapes Go.WideShapes Go.ChangeAt Go.RowKit Go.Deep Go.Joins
section
variable {H : Type} {enc : TypeId × Value → H} {W : World}
theorem addS_none (b off k : Nat) : (⟨b, off, none⟩ : Addr).add k = ⟨b, off + k, none⟩ := by unfold Addr.add; split <;> simp_all
set_option maxRecDepth 100000 in
theorem cellsIntS : Tryd.prog.cellsOf 3 = 1 := by kernel_rfl
set_option maxRecDepth 100000 in
theorem cellsSign : Tryd.prog.cellsOf 53 = 2 := by kernel_rfl
set_option maxRecDepth 100000 in
theorem arg_signs0 {base : Nat} {v0 : Value} {d0 : DataW H} {p : List MemPlace} (hv : Value.okWide Tryd.prog W .any base 22 v0) (h : DataW.Trod enc Tryd.prog W 0 (fun _ => true) true 22 v0 d0 p) :
    ∃ (l : List (Int × Int)) (a : Option Addr) (c : Nat), v0 = .slice a l.length c ∧ Signs W a l ∧ l.length ≤ 9223372036854775807 ∧ (a = none → c = 0) := by
  obtain ⟨a0, len, cap, rfl⟩ := okWide_slice Tryd.underlying22 hv
  obtain ⟨fuel, hf⟩ := h
  rcases open_slice_pairs Tryd.underlying22 Tryd.underlying53 cellsSign rfl rfl cellsIntS cellsIntS hf with ⟨hcs, _⟩ | ⟨a, len', cap', m, n, V0, V1, D0, D1, P0, P1, hcs, _, hl, hm, hmm, _, hcell⟩
  · simp [Value.cells] at hcs
    obtain ⟨rfl, rfl, rfl⟩ := hcs
    exact ⟨[], none, 0, rfl, fun j hj => absurd hj (Nat.not_lt_zero j), by simp, fun _ => rfl⟩
  · simp [Value.cells] at hcs
    obtain ⟨rfl, rfl, rfl⟩ := hcs
    have hlm : len ≤ m := by rw [hmm]; split <;> omega
    have key : ∀ i, i < len → ∃ q : Int × Int, V0 i = .int .i64 q.1 ∧ V1 i = .int .i64 q.2 := fun i hi => by
      obtain ⟨_, _, h1, h2⟩ := hcell i (by omega)
      obtain ⟨x, hx, _, _⟩ := DataW.trod_int Tryd.underlying3 h1
      obtain ⟨y, hy, _, _⟩ := DataW.trod_int Tryd.underlying3 h2
      exact ⟨(x, y), by simpa using hx, by simpa using hy⟩
    obtain ⟨F, hF⟩ : ∃ F : Nat → Int × Int, ∀ i, i < len → V0 i = .int .i64 (F i).1 ∧ V1 i = .int .i64 (F i).2 :=
      ⟨fun i => if h : i < len then (key i h).choose else (0, 0), fun i hi => by simp only [dif_pos hi]; exact (key i hi).choose_spec⟩
    clear key
    refine ⟨(List.range len).map F, some a, cap, by simp, ?_, by simp; unfold maxLen at hm; omega, fun h => by cases h⟩
    intro j hj
    have hj2 : j < len := by simpa using hj
    obtain ⟨c0, c1, _, _⟩ := hcell j (by omega)
    have hk := hF j hj2
    obtain ⟨b, off, sp⟩ := a
    have hsp : sp = none := by
      obtain ⟨c00, _⟩ := hcell 0 (by omega)
      have h1 : W.cell? ⟨b, off, sp⟩ = some (V0 0) := by simpa [Addr.add] using c00
      exact cell_spot h1
    subst hsp
    rw [addS_none] at c0 c1
    have hg : ((List.range len).map F).getD j (0, 0) = F j := by
      rw [List.getD, List.getElem?_map, List.getElem?_range hj2]; rfl
    rw [hg]
    refine ⟨b, off, rfl, block_lt_of_cell c0, ?_, ?_⟩
    · rw [c0, hk.1]
    · rw [show off + j * 2 + 1 = off + (j * 2 + 1) by omega, c1, hk.2]
theorem arg_signs {base : Nat} {v0 : Value} {d0 : DataW H} {p : List MemPlace} (hv : Value.okWide Tryd.prog W .any base 22 v0) (h : DataW.Trod enc Tryd.prog W 0 (fun _ => true) true 22 v0 d0 p) :
    ∃ (l : List (Int × Int)) (a : Option Addr) (c : Nat), v0 = .slice a l.length c ∧ Signs W a l ∧ l.length ≤ 9223372036854775807 := by
  obtain ⟨l, a, c, h1, h2, h3, _⟩ := arg_signs0 hv h
  exact ⟨l, a, c, h1, h2, h3⟩
theorem arg_sign {base : Nat} {v0 : Value} {d0 : DataW H} {p : List MemPlace} (hv : Value.okWide Tryd.prog W .any base 53 v0) (h : DataW.Trod enc Tryd.prog W 0 (fun _ => true) true 53 v0 d0 p) :
    ∃ (x y : Int), v0 = .agg #[.int .i64 x, .int .i64 y] := by
  obtain ⟨a0, a1, y0, y1, n, rfl, rfl, rfl, h0, h1⟩ := open_agg2 Tryd.underlying53 (by kernel_rfl) cellsSign hv h
  obtain ⟨x, hx, _, _⟩ := DataW.trod_int Tryd.underlying3 h0
  obtain ⟨y, hy, _, _⟩ := DataW.trod_int Tryd.underlying3 h1
  obtain rfl : a0 = .int .i64 x := by simpa using hx
  obtain rfl : a1 = .int .i64 y := by simpa using hy
  exact ⟨x, y, rfl⟩
end
end Go.Proofs.YtcdecnmhogmhaaaDoor
set_option linter.unusedVariables false
set_option linter.unusedSimpArgs false
namespace Go.Proofs.YtcdecnmhogmhaaaDoor
open Go.ChangeShapes Go.WideShapes Go.ChangeAt Go.RowKit Go.Deep Go.Joins
section
variable {H : Type} {enc : TypeId × Value → H} {W : World}
theorem trod_signs {v0 : Value} {fuel : Nat} {x : DataW H × List MemPlace} (hf : DataW.trod enc Tryd.prog W 0 (fun _ => true) true fuel 22 [v0] = some x) :
    ∃ (l : List (Int × Int)) (a : Option Addr) (c : Nat), v0 = .slice a l.length c ∧ Signs W a l ∧ l.length ≤ 9223372036854775807 := by
  rcases open_slice_pairs Tryd.underlying22 Tryd.underlying53 cellsSign rfl rfl cellsIntS cellsIntS hf with ⟨hcs, _⟩ | ⟨a, len, cap, m, n, V0, V1, D0, D1, P0, P1, hcs, _, hl, hm, hmm, _, hcell⟩
  · obtain rfl : v0 = .slice none 0 0 := by simpa using hcs
    exact ⟨[], none, 0, rfl, fun j hj => absurd hj (Nat.not_lt_zero j), by simp⟩
  · obtain rfl : v0 = .slice (some a) len cap := by simpa using hcs
    have hlm : len ≤ m := by rw [hmm]; split <;> omega
    have key : ∀ i, i < len → ∃ q : Int × Int, V0 i = .int .i64 q.1 ∧ V1 i = .int .i64 q.2 := fun i hi => by
      obtain ⟨_, _, h1, h2⟩ := hcell i (by omega)
      obtain ⟨x, hx, _, _⟩ := DataW.trod_int Tryd.underlying3 h1
      obtain ⟨y, hy, _, _⟩ := DataW.trod_int Tryd.underlying3 h2
      exact ⟨(x, y), by simpa using hx, by simpa using hy⟩
    obtain ⟨F, hF⟩ : ∃ F : Nat → Int × Int, ∀ i, i < len → V0 i = .int .i64 (F i).1 ∧ V1 i = .int .i64 (F i).2 :=
      ⟨fun i => if h : i < len then (key i h).choose else (0, 0), fun i hi => by simp only [dif_pos hi]; exact (key i hi).choose_spec⟩
    clear key
    refine ⟨(List.range len).map F, some a, cap, by simp, ?_, by simp; unfold maxLen at hm; omega⟩
    intro j hj
    have hj2 : j < len := by simpa using hj
    obtain ⟨c0, c1, _, _⟩ := hcell j (by omega)
    have hk := hF j hj2
    obtain ⟨b, off, sp⟩ := a
    have hsp : sp = none := by
      obtain ⟨c00, _⟩ := hcell 0 (by omega)
      have h1 : W.cell? ⟨b, off, sp⟩ = some (V0 0) := by simpa [Addr.add] using c00
      exact cell_spot h1
    subst hsp
    rw [addS_none] at c0 c1
    have hg : ((List.range len).map F).getD j (0, 0) = F j := by
      rw [List.getD, List.getElem?_map, List.getElem?_range hj2]; rfl
    rw [hg]
    refine ⟨b, off, rfl, block_lt_of_cell c0, ?_, ?_⟩
    · rw [c0, hk.1]
    · rw [show off + j * 2 + 1 = off + (j * 2 + 1) by omega, c1, hk.2]
theorem array5 {α : Type} {cs : Array α} (h : cs.size = 5) : ∃ c0 c1 c2 c3 c4, cs = #[c0, c1, c2, c3, c4] := by
  obtain ⟨l⟩ := cs
  match l, h with
  | [c0, c1, c2, c3, c4], _ => exact ⟨c0, c1, c2, c3, c4, rfl⟩
set_option maxRecDepth 100000 in
theorem cellsFive : Tryd.prog.cellsOf 24 = 5 := by kernel_rfl
theorem open_agg5 {P : Program} {w : World} {base : Nat} {spare : Nat → Bool} {held : Bool} {r : Reach} {b0 : Nat} {t : TypeId} {f0 f1 f2 f3 f4 : Field} {v : Value} {d : DataW H} {p : List MemPlace} (hs : P.underlying t = some (.struct #[f0, f1, f2, f3, f4])) (hone : oneCellFields P #[f0, f1, f2, f3, f4] = true) (hC : P.cellsOf t = 5)
    (hv : Value.okWide P w r b0 t v) (h : DataW.Trod enc P w base spare held t v d p) :
    ∃ (v0 v1 v2 v3 v4 : Value) (y0 y1 y2 y3 y4 : DataW H × List MemPlace) (n : Nat), v = .agg #[v0, v1, v2, v3, v4] ∧
      DataW.trod enc P w base spare held n f0.type [v0] = some y0 ∧ DataW.trod enc P w base spare held n f1.type [v1] = some y1 ∧ DataW.trod enc P w base spare held n f2.type [v2] = some y2 ∧ DataW.trod enc P w base spare held n f3.type [v3] = some y3 ∧ DataW.trod enc P w base spare held n f4.type [v4] = some y4 := by
  obtain ⟨cs, rfl, hsz⟩ := okWide_struct hs hv
  obtain ⟨c0, c1, c2, c3, c4, rfl⟩ := array5 (hsz.trans hC)
  obtain ⟨fuel, hf⟩ := h
  obtain ⟨xs, n, _, _, hl, hlen, hf⟩ := DataW.trod_struct hs hf
  obtain ⟨o0, k0⟩ := hone_of hone 0 f0 rfl
  obtain ⟨o1, k1⟩ := hone_of hone 1 f1 rfl
  obtain ⟨o2, k2⟩ := hone_of hone 2 f2 rfl
  obtain ⟨o3, k3⟩ := hone_of hone 3 f3 rfl
  obtain ⟨o4, k4⟩ := hone_of hone 4 f4 rfl
  match xs, hlen with
  | [y0, y1, y2, y3, y4], _ =>
    exact ⟨c0, c1, c2, c3, c4, y0, y1, y2, y3, y4, n, rfl, by simpa [Value.cells, o0, k0] using hf 0 f0 rfl, by simpa [Value.cells, o1, k1] using hf 1 f1 rfl, by simpa [Value.cells, o2, k2] using hf 2 f2 rfl, by simpa [Value.cells, o3, k3] using hf 3 f3 rfl, by simpa [Value.cells, o4, k4] using hf 4 f4 rfl⟩
theorem arg_five {base : Nat} {v0 : Value} {d0 : DataW H} {p : List MemPlace} (hv : Value.okWide Tryd.prog W .any base 24 v0) (h : DataW.Trod enc Tryd.prog W 0 (fun _ => true) true 24 v0 d0 p) :
    ∃ (l m : List (Int × Int)) (a b : Option Addr) (c d : Nat) (x y z : Int), v0 = .agg #[.slice a l.length c, .slice b m.length d, .int .i64 x, .int .i64 y, .int .i64 z] ∧ Signs W a l ∧ Signs W b m ∧ l.length ≤ 9223372036854775807 ∧ m.length ≤ 9223372036854775807 := by
  obtain ⟨v0, v1, v2, v3, v4, y0, y1, y2, y3, y4, n, rfl, t0, t1, t2, t3, t4⟩ := open_agg5 Tryd.underlying24 (by kernel_rfl) cellsFive hv h
  obtain ⟨l, a, c, rfl, s1, s2⟩ := trod_signs t0
  obtain ⟨m, b, d, rfl, s3, s4⟩ := trod_signs t1
  obtain ⟨x, hx, _, _⟩ := DataW.trod_int Tryd.underlying3 t2
  obtain ⟨y, hy, _, _⟩ := DataW.trod_int Tryd.underlying3 t3
  obtain ⟨z, hz, _, _⟩ := DataW.trod_int Tryd.underlying3 t4
  obtain rfl : v2 = .int .i64 x := by simpa using hx
  obtain rfl : v3 = .int .i64 y := by simpa using hy
  obtain rfl : v4 = .int .i64 z := by simpa using hz
  exact ⟨l, m, a, b, c, d, x, y, z, rfl, s1, s3, s2, s4⟩
end
end Go.Proofs.YtcdecnmhogmhaaaDoor
