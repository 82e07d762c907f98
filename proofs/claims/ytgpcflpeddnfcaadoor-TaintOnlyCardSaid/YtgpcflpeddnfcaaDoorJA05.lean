/-
  Joined: St1 St2 Ki2 Ki3 St3 St6 St11 Ta1 Ta2 ArgS Bj0.
-/
import Derived.Test.YtgpcflpeddnfcaaDoorJA01
import Derived.Test.YtgpcflpeddnfcaaDoorJA02
import Derived.Test.YtgpcflpeddnfcaaDoorJA03
import Derived.Test.YtgpcflpeddnfcaaDoorJA04
import Derived.Deep.Cut
import Derived.Deep.CutRange
import Derived.Deep.CutBlock
import Derived.Deep.QuietTactic
import Derived.BigQuiet
import Derived.Carry
import Derived.Deep.RegionHeld3
import Derived.Laws.Cover2
import Derived.Laws.FloatArith
import Derived.Deep.SlicePairs
import Derived.ChangeArms
import Derived.Lib.LaidTab
import Derived.Lib.LaidU8
import Derived.Lib.SmallJoins
import Derived.Test.YtgpcflpeddnfcaaDoorShelf
import Derived.Shelf.Strings.Builder2
set_option linter.unusedVariables false
set_option linter.unusedSimpArgs false
set_option maxRecDepth 100000
set_option linter.unusedVariables false
set_option linter.unusedSimpArgs false
namespace Go.Proofs.YtgpcflpeddnfcaaDoor
open Go.RowKit
def vL (L : List (Int × Int)) : List Int := L.map (·.1)
/-- Two lists under way. -/
structure UnS (S : Nat → Prop) (D : Nat) (wx : World) (a : Option Addr) (n c : Nat) (b : Option Addr) (m d : Nat) (L M : List (Int × Int)) : Prop where
  hn : L.length = n
  hm : M.length = m
  sa : SlS S wx a L c
  sb : SlS S wx b M d
  lv : lev (vL L) (vL M) = D
theorem UnS.below {S : Nat → Prop} {D : Nat} {w w' : World} {a : Option Addr} {n c : Nat} {b : Option Addr} {m d : Nat} {L M : List (Int × Int)} (h : UnS S D w a n c b m d L M) (hb : Below w.heap.size w w') : UnS S D w' a n c b m d L M :=
  ⟨h.hn, h.hm, h.sa.below hb, h.sb.below hb, h.lv⟩
theorem run_tail (w : World) (a : Option Addr) (n c : Nat) (h : 0 < n) : ∃ a' : Option Addr, (∀ w : World, (Instr.slice 28 (.slice a n c) (some (.int .i64 1)) none none).run Tryd.prog w = .ok (.slice a' (n - 1) (c - 1)) w) ∧ ∀ (S : Nat → Prop) (L : List (Int × Int)) (wx : World), L.length = n → SlS S wx a L c → SlS S wx a' L.tail (c - 1) ∧ L.tail.length = n - 1 := by
  refine ⟨_, fun w => run_cutL w a n c 1 (by omega), fun S L wx hL hs => ?_⟩
  have h1 := hs.sub 1 L.length (by omega) (Nat.le_refl _)
  rw [List.take_of_length_le (by rw [List.length_drop]; omega), List.drop_one] at h1
  exact ⟨h1.1, by rw [h1.2, hL]⟩
theorem run_init (w : World) (a : Option Addr) (n c : Nat) (h : 0 < n) (hc : n ≤ c) : ∃ a' : Option Addr, (∀ w : World, (Instr.slice 28 (.slice a n c) none (some (.int .i64 ((n : Int) - 1))) none).run Tryd.prog w = .ok (.slice a' (n - 1) c) w) ∧ ∀ (S : Nat → Prop) (L : List (Int × Int)) (wx : World), L.length = n → SlS S wx a L c → SlS S wx a' L.dropLast c ∧ L.dropLast.length = n - 1 := by
  refine ⟨(if c = 0 then a else a.map (·.add (0 * 2))), fun w => ?_, fun S L wx hL hs => ?_⟩
  · rw [show (n : Int) - 1 = ((n - 1 : Nat) : Int) by omega]
    exact run_cutH w a n c (n - 1) (by omega)
  · have h1 := hs.sub 0 (n - 1) (Nat.zero_le _) (by omega)
    rw [List.drop_zero, Nat.sub_zero, Nat.sub_zero] at h1
    have e : L.take (n - 1) = L.dropLast := by rw [List.dropLast_eq_take, hL]
    rw [e] at h1
    exact h1
theorem lev_tail (L M : List (Int × Int)) (hL : 0 < L.length) (hM : 0 < M.length) (h : (L.getD 0 (0, 0)).1 = (M.getD 0 (0, 0)).1) : lev (vL L.tail) (vL M.tail) = lev (vL L) (vL M) := by
  cases L with
  | nil => simp at hL
  | cons x L =>
    cases M with
    | nil => simp at hM
    | cons y M =>
      have e : x.1 = y.1 := h
      unfold vL
      rw [List.map_cons, List.map_cons, e, lev_same]; rfl
theorem lev_init (L M : List (Int × Int)) (hL : 0 < L.length) (hM : 0 < M.length) (h : (L.getD (L.length - 1) (0, 0)).1 = (M.getD (M.length - 1) (0, 0)).1) : lev (vL L.dropLast) (vL M.dropLast) = lev (vL L) (vL M) := by
  have hl : L ≠ [] := fun e => by rw [e] at hL; simp at hL
  have hm : M ≠ [] := fun e => by rw [e] at hM; simp at hM
  have e1 : vL L = vL L.dropLast ++ [(L.getLast hl).1] := by
    conv => lhs; rw [← List.dropLast_concat_getLast hl]
    unfold vL; simp
  have e2 : vL M = vL M.dropLast ++ [(M.getLast hm).1] := by
    conv => lhs; rw [← List.dropLast_concat_getLast hm]
    unfold vL; simp
  have e3 : (L.getLast hl).1 = (M.getLast hm).1 := by
    rw [List.getLast_eq_getElem, List.getLast_eq_getElem]
    rw [List.getD, List.getD, List.getElem?_eq_getElem (show L.length - 1 < L.length by omega), List.getElem?_eq_getElem (show M.length - 1 < M.length by omega)] at h
    exact h
  rw [e1, e2, e3, lev_suf]
def lenV : Value → Nat
  | .slice _ n _ => n
  | _ => 0
end Go.Proofs.YtgpcflpeddnfcaaDoor
set_option linter.unusedVariables false
set_option linter.unusedSimpArgs false
namespace Go.Proofs.YtgpcflpeddnfcaaDoor
open Go.RowKit
theorem hp_drewN (w : World) : ∀ n, (w.drewN n).heap = w.heap
  | 0 => rfl
  | n + 1 => hp_drewN w n
/-- A row of the table, its first k places told anew. -/
def rwL (A B : List Int) (i k m : Nat) : List Int := (List.range (m + 1)).map fun j => (((if j < k then dpL A B (i + 1) j else dpL A B i j) : Nat) : Int)
theorem rw_len (A B : List Int) (i k m : Nat) : (rwL A B i k m).length = m + 1 := by unfold rwL; simp
theorem rw_at (A B : List Int) (i k m j : Nat) (hj : j ≤ m) : (rwL A B i k m).getD j 0 = (((if j < k then dpL A B (i + 1) j else dpL A B i j) : Nat) : Int) := by
  unfold rwL
  rw [List.getD, List.getElem?_map, List.getElem?_range (by omega)]; rfl
theorem ints_ext {l m : List Int} (h : l.length = m.length) (hh : ∀ j, j < l.length → l.getD j 0 = m.getD j 0) : l = m := by
  apply List.ext_getElem h
  intro j h1 h2
  have := hh j h1
  simpa [List.getD, List.getElem?_eq_getElem h1, List.getElem?_eq_getElem h2] using this
theorem getD_setI (R : List Int) (i j : Nat) (x : Int) (hi : i < R.length) : (R.set i x).getD j 0 = if i = j then x else R.getD j 0 := by
  rw [List.getD, List.getElem?_set]
  by_cases h : i = j
  · rw [if_pos h, if_pos h, if_pos hi]; rfl
  · rw [if_neg h, if_neg h]; rfl
theorem rw_next (A B : List Int) (i k m : Nat) (hk : k ≤ m) : (rwL A B i k m).set k ((dpL A B (i + 1) k : Nat) : Int) = rwL A B i (k + 1) m := by
  refine ints_ext (by rw [List.length_set, rw_len, rw_len]) (fun j hj => ?_)
  rw [List.length_set, rw_len] at hj
  rw [getD_setI _ _ _ _ (by rw [rw_len]; omega), rw_at _ _ _ _ _ _ (by omega), rw_at _ _ _ _ _ _ (by omega)]
  by_cases e : k = j
  · subst e; rw [if_pos rfl, if_pos (by omega)]
  · rw [if_neg e]
    by_cases h : j < k
    · rw [if_pos h, if_pos (by omega)]
    · rw [if_neg h, if_neg (by omega)]
theorem rw_full (A B : List Int) (i m : Nat) : rwL A B i (m + 1) m = rwL A B (i + 1) 0 m := by
  refine ints_ext (by rw [rw_len, rw_len]) (fun j hj => ?_)
  rw [rw_len] at hj
  rw [rw_at _ _ _ _ _ _ (by omega), rw_at _ _ _ _ _ _ (by omega), if_pos hj, if_neg (by omega)]
def inL (k m : Nat) : List Int := (List.range (m + 1)).map fun j => if j < k then (j : Int) else 0
theorem in_len (k m : Nat) : (inL k m).length = m + 1 := by unfold inL; simp
theorem in_at (k m j : Nat) (hj : j ≤ m) : (inL k m).getD j 0 = if j < k then (j : Int) else 0 := by
  unfold inL
  rw [List.getD, List.getElem?_map, List.getElem?_range (by omega)]; rfl
theorem in_next (k m : Nat) (hk : k ≤ m) : (inL k m).set k (k : Int) = inL (k + 1) m := by
  refine ints_ext (by rw [List.length_set, in_len, in_len]) (fun j hj => ?_)
  rw [List.length_set, in_len] at hj
  rw [getD_setI _ _ _ _ (by rw [in_len]; omega), in_at _ _ _ (by omega), in_at _ _ _ (by omega)]
  by_cases e : k = j
  · subst e; rw [if_pos rfl, if_pos (by omega)]
  · rw [if_neg e]
    by_cases h : j < k
    · rw [if_pos h, if_pos (by omega)]
    · rw [if_neg h, if_neg (by omega)]
theorem in_0 (m : Nat) : inL 0 m = List.replicate (m + 1) 0 := by
  refine ints_ext (by rw [in_len]; simp) (fun j hj => ?_)
  rw [in_len] at hj
  rw [in_at _ _ _ (by omega), if_neg (by omega), List.getD, List.getElem?_replicate, if_pos hj]; rfl
theorem in_full (A B : List Int) (m : Nat) (hm : B.length = m) : inL (m + 1) m = rwL A B 0 0 m := by
  refine ints_ext (by rw [in_len, rw_len]) (fun j hj => ?_)
  rw [in_len] at hj
  rw [in_at _ _ _ (by omega), rw_at _ _ _ _ _ _ (by omega), if_pos hj, if_neg (by omega), dp_0 _ _ _ (by omega)]
end Go.Proofs.YtgpcflpeddnfcaaDoor
set_option linter.unusedVariables false
set_option linter.unusedSimpArgs false
namespace Go.Proofs.YtgpcflpeddnfcaaDoor
open Go.RowKit
abbrev Sg2 := Int × Int
/-- The blocks S stay as they are. -/
structure KeptK (S : Nat → Prop) (w w' : World) : Prop where
  os : w'.os = w.os
  tape : w'.tape = w.tape
  output : w'.output = w.output
  size : w.heap.size ≤ w'.heap.size
  block : ∀ k, S k → w'.heap[k]? = w.heap[k]?
theorem KeptK.trans {S : Nat → Prop} {w w1 w2 : World} (h : KeptK S w w1) (k : KeptK S w1 w2) : KeptK S w w2 :=
  ⟨k.os.trans h.os, k.tape.trans h.tape, k.output.trans h.output, Nat.le_trans h.size k.size, fun j hj => (k.block j hj).trans (h.block j hj)⟩
theorem KeptK.below {S : Nat → Prop} {w w' : World} (h : KeptK S w w') (B : Nat) (hS : ∀ k, k < B → S k) : Below B w w' :=
  ⟨h.os, h.tape, h.output, h.size, fun k hk => h.block k (hS k hk)⟩
theorem KeptK.of {S : Nat → Prop} {w w' : World} (h : Below w.heap.size w w') (hS : ∀ k, S k → k < w.heap.size) : KeptK S w w' := ⟨h.os, h.tape, h.output, h.size, fun k hk => h.block k (hS k hk)⟩
/-- The ring's texts. -/
def RiT (w : World) (P b : Nat) (T : List (List Sg2)) (vs : List SlV) : Prop := vs.length = T.length ∧ ∀ j, j < T.length → (vs.getD j sl0).2.1 = (T.getD j []).length ∧ SlS (fun k => k < w.heap.size ∧ k ≠ P ∧ k ≠ b) w (vs.getD j sl0).1 (T.getD j []) (vs.getD j sl0).2.2
theorem RiT.keep {w w' : World} {P b : Nat} {T : List (List Sg2)} {vs : List SlV} (h : RiT w P b T vs) (hs : w.heap.size ≤ w'.heap.size) (hk : ∀ k, k < w.heap.size → k ≠ P → k ≠ b → w'.heap[k]? = w.heap[k]?) : RiT w' P b T vs :=
  ⟨h.1, fun j hj => ⟨(h.2 j hj).1, ((h.2 j hj).2.keep hs (fun k hk' => hk k hk'.1 hk'.2.1 hk'.2.2)).mono (fun k hk' => ⟨Nat.lt_of_lt_of_le hk'.1 hs, hk'.2⟩)⟩⟩
section
variable {S : Nat → Prop} {P : Nat} {M o : Int} {T : List (List Sg2)} {h : Nat} {w w' : World}
theorem kept_setK {S : Nat → Prop} {P : Nat} {w : World} (hP : ∀ k, S k → k ≠ P) (i : Nat) (v : Value) : KeptK S w (w.setCell ⟨P, i, none⟩ v) :=
  ⟨rfl, rfl, rfl, by simp [World.setCell], fun k hk => Below.heap_setCell _ _ _ _ (hP k hk)⟩
/-- Where a turned hand is. -/
def tuH (h n : Nat) : Nat := if h = 0 then n - 1 else h - 1
end
end Go.Proofs.YtgpcflpeddnfcaaDoor
set_option linter.unusedVariables false
set_option linter.unusedSimpArgs false
namespace Go.Proofs.YtgpcflpeddnfcaaDoor
open Go.RowKit
/-- Lists of signs lie in memory, each with its room. -/
def SgsK (S : Nat → Prop) (w : World) (a : Option Addr) (H : List (List Sg2)) : Prop :=
  ∀ i, i < H.length → ∃ b off ai ci, a = some ⟨b, off, none⟩ ∧ S b ∧ b < w.heap.size ∧ w.cell? ⟨b, off + i, none⟩ = some (.slice ai (H.getD i []).length ci) ∧ SlS S w ai (H.getD i []) ci
theorem SgsK.below {S : Nat → Prop} {w w' : World} {a : Option Addr} {H : List (List Sg2)} (s : SgsK S w a H) (hb : Below w.heap.size w w') : SgsK S w' a H := fun i hi => by
  obtain ⟨b, off, ai, ci, e, hS, hlt, h1, h2⟩ := s i hi
  exact ⟨b, off, ai, ci, e, hS, Nat.lt_of_lt_of_le hlt hb.size, (hb.cell (p := ⟨b, off + i, none⟩) hlt).trans h1, h2.below hb⟩
theorem SgsK.mono {S Q : Nat → Prop} {w : World} {a : Option Addr} {H : List (List Sg2)} (s : SgsK S w a H) (hQ : ∀ k, S k → Q k) : SgsK Q w a H := fun i hi => by
  obtain ⟨b, off, ai, ci, e, hS, hlt, h1, h2⟩ := s i hi
  exact ⟨b, off, ai, ci, e, hQ b hS, hlt, h1, h2.mono hQ⟩
theorem SgsK.keep {S : Nat → Prop} {w w' : World} {a : Option Addr} {H : List (List Sg2)} (s : SgsK S w a H) (hz : w.heap.size ≤ w'.heap.size) (hk : ∀ k, S k → w'.heap[k]? = w.heap[k]?) : SgsK S w' a H := fun i hi => by
  obtain ⟨b, off, ai, ci, e, hS, hlt, h1, h2⟩ := s i hi
  refine ⟨b, off, ai, ci, e, hS, Nat.lt_of_lt_of_le hlt hz, ?_, h2.keep hz hk⟩
  rw [← h1]; unfold World.cell?; rw [hk b hS]
/-- Lists under way: a row of slices, each of the call's own. -/
structure RdK (B : Nat) (v : Value) (E : List (List Sg2)) (w : World) : Prop where
  ex : ∃ vs : List Value, w.ownsRow B 28 1 v E.length vs ∧ ∀ i, i < E.length → ∃ x, vs[i]? = some x ∧ OwS w B x (E.getD i [])
  le : B ≤ w.heap.size
theorem RdK.below {B : Nat} {v : Value} {E : List (List Sg2)} {w w' : World} (h : RdK B v E w) (hb : Below w.heap.size w w') : RdK B v E w' := by
  obtain ⟨vs, h1, h2⟩ := h.ex
  refine ⟨⟨vs, World.ownsRow.kept h1 (row := none) ⟨hb.os, hb.tape, hb.output, hb.size, fun k hk _ => hb.block k hk⟩ (by cases v.ownBlock <;> simp), fun i hi => by obtain ⟨x, e, hx⟩ := h2 i hi; exact ⟨x, e, ows_keep hx hb⟩⟩, Nat.le_trans h.le hb.size⟩
theorem infoSl : (Tryd.prog.info? 28).map (fun i => (i.zero, i.size, i.bytes)) = some (some (.slice none 0 0), 1, 24) := by kernel_rfl
theorem RdK.form {B : Nat} {v : Value} {E : List (List Sg2)} {w : World} (h : RdK B v E w) : ∃ a c, v = .slice a E.length c := by
  obtain ⟨vs, h1, _⟩ := h.ex
  rcases h1.2 with ⟨rfl, h0⟩ | ⟨g, cap, cur, rfl, _⟩
  · exact ⟨none, 0, by rw [h0]⟩
  · exact ⟨_, cap, rfl⟩
theorem RdK.sgs {B : Nat} {v : Value} {E : List (List Sg2)} {w : World} (h : RdK B v E w) : ∃ a c, v = .slice a E.length c ∧ E.length ≤ c ∧ (a = none → c = 0) ∧ SgsK (fun k => B ≤ k ∧ k < w.heap.size) w a E := by
  obtain ⟨vs, h1, h2⟩ := h.ex
  rcases h1.2 with ⟨rfl, h0⟩ | ⟨g, cap, cur, rfl, hB, hg, hle, _⟩
  · exact ⟨none, 0, by rw [h0], by omega, fun _ => rfl, fun j hj => by omega⟩
  · refine ⟨_, cap, rfl, hle, fun e => (by cases e), fun i hi => ?_⟩
    obtain ⟨x, e, hx⟩ := h2 i hi
    obtain ⟨ai, ci, rfl, hs⟩ := hx.sl
    exact ⟨g, 0, ai, ci, rfl, ⟨hB, blk_lt hg⟩, blk_lt hg, by rw [Nat.zero_add, h1.cellAt i (by omega)]; exact e, hs⟩
theorem RdK.next {B : Nat} {v x : Value} {E : List (List Sg2)} {L : List Sg2} {w w1 : World} {v' : Value} {vs : List Value} (h2 : ∀ i, i < E.length → ∃ x, vs[i]? = some x ∧ OwS w B x (E.getD i [])) (hvl : vs.length = E.length) (hw : w.ownsRow B 28 1 v E.length vs) (hx : OwS w B x L)
    (ho : w1.ownsRow B 28 1 v' (E.length + 1) (vs ++ [x])) (hg : w.grownBy w1 v.ownBlock) (hle : B ≤ w.heap.size) : RdK B v' (E ++ [L]) w1 := by
  have hk : ∀ y M, OwS w B y M → OwS w1 B y M := fun y M hy => World.ownsRow.kept hy hg (own_ne_own hy hw (by decide))
  refine ⟨⟨vs ++ [x], by rw [List.length_append]; exact ho, fun i hi => ?_⟩, Nat.le_trans hle hg.size⟩
  rw [List.length_append, List.length_singleton] at hi
  by_cases hlt : i < E.length
  · obtain ⟨y, e, hy⟩ := h2 i hlt
    refine ⟨y, by rw [List.getElem?_append_left (by omega)]; exact e, ?_⟩
    rw [show (E ++ [L]).getD i [] = E.getD i [] by rw [List.getD, List.getElem?_append_left hlt, List.getD]]
    exact hk _ _ hy
  · obtain rfl : i = E.length := by omega
    refine ⟨x, by rw [List.getElem?_append_right (by omega), hvl, Nat.sub_self]; rfl, ?_⟩
    rw [show (E ++ [L]).getD E.length [] = L by rw [List.getD, List.getElem?_append_right (Nat.le_refl _), Nat.sub_self]; rfl]
    exact hk _ _ hx
section
variable {S : Nat → Prop} {P : Nat} {M o : Int} {T : List (List Sg2)} {h : Nat} {w w' : World}
theorem getD_memT {T : List (List Sg2)} {j : Nat} (hj : j < T.length) : T.getD j [] ∈ T := by
  rw [List.getD, List.getElem?_eq_getElem hj]; exact List.getElem_mem hj
end
end Go.Proofs.YtgpcflpeddnfcaaDoor
set_option linter.unusedVariables false
set_option linter.unusedSimpArgs false
namespace Go.Proofs.YtgpcflpeddnfcaaDoor
open Go.RowKit
theorem farS {w : World} {p q i k : Nat} {u : Value} (h : p ≠ q) : (w.setCell ⟨p, i, none⟩ u).cell? ⟨q, k, none⟩ = w.cell? ⟨q, k, none⟩ := by
  unfold World.cell?
  rw [Below.heap_setCell _ _ _ _ (Ne.symm h)]
/-- What a distance's loops keep. -/
structure DsI (w1 : World) (G P : Nat) (N : Nat) (R : List Int) (wr : World) : Prop where
  b : Below w1.heap.size w1 wr
  g : wr.heap[G]? = some (.cells (iRow R) 3 (0, 0))
  p : wr.heap[P]? = some (.cells #[.slice (some ⟨G, 0, none⟩) N N] 53 (0, 0))
  n : R.length = N
  hG : w1.heap.size ≤ G
theorem DsI.below {w1 wr w' : World} {G P N : Nat} {R : List Int} (h : DsI w1 G P N R wr) (hb : Below wr.heap.size wr w') : DsI w1 G P N R w' :=
  ⟨seqB h.b hb, blk_below h.g hb, blk_below h.p hb, h.n, h.hG⟩
theorem DsI.put {w1 wr : World} {G P N : Nat} {R : List Int} (h : DsI w1 G P N R wr) (k : Nat) (x : Int) : DsI w1 G P N (R.set k x) (wr.setCell ⟨G, k, none⟩ (.int .i64 x)) := by
  have ne : P ≠ G := fun e => by have h1 := h.p; rw [e, h.g] at h1; simp at h1
  refine ⟨h.b.setCell (p := ⟨G, k, none⟩) h.hG _, ?_, ?_, by rw [List.length_set]; exact h.n, h.hG⟩
  · rw [← iRow_set]; exact blk_set h.g k _
  · rw [Below.heap_setCell _ _ _ _ ne]; exact h.p
theorem vL_at (L : List (Int × Int)) (i : Nat) (h : i < L.length) : (vL L).getD i 0 = (L.getD i (0, 0)).1 := by
  unfold vL
  rw [List.getD, List.getElem?_map, List.getD, List.getElem?_eq_getElem h]; rfl
end Go.Proofs.YtgpcflpeddnfcaaDoor
set_option linter.unusedVariables false
set_option linter.unusedSimpArgs false
namespace Go.Proofs.YtgpcflpeddnfcaaDoor
open Go.RowKit
theorem fbits_aw : floatBits .quo .f64 (floatOfInt .f64 1) (floatOfInt .f64 4) = some 4598175219545276416 ∧ floatBits .quo .f64 (floatOfInt .f64 3) (floatOfInt .f64 4) = some 4604930618986332160 ∧ floatBits .quo .f64 (floatOfInt .f64 0) (floatOfInt .f64 4) = some 0 ∧ floatBits .quo .f64 (floatOfInt .f64 0) (floatOfInt .f64 6) = some 0 ∧ floatBits .quo .f64 (floatOfInt .f64 1) (floatOfInt .f64 0) = some 9218868437227405312 ∧ floatBits .sub .f64 4607182418800017408 0 = some 4607182418800017408 ∧ floatBits .add .f64 0 4607182418800017408 = some 4607182418800017408 ∧ floatBits .add .f64 4607182418800017408 4611686018427387904 = some 4613937818241073152 ∧ floatBits .quo .f64 4613937818241073152 (floatOfInt .f64 2) = some 4609434218613702656 := by decide +kernel
def mnS : List Nat := [0, 4607182418800017408, 4613937818241073152]
end Go.Proofs.YtgpcflpeddnfcaaDoor
set_option linter.unusedVariables false
set_option linter.unusedSimpArgs false
namespace Go.Proofs.YtgpcflpeddnfcaaDoor
open Go.RowKit
/-- Bits that are no number. -/
def NaN64 (r : Nat) : Prop := ∃ s t, FloatKind.f64.format.read r = .nan s t
theorem nan_read (r : Nat) (h : 0x7ff0000000000000 < r % 2 ^ 63) : NaN64 r := by
  have hs : FloatKind.f64.format.signWeight = 2 ^ 63 := by decide +kernel
  have hb : FloatKind.f64.format.binade = 2 ^ 52 := by decide +kernel
  have hi : FloatKind.f64.format.infRung = 0x7ff0000000000000 := by decide +kernel
  unfold NaN64 Ieee.Format.read
  simp only [hs, hb, hi]
  have h1 : ¬ r % 2 ^ 63 < 2 ^ 52 := by omega
  have h2 : ¬ r % 2 ^ 63 < 0x7ff0000000000000 := by omega
  have h3 : ¬ r % 2 ^ 63 = 0x7ff0000000000000 := by omega
  rw [if_neg h1, if_neg h2, if_neg h3]
  exact ⟨_, _, rfl⟩
theorem nan_cut (x y t : Nat) : NaN64 ((Question.nanBits .f64 x y).cut t) := by
  apply nan_read
  show 0x7ff0000000000000 < ((t % 2) * 2 ^ 63 + 0x7ff0000000000000 + 1 + (t / 2) % (2 ^ 52 - 1)) % 2 ^ 63
  have h := Nat.mod_lt (t / 2) (show 0 < 2 ^ 52 - 1 by decide)
  have h2 : t % 2 = 0 ∨ t % 2 = 1 := by omega
  rcases h2 with h2 | h2 <;> rw [h2] <;> omega
theorem nan_order {r : Nat} (h : NaN64 r) (x : Nat) : FloatKind.f64.format.order r x = none := by
  obtain ⟨s, t, e⟩ := h
  unfold Ieee.Format.order
  rw [e]; rfl
theorem nan_order2 {r : Nat} (h : NaN64 r) (x : Nat) : FloatKind.f64.format.order x r = none := by
  obtain ⟨s, t, e⟩ := h
  unfold Ieee.Format.order
  rw [e]
  cases FloatKind.f64.format.read x <;> rfl
theorem nan_sub {r : Nat} (h : NaN64 r) (x : Nat) : floatBits .sub .f64 x r = none := by
  obtain ⟨s, t, e⟩ := h
  show FloatKind.f64.format.sub x r = none
  unfold Ieee.Format.sub
  rw [e]
  cases FloatKind.f64.format.read x <;> rfl
theorem nan_fun (op : BinOp) (hop : op = .sub ∨ op = .quo) (x y : Nat) (h : floatBits op .f64 x y = none) : ∃ F : World → Nat, (∀ w, NaN64 (F w)) ∧ ∀ (t : TypeId) (w : World), (Go.binOp op t (.float .f64 x) (.float .f64 y)).run Tryd.prog w = .ok (.float .f64 (F w)) w.drew := by
  refine ⟨fun w => (Question.nanBits .f64 x y).cut (w.tape w.drawn (.nanBits .f64 x y)), fun w => nan_cut _ _ _, fun t w => ?_⟩
  unfold floatBits at h
  rcases hop with rfl | rfl <;> simp only at h <;> simp [Go.binOp, Op.floatArith, h, Question.forced]
theorem zero_zero : floatBits .quo .f64 (floatOfInt .f64 0) (floatOfInt .f64 0) = none := by decide +kernel
end Go.Proofs.YtgpcflpeddnfcaaDoor
set_option linter.unusedVariables false
set_option linter.unusedSimpArgs false
namespace Go.Proofs.YtgpcflpeddnfcaaDoor
open Go.RowKit
theorem idx_any (Q : List Int) (a : Option Addr) (m c : Nat) (v : Int) (w : World) (hm : Q.length = m) (hl : m ≤ 100000000) (hQ : Row w a Q) :
    Calls Tryd.prog 196 #[.slice a m c, .int .i64 v] w fun e w' => ∃ r : Int, e = .returned (.int .i64 r) ∧ ((0 ≤ r) ↔ v ∈ Q) ∧ w = w' := by
  have HQ := Lib.hid hQ
  have HM := Lib.hid hm
  clear hQ hm
  go_enter Tryd.func196, Tryd.ntmps196
  go_wp2_with fail
  go_loopw [8] (fun iv wr => ∃ k : Nat, k ≤ m ∧ iv = .int .i64 (k : Int) ∧ w = wr ∧ Hid (∀ j, j < k → Q.getD j 0 ≠ v)) (fun iv _ => m - (intOf iv).toNat)
  case atStart => exact ⟨0, Nat.zero_le _, rfl, rfl, Lib.hid (fun j hj => absurd hj (Nat.not_lt_zero j))⟩
  case round =>
    obtain ⟨k, hk, rfl, rfl, HN⟩ := hrel
    by_cases hlt : k < m
    · have hk1 : (k : Int) < m := by omega
      have hk0 : (0 : Int) ≤ k := by omega
      obtain ⟨b, off, rfl, hc, _⟩ := HQ.out k (by rw [HM.out]; exact hlt)
      obtain ⟨x, hx⟩ : ∃ x, Q.getD k 0 = x := ⟨_, rfl⟩
      rw [hx] at hc
      have HX := Lib.hid hx
      clear hx
      by_cases hv : v = x
      · subst hv
        go_wp2_with fail
        go_ret
        refine ⟨_, rfl, ?_, rfl⟩
        refine ⟨fun _ => ?_, fun _ => hk0⟩
        rw [← HX.out, List.getD, List.getElem?_eq_getElem (by rw [HM.out]; exact hlt)]
        exact List.getElem_mem _
      · go_wp2_with fail
        go_roundw
        case rel =>
          refine ⟨k + 1, by omega, by go_num, trivial, Lib.hid (fun j hj => ?_)⟩
          by_cases e : j = k
          · rw [e, HX.out]; exact fun h => hv h.symm
          · exact HN.out j (by omega)
        case measure => (simp [intOf]; try omega)
    · obtain rfl : k = m := by omega
      have hk1 : ¬ (k : Int) < k := by omega
      go_wp2_with fail
      go_ret
      refine ⟨-1, rfl, ⟨fun h => absurd h (by decide), fun h => ?_⟩, rfl⟩
      exfalso
      obtain ⟨j, hj, e⟩ := List.getElem_of_mem h
      have := HN.out j (by rw [← HM.out]; exact hj)
      rw [List.getD, List.getElem?_eq_getElem hj] at this
      exact this e
theorem has_any (Q : List Int) (a : Option Addr) (m c : Nat) (v : Int) (w : World) (hm : Q.length = m) (hl : m ≤ 100000000) (hQ : Row w a Q) :
    Calls Tryd.prog 155 #[.slice a m c, .int .i64 v] w fun e w' => e = .returned (.bool (decide (v ∈ Q))) ∧ w = w' := by
  have ID := Lib.hid (idx_any Q a m c v w hm hl hQ)
  clear hQ
  go_enter Tryd.func155, Tryd.ntmps155
  go_wp2_with (go_at_call 196; refine ID.out.mono ?_; rintro e w1 ⟨r, rfl, hr, h⟩; have HR := Lib.hid hr; subst h; clear hr)
  all_goals
    go_ret
    exact ⟨ret_boolU (decide_eq_decide.2 HR.out), rfl⟩
theorem picker_any (a : Option Addr) (m c : Nat) (w : World) : Calls Tryd.prog 112 #[.slice a m c] w fun e w' => e = .returned (.func (.func 154) #[] #[.pointer (some ⟨w.heap.size, 0, none⟩)]) ∧ w.alloc (.cells #[.slice a m c] 53) = w' := by
  go_enter Tryd.func112, Tryd.ntmps112
  go_wp2
  go_ret
  exact ⟨rfl, rfl⟩
theorem picked_any (Q : List Int) (a : Option Addr) (m c P : Nat) (v u : Int) (w : World) (hm : Q.length = m) (hl : m ≤ 100000000) (hQ : Row w a Q) (hP : w.heap[P]? = some (.cells #[.slice a m c] 53 (0, 0))) :
    Calls Tryd.prog 154 #[.agg #[.int .i64 v, .int .i64 u], .pointer (some ⟨P, 0, none⟩)] w fun e w' => e = .returned (.bool (decide (u ∈ Q))) ∧ Below w.heap.size w w' := by
  have B0 := below_alloc w (.cells #[.int .i64 v, .int .i64 u] 70)
  have HA := Lib.hid fun w' (hb : Below w.heap.size w w') => has_any Q a m c u w' hm hl (hQ.below hb)
  have p0 := (B0.cell (p := ⟨P, 0, none⟩) (blk_lt hP)).trans (cell_of_row _ _ 0 _ _ _ hP)
  have N0 := Lib.hid B0
  dsimp at p0
  clear hQ hP B0
  go_enter Tryd.func154, Tryd.ntmps154
  go_wp2_with (go_at_call 155; refine (HA.out _ N0.out).mono ?_; rintro e w1 ⟨rfl, h⟩; subst h)
  go_ret
  exact ⟨rfl, N0.out⟩
end Go.Proofs.YtgpcflpeddnfcaaDoor
set_option linter.unusedVariables false
set_option linter.unusedSimpArgs false
namespace Go.Proofs.YtgpcflpeddnfcaaDoor
open Go.RowKit
theorem sg_newT (w : World) (v u : Int) (w' : World) (hb : Below (w.alloc (.cells #[.int .i64 v, .int .i64 u] 70)).heap.size (w.alloc (.cells #[.int .i64 v, .int .i64 u] 70)) w') : Signs w' (some ⟨w.heap.size, 0, none⟩) [(v, u)] := by
  have h := blk_below (heap_alloc_new w (.cells #[.int .i64 v, .int .i64 u] 70)) hb
  intro i hi
  obtain rfl : i = 0 := by simpa using hi
  refine ⟨_, _, rfl, blk_lt h, ?_, ?_⟩ <;> (rw [cell_of_row _ _ _ _ _ _ h]; rfl)
def onL (Q : List Int) (l : List (Int × Int)) : List (Int × Int) := l.filter fun s => decide (s.2 ∈ Q)
theorem onL_next (Q : List Int) (l : List (Int × Int)) (k : Nat) (hk : k < l.length) : onL Q (l.take (k + 1)) = onL Q (l.take k) ++ (if (l.getD k (0, 0)).2 ∈ Q then [l.getD k (0, 0)] else []) := by
  unfold onL
  rw [List.take_add_one, List.getElem?_eq_getElem hk, List.filter_append]
  rw [List.getD, List.getElem?_eq_getElem hk]
  by_cases h : (l[k]).2 ∈ Q <;> simp [h]
theorem onL_len (Q : List Int) (l : List (Int × Int)) (k : Nat) : (onL Q (l.take k)).length ≤ k := by
  unfold onL
  exact Nat.le_trans (List.length_filter_le _ _) (by rw [List.length_take]; omega)
set_option maxHeartbeats 4000000 in
theorem only_any (l : List (Int × Int)) (Q : List Int) (a b : Option Addr) (n c m d : Nat) (w : World) (hn : l.length = n) (hm : Q.length = m) (hl : n ≤ 100000) (hl2 : m ≤ 100000000) (hs : Signs w a l) (hQ : Row w b Q) :
    Calls Tryd.prog 57 #[.slice a n c, .slice b m d] w fun e w' => ∃ x, e = .returned x ∧ OwS w' w.heap.size x (onL Q l) ∧ Below w.heap.size w w' := by
  have HS := Lib.hid hs
  have HQ := Lib.hid hQ
  have HN := Lib.hid hn
  have HM := Lib.hid hm
  have PK := Lib.hid fun w => picker_any b m d w
  clear hs hQ hn hm
  go_enter Tryd.func57, Tryd.ntmps57
  go_upto_region 2 with (go_at_call 112; refine (PK.out _).mono ?_; rintro e w1 ⟨rfl, hw⟩; have P1 : Hid (w1.heap[w.heap.size]? = some (.cells #[.slice b m d] 53 (0, 0))) := Lib.hid (by rw [← hw]; exact heap_alloc_new _ _); have N1 : Hid (Below w.heap.size w w1) := Lib.hid (by rw [← hw]; exact below_alloc _ _); clear hw PK)
  obtain ⟨P, hP⟩ : ∃ P, w.heap.size = P := ⟨_, rfl⟩
  have HPq := Lib.hid hP
  rw [hP] at P1 ⊢
  clear hP
  go_wp2_with fail
  go_loopw [6, 13] (fun ov iv wr => ∃ (k : Nat), k ≤ n ∧ iv = .int .i64 (k : Int) ∧ Hid (OwS wr w1.heap.size ov (onL Q (l.take k))) ∧ Hid (Below w1.heap.size w1 wr)) (fun _ iv _ => n - (intOf iv).toNat)
  case atStart => exact ⟨0, Nat.zero_le _, rfl, Lib.hid (World.ownsRow_nil _ _ _ _), Lib.hid (Below.refl _ _)⟩
  case round =>
    obtain ⟨k, hk, rfl, HO, HB⟩ := hrel
    by_cases hlt : k < n
    · have hk1 : (k : Int) < n := by omega
      have hk0 : (0 : Int) ≤ k := by omega
      obtain ⟨bb, off, rfl, hblk, c1, c2⟩ := (HS.out.below (seqB N1.out HB.out)) k (by rw [HN.out]; exact hlt)
      have hnext := onL_next Q l k (by rw [HN.out]; exact hlt)
      have hlen := onL_len Q l k
      obtain ⟨y, hy⟩ : ∃ y, (onL Q (l.take k)).length = y := ⟨_, rfl⟩
      obtain ⟨Y, hY⟩ : ∃ Y, onL Q (l.take k) = Y := ⟨_, rfl⟩
      rw [hY] at hnext HO hlen hy
      obtain ⟨⟨v, u⟩, hvu⟩ : ∃ q, l.getD k (0, 0) = q := ⟨_, rfl⟩
      rw [hvu] at hnext c1 c2
      dsimp only at hnext c1 c2
      obtain ⟨ay, cy, rfl⟩ := HO.out.form hy
      have hyk : y ≤ k := by omega
      have BA := below_alloc wr (.cells #[.int .i64 v, .int .i64 u] 70)
      have O8 := Lib.hid (ows_keep HO.out BA)
      have N8 := Lib.hid (seqB HB.out BA)
      have X8 := heap_alloc_new wr (.cells #[.int .i64 v, .int .i64 u] 70)
      have XB := Lib.hid X8
      have PD := Lib.hid (picked_any Q b m d P v u (wr.alloc (.cells #[.int .i64 v, .int .i64 u] 70)) HM.out hl2 (HQ.out.below (seqB N1.out (seqB HB.out BA))) (blk_below P1.out (seqB HB.out BA)))
      have HL := Lib.hid hy
      have HX := Lib.hid hnext
      clear hy hY hvu hnext HO HB BA X8 hlen
      go_upto_region 6 with fail
      obtain ⟨W8, hW8⟩ : ∃ W, wr.alloc (.cells #[.int .i64 v, .int .i64 u] 70) = W := ⟨_, rfl⟩
      rw [hW8] at O8 N8 XB PD ⊢
      obtain ⟨X, hX⟩ : ∃ X, wr.heap.size = X := ⟨_, rfl⟩
      rw [hX] at XB ⊢
      clear hW8 hX c1 c2
      have z0 := cell_of_row _ _ 0 _ _ _ XB.out
      have z1 := cell_of_row _ _ 1 _ _ _ XB.out
      dsimp at z0 z1
      by_cases hin : u ∈ Q
      · rw [if_pos hin] at HX
        rw [decide_eq_true hin] at PD
        go_upto_region 7 with (go_at_call 154; refine PD.out.mono ?_; rintro e w6 ⟨rfl, hb⟩; have O6 := Lib.hid (ows_keep O8.out hb); have N6 := Lib.hid (seqB N8.out hb); have X6 := Lib.hid (blk_below XB.out hb); clear hb O8 N8 XB PD z0 z1)
        have z0 := cell_of_row _ _ 0 _ _ _ X6.out
        have z1 := cell_of_row _ _ 1 _ _ _ X6.out
        dsimp at z0 z1
        have BA := below_alloc w6 (.cells #[.int .i64 v, .int .i64 u] 70)
        have O7 := Lib.hid (ows_keep O6.out BA)
        have N7 := Lib.hid (seqB N6.out BA)
        have S7 := Lib.hid (sg_newT w6 v u _ (Below.refl _ _))
        clear O6 N6 X6 BA
        go_wp2_with (at_builtin; refine wpList_app_signs rfl _ _ rfl w1.heap.size _ y Y rfl HL.out O7.out (some ⟨w6.heap.size, 0, none⟩) 1 1 [(v, u)] rfl rfl S7.out (fun e => (by cases e)) ?g3 ?g4 ?_)
        case g3 => omega
        case g4 => exact N7.out.size
        intro ad5 c5 w5 hown5 hgrow5
        have N5 := Lib.hid (N7.out.grown hgrow5 N7.out.size (fun j hj => (O7.out.lt j hj).1))
        have HO := Lib.hid hown5
        clear hown5 hgrow5
        go_wp2
        go_roundw
        case rel => exact ⟨k + 1, by omega, by go_num, Lib.hid (by rw [HX.out]; exact HO.out), N5⟩
        case measure => (simp [intOf]; try omega)
      · rw [if_neg hin, List.append_nil] at HX
        rw [decide_eq_false hin] at PD
        go_wp2_with (go_at_call 154; refine PD.out.mono ?_; rintro e w6 ⟨rfl, hb⟩; have O6 := Lib.hid (ows_keep O8.out hb); have N6 := Lib.hid (seqB N8.out hb); clear hb O8 N8 XB PD z0 z1)
        go_roundw
        case rel => exact ⟨k + 1, by omega, by go_num, Lib.hid (by rw [HX.out]; exact O6.out), N6⟩
        case measure => (simp [intOf]; try omega)
    · obtain rfl : k = n := by omega
      have hkl : ¬ (k : Int) < (k : Int) := by omega
      rw [← HN.out, List.take_length] at HO
      go_wp2_with fail
      go_ret
      exact ⟨_, rfl, HO.out.mono (by rw [HPq.out]; rw [← HPq.out]; exact N1.out.size), seqB N1.out HB.out⟩
end Go.Proofs.YtgpcflpeddnfcaaDoor
set_option linter.unusedVariables false
set_option linter.unusedSimpArgs false
namespace Go.Proofs.YtgpcflpeddnfcaaDoor
open Go.ChangeShapes Go.WideShapes Go.ChangeAt Go.RowKit Go.Deep Go.Joins
section
variable {H : Type} {enc : TypeId × Value → H} {W : World}
theorem addS_none (b off k : Nat) : (⟨b, off, none⟩ : Addr).add k = ⟨b, off + k, none⟩ := by unfold Addr.add; split <;> simp_all
set_option maxRecDepth 100000 in
theorem cellsIntS : Tryd.prog.cellsOf 3 = 1 := by kernel_rfl
set_option maxRecDepth 100000 in
theorem cellsSign : Tryd.prog.cellsOf 70 = 2 := by kernel_rfl
set_option maxRecDepth 100000 in
theorem arg_signs0 {base : Nat} {v0 : Value} {d0 : DataW H} {p : List MemPlace} (hv : Value.okWide Tryd.prog W .any base 28 v0) (h : DataW.Trod enc Tryd.prog W 0 (fun _ => true) true 28 v0 d0 p) :
    ∃ (l : List (Int × Int)) (a : Option Addr) (c : Nat), v0 = .slice a l.length c ∧ Signs W a l ∧ l.length ≤ 9223372036854775807 ∧ (a = none → c = 0) := by
  obtain ⟨a0, len, cap, rfl⟩ := okWide_slice Tryd.underlying28 hv
  obtain ⟨fuel, hf⟩ := h
  rcases open_slice_pairs Tryd.underlying28 Tryd.underlying70 cellsSign rfl rfl cellsIntS cellsIntS hf with ⟨hcs, _⟩ | ⟨a, len', cap', m, n, V0, V1, D0, D1, P0, P1, hcs, _, hl, hm, hmm, _, hcell⟩
  · simp [Value.cells] at hcs
    obtain ⟨rfl, rfl, rfl⟩ := hcs
    exact ⟨[], none, 0, rfl, fun j hj => absurd hj (Nat.not_lt_zero j), by simp, fun _ => rfl⟩
  · simp [Value.cells] at hcs
    obtain ⟨rfl, rfl, rfl⟩ := hcs
    have hlm : len ≤ m := by rw [hmm]; split <;> omega
    have key : ∀ i, i < len → ∃ q : Int × Int, V0 i = .int .i64 q.1 ∧ V1 i = .int .i64 q.2 := fun i hi => by
      obtain ⟨_, _, h1, h2⟩ := hcell i (by omega)
      obtain ⟨x, hx, _, _⟩ := DataW.trod_int Tryd.underlying3 h1
      obtain ⟨y, hy, _, _⟩ := DataW.trod_int Tryd.underlying3 h2
      exact ⟨(x, y), by simpa using hx, by simpa using hy⟩
    obtain ⟨F, hF⟩ : ∃ F : Nat → Int × Int, ∀ i, i < len → V0 i = .int .i64 (F i).1 ∧ V1 i = .int .i64 (F i).2 :=
      ⟨fun i => if h : i < len then (key i h).choose else (0, 0), fun i hi => by simp only [dif_pos hi]; exact (key i hi).choose_spec⟩
    clear key
    refine ⟨(List.range len).map F, some a, cap, by simp, ?_, by simp; unfold maxLen at hm; omega, fun h => by cases h⟩
    intro j hj
    have hj2 : j < len := by simpa using hj
    obtain ⟨c0, c1, _, _⟩ := hcell j (by omega)
    have hk := hF j hj2
    obtain ⟨b, off, sp⟩ := a
    have hsp : sp = none := by
      obtain ⟨c00, _⟩ := hcell 0 (by omega)
      have h1 : W.cell? ⟨b, off, sp⟩ = some (V0 0) := by simpa [Addr.add] using c00
      exact cell_spot h1
    subst hsp
    rw [addS_none] at c0 c1
    have hg : ((List.range len).map F).getD j (0, 0) = F j := by
      rw [List.getD, List.getElem?_map, List.getElem?_range hj2]; rfl
    rw [hg]
    refine ⟨b, off, rfl, block_lt_of_cell c0, ?_, ?_⟩
    · rw [c0, hk.1]
    · rw [show off + j * 2 + 1 = off + (j * 2 + 1) by omega, c1, hk.2]
theorem arg_signs {base : Nat} {v0 : Value} {d0 : DataW H} {p : List MemPlace} (hv : Value.okWide Tryd.prog W .any base 28 v0) (h : DataW.Trod enc Tryd.prog W 0 (fun _ => true) true 28 v0 d0 p) :
    ∃ (l : List (Int × Int)) (a : Option Addr) (c : Nat), v0 = .slice a l.length c ∧ Signs W a l ∧ l.length ≤ 9223372036854775807 := by
  obtain ⟨l, a, c, h1, h2, h3, _⟩ := arg_signs0 hv h
  exact ⟨l, a, c, h1, h2, h3⟩
theorem arg_sign {base : Nat} {v0 : Value} {d0 : DataW H} {p : List MemPlace} (hv : Value.okWide Tryd.prog W .any base 70 v0) (h : DataW.Trod enc Tryd.prog W 0 (fun _ => true) true 70 v0 d0 p) :
    ∃ (x y : Int), v0 = .agg #[.int .i64 x, .int .i64 y] := by
  obtain ⟨a0, a1, y0, y1, n, rfl, rfl, rfl, h0, h1⟩ := open_agg2 Tryd.underlying70 (by kernel_rfl) cellsSign hv h
  obtain ⟨x, hx, _, _⟩ := DataW.trod_int Tryd.underlying3 h0
  obtain ⟨y, hy, _, _⟩ := DataW.trod_int Tryd.underlying3 h1
  obtain rfl : a0 = .int .i64 x := by simpa using hx
  obtain rfl : a1 = .int .i64 y := by simpa using hy
  exact ⟨x, y, rfl⟩
end
end Go.Proofs.YtgpcflpeddnfcaaDoor
set_option linter.unusedVariables false
set_option linter.unusedSimpArgs false
namespace Go.Proofs.YtgpcflpeddnfcaaDoor
open Go.RowKit
/-- Strings lie in memory. -/
def StI (w : World) (a : Option Addr) (E : List ByteArray) : Prop := ∀ i, i < E.length → ∃ b off, a = some ⟨b, off, none⟩ ∧ b < w.heap.size ∧ w.cell? ⟨b, off + i, none⟩ = some (.string (E.getD i ⟨#[]⟩))
theorem StI.below {w w' : World} {a : Option Addr} {E : List ByteArray} (h : StI w a E) (hb : Below w.heap.size w w') : StI w' a E := fun i hi => by
  obtain ⟨b, off, e, hlt, h1⟩ := h i hi
  exact ⟨b, off, e, Nat.lt_of_lt_of_le hlt hb.size, (hb.cell (p := ⟨b, off + i, none⟩) hlt).trans h1⟩
def bysL (s : ByteArray) : List UInt8 := s.data.toList
theorem bys_len (s : ByteArray) : (bysL s).length = s.size := by unfold bysL; rw [Array.length_toList]; rfl
/-- The first k texts, with sep between. -/
def joK (sep : ByteArray) (E : List ByteArray) : Nat → List UInt8
  | 0 => []
  | 1 => bysL (E.getD 0 ⟨#[]⟩)
  | k + 2 => joK sep E (k + 1) ++ bysL sep ++ bysL (E.getD (k + 1) ⟨#[]⟩)
theorem joK_len (sep : ByteArray) (E : List ByteArray) (M : Nat) (hs : sep.size ≤ M) (hE : ∀ i, (E.getD i ⟨#[]⟩).size ≤ M) : ∀ k, (joK sep E k).length ≤ 2 * k * M
  | 0 => Nat.zero_le _
  | 1 => by
    have := hE 0
    show (bysL _).length ≤ _
    have e : (bysL (E.getD 0 ⟨#[]⟩)).length = (E.getD 0 ⟨#[]⟩).size := bys_len _
    rw [e]; omega
  | k + 2 => by
    have h1 := joK_len sep E M hs hE (k + 1)
    have h2 := hE (k + 1)
    have e1 : (bysL (E.getD (k + 1) ⟨#[]⟩)).length = (E.getD (k + 1) ⟨#[]⟩).size := bys_len _
    have e2 : (bysL sep).length = sep.size := bys_len _
    show (joK sep E (k + 1) ++ bysL sep ++ bysL (E.getD (k + 1) ⟨#[]⟩)).length ≤ _
    rw [List.length_append, List.length_append, e1, e2]
    have : 2 * (k + 2) * M = 2 * (k + 1) * M + M + M := by rw [show 2 * (k + 2) = 2 * (k + 1) + 1 + 1 by omega, Nat.add_mul, Nat.add_mul]; omega
    omega
theorem bgrow_fresh (B b n : Nat) (w : World) (hB : B ≤ b) (hbk : w.heap[b]? = some (.cells #[.pointer none, .slice none 0 0] 181 (0, 0))) (hBw : B ≤ w.heap.size) (h0 : 0 < n) (hn : n ≤ 281474976710656) :
    Calls Tryd.prog 142 #[.pointer (some ⟨b, 0, none⟩), .int .i64 (n : Int)] w fun e w' => e = .returned (.tuple #[]) ∧ BldAt B b (.pointer (some ⟨b, 0, none⟩)) [] w' ∧ Below B w w' := by
  have C := Lib.hid (bcheck_fresh b w (by rw [Lib.cell_of_heap hbk]; rfl) (by simp [World.shape?, hbk]) (Lib.frozen_of_heap hbk 0))
  have hbk1 := blk_set hbk 0 (.pointer (some ⟨b, 0, none⟩))
  have hb1 : Below B w (w.setCell ⟨b, 0, none⟩ (.pointer (some ⟨b, 0, none⟩))) := (Below.refl B w).setCell (p := ⟨b, 0, none⟩) hB _
  obtain ⟨w1, hw1⟩ : ∃ v, w.setCell ⟨b, 0, none⟩ (.pointer (some ⟨b, 0, none⟩)) = v := ⟨_, rfl⟩
  rw [hw1] at C hbk1 hb1
  have c1 : w1.cell? ⟨b, 1, none⟩ = some (.slice none 0 0) := cell_of_row _ _ 1 _ _ _ hbk1
  have hni : (0 : Int) < (n : Int) := by omega
  have HBK := Lib.hid hbk1
  have HB1 := Lib.hid hb1
  have GR := Lib.hid fun (w' : World) (h : w'.heap[b]? = some (.cells #[.pointer (some ⟨b, 0, none⟩), .slice none 0 0] 181 (0, 0))) (hBw : B ≤ w'.heap.size) => Tryd.Builder_grow_fresh B b n w' hB h hBw hn
  clear hbk hbk1 hb1 hw1
  go_enter Tryd.func142, Tryd.ntmps142
  go_wp2_with (go_at_call 180; refine C.out.mono ?_; rintro e w2 ⟨rfl, rfl⟩)
  go_quiet (fail)
  have BD : Below w2.heap.size w2 (w2.drewN nq) := drewN_below (Below.refl w2.heap.size w2) nq
  have BD2 : Below B w2 (w2.drewN nq) := drewN_below (Below.refl B w2) nq
  have GR2 := Lib.hid (GR.out (w2.drewN nq) (blk_below HBK.out BD) (Nat.le_trans (Nat.le_trans hBw HB1.out.size) BD.size))
  have HD := Lib.hid (HB1.out.trans BD2)
  clear BD BD2
  generalize w2.drewN nq = W at *
  go_wp2_with (go_at_call 185; refine GR2.out.mono ?_; rintro e w3 ⟨rfl, hI, hb⟩; have HI := Lib.hid hI; have HB3 := Lib.hid hb; clear hI hb)
  go_end0
  exact ⟨rfl, HI.out, HD.out.trans HB3.out⟩
end Go.Proofs.YtgpcflpeddnfcaaDoor
