/-
  Joined: Ki2 Ki3 Hi4 Hi5 Hi6 ArgS Hi7 Hi8 Hi9 Hi10.
-/
import Derived.Test.YtdifkjmpdmlobaaDoorJH01
import Derived.Test.YtdifkjmpdmlobaaDoorJH03
import Derived.Carry
import Derived.BigQuiet
import Derived.Deep.RegionHeld3
import Derived.Deep.SlicePairs
import Derived.ChangeArms
import Derived.Lib.LaidTab
import Derived.Lib.LaidU8
import Derived.Lib.SmallJoins
import Derived.Deep.AppendLies
import Derived.Deep.CutRange
set_option linter.unusedVariables false
set_option linter.unusedSimpArgs false
set_option maxRecDepth 100000
set_option linter.unusedVariables false
set_option linter.unusedSimpArgs false
namespace Go.Proofs.YtdifkjmpdmlobaaDoor
open Go.RowKit
abbrev Sg2 := Int × Int
/-- The blocks S stay as they are. -/
structure KeptK (S : Nat → Prop) (w w' : World) : Prop where
  os : w'.os = w.os
  tape : w'.tape = w.tape
  output : w'.output = w.output
  size : w.heap.size ≤ w'.heap.size
  block : ∀ k, S k → w'.heap[k]? = w.heap[k]?
theorem KeptK.trans {S : Nat → Prop} {w w1 w2 : World} (h : KeptK S w w1) (k : KeptK S w1 w2) : KeptK S w w2 :=
  ⟨k.os.trans h.os, k.tape.trans h.tape, k.output.trans h.output, Nat.le_trans h.size k.size, fun j hj => (k.block j hj).trans (h.block j hj)⟩
theorem KeptK.below {S : Nat → Prop} {w w' : World} (h : KeptK S w w') (B : Nat) (hS : ∀ k, k < B → S k) : Below B w w' :=
  ⟨h.os, h.tape, h.output, h.size, fun k hk => h.block k (hS k hk)⟩
theorem KeptK.of {S : Nat → Prop} {w w' : World} (h : Below w.heap.size w w') (hS : ∀ k, S k → k < w.heap.size) : KeptK S w w' := ⟨h.os, h.tape, h.output, h.size, fun k hk => h.block k (hS k hk)⟩
/-- The ring's texts. -/
def RiT (w : World) (P b : Nat) (T : List (List Sg2)) (vs : List SlV) : Prop := vs.length = T.length ∧ ∀ j, j < T.length → (vs.getD j sl0).2.1 = (T.getD j []).length ∧ SlS (fun k => k < w.heap.size ∧ k ≠ P ∧ k ≠ b) w (vs.getD j sl0).1 (T.getD j []) (vs.getD j sl0).2.2
theorem RiT.keep {w w' : World} {P b : Nat} {T : List (List Sg2)} {vs : List SlV} (h : RiT w P b T vs) (hs : w.heap.size ≤ w'.heap.size) (hk : ∀ k, k < w.heap.size → k ≠ P → k ≠ b → w'.heap[k]? = w.heap[k]?) : RiT w' P b T vs :=
  ⟨h.1, fun j hj => ⟨(h.2 j hj).1, ((h.2 j hj).2.keep hs (fun k hk' => hk k hk'.1 hk'.2.1 hk'.2.2)).mono (fun k hk' => ⟨Nat.lt_of_lt_of_le hk'.1 hs, hk'.2⟩)⟩⟩
section
variable {S : Nat → Prop} {P : Nat} {M o : Int} {T : List (List Sg2)} {h : Nat} {w w' : World}
theorem kept_setK {S : Nat → Prop} {P : Nat} {w : World} (hP : ∀ k, S k → k ≠ P) (i : Nat) (v : Value) : KeptK S w (w.setCell ⟨P, i, none⟩ v) :=
  ⟨rfl, rfl, rfl, by simp [World.setCell], fun k hk => Below.heap_setCell _ _ _ _ (hP k hk)⟩
/-- Where a turned hand is. -/
def tuH (h n : Nat) : Nat := if h = 0 then n - 1 else h - 1
end
end Go.Proofs.YtdifkjmpdmlobaaDoor
set_option linter.unusedVariables false
set_option linter.unusedSimpArgs false
namespace Go.Proofs.YtdifkjmpdmlobaaDoor
open Go.RowKit
/-- Lists of signs lie in memory, each with its room. -/
def SgsK (S : Nat → Prop) (w : World) (a : Option Addr) (H : List (List Sg2)) : Prop :=
  ∀ i, i < H.length → ∃ b off ai ci, a = some ⟨b, off, none⟩ ∧ S b ∧ b < w.heap.size ∧ w.cell? ⟨b, off + i, none⟩ = some (.slice ai (H.getD i []).length ci) ∧ SlS S w ai (H.getD i []) ci
theorem SgsK.below {S : Nat → Prop} {w w' : World} {a : Option Addr} {H : List (List Sg2)} (s : SgsK S w a H) (hb : Below w.heap.size w w') : SgsK S w' a H := fun i hi => by
  obtain ⟨b, off, ai, ci, e, hS, hlt, h1, h2⟩ := s i hi
  exact ⟨b, off, ai, ci, e, hS, Nat.lt_of_lt_of_le hlt hb.size, (hb.cell (p := ⟨b, off + i, none⟩) hlt).trans h1, h2.below hb⟩
theorem SgsK.mono {S Q : Nat → Prop} {w : World} {a : Option Addr} {H : List (List Sg2)} (s : SgsK S w a H) (hQ : ∀ k, S k → Q k) : SgsK Q w a H := fun i hi => by
  obtain ⟨b, off, ai, ci, e, hS, hlt, h1, h2⟩ := s i hi
  exact ⟨b, off, ai, ci, e, hQ b hS, hlt, h1, h2.mono hQ⟩
theorem SgsK.keep {S : Nat → Prop} {w w' : World} {a : Option Addr} {H : List (List Sg2)} (s : SgsK S w a H) (hz : w.heap.size ≤ w'.heap.size) (hk : ∀ k, S k → w'.heap[k]? = w.heap[k]?) : SgsK S w' a H := fun i hi => by
  obtain ⟨b, off, ai, ci, e, hS, hlt, h1, h2⟩ := s i hi
  refine ⟨b, off, ai, ci, e, hS, Nat.lt_of_lt_of_le hlt hz, ?_, h2.keep hz hk⟩
  rw [← h1]; unfold World.cell?; rw [hk b hS]
/-- Lists under way: a row of slices, each of the call's own. -/
structure RdK (B : Nat) (v : Value) (E : List (List Sg2)) (w : World) : Prop where
  ex : ∃ vs : List Value, w.ownsRow B 28 1 v E.length vs ∧ ∀ i, i < E.length → ∃ x, vs[i]? = some x ∧ OwS w B x (E.getD i [])
  le : B ≤ w.heap.size
theorem RdK.below {B : Nat} {v : Value} {E : List (List Sg2)} {w w' : World} (h : RdK B v E w) (hb : Below w.heap.size w w') : RdK B v E w' := by
  obtain ⟨vs, h1, h2⟩ := h.ex
  refine ⟨⟨vs, World.ownsRow.kept h1 (row := none) ⟨hb.os, hb.tape, hb.output, hb.size, fun k hk _ => hb.block k hk⟩ (by cases v.ownBlock <;> simp), fun i hi => by obtain ⟨x, e, hx⟩ := h2 i hi; exact ⟨x, e, ows_keep hx hb⟩⟩, Nat.le_trans h.le hb.size⟩
theorem infoSl : (Tryd.prog.info? 28).map (fun i => (i.zero, i.size, i.bytes)) = some (some (.slice none 0 0), 1, 24) := by kernel_rfl
theorem RdK.form {B : Nat} {v : Value} {E : List (List Sg2)} {w : World} (h : RdK B v E w) : ∃ a c, v = .slice a E.length c := by
  obtain ⟨vs, h1, _⟩ := h.ex
  rcases h1.2 with ⟨rfl, h0⟩ | ⟨g, cap, cur, rfl, _⟩
  · exact ⟨none, 0, by rw [h0]⟩
  · exact ⟨_, cap, rfl⟩
theorem RdK.sgs {B : Nat} {v : Value} {E : List (List Sg2)} {w : World} (h : RdK B v E w) : ∃ a c, v = .slice a E.length c ∧ E.length ≤ c ∧ (a = none → c = 0) ∧ SgsK (fun k => B ≤ k ∧ k < w.heap.size) w a E := by
  obtain ⟨vs, h1, h2⟩ := h.ex
  rcases h1.2 with ⟨rfl, h0⟩ | ⟨g, cap, cur, rfl, hB, hg, hle, _⟩
  · exact ⟨none, 0, by rw [h0], by omega, fun _ => rfl, fun j hj => by omega⟩
  · refine ⟨_, cap, rfl, hle, fun e => (by cases e), fun i hi => ?_⟩
    obtain ⟨x, e, hx⟩ := h2 i hi
    obtain ⟨ai, ci, rfl, hs⟩ := hx.sl
    exact ⟨g, 0, ai, ci, rfl, ⟨hB, blk_lt hg⟩, blk_lt hg, by rw [Nat.zero_add, h1.cellAt i (by omega)]; exact e, hs⟩
theorem RdK.next {B : Nat} {v x : Value} {E : List (List Sg2)} {L : List Sg2} {w w1 : World} {v' : Value} {vs : List Value} (h2 : ∀ i, i < E.length → ∃ x, vs[i]? = some x ∧ OwS w B x (E.getD i [])) (hvl : vs.length = E.length) (hw : w.ownsRow B 28 1 v E.length vs) (hx : OwS w B x L)
    (ho : w1.ownsRow B 28 1 v' (E.length + 1) (vs ++ [x])) (hg : w.grownBy w1 v.ownBlock) (hle : B ≤ w.heap.size) : RdK B v' (E ++ [L]) w1 := by
  have hk : ∀ y M, OwS w B y M → OwS w1 B y M := fun y M hy => World.ownsRow.kept hy hg (own_ne_own hy hw (by decide))
  refine ⟨⟨vs ++ [x], by rw [List.length_append]; exact ho, fun i hi => ?_⟩, Nat.le_trans hle hg.size⟩
  rw [List.length_append, List.length_singleton] at hi
  by_cases hlt : i < E.length
  · obtain ⟨y, e, hy⟩ := h2 i hlt
    refine ⟨y, by rw [List.getElem?_append_left (by omega)]; exact e, ?_⟩
    rw [show (E ++ [L]).getD i [] = E.getD i [] by rw [List.getD, List.getElem?_append_left hlt, List.getD]]
    exact hk _ _ hy
  · obtain rfl : i = E.length := by omega
    refine ⟨x, by rw [List.getElem?_append_right (by omega), hvl, Nat.sub_self]; rfl, ?_⟩
    rw [show (E ++ [L]).getD E.length [] = L by rw [List.getD, List.getElem?_append_right (Nat.le_refl _), Nat.sub_self]; rfl]
    exact hk _ _ hx
section
variable {S : Nat → Prop} {P : Nat} {M o : Int} {T : List (List Sg2)} {h : Nat} {w w' : World}
theorem getD_memT {T : List (List Sg2)} {j : Nat} (hj : j < T.length) : T.getD j [] ∈ T := by
  rw [List.getD, List.getElem?_eq_getElem hj]; exact List.getElem_mem hj
end
end Go.Proofs.YtdifkjmpdmlobaaDoor
set_option linter.unusedVariables false
set_option linter.unusedSimpArgs false
namespace Go.Proofs.YtdifkjmpdmlobaaDoor
open Go.RowKit
/-- The entries behind Add, ahead of the cap. -/
def adF (l : List (Int × Int)) (E : List (List (Int × Int))) : List (List (Int × Int)) := (E.filter fun x => !sameV l x) ++ [wrL l 3]
/-- The entries behind Add. -/
def adE (M : Nat) (l : List (Int × Int)) (E : List (List (Int × Int))) : List (List (Int × Int)) := if M < (adF l E).length then (adF l E).tail else adF l E
/-- What entries are at any time. -/
structure HOk (M N : Nat) (E : List (List (Int × Int))) : Prop where
  le : E.length ≤ M
  ne : ∀ x ∈ E, 0 < x.length ∧ x.length ≤ N ∧ wrL x 3 = x
  pw : E.Pairwise (fun a b => a.map (·.1) ≠ b.map (·.1))
theorem wrL_len (l : List (Int × Int)) (u : Int) : (wrL l u).length = l.length := by simp [wrL]
theorem wrL_fst (l : List (Int × Int)) (u : Int) : (wrL l u).map (·.1) = l.map (·.1) := by simp [wrL, Function.comp_def]
theorem wrL_two (l : List (Int × Int)) (u : Int) : wrL (wrL l u) u = wrL l u := by simp [wrL, Function.comp_def]
theorem HOk.nil (M N : Nat) : HOk M N [] := ⟨Nat.zero_le _, fun x hx => (by cases hx), List.Pairwise.nil⟩
theorem HOk.ad {M N : Nat} {E : List (List (Int × Int))} {l : List (Int × Int)} (h : HOk M N E) (h0 : 0 < l.length) (hN : l.length ≤ N) : HOk (M + 1) N (adF l E) := by
  refine ⟨?_, fun x hx => ?_, ?_⟩
  · unfold adF
    rw [List.length_append, List.length_singleton]
    have := List.length_filter_le (fun x => !sameV l x) E
    have := h.le
    omega
  · unfold adF at hx
    rw [List.mem_append] at hx
    rcases hx with hx | hx
    · exact h.ne x (List.mem_filter.1 hx).1
    · obtain rfl := List.mem_singleton.1 hx
      rw [wrL_len]
      exact ⟨h0, hN, wrL_two l 3⟩
  · unfold adF
    rw [List.pairwise_append]
    refine ⟨h.pw.filter _, List.pairwise_singleton _ _, fun a ha b hb => ?_⟩
    obtain rfl := List.mem_singleton.1 hb
    rw [wrL_fst]
    intro e
    have h2 := (List.mem_filter.1 ha).2
    rw [(sameV_iff l a).2 e] at h2
    exact absurd h2 (by decide)
theorem HOk.cut {M N : Nat} {E : List (List (Int × Int))} (h : HOk (M + 1) N E) : HOk M N E.tail :=
  ⟨by have := h.le; rw [List.length_tail]; omega, fun x hx => h.ne x (List.mem_of_mem_tail hx), h.pw.tail⟩
theorem HOk.add {M N : Nat} {E : List (List (Int × Int))} {l : List (Int × Int)} (h : HOk M N E) (h0 : 0 < l.length) (hN : l.length ≤ N) : HOk M N (adE M l E) := by
  have h2 := h.ad h0 hN
  unfold adE
  split
  · exact h2.cut
  · exact ⟨by omega, h2.ne, h2.pw⟩
theorem adF_len (l : List (Int × Int)) (E : List (List (Int × Int))) : (adF l E).length = (E.filter fun x => !sameV l x).length + 1 := by unfold adF; rw [List.length_append]; rfl
theorem adE_last {M : Nat} {E : List (List (Int × Int))} {l : List (Int × Int)} (hM : 1 ≤ M) : 0 < (adE M l E).length ∧ (adE M l E).getD ((adE M l E).length - 1) [] = wrL l 3 := by
  have hl := adF_len l E
  have hF : (adF l E)[(adF l E).length - 1]? = some (wrL l 3) := by
    rw [hl]
    unfold adF
    rw [List.getElem?_append_right (by omega)]
    simp
  unfold adE
  split
  · rename_i hlt
    rw [List.length_tail]
    refine ⟨by omega, ?_⟩
    rw [List.getD, List.getElem?_tail, show (adF l E).length - 1 - 1 + 1 = (adF l E).length - 1 by omega, hF]
    rfl
  · refine ⟨by omega, ?_⟩
    rw [List.getD, hF]
    rfl
end Go.Proofs.YtdifkjmpdmlobaaDoor
set_option linter.unusedVariables false
set_option linter.unusedSimpArgs false
namespace Go.Proofs.YtdifkjmpdmlobaaDoor
open Go.RowKit
theorem setCells_at (g : Nat) (t : TypeId) (f : Nat × Nat) : ∀ (us : List Value) (o : Nat) (w : World) (cs : Array Value), w.heap[g]? = some (.cells cs t f) → ∃ cs' : Array Value, (w.setCells g o us).heap[g]? = some (.cells cs' t f) ∧ cs'.size = cs.size ∧ (∀ k, k < o ∨ o + us.length ≤ k → cs'[k]? = cs[k]?) ∧ ∀ j, j < us.length → o + j < cs.size → cs'[o + j]? = us[j]?
  | [], _, w, cs, h => ⟨cs, h, rfl, fun _ _ => rfl, fun j hj => absurd hj (Nat.not_lt_zero j)⟩
  | u :: us, o, w, cs, h => by
    have h1 := blk_set h o u
    obtain ⟨cs', h2, h3, h4, h5⟩ := setCells_at g t f us (o + 1) (w.setCell ⟨g, o, none⟩ u) _ h1
    rw [Array.size_setIfInBounds] at h3 h5
    refine ⟨cs', h2, h3, fun k hk => ?_, fun j hj hs => ?_⟩
    · rw [List.length_cons] at hk
      rw [h4 k (by omega), Array.getElem?_setIfInBounds_ne (by omega)]
    · rw [List.length_cons] at hj
      cases j with
      | zero => rw [h4 (o + 0) (by omega), Nat.add_zero, Array.getElem?_setIfInBounds_self_of_lt (by omega)]; rfl
      | succ j => rw [show o + (j + 1) = o + 1 + j by omega, h5 j (by omega) (by omega)]; rfl
theorem HdV.blk {B : Nat} {v : Value} {vs : List Value} {E : List (List (Int × Int))} {w : World} {n : Nat} (h : HdV B v vs E w) (hn : E.length = n) (h0 : 0 < n) : ∃ g cap cur, v = .slice (some ⟨g, 0, none⟩) n cap ∧ B ≤ g ∧ w.heap[g]? = some (.cells cur 28 (0, 0)) ∧ n ≤ cap ∧ cap ≤ maxLen ∧ cur.size = cap ∧ cur.toList.take n = vs := by
  have := h.row.2
  rw [hn] at this
  rcases this with ⟨_, h0⟩ | ⟨g, cap, cur, e, h1, h2, h3, h4, h5, h6⟩
  · omega
  · exact ⟨g, cap, cur, e, h1, h2, h3, h4, by simpa using h5, by simpa using h6⟩
theorem infoSSh : ∃ i : TypeInfo, Tryd.prog.info? 28 = some i ∧ i.size = 1 := by
  have h : (Tryd.prog.info? 28).map (fun i => i.size) = some 1 := by kernel_rfl
  cases hi : Tryd.prog.info? 28 with
  | none => rw [hi] at h; cases h
  | some i => rw [hi] at h; injection h with h; exact ⟨i, rfl, h⟩
theorem run_cutL3 (w : World) (g n c f : Nat) (h : f ≤ n) (hc : n ≤ c) : ∃ A, (∀ w, (Instr.slice 22 (.slice (some ⟨g, 0, none⟩) n c) (some (.int .i64 (f : Int))) none none).run Tryd.prog w = .ok (.slice (some A) (n - f) (c - f)) w) ∧ ∀ j, j < n - f → A.add j = ⟨g, f + j, none⟩ := by
  by_cases hcf : c = f
  · refine ⟨⟨g, 0, none⟩, fun w => ?_, fun j hj => by omega⟩
    rw [run_slice_l (P := Tryd.prog) w 22 _ n c (by kernel_rfl) .i64 (f : Int) (by omega) (by omega), elemSSh, sizeSSh]
    show Result.ok (Value.slice (if c = f then _ else _) (n - f) (c - f)) w = _
    rw [if_pos hcf]
  · refine ⟨⟨g, f, none⟩, fun w => ?_, fun j hj => by unfold Addr.add; split <;> simp_all⟩
    rw [run_slice_l (P := Tryd.prog) w 22 _ n c (by kernel_rfl) .i64 (f : Int) (by omega) (by omega), elemSSh, sizeSSh]
    show Result.ok (Value.slice (if c = f then _ else _) (n - f) (c - f)) w = _
    rw [if_neg hcf]
    have hadd : (⟨g, 0, none⟩ : Addr).add (f * 1) = ⟨g, f, none⟩ := by unfold Addr.add; split <;> simp_all
    rw [Option.map_some, Int.toNat_natCast, hadd]
theorem run_cutLH3 (w : World) (g n c f t : Nat) (h : f ≤ t) (hf : f < c) (ht : t ≤ c) : (Instr.slice 22 (.slice (some ⟨g, 0, none⟩) n c) (some (.int .i64 (f : Int))) (some (.int .i64 (t : Int))) none).run Tryd.prog w = .ok (.slice (some ⟨g, f, none⟩) (t - f) (c - f)) w := by
  rw [run_slice_lh (P := Tryd.prog) w 22 _ n c (by kernel_rfl) .i64 .i64 (f : Int) (t : Int) (by omega) (by omega) (by omega), elemSSh, sizeSSh]
  show Result.ok (Value.slice (if c = f then _ else _) (t - f) (c - f)) w = _
  rw [if_neg (by omega)]
  have hadd : (⟨g, 0, none⟩ : Addr).add (f * 1) = ⟨g, f, none⟩ := by unfold Addr.add; split <;> simp_all
  rw [Option.map_some, Int.toNat_natCast, hadd]
set_option maxHeartbeats 4000000 in
theorem hcut_any (E : List (List (Int × Int))) (v : Value) (vs : List Value) (B n m : Nat) (w : World) (h : HdV B v vs E w) (hn : E.length = n) (hm : n = m + 1) (hl : n ≤ 100000) :
    Calls Tryd.prog 53 #[v, .int .i64 0, .int .i64 1] w fun e w' => ∃ v' vs', e = .returned v' ∧ HdV B v' vs' E.tail w' ∧ w.grownBy w' v.ownBlock ∧ v'.ownBlock = v.ownBlock := by
  have H := Lib.hid h
  obtain ⟨g, cap, cur, rfl, hBg, hg, hnc, hcm, hcs, hct⟩ := h.blk hn (by omega)
  obtain ⟨i0, hi0, hz1⟩ := infoSSh
  obtain ⟨A, hcut1, hA⟩ := run_cutL3 w g n cap 1 (by omega) hnc
  rw [show n - 1 = m by omega] at hcut1 hA
  replace hcut1 : ∀ w, (Instr.slice 22 (.slice (some ⟨g, 0, none⟩) n cap) (some (.int .i64 1)) none none).run Tryd.prog w = .ok (.slice (some A) m (cap - 1)) w := hcut1
  have hcut0 : ∀ w, (Instr.slice 22 (.slice (some ⟨g, 0, none⟩) n cap) none (some (.int .i64 0)) none).run Tryd.prog w = .ok (.slice (some ⟨g, 0, none⟩) 0 cap) w := fun w => run_cutH2 w g n cap 0 (by omega) hnc
  have hcutc : ∀ w, (Instr.slice 22 (.slice (some ⟨g, 0, none⟩) m cap) (some (.int .i64 (m : Int))) (some (.int .i64 (n : Int))) none).run Tryd.prog w = .ok (.slice (some ⟨g, m, none⟩) 1 (cap - m)) w := fun w => by
    have := run_cutLH3 w g m cap m n (by omega) (by omega) hnc
    rw [show n - m = 1 by omega] at this
    exact this
  have hvl : vs.length = n := by have := h.len; rw [hn] at this; exact this
  obtain ⟨news, hnews⟩ : ∃ news, vs.drop 1 = news := ⟨_, rfl⟩
  have hlen : news.length = m := by rw [← hnews, List.length_drop]; omega
  have hat : ∀ k, k < n → cur[k]? = vs[k]? := fun k hk => by rw [← hct, List.getElem?_take, if_pos hk, Array.getElem?_toList]
  have s1 : Hid (news.length = m * 1) := Lib.hid (by rw [Nat.mul_one]; exact hlen)
  have hel : ∀ j u, news[j]? = some u → ∃ x, u = x ∧ j < m ∧ vs[j + 1]? = some x ∧ x.oneCell' = true := fun j u hu => by
    have hj : j < m := by
      have := (List.getElem?_eq_some_iff.1 hu).1
      rwa [hlen] at this
    rw [← hnews, List.getElem?_drop, Nat.add_comm] at hu
    obtain ⟨x, h1, h2⟩ := h.el (j + 1) (by omega)
    obtain ⟨a, c, rfl, _⟩ := h2.sl
    rw [hu] at h1
    injection h1 with h1
    exact ⟨_, rfl, hj, hu, by rw [h1]; rfl⟩
  have s2 : Hid (∀ j u, news[j]? = some u → w.drew.cell? (A.add j) = some u) := Lib.hid fun j u hu => by
    obtain ⟨x, rfl, hj, hx, _⟩ := hel j u hu
    rw [hA j hj]
    show w.cell? _ = _
    rw [cell_of_row _ g _ _ _ _ hg, Nat.add_comm, hat _ (by omega), hx]
  have s3 : Hid (∀ u ∈ news, u.oneCell' = true) := Lib.hid fun u hu => by
    obtain ⟨j, hj, rfl⟩ := List.getElem_of_mem hu
    obtain ⟨x, e, _, _, h1⟩ := hel j _ (List.getElem?_eq_getElem hj)
    exact e ▸ h1
  have s4 : Hid (∀ j, j < news.length → (w.drew.cell? ⟨g, 0 + 0 * 1 + j, none⟩).isSome = true ∧ w.drew.frozen? ⟨g, 0 + 0 * 1 + j, none⟩ = false) := Lib.hid fun j hj => by
    refine ⟨?_, frozen_of_row _ g _ _ _ hg⟩
    show (w.cell? _).isSome = true
    rw [cell_of_row _ g _ _ _ _ hg, hat _ (by omega), List.getElem?_eq_getElem (by omega)]; rfl
  obtain ⟨cs1, z1, z2, z3, z4⟩ := setCells_at g _ _ news 0 w.drew cur hg
  have gr1 := (setCells_blk g _ _ news 0 w.drew cur hg).2
  obtain ⟨W1, hW1⟩ : ∃ W1, w.drew.setCells g (0 + 0 * 1) news = W1 := ⟨_, rfl⟩
  rw [show 0 + 0 * 1 = 0 from rfl] at hW1
  rw [hW1] at z1 gr1
  have hW : Hid (w.drew.setCells g (0 + 0 * 1) news = W1) := Lib.hid hW1
  have hcl : ∀ ty, (Builtin.clear_ #[22] ty #[.slice (some ⟨g, m, none⟩) 1 (cap - m)]).run Tryd.prog W1 = .ok (.tuple #[]) (W1.setCells g m (List.replicate 1 (.slice none 0 0))) := fun ty =>
    Lib.run_clear_slice W1 _ _ ty _ Tryd.underlying22 zeroSSh rfl rfl g m _ _ (by omega) (fun t ht => by
      have := cell_of_row _ g (m + t) _ _ _ z1
      rw [this, z3 _ (by omega), hat _ (by omega), List.getElem?_eq_getElem (by omega)]; rfl) (fun t ht => frozen_of_row _ g (m + t) _ _ z1)
  obtain ⟨cs2, y1, y2, y3, _⟩ := setCells_at g _ _ (List.replicate 1 (.slice none 0 0)) m W1 cs1 z1
  have gr2 := (setCells_blk g _ _ (List.replicate 1 (.slice none 0 0)) m W1 cs1 z1).2
  obtain ⟨W2, hW2⟩ : ∃ W2, W1.setCells g m (List.replicate 1 (.slice none 0 0)) = W2 := ⟨_, rfl⟩
  rw [hW2] at hcl y1 gr2
  have gr0 : w.grownBy w.drew (some g) := ⟨rfl, rfl, rfl, Nat.le_refl _, fun _ _ _ => rfl⟩
  have hgr : w.grownBy W2 (some g) := (gr0.trans gr1).trans gr2
  have hfin : HdV B (.slice (some ⟨g, 0, none⟩) m cap) news E.tail W2 := by
    have hlt : E.tail.length = m := by rw [List.length_tail]; omega
    refine ⟨⟨by rw [hlt]; omega, .inr ⟨g, cap, cs2, by rw [hlt], hBg, y1, by rw [hlt]; omega, hcm, by rw [y2, z2]; omega, ?_⟩⟩, by rw [hlt, hlen], fun k hk => ?_⟩
    · rw [hlt, Nat.mul_one]
      apply List.ext_getElem?
      intro k
      rw [List.getElem?_take]
      by_cases hk : k < m
      · rw [if_pos hk, Array.getElem?_toList, y3 k (by omega)]
        have := z4 k (by omega) (by omega)
        rw [Nat.zero_add] at this
        exact this
      · rw [if_neg hk, List.getElem?_eq_none (by omega)]
    · rw [hlt] at hk
      obtain ⟨x, h1, h2⟩ := h.el (k + 1) (by omega)
      refine ⟨x, by rw [← hnews, List.getElem?_drop, Nat.add_comm]; exact h1, ?_⟩
      have e : E.tail.getD k [] = E.getD (k + 1) [] := by rw [List.getD, List.getElem?_tail, List.getD]
      rw [e]
      exact ows_grown h2 hg hgr
  have HF := Lib.hid hfin
  have HG := Lib.hid hgr
  have hn1 : (1 : Int) ≤ n := by omega
  have hn2 : ¬ n = 0 := by omega
  have hnc' : (n : Int) ≤ cap := by omega
  have hmc : m ≤ cap := by omega
  have HM := Lib.hid hm
  clear h H hct hat hel hlen hnews z1 z2 z3 z4 gr0 gr1 hW1 y1 y2 y3 gr2 hW2 hgr hfin hA hg hBg hcs hvl hn hm
  go_enter Tryd.func53, Tryd.ntmps53
  go_wp2_with fail
  go_region_law (refine step_append_room rfl (.tmp 22) (.tmp 25) 22 rfl 28 i0 1 Tryd.underlying22 hi0 hz1 g 0 0 cap (by simp [Act.eval, Act.put]) A m (cap - 1) news (by simp [Act.eval, Act.put]) s1.out s2.out s3.out (by omega) s4.out ?_; rw [hW.out])
  go_wp2
  go_ret
  exact ⟨_, _, rfl, HF.out, HG.out, rfl⟩
end Go.Proofs.YtdifkjmpdmlobaaDoor
set_option linter.unusedVariables false
set_option linter.unusedSimpArgs false
namespace Go.Proofs.YtdifkjmpdmlobaaDoor
open Go.RowKit
/-- A history in block O. -/
structure HsS (B O M N : Nat) (E : List (List (Int × Int))) (hd : Nat) (T : List (Int × Int)) (w : World) : Prop where
  ex : ∃ vE vs vT, w.heap[O]? = some (.cells #[.int .i64 M, .int .i64 N, vE, .int .i64 hd, vT] 91 (0, 0)) ∧ HdV B vE vs E w ∧ OwS w B vT T
  le : B ≤ O
theorem HdV.form {B : Nat} {v : Value} {vs : List Value} {E : List (List (Int × Int))} {w : World} {n : Nat} (h : HdV B v vs E w) (hn : E.length = n) : ∃ a c, v = .slice a n c := by
  have := h.row.2
  rw [hn] at this
  rcases this with ⟨rfl, h0⟩ | ⟨g, cap, cur, rfl, _⟩
  · exact ⟨none, 0, by rw [h0]⟩
  · exact ⟨_, cap, rfl⟩
theorem HdV.setO {B O : Nat} {v : Value} {vs : List Value} {E : List (List (Int × Int))} {w : World} {cs : Array Value} {fr : Nat × Nat} (h : HdV B v vs E w) (hO : w.heap[O]? = some (.cells cs 91 fr)) (i : Nat) (u : Value) : HdV B v vs E (w.setCell ⟨O, i, none⟩ u) :=
  ⟨own_set h.row (own_ne_kind h.row hO (by decide)) u, h.len, fun j hj => by obtain ⟨x, e, hx⟩ := h.el j hj; exact ⟨x, e, by unfold OwS at hx ⊢; exact own_set hx (own_ne_kind hx hO (by decide)) u⟩⟩
theorem HdV.nil (B : Nat) (w : World) : HdV B (.slice none 0 0) [] [] w := ⟨World.ownsRow_nil _ _ _ _, rfl, fun i hi => absurd hi (Nat.not_lt_zero i)⟩
theorem ows_setO {B O : Nat} {v : Value} {l : List (Int × Int)} {w : World} {cs : Array Value} {fr : Nat × Nat} (h : OwS w B v l) (hO : w.heap[O]? = some (.cells cs 91 fr)) (i : Nat) (u : Value) : OwS (w.setCell ⟨O, i, none⟩ u) B v l := by
  unfold OwS at h ⊢; exact own_set h (own_ne_kind h hO (by decide)) u
/-- An entry is laid behind the row. -/
theorem HdV.push {B : Nat} {vE v' x : Value} {vs : List Value} {E : List (List (Int × Int))} {l : List (Int × Int)} {w w5 : World} (h2 : HdV B vE vs E w) (hx : OwS w B x l) (ho : w5.ownsRow B 28 1 v' (E.length + 1) (vs ++ [x])) (hg : w.grownBy w5 vE.ownBlock) : HdV B v' (vs ++ [x]) (E ++ [l]) w5 := by
  have hkS : ∀ y M, OwS w B y M → OwS w5 B y M := fun y M hy => World.ownsRow.kept hy hg (own_ne_own hy h2.row (by decide))
  refine ⟨by rw [List.length_append]; exact ho, by simp [h2.len], fun i hi => ?_⟩
  rw [List.length_append, List.length_singleton] at hi
  by_cases hlt : i < E.length
  · obtain ⟨y, e, hy⟩ := h2.el i hlt
    refine ⟨y, by rw [List.getElem?_append_left (by rw [h2.len]; exact hlt)]; exact e, ?_⟩
    rw [show (E ++ [l]).getD i [] = E.getD i [] by rw [List.getD, List.getElem?_append_left hlt, List.getD]]
    exact hkS _ _ hy
  · obtain rfl : i = E.length := by omega
    refine ⟨x, by rw [List.getElem?_append_right (by rw [h2.len]; omega), h2.len, Nat.sub_self]; rfl, ?_⟩
    rw [show (E ++ [l]).getD E.length [] = l by rw [List.getD, List.getElem?_append_right (Nat.le_refl _), Nat.sub_self]; rfl]
    exact hkS _ _ hx
section
variable {B O M N : Nat} {E : List (List (Int × Int))} {hd : Nat} {T : List (Int × Int)} {w w' : World}
theorem HsS.below (h : HsS B O M N E hd T w) (hb : Below w.heap.size w w') : HsS B O M N E hd T w' := by
  obtain ⟨vE, vs, vT, h1, h2, h3⟩ := h.ex
  exact ⟨⟨vE, vs, vT, blk_below h1 hb, h2.below hb, ows_keep h3 hb⟩, h.le⟩
theorem HsS.lt (h : HsS B O M N E hd T w) : B ≤ w.heap.size ∧ O < w.heap.size := by
  obtain ⟨vE, vs, vT, h1, h2, h3⟩ := h.ex
  have := blk_lt h1
  have := h.le
  exact ⟨by omega, by omega⟩
theorem HsS.hand (h : HsS B O M N E hd T w) (hd' : Nat) : HsS B O M N E hd' T (w.setCell ⟨O, 3, none⟩ (.int .i64 hd')) := by
  obtain ⟨vE, vs, vT, h1, h2, h3⟩ := h.ex
  exact ⟨⟨vE, vs, vT, blk_set h1 3 _, h2.setO h1 3 _, ows_setO h3 h1 3 _⟩, h.le⟩
theorem HsS.type {v' : Value} {T' : List (Int × Int)} (h : HsS B O M N E hd T w) (hv : OwS w B v' T') : HsS B O M N E hd T' (w.setCell ⟨O, 4, none⟩ v') := by
  obtain ⟨vE, vs, vT, h1, h2, h3⟩ := h.ex
  exact ⟨⟨vE, vs, v', blk_set h1 4 _, h2.setO h1 4 _, ows_setO hv h1 4 _⟩, h.le⟩
/-- What the row's change and the store leave. -/
theorem HsS.step {vE v' vT : Value} {vs vs' : List Value} {E' : List (List (Int × Int))} {w1 : World} (h1 : w.heap[O]? = some (.cells #[.int .i64 M, .int .i64 N, vE, .int .i64 hd, vT] 91 (0, 0))) (h2 : HdV B vE vs E w) (h3 : OwS w B vT T) (hle : B ≤ O) (hg : w.grownBy w1 vE.ownBlock) (hv : HdV B v' vs' E' w1) :
    w1.heap[O]? = some (.cells #[.int .i64 M, .int .i64 N, vE, .int .i64 hd, vT] 91 (0, 0)) ∧ OwS w1 B vT T ∧ Below B w w1 := by
  have hOne : vE.ownBlock ≠ some O := own_ne_kind h2.row h1 (by decide)
  have hO5 := (hg.block O (blk_lt h1) (fun e => hOne e.symm)).trans h1
  refine ⟨hO5, World.ownsRow.kept h3 hg (own_ne_own h3 h2.row (by decide)), hg.os, hg.tape, hg.output, hg.size, fun k hk => hg.block k (by have := blk_lt h1; omega) (fun e => ?_)⟩
  have := (h2.row.lt k e.symm).1
  omega
theorem below_setO {w w1 : World} (hb : Below B w w1) (hle : B ≤ O) (i : Nat) (u : Value) : Below B w (w1.setCell ⟨O, i, none⟩ u) := ⟨hb.os, hb.tape, hb.output, by have := hb.size; simpa [World.setCell] using this, fun k hk => (Below.heap_setCell w1 ⟨O, i, none⟩ u k (by show k ≠ O; omega)).trans (hb.block k hk)⟩
theorem hs_new (M N : Int) (m n : Nat) (w : World) (hM : M = m) (hN : N = n) (h1 : 1 ≤ m) (h2 : m ≤ 1000) (h3 : 1 ≤ n) (h4 : n ≤ 4096) :
    Calls Tryd.prog 11 #[.int .i64 M, .int .i64 N] w fun e w' => ∃ O, e = .returned (.tuple #[.pointer (some ⟨O, 0, none⟩), .int .i64 0]) ∧ HsS w.heap.size O m n [] 0 [] w' ∧ Below w.heap.size w w' := by
  have hb := below_alloc w (.cells #[.int .i64 M, .int .i64 N, .slice none 0 0, .int .i64 0, .slice none 0 0] 91)
  have hr := heap_alloc_new w (.cells #[.int .i64 M, .int .i64 N, .slice none 0 0, .int .i64 0, .slice none 0 0] 91)
  have HF : Hid (HsS w.heap.size w.heap.size m n [] 0 [] (w.alloc (.cells #[.int .i64 M, .int .i64 N, .slice none 0 0, .int .i64 0, .slice none 0 0] 91))) := Lib.hid ⟨⟨_, _, _, by rw [hM, hN] at hr ⊢; exact hr, HdV.nil _ _, ows_nil _ _⟩, Nat.le_refl _⟩
  have HB := Lib.hid hb
  have k1 : ¬ M < 1 := by omega
  have k2 : ¬ 1000 < M := by omega
  have k3 : ¬ N < 1 := by omega
  have k4 : ¬ 4096 < N := by omega
  clear hb hr hM hN
  go_enter Tryd.func11, Tryd.ntmps11
  go_wp2
  refine bodyPost_ret (results_tmp2 rfl _ _ _) rfl ?_
  exact ⟨_, rfl, HF.out, HB.out⟩
theorem hs_len (h : HsS B O M N E hd T w) {n : Nat} (hn : E.length = n) : Calls Tryd.prog 45 #[.pointer (some ⟨O, 0, none⟩)] w fun e w' => e = .returned (.int .i64 n) ∧ w = w' := by
  obtain ⟨vE, vs, vT, h1, h2, h3⟩ := h.ex
  obtain ⟨a, c, rfl⟩ := h2.form hn
  have y := cell_of_row _ _ 2 _ _ _ h1
  dsimp at y
  clear h1 h2 h3 h
  go_enter Tryd.func45, Tryd.ntmps45
  go_wp2
  go_ret
  exact ⟨rfl, rfl⟩
theorem hs_hand (h : HsS B O M N E hd T w) : Calls Tryd.prog 47 #[.pointer (some ⟨O, 0, none⟩)] w fun e w' => e = .returned (.int .i64 hd) ∧ w = w' := by
  obtain ⟨vE, vs, vT, h1, h2, h3⟩ := h.ex
  have y := cell_of_row _ _ 3 _ _ _ h1
  dsimp at y
  clear h1 h2 h3 h
  go_enter Tryd.func47, Tryd.ntmps47
  go_wp2
  go_ret
  exact ⟨rfl, rfl⟩
end
end Go.Proofs.YtdifkjmpdmlobaaDoor
set_option linter.unusedVariables false
set_option linter.unusedSimpArgs false
namespace Go.Proofs.YtdifkjmpdmlobaaDoor
open Go.ChangeShapes Go.WideShapes Go.ChangeAt Go.RowKit Go.Deep Go.Joins
section
variable {H : Type} {enc : TypeId × Value → H} {W : World}
theorem addS_none (b off k : Nat) : (⟨b, off, none⟩ : Addr).add k = ⟨b, off + k, none⟩ := by unfold Addr.add; split <;> simp_all
set_option maxRecDepth 100000 in
theorem cellsIntS : Tryd.prog.cellsOf 3 = 1 := by kernel_rfl
set_option maxRecDepth 100000 in
theorem cellsSign : Tryd.prog.cellsOf 89 = 2 := by kernel_rfl
set_option maxRecDepth 100000 in
theorem arg_signs0 {base : Nat} {v0 : Value} {d0 : DataW H} {p : List MemPlace} (hv : Value.okWide Tryd.prog W .any base 28 v0) (h : DataW.Trod enc Tryd.prog W 0 (fun _ => true) true 28 v0 d0 p) :
    ∃ (l : List (Int × Int)) (a : Option Addr) (c : Nat), v0 = .slice a l.length c ∧ Signs W a l ∧ l.length ≤ 9223372036854775807 ∧ (a = none → c = 0) := by
  obtain ⟨a0, len, cap, rfl⟩ := okWide_slice Tryd.underlying28 hv
  obtain ⟨fuel, hf⟩ := h
  rcases open_slice_pairs Tryd.underlying28 Tryd.underlying89 cellsSign rfl rfl cellsIntS cellsIntS hf with ⟨hcs, _⟩ | ⟨a, len', cap', m, n, V0, V1, D0, D1, P0, P1, hcs, _, hl, hm, hmm, _, hcell⟩
  · simp [Value.cells] at hcs
    obtain ⟨rfl, rfl, rfl⟩ := hcs
    exact ⟨[], none, 0, rfl, fun j hj => absurd hj (Nat.not_lt_zero j), by simp, fun _ => rfl⟩
  · simp [Value.cells] at hcs
    obtain ⟨rfl, rfl, rfl⟩ := hcs
    have hlm : len ≤ m := by rw [hmm]; split <;> omega
    have key : ∀ i, i < len → ∃ q : Int × Int, V0 i = .int .i64 q.1 ∧ V1 i = .int .i64 q.2 := fun i hi => by
      obtain ⟨_, _, h1, h2⟩ := hcell i (by omega)
      obtain ⟨x, hx, _, _⟩ := DataW.trod_int Tryd.underlying3 h1
      obtain ⟨y, hy, _, _⟩ := DataW.trod_int Tryd.underlying3 h2
      exact ⟨(x, y), by simpa using hx, by simpa using hy⟩
    obtain ⟨F, hF⟩ : ∃ F : Nat → Int × Int, ∀ i, i < len → V0 i = .int .i64 (F i).1 ∧ V1 i = .int .i64 (F i).2 :=
      ⟨fun i => if h : i < len then (key i h).choose else (0, 0), fun i hi => by simp only [dif_pos hi]; exact (key i hi).choose_spec⟩
    clear key
    refine ⟨(List.range len).map F, some a, cap, by simp, ?_, by simp; unfold maxLen at hm; omega, fun h => by cases h⟩
    intro j hj
    have hj2 : j < len := by simpa using hj
    obtain ⟨c0, c1, _, _⟩ := hcell j (by omega)
    have hk := hF j hj2
    obtain ⟨b, off, sp⟩ := a
    have hsp : sp = none := by
      obtain ⟨c00, _⟩ := hcell 0 (by omega)
      have h1 : W.cell? ⟨b, off, sp⟩ = some (V0 0) := by simpa [Addr.add] using c00
      exact cell_spot h1
    subst hsp
    rw [addS_none] at c0 c1
    have hg : ((List.range len).map F).getD j (0, 0) = F j := by
      rw [List.getD, List.getElem?_map, List.getElem?_range hj2]; rfl
    rw [hg]
    refine ⟨b, off, rfl, block_lt_of_cell c0, ?_, ?_⟩
    · rw [c0, hk.1]
    · rw [show off + j * 2 + 1 = off + (j * 2 + 1) by omega, c1, hk.2]
theorem arg_signs {base : Nat} {v0 : Value} {d0 : DataW H} {p : List MemPlace} (hv : Value.okWide Tryd.prog W .any base 28 v0) (h : DataW.Trod enc Tryd.prog W 0 (fun _ => true) true 28 v0 d0 p) :
    ∃ (l : List (Int × Int)) (a : Option Addr) (c : Nat), v0 = .slice a l.length c ∧ Signs W a l ∧ l.length ≤ 9223372036854775807 := by
  obtain ⟨l, a, c, h1, h2, h3, _⟩ := arg_signs0 hv h
  exact ⟨l, a, c, h1, h2, h3⟩
theorem arg_sign {base : Nat} {v0 : Value} {d0 : DataW H} {p : List MemPlace} (hv : Value.okWide Tryd.prog W .any base 89 v0) (h : DataW.Trod enc Tryd.prog W 0 (fun _ => true) true 89 v0 d0 p) :
    ∃ (x y : Int), v0 = .agg #[.int .i64 x, .int .i64 y] := by
  obtain ⟨a0, a1, y0, y1, n, rfl, rfl, rfl, h0, h1⟩ := open_agg2 Tryd.underlying89 (by kernel_rfl) cellsSign hv h
  obtain ⟨x, hx, _, _⟩ := DataW.trod_int Tryd.underlying3 h0
  obtain ⟨y, hy, _, _⟩ := DataW.trod_int Tryd.underlying3 h1
  obtain rfl : a0 = .int .i64 x := by simpa using hx
  obtain rfl : a1 = .int .i64 y := by simpa using hy
  exact ⟨x, y, rfl⟩
end
end Go.Proofs.YtdifkjmpdmlobaaDoor
set_option linter.unusedVariables false
set_option linter.unusedSimpArgs false
namespace Go.Proofs.YtdifkjmpdmlobaaDoor
open Go.RowKit
section
variable {B O M N : Nat} {E : List (List (Int × Int))} {hd : Nat} {T : List (Int × Int)} {w w' : World}
theorem hs_rest (h : HsS B O M N E hd T w) {n : Nat} (hn : E.length = n) : Calls Tryd.prog 54 #[.pointer (some ⟨O, 0, none⟩)] w fun e w' => e = .returned (.tuple #[]) ∧ HsS B O M N E n [] w' ∧ Below B w w' := by
  have H1 := Lib.hid ((h.hand n).type (ows_nil _ B))
  have HB := Lib.hid (below_setO (below_setO (Below.refl B w) h.le 3 (.int .i64 (n : Int))) h.le 4 (.slice none 0 0))
  obtain ⟨vE, vs, vT, h1, h2, h3⟩ := h.ex
  obtain ⟨a, c, rfl⟩ := h2.form hn
  have y2 := cell_of_row _ _ 2 _ _ _ h1
  have y3 := cell_of_row _ _ 3 _ _ _ h1
  have f3 := frozen_of_row _ O 3 _ _ h1
  have g1 := blk_set h1 3 (.int .i64 (n : Int))
  have y4 := cell_of_row _ _ 4 _ _ _ g1
  have f4 := frozen_of_row _ O 4 _ _ g1
  dsimp at y2 y3 y4
  clear h1 h2 h3 g1 h
  go_enter Tryd.func54, Tryd.ntmps54
  go_wp2
  go_end0
  exact ⟨rfl, H1.out, HB.out⟩
set_option maxHeartbeats 16000000 in
theorem hs_add_yes (l : List (Int × Int)) (al : Option Addr) (ml cl : Nat) (h : HsS B O M N E hd T w) (hl : l.length = ml) (h0 : 0 < ml) (hN : ml ≤ N) (hNN : N ≤ 4096) (hok : sgC l = true) (hE : E.length ≤ M) (hMM : M ≤ 1000) (hz : ∀ x ∈ E, x.length ≤ 4096) (hs : Signs w al l)
    (hS : ∀ ad, al = some ad → ad.block < B ∨ ∃ cs fr, w.heap[ad.block]? = some (.cells cs 89 fr)) :
    Calls Tryd.prog 12 #[.pointer (some ⟨O, 0, none⟩), .slice al ml cl] w fun e w' => e = .returned (.int .i64 0) ∧ HsS B O M N (adE M l E) (adE M l E).length [] w' ∧ Below B w w' := by
  obtain ⟨i1, hj, hy0, hy1, hy2⟩ := info_parts infoSl
  have hmf : ∀ (fn : Fn) (first cap : Array Value) (w : World), (Instr.makeFunc fn first cap).run Tryd.prog w = .ok (.func fn first cap) w := fun _ _ _ _ => rfl
  have hsf : ∀ (w : World) (ad : Addr) (fn : Fn) (first cap : Array Value), (store ad (.func fn first cap)).run Tryd.prog w = stored Tryd.prog w ad (.func fn first cap) .plain := fun w ad _ _ _ => run_store _ w ad _ _ rfl
  obtain ⟨vE, vs, vT, h1, h2, h3⟩ := h.ex
  obtain ⟨n, hn⟩ : ∃ n, E.length = n := ⟨_, rfl⟩
  have hBO := Lib.hid h.le
  have hwB := Lib.hid h.lt
  have HL := Lib.hid hl
  have HEN := Lib.hid hn
  have HEM := Lib.hid hE
  have HZ := Lib.hid hz
  -- the parameter's block
  obtain ⟨Q1, hQ1⟩ : ∃ Q, w.heap.size = Q := ⟨_, rfl⟩
  have B0 := below_alloc w (.cells #[.slice al ml cl] 28)
  have r0 := heap_alloc_new w (.cells #[.slice al ml cl] 28)
  obtain ⟨W, hW⟩ : ∃ W, w.alloc (.cells #[.slice al ml cl] 28) = W := ⟨_, rfl⟩
  rw [hW] at B0 r0
  rw [hQ1] at r0
  have CK := scheck_any l al cl W (by omega) (hs.below B0)
  rw [hl, sgE_yes hok] at CK
  replace CK := Lib.hid CK
  have H1 := Lib.hid h1
  have H2 := Lib.hid h2
  have H3 := Lib.hid h3
  have HS := Lib.hid hs
  have HSS := Lib.hid hS
  have N0 := Lib.hid B0
  have R0 := Lib.hid r0
  have hQW := Lib.hid hQ1
  have x0 := cell_of_row _ _ 0 _ _ _ r0
  dsimp at x0
  clear hs hS hl hok h hn hE hz h1 h2 h3
  go_enter Tryd.func12, Tryd.ntmps12
  go_upto_region 3 with fail
  clear hW B0 r0 hQ1
  go_upto_region 5 with (go_at_call 48; with_reducible refine CK.out.mono ?_; rintro e w2 ⟨rfl, hb2⟩; have N2 := Lib.hid (seqB N0.out hb2); have r2 := blk_below R0.out hb2; clear hb2 CK)
  have o2 := blk_below H1.out N2.out
  have x2 := cell_of_row _ _ 0 _ _ _ r2
  have y2 := cell_of_row _ _ 1 _ _ _ o2
  dsimp at x2 y2
  have hlt1 : ¬ (N : Int) < (ml : Int) := by omega
  have R2 := Lib.hid r2
  clear x0 o2 r2 R0 N0
  go_quiet (fail)
  obtain ⟨w3, hw3⟩ : ∃ W, w2.drewN nq = W := ⟨_, rfl⟩
  have b3 : Below w2.heap.size w2 w3 := by rw [← hw3]; exact drewN_below (Below.refl _ w2) _
  have N3 := Lib.hid (seqB N2.out b3)
  have R3 := Lib.hid (blk_below R2.out b3)
  have x3 := cell_of_row _ _ 0 _ _ _ R3.out
  dsimp at x3
  rw [hw3]
  have hml : ¬ ml = 0 := by omega
  clear hw3 b3 R2 N2 x2 y2
  go_upto_region 10 with (go_at_call 49; refine (beginner_any al ml cl _).mono ?_; rintro e w4 ⟨rfl, hw4⟩; clear x3)
  obtain ⟨Q3, hQ3⟩ : ∃ Q, w3.heap.size = Q := ⟨_, rfl⟩
  obtain ⟨Q2, hQ2⟩ : ∃ Q, w4.heap.size = Q := ⟨_, rfl⟩
  have b4 : Below w3.heap.size w3 w4 := by rw [← hw4]; exact below_alloc _ _
  have r4 : w4.heap[Q3]? = some (.cells #[.slice al ml cl] 28 (0, 0)) := by rw [← hw4, ← hQ3]; exact heap_alloc_new _ _
  simp only [hQ3, hQ2]
  have b5 := below_alloc w4 (.cells #[.func (.func 73) #[] #[.pointer (some ⟨Q3, 0, none⟩)]] 92)
  have r5 := heap_alloc_new w4 (.cells #[.func (.func 73) #[] #[.pointer (some ⟨Q3, 0, none⟩)]] 92)
  obtain ⟨w5, hw5⟩ : ∃ W, w4.alloc (.cells #[.func (.func 73) #[] #[.pointer (some ⟨Q3, 0, none⟩)]] 92) = W := ⟨_, rfl⟩
  rw [hw5] at b5 r5 ⊢
  rw [hQ2] at r5
  have N5 := Lib.hid (seqB (seqB N3.out b4) b5)
  have R4 := Lib.hid (blk_below r4 b5)
  have R5 := Lib.hid r5
  have R3' := Lib.hid (blk_below (blk_below R3.out b4) b5)
  have HQ := Lib.hid (show Q1 < w5.heap.size ∧ w.heap.size ≤ Q1 ∧ w.heap.size ≤ Q2 ∧ w.heap.size ≤ Q3 by
    have := N3.out.size; have := b4.size; have := blk_lt R3'.out; have := hQW.out; omega)
  clear hQ3 hQ2 hw4 hw5 b4 b5 r4 r5 R3 N3 hQW
  have BG : Hid (∀ W', w5.grownBy W' vE.ownBlock → BgF W' Q1 Q2 Q3 al ml cl l) := Lib.hid fun W' hg => by
    have hk : ∀ q, w.heap.size ≤ q → q < w5.heap.size → W'.heap[q]? = w5.heap[q]? := fun q h1 h2 => hg.block q h2 (fun e => by have := (H2.out.row.lt q e.symm).2; omega)
    refine ⟨(hk Q1 HQ.out.2.1 (blk_lt R3'.out)).trans R3'.out, (hk Q2 HQ.out.2.2.1 (blk_lt R5.out)).trans R5.out, (hk Q3 HQ.out.2.2.2 (blk_lt R4.out)).trans R4.out, fun i hi => ?_, HL.out⟩
    obtain ⟨b, off, e, hlt, c1, c2⟩ := (HS.out.below N5.out) i hi
    have hne : some b ≠ vE.ownBlock := fun e2 => by
      rcases HSS.out _ e with h | ⟨cs, fr, h⟩
      · have := (H2.out.row.lt b e2.symm).1
        have h : b < B := h
        omega
      · exact own_ne_kind H2.out.row h (by decide) e2.symm
    have hb := hg.block b hlt hne
    refine ⟨b, off, e, Nat.lt_of_lt_of_le hlt hg.size, ?_, ?_⟩
    · unfold World.cell? at c1 ⊢; rw [hb]; exact c1
    · unfold World.cell? at c2 ⊢; rw [hb]; exact c2
  have hBw5 : B ≤ w5.heap.size := Nat.le_trans hwB.out.1 N5.out.size
  have DF := Lib.hid (hdel_any l E vE vs B n ml cl Q1 Q2 Q3 al w5 (H2.out.below N5.out) HEN.out BG.out (by omega) (by have := HEM.out; have := HEN.out; omega) (fun i hi => by
    have := HZ.out _ (getD_memT (show i < E.length by rw [HEN.out]; exact hi)); omega) hBw5)
  obtain ⟨F, hF⟩ : ∃ F, (E.filter fun x => !sameV l x) = F := ⟨_, rfl⟩
  obtain ⟨n6, hn6⟩ : ∃ n, F.length = n := ⟨_, rfl⟩
  have hFE : n6 ≤ M := by rw [← hn6, ← hF]; exact Nat.le_trans (List.length_filter_le _ _) HEM.out
  have HN6 := Lib.hid hn6
  have HF := Lib.hid hF
  rw [hF] at DF
  have O5 := blk_below H1.out N5.out
  have y5 := cell_of_row _ _ 2 _ _ _ O5
  dsimp at y5
  obtain ⟨ea, ec, rfl⟩ := H2.out.form HEN.out
  have O5 := Lib.hid O5
  have H5 := Lib.hid (H2.out.below N5.out)
  have T5 := Lib.hid (ows_keep H3.out N5.out)
  have HGL : Hid (∀ k, (Value.slice ea n ec).ownBlock = some k → k < w.heap.size) := Lib.hid fun k e => (H2.out.row.lt k e).2
  clear hF hn6 R4 R5 BG hBw5 H1 H2 H3
  go_upto_region 11 with (go_at_call 50; refine DF.out.mono ?_; rintro e w6 ⟨v6, vs6, rfl, hd6, hg6, ho6⟩; obtain ⟨a6, c6, rfl⟩ := hd6.form HN6.out; have ST := HsS.step O5.out H5.out T5.out hBO.out hg6 hd6; have y6 := cell_of_row _ _ 2 _ _ _ ST.1; have f6 := frozen_of_row _ O 2 _ _ ST.1; dsimp at y6; have S6 := Lib.hid ST; have D6 := Lib.hid hd6; have G6 := Lib.hid hg6; clear ST hd6 hg6 ho6 y5 DF)
  have O7 := blk_set S6.out.1 2 (.slice a6 n6 c6)
  have D7 := D6.out.setO S6.out.1 2 (.slice a6 n6 c6)
  have T7 := ows_setO S6.out.2.1 S6.out.1 2 (.slice a6 n6 c6)
  have hQ1O : Q1 ≠ O := fun e => by have := hwB.out.2; have := HQ.out.2.1; omega
  have R7 : (w6.setCell ⟨O, 2, none⟩ (.slice a6 n6 c6)).heap[Q1]? = some (.cells #[.slice al ml cl] 28 (0, 0)) :=
    (Below.heap_setCell w6 ⟨O, 2, none⟩ (.slice a6 n6 c6) Q1 hQ1O).trans ((G6.out.block Q1 HQ.out.1 (fun e => by have := HGL.out Q1 e.symm; have := HQ.out.2.1; omega)).trans R3'.out)
  have B7 : Below B w (w6.setCell ⟨O, 2, none⟩ (.slice a6 n6 c6)) := below_setO (B := B) (O := O) ((N5.out.mono hwB.out.1).trans S6.out.2.2) hBO.out 2 (.slice a6 n6 c6)
  have SG : Signs (w6.setCell ⟨O, 2, none⟩ (.slice a6 n6 c6)) al l := fun i hi => by
    obtain ⟨b, off, e, hlt, c1, c2⟩ := (HS.out.below N5.out) i hi
    have hne : some b ≠ (Value.slice ea n ec).ownBlock ∧ b ≠ O := by
      refine ⟨fun e2 => ?_, fun e2 => ?_⟩
      · rcases HSS.out _ e with h | ⟨cs, fr, h⟩
        · have := (H5.out.row.lt b e2.symm).1
          have h : b < B := h
          omega
        · exact own_ne_kind H5.out.row (blk_below h N5.out) (by decide) e2.symm
      · rcases HSS.out _ e with h | ⟨cs, fr, h⟩
        · have h : b < B := h
          have := hBO.out
          omega
        · have h := blk_below h N5.out
          have h : w5.heap[b]? = some (.cells cs 89 fr) := h
          rw [e2, O5.out] at h
          simp at h
    have hb := (Below.heap_setCell w6 ⟨O, 2, none⟩ (.slice a6 n6 c6) b hne.2).trans (G6.out.block b hlt hne.1)
    refine ⟨b, off, e, Nat.lt_of_lt_of_le hlt (by have := G6.out.size; simpa [World.setCell] using this), ?_, ?_⟩
    · unfold World.cell? at c1 ⊢; rw [hb]; exact c1
    · unfold World.cell? at c2 ⊢; rw [hb]; exact c2
  obtain ⟨w7, hw7⟩ : ∃ W, w6.setCell ⟨O, 2, none⟩ (.slice a6 n6 c6) = W := ⟨_, rfl⟩
  rw [hw7] at O7 D7 T7 R7 B7 SG ⊢
  have WT := with_any l al cl 3 w7.drew (by rw [HL.out]; omega) (SG.below (Below.refl _ _).drew)
  rw [HL.out, show w7.drew.heap.size = w7.heap.size from rfl] at WT
  replace WT := Lib.hid WT
  have y7 := cell_of_row _ _ 2 _ _ _ O7
  have f7 := frozen_of_row _ O 2 _ _ O7
  have x7 := cell_of_row _ _ 0 _ _ _ R7
  dsimp at y7 x7
  have O7 := Lib.hid O7
  have D7 := Lib.hid D7
  have T7 := Lib.hid T7
  have B7 := Lib.hid B7
  have hHS : B ≤ w7.heap.size := by have := B7.out.size; have := hwB.out.1; omega
  clear hw7 R7 SG y6 f6 S6 D6 G6 HGL HQ hQ1O O5 H5 T5 N5 R3' HS HSS
  go_cut [] from 36 to 47 (fun wx => Hid (HsS B O M N (adF l E) hd T wx) ∧ Hid (Below B w wx))
  case first =>
    go_region_law (first
      | (go_simp; go_at_call 52; refine WT.out.mono ?_; rintro e wa ⟨rfl, hbk, hb⟩; have D1 : Below w7.heap.size w7 wa := (Below.refl _ w7).drew.trans hb; have D2 := below_alloc wa (.cells #[.slice (some ⟨w7.heap.size, 0, none⟩) ml ml] 28); have D3 := Lib.hid (seqB D1 D2); have O3 := Lib.hid (blk_below O7.out D3.out); have y3a := cell_of_row _ _ 2 _ _ _ (blk_below O7.out D1); have y3c := cell_of_row _ _ 2 _ _ _ O3.out; replace y3a : wa.cell? ⟨O, 2, none⟩ = some (.slice a6 n6 c6) := y3a; replace y3c : (wa.alloc (.cells #[.slice (some ⟨w7.heap.size, 0, none⟩) ml ml] 28)).cell? ⟨O, 2, none⟩ = some (.slice a6 n6 c6) := y3c; have E3 := Lib.hid (D7.out.below D3.out); have T3 := Lib.hid (ows_keep T7.out D3.out); have S3 := Lib.hid (ows_blk (n := ml) (l := wrL l 3) (blk_below hbk D2) hHS ((wrL_len l 3).trans HL.out) (by unfold maxLen; omega)); have hBc := Nat.le_trans hHS D3.out.size; clear hbk hb D1 D2)
      | (refine step_append_lies _ (by rfl) _ _ _ (by rfl) B 28 i1 _ 1 24 Tryd.underlying22 hj hy0 hy1 hy2 rfl (by decide) _ n6 vs6 (by rfl) (by have := E3.out.row; rw [HN6.out] at this; exact this) ⟨wa.heap.size, 0, none⟩ 1 1 [.slice (some ⟨w7.heap.size, 0, none⟩) ml ml] (by rfl) (by rfl) (fun j x hj => app_cells rfl hj) (by simp [Value.oneCell']) (by omega) (by unfold maxLen; omega) (by omega) hBc (wa.heap.size + 1) (by simp) ?_; intro gg cap w8 hown hgrow hat hlt8; have PU := E3.out.push S3.out (by rw [HN6.out]; exact hown) hgrow; have FF := HsS.step O3.out E3.out T3.out hBO.out hgrow PU; have y8 := cell_of_row _ _ 2 _ _ _ FF.1; have f8 := frozen_of_row _ O 2 _ _ FF.1; replace y8 : w8.cell? ⟨O, 2, none⟩ = some (.slice a6 n6 c6) := y8; have HFF := Lib.hid FF; have HPU := Lib.hid PU; clear FF hown hgrow hat hlt8 PU))
    all_goals
      have HX : Hid (HsS B O M N (adF l E) hd T (w8.setCell ⟨O, 2, none⟩ (.slice (some ⟨gg, 0, none⟩) (n6 + 1) cap))) := Lib.hid ⟨⟨_, _, _, blk_set HFF.out.1 2 _, by unfold adF; rw [HF.out]; exact HPU.out.setO HFF.out.1 2 _, ows_setO HFF.out.2.1 HFF.out.1 2 _⟩, hBO.out⟩
      have HNx := Lib.hid (below_setO (B := B) (O := O) ((B7.out.trans (D3.out.mono hHS)).trans HFF.out.2.2) hBO.out 2 (.slice (some ⟨gg, 0, none⟩) (n6 + 1) cap))
      go_wp2_with fail
      go_meet
      exact ⟨HX, HNx⟩
  case rest =>
    obtain ⟨HX, HNx⟩ := hcut
    clear O7 D7 T7 B7 WT y7 f7 x7
    obtain ⟨q, hq⟩ : ∃ q, (adF l E).length = q := ⟨_, rfl⟩
    have hq1 : q = n6 + 1 := by rw [← hq, adF_len, HF.out, HN6.out]
    obtain ⟨m, hqm⟩ : ∃ m, q = m + 1 := ⟨n6, hq1⟩
    have hq2 : q ≤ 1001 := by omega
    obtain ⟨v9, vs9, vT9, k1, k2, k3⟩ := HX.out.ex
    obtain ⟨a9, c9, rfl⟩ := k2.form hq
    have z0 := cell_of_row _ _ 0 _ _ _ k1
    have z2 := cell_of_row _ _ 2 _ _ _ k1
    dsimp at z0 z2
    have K1 := Lib.hid k1
    have K2 := Lib.hid k2
    have K3 := Lib.hid k3
    have HQ := Lib.hid hq
    have HQM := Lib.hid hqm
    have HQ2 := Lib.hid hq2
    have hwc := Lib.hid (Nat.le_trans hwB.out.1 HNx.out.size)
    clear k1 k2 k3 hq hq1 hqm hq2 HF HN6
    by_cases hlt : M < q
    · have hlt1 : (M : Int) < (q : Int) := by omega
      go_upto_region 12 with fail
      go_quiet (fail)
      obtain ⟨wd, hwd⟩ : ∃ W, wc.drewN nq = W := ⟨_, rfl⟩
      have bd : Below wc.heap.size wc wd := by rw [← hwd]; exact drewN_below (Below.refl _ wc) _
      have O9 := blk_below K1.out bd
      have y9 := cell_of_row _ _ 2 _ _ _ O9
      dsimp at y9
      have O9 := Lib.hid O9
      have D9 := Lib.hid (K2.out.below bd)
      have T9 := Lib.hid (ows_keep K3.out bd)
      have N9 := Lib.hid (HNx.out.trans (bd.mono hwc.out))
      have CT := Lib.hid (hcut_any (adF l E) _ vs9 B q m wd D9.out HQ.out HQM.out (by have := HQ2.out; omega))
      have hE' : Hid (adE M l E = (adF l E).tail) := Lib.hid (by unfold adE; rw [if_pos (by rw [HQ.out]; exact hlt)])
      have hm1 : Hid ((adF l E).tail.length = m) := Lib.hid (by rw [List.length_tail, HQ.out, HQM.out]; rfl)
      rw [hwd]
      clear hwd bd z0 z2 K1 K2 K3 HX HNx hwc
      go_upto_region 14 with (go_at_call 53; refine CT.out.mono ?_; rintro e wf ⟨vf, vsf, rfl, hdf, hgf, hof⟩; obtain ⟨af, cf, rfl⟩ := hdf.form hm1.out; have ST := HsS.step O9.out D9.out T9.out hBO.out hgf hdf; have yf := cell_of_row _ _ 2 _ _ _ ST.1; have ff := frozen_of_row _ O 2 _ _ ST.1; dsimp at yf; have SF := Lib.hid ST; have DF := Lib.hid hdf; clear ST hdf hgf hof y9 CT)
      have HR : Hid (HsS B O M N (adF l E).tail hd T (wf.setCell ⟨O, 2, none⟩ (.slice af m cf))) := Lib.hid ⟨⟨_, _, _, blk_set SF.out.1 2 _, DF.out.setO SF.out.1 2 _, ows_setO SF.out.2.1 SF.out.1 2 _⟩, hBO.out⟩
      have NR := Lib.hid (below_setO (B := B) (O := O) (N9.out.trans SF.out.2.2) hBO.out 2 (.slice af m cf))
      have RS := Lib.hid (hs_rest HR.out hm1.out)
      generalize (wf.setCell ⟨O, 2, none⟩ (.slice af m cf)) = wg at *
      clear yf ff
      go_wp2_with (go_at_call 54; refine RS.out.mono ?_; rintro e wh ⟨rfl, hh, hb⟩)
      go_ret
      exact ⟨rfl, by rw [hE'.out, hm1.out]; exact hh, NR.out.trans hb⟩
    · have hlt1 : ¬ (M : Int) < (q : Int) := by omega
      go_upto_region 12 with fail
      go_quiet (fail)
      obtain ⟨wd, hwd⟩ : ∃ W, wc.drewN nq = W := ⟨_, rfl⟩
      have bd : Below wc.heap.size wc wd := by rw [← hwd]; exact drewN_below (Below.refl _ wc) _
      have hE' : Hid (adE M l E = adF l E) := Lib.hid (by unfold adE; rw [if_neg (by rw [HQ.out]; exact hlt)])
      have HR := Lib.hid (HX.out.below bd)
      have NR := Lib.hid (HNx.out.trans (bd.mono hwc.out))
      have RS := Lib.hid (hs_rest HR.out HQ.out)
      rw [hwd]
      clear hwd bd z0 z2 K1 K2 K3 HX HNx hwc
      go_wp2_with (go_at_call 54; refine RS.out.mono ?_; rintro e wh ⟨rfl, hh, hb⟩)
      go_ret
      exact ⟨rfl, by rw [hE'.out, HQ.out]; exact hh, NR.out.trans hb⟩
end
end Go.Proofs.YtdifkjmpdmlobaaDoor
set_option linter.unusedVariables false
set_option linter.unusedSimpArgs false
namespace Go.Proofs.YtdifkjmpdmlobaaDoor
open Go.RowKit
section
variable {B O M N : Nat} {E : List (List (Int × Int))} {hd : Nat} {T : List (Int × Int)} {w w' : World}
set_option maxHeartbeats 4000000 in
theorem hs_add_bad (l : List (Int × Int)) (al : Option Addr) (ml cl : Nat) (h : HsS B O M N E hd T w) (hl : l.length = ml) (hml : ml ≤ 100000) (hok : sgC l = false) (hs : Signs w al l) :
    Calls Tryd.prog 12 #[.pointer (some ⟨O, 0, none⟩), .slice al ml cl] w fun e w' => e = .returned (.int .i64 2) ∧ Below w.heap.size w w' := by
  have B0 := below_alloc w (.cells #[.slice al ml cl] 28)
  have r0 := heap_alloc_new w (.cells #[.slice al ml cl] 28)
  obtain ⟨W, hW⟩ : ∃ W, w.alloc (.cells #[.slice al ml cl] 28) = W := ⟨_, rfl⟩
  rw [hW] at B0 r0
  have CK := scheck_any l al cl W (by omega) (hs.below B0)
  rw [hl, sgE_no hok] at CK
  replace CK := Lib.hid CK
  have N0 := Lib.hid B0
  have x0 := cell_of_row _ _ 0 _ _ _ r0
  dsimp at x0
  clear hs hl hok h r0 B0
  go_enter Tryd.func12, Tryd.ntmps12
  go_wp2_with (go_at_call 48; with_reducible refine CK.out.mono ?_; rintro e w2 ⟨rfl, hb2⟩; have N2 := Lib.hid (seqB N0.out hb2); clear hb2 CK)
  go_ret
  exact ⟨rfl, N2.out⟩
set_option maxHeartbeats 4000000 in
theorem hs_add_big (l : List (Int × Int)) (al : Option Addr) (ml cl : Nat) (h : HsS B O M N E hd T w) (hl : l.length = ml) (hml : ml ≤ 100000) (hok : sgC l = true) (hN : N < ml) (hs : Signs w al l) :
    Calls Tryd.prog 12 #[.pointer (some ⟨O, 0, none⟩), .slice al ml cl] w fun e w' => e = .returned (.int .i64 4) ∧ Below w.heap.size w w' := by
  have B0 := below_alloc w (.cells #[.slice al ml cl] 28)
  have r0 := heap_alloc_new w (.cells #[.slice al ml cl] 28)
  obtain ⟨W, hW⟩ : ∃ W, w.alloc (.cells #[.slice al ml cl] 28) = W := ⟨_, rfl⟩
  rw [hW] at B0 r0
  obtain ⟨Q1, hQ1⟩ : ∃ Q, w.heap.size = Q := ⟨_, rfl⟩
  rw [hQ1] at r0
  have CK := scheck_any l al cl W (by omega) (hs.below B0)
  rw [hl, sgE_yes hok] at CK
  replace CK := Lib.hid CK
  obtain ⟨vE, vs, vT, h1, h2, h3⟩ := h.ex
  have N0 := Lib.hid B0
  have R0 := Lib.hid r0
  have H1 := Lib.hid h1
  have x0 := cell_of_row _ _ 0 _ _ _ r0
  dsimp at x0
  have hlt1 : (N : Int) < (ml : Int) := by omega
  clear hs hl hok h r0 B0 h1 h2 h3
  go_enter Tryd.func12, Tryd.ntmps12
  go_upto_region 3 with fail
  clear hW hQ1
  go_upto_region 5 with (go_at_call 48; with_reducible refine CK.out.mono ?_; rintro e w2 ⟨rfl, hb2⟩; have N2 := Lib.hid (N0.out.trans (hb2.mono N0.out.size)); have r2 := blk_below R0.out hb2; clear hb2 CK)
  have o2 := blk_below H1.out N2.out
  have x2 := cell_of_row _ _ 0 _ _ _ r2
  have y2 := cell_of_row _ _ 1 _ _ _ o2
  dsimp at x2 y2
  clear x0 o2 r2 R0 N0
  go_quiet (fail)
  have NB := Lib.hid (drewN_below N2.out nq)
  go_wp2
  go_ret
  exact ⟨rfl, NB.out⟩
set_option maxHeartbeats 4000000 in
theorem hs_add_nil (al : Option Addr) (cl : Nat) (h : HsS B O M N E hd T w) :
    Calls Tryd.prog 12 #[.pointer (some ⟨O, 0, none⟩), .slice al 0 cl] w fun e w' => e = .returned (.int .i64 0) ∧ Below w.heap.size w w' := by
  have B0 := below_alloc w (.cells #[.slice al 0 cl] 28)
  have r0 := heap_alloc_new w (.cells #[.slice al 0 cl] 28)
  obtain ⟨W, hW⟩ : ∃ W, w.alloc (.cells #[.slice al 0 cl] 28) = W := ⟨_, rfl⟩
  rw [hW] at B0 r0
  obtain ⟨Q1, hQ1⟩ : ∃ Q, w.heap.size = Q := ⟨_, rfl⟩
  rw [hQ1] at r0
  have CK := scheck_any [] al cl W (by simp) (fun i hi => absurd hi (Nat.not_lt_zero i))
  rw [sgE_yes rfl] at CK
  replace CK : Hid (Calls Tryd.prog 48 #[.slice al 0 cl] W fun e w' => e = .returned (.int .i64 0) ∧ Below W.heap.size W w') := Lib.hid CK
  obtain ⟨vE, vs, vT, h1, h2, h3⟩ := h.ex
  have N0 := Lib.hid B0
  have R0 := Lib.hid r0
  have H1 := Lib.hid h1
  have x0 := cell_of_row _ _ 0 _ _ _ r0
  dsimp at x0
  have hlt1 : ¬ (N : Int) < 0 := by omega
  clear h r0 B0 h1 h2 h3
  go_enter Tryd.func12, Tryd.ntmps12
  go_upto_region 3 with fail
  clear hW hQ1
  go_upto_region 5 with (go_at_call 48; with_reducible refine CK.out.mono ?_; rintro e w2 ⟨rfl, hb2⟩; have N2 := Lib.hid (N0.out.trans (hb2.mono N0.out.size)); have r2 := blk_below R0.out hb2; clear hb2 CK)
  have o2 := blk_below H1.out N2.out
  have x2 := cell_of_row _ _ 0 _ _ _ r2
  have y2 := cell_of_row _ _ 1 _ _ _ o2
  dsimp at x2 y2
  have R2 := Lib.hid r2
  clear x0 o2 r2 R0 N0
  go_quiet (fail)
  have NB := Lib.hid (drewN_below N2.out nq)
  have R3 := Lib.hid (blk_below R2.out (drewN_below (Below.refl _ w2) nq))
  have x3 := cell_of_row _ _ 0 _ _ _ R3.out
  dsimp at x3
  clear x2 y2 R2
  go_wp2
  go_ret
  exact ⟨rfl, NB.out⟩
/-- What Add does, in one law. -/
theorem hs_add (l : List (Int × Int)) (al : Option Addr) (ml cl : Nat) (h : HsS B O M N E hd T w) (hl : l.length = ml) (hml : ml ≤ 100000) (hNN : N ≤ 4096) (hM : 1 ≤ M) (hMM : M ≤ 1000) (hE : HOk M N E) (hs : Signs w al l)
    (hS : ∀ ad, al = some ad → l ≠ [] → ad.block < B ∨ ∃ cs fr, w.heap[ad.block]? = some (.cells cs 89 fr)) :
    Calls Tryd.prog 12 #[.pointer (some ⟨O, 0, none⟩), .slice al ml cl] w fun e w' => ∃ (k : Int) (E' : List (List (Int × Int))) (hd' : Nat) (T' : List (Int × Int)), e = .returned (.int .i64 k) ∧ HsS B O M N E' hd' T' w' ∧ HOk M N E' ∧ (k = 0 → 0 < ml → 0 < E'.length ∧ E'.getD (E'.length - 1) [] = wrL l 3) ∧ Below B w w' := by
  have hw := h.lt.1
  by_cases hok : sgC l = true
  · by_cases hN : N < ml
    · exact (hs_add_big l al ml cl h hl hml hok hN hs).mono fun e w' ⟨a, b⟩ => ⟨4, E, hd, T, a, h.below b, hE, fun h => absurd h (by decide), b.mono hw⟩
    · by_cases h0 : ml = 0
      · subst h0
        exact (hs_add_nil al cl h).mono fun e w' ⟨a, b⟩ => ⟨0, E, hd, T, a, h.below b, hE, fun _ h => absurd h (by decide), b.mono hw⟩
      · exact (hs_add_yes l al ml cl h hl (by omega) (by omega) hNN hok hE.le hMM (fun x hx => by have := (hE.ne x hx).2.1; omega) hs (fun ad e => hS ad e (fun e0 => by rw [e0] at hl; simp at hl; omega))).mono fun e w' ⟨a, b, c⟩ => ⟨0, _, _, [], a, b, hE.add (by omega) (by omega), fun _ _ => adE_last hM, c⟩
  · exact (hs_add_bad l al ml cl h hl hml (by simpa using hok) hs).mono fun e w' ⟨a, b⟩ => ⟨2, E, hd, T, a, h.below b, hE, fun h => absurd h (by decide), b.mono hw⟩
end
end Go.Proofs.YtdifkjmpdmlobaaDoor
set_option linter.unusedVariables false
set_option linter.unusedSimpArgs false
namespace Go.Proofs.YtdifkjmpdmlobaaDoor
open Go.RowKit
theorem HdV.at2 {B : Nat} {v : Value} {vs : List Value} {E : List (List (Int × Int))} {w : World} (h : HdV B v vs E w) (i : Nat) (hi : i < E.length) :
    ∃ g cap a n c, v = .slice (some ⟨g, 0, none⟩) E.length cap ∧ g < w.heap.size ∧ w.cell? ⟨g, i, none⟩ = some (.slice a n c) ∧ (E.getD i []).length = n ∧ OwS w B (.slice a n c) (E.getD i []) := by
  obtain ⟨x, h1, h2⟩ := h.el i hi
  obtain ⟨a, c, rfl⟩ := h2.form rfl
  rcases h.row.2 with ⟨rfl, h0⟩ | ⟨g, cap, cur, rfl, hBg, hg, r⟩
  · omega
  · have hc := h.row.cellAt i (by rw [Nat.mul_one]; exact hi)
    exact ⟨g, cap, a, _, c, rfl, blk_lt hg, by rw [hc]; exact h1, rfl, h2⟩
/-- All blocks stay but b. -/
structure KpH (b : Nat) (w w' : World) : Prop where
  os : w'.os = w.os
  tape : w'.tape = w.tape
  output : w'.output = w.output
  size : w.heap.size ≤ w'.heap.size
  block : ∀ k, k < w.heap.size → k ≠ b → w'.heap[k]? = w.heap[k]?
theorem KpH.of {b : Nat} {w w' : World} (h : Below w.heap.size w w') : KpH b w w' := ⟨h.os, h.tape, h.output, h.size, fun k hk _ => h.block k hk⟩
theorem KpH.trans {b : Nat} {w w' w'' : World} (h : KpH b w w') (h2 : KpH b w' w'') : KpH b w w'' :=
  ⟨h2.os.trans h.os, h2.tape.trans h.tape, h2.output.trans h.output, Nat.le_trans h.size h2.size, fun k hk hb => (h2.block k (Nat.lt_of_lt_of_le hk h.size) hb).trans (h.block k hk hb)⟩
theorem KpH.below {b : Nat} {w w' : World} (h : KpH b w w') {B : Nat} (hB : B ≤ b) (hs : B ≤ w.heap.size) : Below B w w' := ⟨h.os, h.tape, h.output, h.size, fun k hk => h.block k (by omega) (by omega)⟩
theorem KpH.set (b : Nat) (w : World) (i : Nat) (u : Value) : KpH b w (w.setCell ⟨b, i, none⟩ u) := ⟨rfl, rfl, rfl, by simp [World.setCell], fun k _ hk => Below.heap_setCell w ⟨b, i, none⟩ u k hk⟩
theorem KpH.gr {b : Nat} {w w' : World} (h : KpH b w w') : w.grownBy w' (some b) := ⟨h.os, h.tape, h.output, h.size, fun k hk hb => h.block k hk (by simpa using hb)⟩
theorem ows_kpH {B O : Nat} {v : Value} {l : List (Int × Int)} {w w' : World} {cs : Array Value} {fr : Nat × Nat} (h : OwS w B v l) (hO : w.heap[O]? = some (.cells cs 91 fr)) (k : KpH O w w') : OwS w' B v l := World.ownsRow.kept h k.gr (Or.inr (own_ne_kind h hO (by decide)))
section
variable {B O M N : Nat} {E : List (List (Int × Int))} {hd : Nat} {T : List (Int × Int)} {w w' : World}
set_option maxHeartbeats 4000000 in
theorem hs_all {t : Nat} (h : HsS B O M N E hd T w) (hT : E.length = t) (ht : t ≤ 1000) (hz : ∀ x ∈ E, x.length ≤ 4096) :
    Calls Tryd.prog 13 #[.pointer (some ⟨O, 0, none⟩)] w fun e w' => ∃ b, e = .returned (.slice b t t) ∧ SgsK (fun k => w.heap.size ≤ k ∧ k < w'.heap.size) w' b E ∧ Below w.heap.size w w' := by
  obtain ⟨i1, hj, hy0, hy1, hy2⟩ := info_parts infoSl
  have hmk := make_rowN (P := Tryd.prog) 22 28 i1 _ Tryd.underlying22 hj hy0 t (by rw [hy2]; omega) (by omega)
  rw [hy1] at hmk
  have hmade : madeCells (Value.slice none 0 0).cells (t * 1) = (slR2 [] t) := by rw [show (Value.slice none 0 0).cells = #[.slice none 0 0] from rfl, made_sls]
  rw [hmade] at hmk
  obtain ⟨vE, vs, vT, hblk, h2, h3⟩ := h.ex
  obtain ⟨ea, ec, rfl⟩ := h2.form hT
  have y3 := cell_of_row _ _ 2 _ _ _ hblk
  dsimp at y3
  obtain ⟨A, hA⟩ : ∃ A, w.heap.size = A := ⟨_, rfl⟩
  have HA := Lib.hid hA
  have B0 := below_alloc w (.cells (slR2 [] t) 28)
  have r0 := heap_alloc_new w (.cells (slR2 [] t) 28)
  have z3 := (B0.cell (p := ⟨O, 2, none⟩) (blk_lt hblk)).trans y3
  have H := Lib.hid h2
  have HT := Lib.hid hT
  have HZ := Lib.hid hz
  obtain ⟨W, hW⟩ : ∃ W, w.alloc (.cells (slR2 [] t) 28) = W := ⟨_, rfl⟩
  rw [hW] at B0 r0 z3
  rw [hA] at r0
  clear h hT hz hblk hmade h2 h3
  go_enter Tryd.func13, Tryd.ntmps13
  go_upto_region 5 with fail
  clear hW hA
  have N0 := Lib.hid B0
  have R0 := Lib.hid r0
  clear y3 z3 r0 B0 hmk
  go_loopw [19] (fun iv wr => ∃ (k : Nat) (xs : List Value), k ≤ t ∧ iv = .int .i64 (k : Int) ∧ Hid (xs.length = k) ∧ Hid (wr.heap[A]? = some (.cells (slR2 xs t) 28 (0, 0))) ∧ Hid (∀ i, i < k → ∃ ai ci, xs[i]? = some (.slice ai (E.getD i []).length ci) ∧ SlS (fun q => A < q ∧ q < wr.heap.size) wr ai (E.getD i []) ci) ∧ Hid (Below w.heap.size w wr)) (fun iv _ => t - (intOf iv).toNat)
  case atStart => exact ⟨0, [], Nat.zero_le _, rfl, Lib.hid rfl, R0, Lib.hid (fun i hi => absurd hi (Nat.not_lt_zero i)), N0⟩
  case round =>
    clear R0 N0
    obtain ⟨k, xs, hk, rfl, HX, HR, HE, HB⟩ := hrel
    by_cases hlt : k < t
    · have hk1 : (k : Int) < t := by omega
      have hk0 : (0 : Int) ≤ k := by omega
      obtain ⟨gg, cap, a0, n0, c0, e, hgl, yg, hn0, hO0⟩ := (H.out.below HB.out).at2 k (by rw [HT.out]; exact hlt)
      obtain ⟨rfl, -, rfl⟩ := Value.slice.inj e
      clear e
      have CL := Lib.hid (clone_sg (E.getD k []) a0 n0 c0 _ wr hn0 (by have := HZ.out _ (getD_memT (show k < E.length by rw [HT.out]; exact hlt)); omega) (ows_slS hO0))
      have hAlt : Hid (A < wr.heap.size) := Lib.hid (blk_lt HR.out)
      have HN0 := Lib.hid hn0
      clear hn0 hO0
      go_wp2_with (go_at_call 55; refine CL.out.mono ?_; rintro e w5 ⟨b5, d5, rfl, ho, hb⟩; have O5 := Lib.hid ho; have D5 := Lib.hid hb; have R5 := Lib.hid (blk_below HR.out hb); have x5 : w5.cell? ⟨A, k, none⟩ = some (.slice none 0 0) := (by rw [cell_of_row _ _ k _ _ _ R5.out, ← HX.out]; exact slR2_in xs t (by rw [HX.out]; exact hlt)); have f5 := frozen_of_row _ A k _ _ R5.out; clear ho hb CL yg)
      go_roundw
      case rel =>
        have hkeep : ∀ q, A < q → (w5.setCell ⟨A, k, none⟩ (.slice b5 n0 d5)).heap[q]? = w5.heap[q]? := fun q hq => Below.heap_setCell w5 ⟨A, k, none⟩ _ q (by show q ≠ A; omega)
        have hsz : (w5.setCell ⟨A, k, none⟩ (.slice b5 n0 d5)).heap.size = w5.heap.size := by simp [World.setCell]
        refine ⟨k + 1, xs ++ [.slice b5 n0 d5], by omega, by go_num, Lib.hid (by rw [List.length_append, HX.out]; rfl), Lib.hid ?_, Lib.hid (fun i hi => ?_), Lib.hid ?_⟩
        · have h9 := blk_set R5.out k (.slice b5 n0 d5)
          rw [← HX.out, slR2_set xs t _ (by rw [HX.out]; exact hlt)] at h9
          rw [← HX.out]; exact h9
        · by_cases hik : i < k
          · obtain ⟨ai, ci, e, hs⟩ := HE.out i hik
            refine ⟨ai, ci, by rw [List.getElem?_append_left (by rw [HX.out]; exact hik)]; exact e, ?_⟩
            exact ((hs.below D5.out).keep (by rw [hsz]; exact Nat.le_refl _) (fun q hq => hkeep q hq.1)).mono (fun q hq => ⟨hq.1, by rw [hsz]; exact Nat.lt_of_lt_of_le hq.2 D5.out.size⟩)
          · obtain rfl : i = k := by omega
            obtain ⟨a9, c9, e9, hs9⟩ := O5.out.sl
            injection e9 with e1 e2 e3
            subst e1; subst e3
            refine ⟨b5, d5, by rw [List.getElem?_append_right (by rw [HX.out]; omega), HX.out, Nat.sub_self, HN0.out]; rfl, ?_⟩
            exact (hs9.keep (by rw [hsz]; exact Nat.le_refl _) (fun q hq => hkeep q (by have := hAlt.out; omega))).mono (fun q hq => ⟨by have := hAlt.out; omega, by rw [hsz]; exact hq.2⟩)
        · exact (seqB HB.out D5.out).setCell (p := ⟨A, k, none⟩) (by rw [HA.out]; exact Nat.le_refl _) _
      case measure => (simp [intOf]; try omega)
    · obtain rfl : k = t := by omega
      have hk1 : ¬ (k : Int) < k := by omega
      go_wp2_with fail
      go_ret
      refine ⟨_, rfl, fun i hi => ?_, HB.out⟩
      obtain ⟨ai, ci, e, hs⟩ := HE.out i (by rw [← HT.out]; exact hi)
      refine ⟨A, 0, ai, ci, rfl, ⟨by rw [HA.out]; exact Nat.le_refl _, blk_lt HR.out⟩, blk_lt HR.out, ?_, hs.mono (fun q hq => ⟨by rw [HA.out]; omega, hq.2⟩)⟩
      rw [Nat.zero_add, cell_of_row _ _ i _ _ _ HR.out, slR2_at _ _ _ (by rw [HX.out, ← HT.out]; exact hi), e]
set_option maxHeartbeats 4000000 in
theorem hs_up {n k m c : Nat} (h : HsS B O M N E n T w) (hn : E.length = n) (hk : n = k + 1) (hl : n ≤ 1000) (l : List (Int × Int)) (al : Option Addr) (hm : l.length = m) (hml : m ≤ 4096) (hs : SlS (fun _ => True) w al l c) (hz : ∀ x ∈ E, x.length ≤ 4096) {q : Nat} (hq : (E.getD k []).length = q) :
    Calls Tryd.prog 41 #[.pointer (some ⟨O, 0, none⟩), .slice al m c] w fun e w' => ∃ b d, e = .returned (.tuple #[.slice b q d, .bool true]) ∧ OwS w' w.heap.size (.slice b q d) (E.getD k []) ∧ HsS B O M N E k l w' ∧ KpH O w w' := by
  have hwB := Lib.hid h.lt
  have hBO := Lib.hid h.le
  obtain ⟨vE, vs, vT, h1, h2, h3⟩ := h.ex
  obtain ⟨ea, ec, rfl⟩ := h2.form hn
  have y2 := cell_of_row _ _ 2 _ _ _ h1
  have y3 := cell_of_row _ _ 3 _ _ _ h1
  dsimp at y2 y3
  have H := Lib.hid h
  have HS := Lib.hid hs
  have HM := Lib.hid hm
  have HN := Lib.hid hn
  have HQ := Lib.hid hq
  have HK := Lib.hid hk
  have HZ := Lib.hid (hz _ (getD_memT (show k < E.length by omega)))
  have hn0 : ¬ n = 0 := by omega
  have hnb : ((n : Int) == 0) = false := beq_eq_false_iff_ne.2 (by omega)
  have hn1 : (1 : Int) ≤ n := by omega
  clear h h1 h2 h3 hs hm hn hk hq hz
  go_enter Tryd.func41, Tryd.ntmps41
  go_upto_region 3 with fail
  go_quiet (fail)
  obtain ⟨w1, hw1⟩ : ∃ W, w.drewN nq = W := ⟨_, rfl⟩
  have b1 : Below w.heap.size w w1 := by rw [← hw1]; exact drewN_below (Below.refl _ w) _
  rw [hw1]
  have B1 := Lib.hid b1
  have H1 := Lib.hid (H.out.below b1)
  have CL := Lib.hid (clone_sg l al m c _ w1 HM.out (by omega) (HS.out.below b1))
  clear hw1 b1 y2 y3 H
  go_upto_region 5 with (go_at_call 55; refine CL.out.mono ?_; rintro e w2 ⟨b2, d2, rfl, ho, hb⟩; have O2 := Lib.hid ho; have B2 := Lib.hid hb; have H2 := Lib.hid (H1.out.below hb); obtain ⟨vE, vs, vT, h1, _, _⟩ := H2.out.ex; have y4 := cell_of_row _ _ 4 _ _ _ h1; have f4 := frozen_of_row _ O 4 _ _ h1; dsimp at y4; clear ho hb CL H1)
  have H3 := Lib.hid (H2.out.type (OwS.mono O2.out (Nat.le_trans hwB.out.1 B1.out.size)))
  have K3 := Lib.hid ((KpH.of (b := O) (seqB B1.out B2.out)).trans (KpH.set O w2 4 (.slice b2 m d2)))
  obtain ⟨w3, hw3⟩ : ∃ W, w2.setCell ⟨O, 4, none⟩ (.slice b2 m d2) = W := ⟨_, rfl⟩
  rw [hw3] at H3 K3 ⊢
  clear hw3 y4 f4 O2 B2 H2 B1
  obtain ⟨vE, vs, vT, h1, h2, h3⟩ := H3.out.ex
  have y3 := cell_of_row _ _ 3 _ _ _ h1
  have f3 := frozen_of_row _ O 3 _ _ h1
  dsimp at y3
  have h4 := (H3.out.hand k)
  have hwk : (w3.setCell ⟨O, 3, none⟩ (.int .i64 ((n : Int) - 1))) = w3.setCell ⟨O, 3, none⟩ (.int .i64 (k : Int)) := by rw [HK.out]; congr 2; omega
  have hnk : ((n : Int) - 1) = (k : Int) := by rw [HK.out]; omega
  rw [← hwk] at h4
  have H4 := Lib.hid h4
  have K4 := Lib.hid (K3.out.trans (KpH.set O w3 3 (.int .i64 ((n : Int) - 1))))
  have HNK := Lib.hid hnk
  clear h4 hwk hnk h1 h2 h3 H3
  go_upto_region 6 with fail
  obtain ⟨w4, hw4⟩ : ∃ W, w3.setCell ⟨O, 3, none⟩ (.int .i64 ((n : Int) - 1)) = W := ⟨_, rfl⟩
  rw [hw4] at H4 K4 ⊢
  clear hw4 y3 f3
  rw [HNK.out]
  obtain ⟨vE, vs, vT, h1, h2, h3⟩ := H4.out.ex
  obtain ⟨g, cap, a0, n0, c0, rfl, hgl, yg, hn0, hO0⟩ := h2.at2 k (by rw [HN.out, HK.out]; omega)
  rw [HN.out] at h1
  rw [HQ.out] at hn0
  subst hn0
  have y2 := cell_of_row _ _ 2 _ _ _ h1
  have y3 := cell_of_row _ _ 3 _ _ _ h1
  dsimp at y2 y3
  have CL := Lib.hid (clone_sg (E.getD k []) a0 q c0 _ w4.drew HQ.out (by have := HZ.out; have := HQ.out; omega) ((ows_slS hO0).below (Below.refl _ w4).drew))
  have hk0 : (0 : Int) ≤ k := by omega
  have hkn : (k : Int) < n := by rw [HK.out]; omega
  have H4' := Lib.hid H4.out
  clear h1 h2 h3 hO0 H4 hgl
  go_region_law (first
    | (go_simp; go_at_call 55; refine CL.out.mono ?_; rintro e w5 ⟨b5, d5, rfl, ho, hb⟩; have O5 := Lib.hid ho; have B5 : Hid (Below w4.heap.size w4 w5) := Lib.hid ((Below.refl _ w4).drew.trans hb); clear ho hb CL))
  all_goals go_wp2
  all_goals refine bodyPost_ret (results_tmp2 rfl _ _ _) rfl ?_
  all_goals exact ⟨b5, d5, rfl, O5.out.mono (Nat.le_trans K4.out.size (Nat.le_refl _)), H4'.out.below B5.out, K4.out.trans (KpH.of B5.out)⟩
end
end Go.Proofs.YtdifkjmpdmlobaaDoor
set_option linter.unusedVariables false
set_option linter.unusedSimpArgs false
namespace Go.Proofs.YtdifkjmpdmlobaaDoor
open Go.RowKit
section
variable {B O M N : Nat} {E : List (List (Int × Int))} {hd : Nat} {T : List (Int × Int)} {w w' : World}
set_option maxHeartbeats 4000000 in
theorem hs_down {n k q : Nat} (h : HsS B O M N E k T w) (hn : E.length = n) (hk : n = k + 1) (hl : n ≤ 1000) (hq : T.length = q) (hq2 : q ≤ 4096) :
    Calls Tryd.prog 43 #[.pointer (some ⟨O, 0, none⟩)] w fun e w' => ∃ b d, e = .returned (.tuple #[.slice b q d, .bool true]) ∧ OwS w' w.heap.size (.slice b q d) T ∧ HsS B O M N E n T w' ∧ KpH O w w' := by
  have hwB := Lib.hid h.lt
  have hBO := Lib.hid h.le
  obtain ⟨vE, vs, vT, h1, h2, h3⟩ := h.ex
  obtain ⟨ea, ec, rfl⟩ := h2.form hn
  have y2 := cell_of_row _ _ 2 _ _ _ h1
  have y3 := cell_of_row _ _ 3 _ _ _ h1
  dsimp at y2 y3
  have H := Lib.hid h
  have HN := Lib.hid hn
  have HQ := Lib.hid hq
  have HK := Lib.hid hk
  have hkn : ¬ k = n := by omega
  have hkb : ((k : Int) == (n : Int)) = false := beq_eq_false_iff_ne.2 (by omega)
  clear h h1 h2 h3 hn hk hq
  go_enter Tryd.func43, Tryd.ntmps43
  go_upto_region 1 with fail
  go_quiet (fail)
  obtain ⟨w3, hw1⟩ : ∃ W, w.drewN nq = W := ⟨_, rfl⟩
  have b1 : Below w.heap.size w w3 := by rw [← hw1]; exact drewN_below (Below.refl _ w) _
  rw [hw1]
  have K3 := Lib.hid (KpH.of (b := O) b1)
  have H3 := Lib.hid (H.out.below b1)
  clear hw1 b1 y2 y3 H
  obtain ⟨vE, vs, vT, h1, h2, h3⟩ := H3.out.ex
  have y3 := cell_of_row _ _ 3 _ _ _ h1
  have f3 := frozen_of_row _ O 3 _ _ h1
  dsimp at y3
  have h4 := (H3.out.hand n)
  have hnk : ((k : Int) + 1) = (n : Int) := by rw [HK.out]; omega
  have hwk : (w3.setCell ⟨O, 3, none⟩ (.int .i64 ((k : Int) + 1))) = w3.setCell ⟨O, 3, none⟩ (.int .i64 (n : Int)) := by rw [hnk]
  rw [← hwk] at h4
  have H4 := Lib.hid h4
  have K4 := Lib.hid (K3.out.trans (KpH.set O w3 3 (.int .i64 ((k : Int) + 1))))
  have HNK := Lib.hid hnk
  have hkl : k ≤ 1000 := by omega
  clear h4 hwk hnk h1 h2 h3 H3
  go_upto_region 4 with fail
  obtain ⟨w4, hw4⟩ : ∃ W, w3.setCell ⟨O, 3, none⟩ (.int .i64 ((k : Int) + 1)) = W := ⟨_, rfl⟩
  rw [hw4] at H4 K4 ⊢
  clear hw4 y3 f3
  rw [HNK.out]
  obtain ⟨vE, vs, vT, h1, h2, h3⟩ := H4.out.ex
  obtain ⟨ea, ec, rfl⟩ := h2.form HN.out
  have y2 := cell_of_row _ _ 2 _ _ _ h1
  have y3 := cell_of_row _ _ 3 _ _ _ h1
  dsimp at y2 y3
  have H4' := Lib.hid H4.out
  clear h1 h2 h3 H4 hkn hkb
  go_quiet (fail)
  obtain ⟨w5, hw5⟩ : ∃ W, w4.drewN nq = W := ⟨_, rfl⟩
  have b5 : Below w4.heap.size w4 w5 := by rw [← hw5]; exact drewN_below (Below.refl _ w4) _
  rw [hw5]
  have K5 := Lib.hid (K4.out.trans (KpH.of b5))
  have H5 := Lib.hid (H4'.out.below b5)
  clear hw5 b5 y2 y3 H4' K4
  obtain ⟨vE, vs, vT, h1, h2, h3⟩ := H5.out.ex
  obtain ⟨ta, tc, rfl⟩ := h3.form HQ.out
  have y4 := cell_of_row _ _ 4 _ _ _ h1
  dsimp at y4
  have CL := Lib.hid (clone_sg T ta q tc _ w5 HQ.out (by omega) (ows_slS h3))
  have H5' := Lib.hid H5.out
  clear h1 h2 h3 H5
  go_wp2_with (go_at_call 55; refine CL.out.mono ?_; rintro e w6 ⟨b6, d6, rfl, ho, hb⟩; have O6 := Lib.hid ho; have B6 := Lib.hid hb; clear ho hb CL)
  refine bodyPost_ret (results_tmp2 rfl _ _ _) rfl ?_
  exact ⟨b6, d6, rfl, O6.out.mono K5.out.size, H5'.out.below B6.out, K5.out.trans (KpH.of B6.out)⟩
set_option maxHeartbeats 4000000 in
theorem hs_prefix (h : HsS B O M N E hd T w) (hn : E.length = 2) (l : List (Int × Int)) (al : Option Addr) (ml cl : Nat) (hl : l.length = ml) (hml : ml ≤ 4096) (hs : Signs w al l) (hz : ∀ x ∈ E, x.length ≤ 4096) (g1 : bgV l (E.getD 1 []) = false) (g0 : bgV l (E.getD 0 []) = true) :
    Calls Tryd.prog 42 #[.pointer (some ⟨O, 0, none⟩), .slice al ml cl, .int .i64 9] w fun e w' => e = .returned (.int .i64 0) ∧ Below w.heap.size w w' := by
  have B1 := below_alloc w (.cells #[.slice al ml cl] 28)
  have r1 := heap_alloc_new w (.cells #[.slice al ml cl] 28)
  obtain ⟨Q, hQ⟩ : ∃ Q, w.heap.size = Q := ⟨_, rfl⟩
  have HQ0 := Lib.hid hQ
  rw [hQ] at r1
  have LN := Lib.hid fun w' (hb : Below w.heap.size w w') => hs_len (h.below hb) hn
  have H := Lib.hid h
  have HS := Lib.hid hs
  have HN := Lib.hid hn
  have HL := Lib.hid hl
  have Z0 := Lib.hid (hz _ (getD_memT (show 0 < E.length by omega)))
  have Z1 := Lib.hid (hz _ (getD_memT (show 1 < E.length by omega)))
  have G1 := Lib.hid g1
  have G0 := Lib.hid g0
  clear h hn hl hs hz g1 g0
  go_enter Tryd.func42, Tryd.ntmps42
  go_wp2_with (first
    | (go_at_call 49; refine (beginner_any al ml cl _).mono ?_; rintro e w1 ⟨rfl, hw1⟩; rw [hw1] at B1 r1; have N1 := Lib.hid B1; have R1 := Lib.hid r1; clear hw1 B1 r1)
    | (go_at_call 45; with_reducible refine (LN.out _ N1.out).mono ?_; rintro e w2 ⟨rfl, rfl⟩; clear LN))
  clear hQ
  go_loopw [8] (fun iv wr => ∃ j : Nat, j ≤ 1 ∧ iv = .int .i64 (j : Int) ∧ Hid (Below w.heap.size w wr) ∧ Hid (wr.heap[Q]? = some (.cells #[.slice al ml cl] 28 (0, 0)))) (fun iv _ => (intOf iv).toNat)
  case atStart => exact ⟨1, Nat.le_refl _, congrArg (Value.int .i64) (show (max (min (9 : Int) 2) 0 - 1) = ((1 : Nat) : Int) by decide), N1, R1⟩
  case round =>
    obtain ⟨j, hj, rfl, HB, HR⟩ := hrel
    have HE := Lib.hid (H.out.below HB.out)
    obtain ⟨vE, vs, vT, h1, h2, h3⟩ := HE.out.ex
    obtain ⟨g, cap, a0, n0, c0, rfl, hgl, yg, hn0, hO0⟩ := h2.at2 j (by rw [HN.out]; omega)
    rw [HN.out] at h1
    have y2 := cell_of_row _ _ 2 _ _ _ h1
    dsimp at y2
    have hn04 : n0 ≤ 4096 := by
      rw [← hn0]
      have := Z0.out; have := Z1.out
      match j, hj with
      | 0, _ => exact Z0.out
      | 1, _ => exact Z1.out
    have BE := Lib.hid (begin1_any l (E.getD j []) al a0 ml cl n0 c0 Q wr HR.out HL.out hn0 (by omega) (by omega) (by have := (ows_slS hO0).le; rw [hn0] at this; exact this) (HS.out.below HB.out) (ows_slS hO0).s)
    have hj0 : (0 : Int) ≤ j := by omega
    have hj2 : (j : Int) < 2 := by omega
    clear h1 h2 h3 hO0 hn0 hgl
    match j, hj with
    | 0, _ =>
      rw [G0.out] at BE
      go_wp2_with (go_at_call 73; refine BE.out.mono ?_; rintro e w3 ⟨rfl, hb⟩; have N3 := Lib.hid (seqB HB.out hb); clear hb)
      go_ret
      exact ⟨rfl, N3.out⟩
    | 1, _ =>
      rw [G1.out] at BE
      go_wp2_with (go_at_call 73; refine BE.out.mono ?_; rintro e w3 ⟨rfl, hb⟩; have N3 := Lib.hid (seqB HB.out hb); have R3 := Lib.hid (blk_below HR.out hb); clear hb)
      go_roundw
      case rel => exact ⟨0, by omega, rfl, N3, R3⟩
      case measure => simp [intOf]
end
/-- A history of so many entries. -/
def HsL (B O M N n : Nat) (w : World) : Prop := ∃ E hd T, HsS B O M N E hd T w ∧ E.length = n
set_option maxHeartbeats 4000000 in
theorem hs_of (H : List (List (Int × Int))) (b : Option Addr) (t c : Nat) (w : World) (ht : H.length = t) (ht0 : 0 < t) (ht2 : t ≤ 1000) (hH : SgsK (fun k => k < w.heap.size) w b H) (h1 : ∀ x ∈ H, x.length = 1 ∧ sgC x = true) :
    Calls Tryd.prog 44 #[.slice b t c, .int .i64 1, .int .i64 1] w fun e w' => ∃ O, e = .returned (.tuple #[.pointer (some ⟨O, 0, none⟩), .int .i64 0]) ∧ HsL w.heap.size O 1 1 1 w' ∧ Below w.heap.size w w' := by
  have NW := Lib.hid (hs_new 1 1 1 1 w rfl rfl (by omega) (by omega) (by omega) (by omega))
  have HH := Lib.hid hH
  have HT := Lib.hid ht
  have H1 := Lib.hid h1
  clear hH ht h1
  go_enter Tryd.func44, Tryd.ntmps44
  go_wp2_with (go_at_call 11; refine NW.out.mono ?_; rintro e w1 ⟨O, rfl, ho, hb⟩; have O1 := Lib.hid ho; have N1 := Lib.hid hb; clear ho hb NW)
  go_loopw [23] (fun iv wr => ∃ (k : Nat) (E : List (List (Int × Int))) (hd : Nat) (T : List (Int × Int)), k ≤ t ∧ iv = .int .i64 (k : Int) ∧ Hid (HsS w.heap.size O 1 1 E hd T wr) ∧ Hid (HOk 1 1 E ∧ (0 < k → 0 < E.length)) ∧ Hid (Below w.heap.size w wr)) (fun iv _ => t - (intOf iv).toNat)
  case atStart => exact ⟨0, [], 0, [], Nat.zero_le _, rfl, O1, Lib.hid ⟨HOk.nil 1 1, fun h => absurd h (Nat.lt_irrefl 0)⟩, N1⟩
  case round =>
    clear O1 N1
    obtain ⟨k, E, hd, T, hk, rfl, HO, HE, HB⟩ := hrel
    by_cases hlt : k < t
    · have hk1 : (k : Int) < t := by omega
      have hk0 : (0 : Int) ≤ k := by omega
      obtain ⟨bb, off, ai, ci, rfl, hbb, hbl, yc, hsl⟩ := (HH.out.below HB.out) k (by rw [HT.out]; exact hlt)
      have hx := H1.out _ (getD_memT (show k < H.length by rw [HT.out]; exact hlt))
      rw [hx.1] at yc
      have AD := Lib.hid (hs_add_yes (H.getD k []) ai 1 ci HO.out hx.1 (by omega) (by omega) (by omega) hx.2 HE.out.1.le (by omega) (fun y hy => by have := (HE.out.1.ne y hy).2.1; omega) hsl.s (fun ad e => Or.inl (hsl.st ad e (fun h0 => by rw [h0] at hx; exact absurd hx.1 (by decide)))))
      have HE2 := Lib.hid (And.intro (HE.out.1.add (l := H.getD k []) (by omega) (by omega)) (adE_last (M := 1) (E := E) (l := H.getD k []) (by omega)).1)
      have hz2 : Hid (w.heap.size ≤ wr.heap.size) := Lib.hid HB.out.size
      clear hx hsl hbb
      go_wp2_with (go_at_call 12; refine AD.out.mono ?_; rintro e w2 ⟨rfl, ho, hb⟩; have O2 := Lib.hid ho; have N2 := Lib.hid (HB.out.trans hb); clear ho hb AD)
      go_roundw
      case rel => exact ⟨k + 1, _, _, _, by omega, by go_num, O2, Lib.hid ⟨HE2.out.1, fun _ => HE2.out.2⟩, N2⟩
      case measure => (simp [intOf]; try omega)
    · obtain rfl : k = t := by omega
      have hk1 : ¬ (k : Int) < k := by omega
      go_wp2_with fail
      refine bodyPost_ret (results_tmp2 rfl _ _ _) rfl ?_
      exact ⟨O, rfl, ⟨E, hd, T, HO.out, by have := HE.out.1.le; have := HE.out.2 ht0; omega⟩, HB.out⟩
end Go.Proofs.YtdifkjmpdmlobaaDoor
