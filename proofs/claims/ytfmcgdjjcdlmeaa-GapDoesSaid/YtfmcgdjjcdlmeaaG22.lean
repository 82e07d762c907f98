/-
  GapDoes: the document's places; what a walk wants.
-/
import Derived.Test.YtfmcgdjjcdlmeaaG21
set_option linter.unusedVariables false
set_option linter.unusedSimpArgs false
namespace Go.Proofs.Ytfmcgdjjcdlmeaa
set_option maxRecDepth 100000
open Go.RowKit
/-- A quiet call inside a region. -/
theorem qsy {P : Program} {f : FuncId} {args : Array Value} {w : World} {a n : Nat} {v : Value}
    (h : Calls P f args (w.drewN (a + n)) fun e w' => e = .returned v ∧ w.drewN (a + n) = w') :
    Calls P f args (w.drewN (a + n)) fun e w'' => e = .returned v ∧ ∃ m, w'' = w.drewN (a + m) :=
  h.mono fun _ _ h => ⟨h.1, n, h.2.symm⟩
theorem qsy0 {P : Program} {f : FuncId} {args : Array Value} {w : World} {n : Nat} {v : Value}
    (h : Calls P f args (w.drewN n) fun e w' => e = .returned v ∧ w.drewN n = w') :
    Calls P f args (w.drewN n) fun e w'' => e = .returned v ∧ ∃ m, w'' = w.drewN m :=
  h.mono fun _ _ h => ⟨h.1, n, h.2.symm⟩
theorem cutpl (a len : Nat) (n : Int) (ha : a ≤ len) (hl : len ≤ 65536) (f t : Nat) (hf : cutF a n = f) (ht : cutT len a n = t) :
    ∃ (y z : Int) (p : Nat), (if (-100000 : Int) < n then n else -100000) = y ∧ (if y < 100000 then y else 100000) = z ∧ -100000 ≤ z ∧ z ≤ 100000 ∧ mvT len ((a : Int) + z) = p ∧ (if (a : Int) < (p : Int) then (a : Int) else (p : Int)) = (f : Int) ∧ (if (p : Int) < (a : Int) then (a : Int) else (p : Int)) = (t : Int) ∧ f ≤ t ∧ t ≤ len := by
  refine ⟨_, _, _, rfl, rfl, ?_, ?_, rfl, ?_⟩
  · split <;> split <;> omega
  · split <;> split <;> omega
  · subst hf; subst ht
    unfold cutF cutT mvT
    by_cases h0 : n < 0
    · rw [if_pos h0, if_pos h0]
      by_cases h1 : (-100000 : Int) < n
      · rw [if_pos h1, if_pos (by omega : n < 100000)]
        refine ⟨?_, ?_, by omega, by omega⟩ <;> split <;> omega
      · rw [if_neg h1, if_pos (by omega : (-100000 : Int) < 100000)]
        refine ⟨?_, ?_, by omega, by omega⟩ <;> split <;> omega
    · rw [if_neg h0, if_neg h0, if_pos (by omega : (-100000 : Int) < n)]
      by_cases h1 : n < 100000
      · rw [if_pos h1]
        refine ⟨?_, ?_, by omega, by omega⟩ <;> split <;> omega
      · rw [if_neg h1]
        refine ⟨?_, ?_, by omega, by omega⟩ <;> split <;> omega
/-- What a call of the loop finds. -/
structure GcAt (w : World) (wr : World) (kb o : Nat) (k i : Int) (sg : SgArg) (m : Nat) : Prop where
  lt : kb < w.heap.size
  c0 : wr.cell? ⟨kb, o, none⟩ = some (.int .i64 k)
  c1 : wr.cell? ⟨kb, o + 1, none⟩ = some (.int .i64 i)
  c2 : wr.cell? ⟨kb, o + 2, none⟩ = some (.slice sg.a m sg.c)
  hm : sg.l.length = m
  sl : SlS (fun k => k < w.heap.size) wr sg.a sg.l sg.c
  i1 : -9223372036854775808 ≤ i
  i2 : i ≤ 9223372036854775807
theorem gc_at {w wr : World} {a : Option Addr} {l : List (Int × Int × SgArg)} (h : CallsIn w w.heap.size a l) (hb : Below w.heap.size w wr) (j : Nat) (hj : j < l.length) :
    ∃ kb off k i sg m, a = some ⟨kb, off, none⟩ ∧ GcAt w wr kb (off + j * 3) k i sg m ∧ m ≤ 9223372036854775807 := by
  obtain ⟨b, off, e, hlt, h1, h2, h3, h4, h5⟩ := (h.below hb) j hj
  exact ⟨b, off, _, _, _, _, e, ⟨hlt, h1, h2, h3, rfl, h4.1, h5.1, h5.2⟩, h4.2⟩
theorem SlS.old {S : Nat → Prop} {w wr w' : World} {a : Option Addr} {L : List Sn} {c X : Nat} (h : SlS (fun k => k < w.heap.size) wr a L c) (hX : w.heap.size ≤ X) (hS : ∀ k, k < w.heap.size → S k) (hs : wr.heap.size ≤ w'.heap.size) (hk : ∀ k, k < w.heap.size → w'.heap[k]? = wr.heap[k]?) : SlS (fun k => S k ∧ k ≠ X) w' a L c :=
  (h.keep hs hk).mono fun k hk => ⟨hS k hk, by omega⟩
theorem Gd.start {w w1 w2 w3 : World} {M : Int} (b1 : Below w.heap.size w w1) (h1 : 1 ≤ M) (h2 : M ≤ 65536) (hw2 : w1.alloc (.cells #[.int .i64 M, .slice none 0 0, .int .i64 0, .int .i64 0] 56) = w2) (hw3 : w2.alloc (.cells #[.slice none 0 0, .int .i64 0] 30) = w3) :
    Gd w (fun k => k < w3.heap.size ∧ k ≠ w1.heap.size) w1.heap.size w2.heap.size M [] 0 [] 0 0 none 0 w3 := by
  have hg := heap_alloc_new w1 (.cells #[.int .i64 M, .slice none 0 0, .int .i64 0, .int .i64 0] 56)
  have B1 := below_alloc w1 (.cells #[.int .i64 M, .slice none 0 0, .int .i64 0, .int .i64 0] 56)
  have s1 : (w1.alloc (.cells #[.int .i64 M, .slice none 0 0, .int .i64 0, .int .i64 0] 56)).heap.size = w1.heap.size + 1 := by simp
  rw [hw2] at hg B1 s1
  have hx := heap_alloc_new w2 (.cells #[.slice none 0 0, .int .i64 0] 30)
  have B2 := below_alloc w2 (.cells #[.slice none 0 0, .int .i64 0] 30)
  have s2 : (w2.alloc (.cells #[.slice none 0 0, .int .i64 0] 30)).heap.size = w2.heap.size + 1 := by simp
  rw [hw3] at hx B2 s2
  have hb := b1.size
  refine ⟨⟨.slice none 0 0, [], 0, ⟨blk_below hg B2, Or.inl ⟨rfl, rfl⟩, Nat.le_refl _, Nat.le_refl _, Nat.zero_le _, h1, h2⟩, rfl, fun k hk => ⟨hk.1, hk.2, fun e => by cases e⟩⟩, rfl, hx, ⟨fun j hj => absurd hj (Nat.not_lt_zero j), Nat.le_refl _, fun _ => rfl, fun ad e => by cases e⟩, ⟨by omega, by omega⟩, fun k hk => ⟨by omega, by omega⟩, by omega, seqB (seqB b1 B1) B2⟩
/-- What a call should answer. -/
def wantZ (ok : Bool) (k : Int) (m n : Nat) (M : Int) : Int := if ok = true then (if k = 0 ∧ M < (m : Int) + (n : Int) ∨ k = 3 ∧ M < (m : Int) then 8 else 0) else 2
theorem wantZ_full0 (m n : Nat) (M : Int) (h : M < (m : Int) + (n : Int)) : wantZ true 0 m n M = 8 := by unfold wantZ; rw [if_pos rfl, if_pos (Or.inl ⟨rfl, h⟩)]
theorem wantZ_fit0 (m n : Nat) (M : Int) (h : ¬ M < (m : Int) + (n : Int)) : wantZ true 0 m n M = 0 := by unfold wantZ; rw [if_pos rfl, if_neg (by omega)]
theorem wantZ_full3 (m n : Nat) (M : Int) (h : M < (m : Int)) : wantZ true 3 m n M = 8 := by unfold wantZ; rw [if_pos rfl, if_pos (Or.inr ⟨rfl, h⟩)]
theorem wantZ_fit3 (m n : Nat) (M : Int) (h : ¬ M < (m : Int)) : wantZ true 3 m n M = 0 := by unfold wantZ; rw [if_pos rfl, if_neg (by omega)]
theorem wantZ_else (k : Int) (m n : Nat) (M : Int) (h0 : ¬ k = 0) (h3 : ¬ k = 3) : wantZ true k m n M = 0 := by unfold wantZ; rw [if_pos rfl, if_neg (by omega)]
theorem wantZ_0 {l : List Sn} {m n : Nat} {M : Int} (h : wantZ (sgC l) 0 m n M = 0) : sgC l = true ∧ (m : Int) + (n : Int) ≤ M := by
  unfold wantZ at h
  cases hok : sgC l
  · rw [hok] at h; cases h
  · rw [hok, if_pos rfl] at h
    split at h
    · cases h
    · exact ⟨rfl, by omega⟩
theorem wantZ_3 {l : List Sn} {m n : Nat} {M : Int} (h : wantZ (sgC l) 3 m n M = 0) : sgC l = true ∧ (m : Int) ≤ M := by
  unfold wantZ at h
  cases hok : sgC l
  · rw [hok] at h; cases h
  · rw [hok, if_pos rfl] at h
    split at h
    · cases h
    · exact ⟨rfl, by omega⟩
theorem wantZ_e0 {l : List Sn} {m n : Nat} {M wt : Int} (hm : l.length = m) (h : wantZ (sgC l) 0 m n M = wt) : gmE l M (n : Int) = wt := by
  unfold wantZ at h; unfold gmE
  subst h
  cases hok : sgC l
  · rfl
  · rw [if_pos rfl, if_pos rfl, hm]
    by_cases hf : M < (m : Int) + (n : Int)
    · rw [if_pos (by omega), if_pos (Or.inl ⟨rfl, hf⟩)]
    · rw [if_neg (by omega), if_neg (by omega)]
theorem wantZ_e3 {l : List Sn} {m n : Nat} {M wt : Int} (hm : l.length = m) (h : wantZ (sgC l) 3 m n M = wt) : gmE l M 0 = wt := by
  unfold wantZ at h; unfold gmE
  subst h
  cases hok : sgC l
  · rfl
  · rw [if_pos rfl, if_pos rfl, hm]
    by_cases hf : M < (m : Int)
    · rw [if_pos (by omega), if_pos (Or.inr ⟨rfl, hf⟩)]
    · rw [if_neg (by omega), if_neg (by omega)]
theorem gd_csame {w : World} {S : Nat → Prop} {P X : Nat} {M : Int} {L1 : List Sn} {a1 : Nat} {L : List Sn} {n a : Nat} {ad : Option Addr} {c : Nat} {wr : World} (h : Gd w S P X M L1 a1 L n a ad c wr) (bd : Option Addr) (f t : Nat) (hft : f ≤ t) (htn : t ≤ n) (hn : n ≤ 65536) (hs : Signs wr bd ((L.drop f).take (t - f))) (A : Option Addr) (hA : (if c = f then ad else ad.map (·.add (f * 2))) = A) :
    Calls Try.prog 14 #[.slice bd (t - f) (t - f), .slice A (t - f) (c - f)] wr fun x w' => x = .returned (.bool true) ∧ Below wr.heap.size wr w' := by
  have hl := h.hn
  subst hA
  obtain ⟨h1, h2⟩ := h.sl.sub f t hft (by omega)
  have := sgsame_ref _ _ bd _ (t - f) (c - f) wr (by omega) (by omega) hs h1.s
  rw [decide_eq_true rfl, h2] at this
  exact this
theorem gd_room {w : World} {S : Nat → Prop} {P X : Nat} {M : Int} {L1 : List Sn} {a1 : Nat} {L : List Sn} {n a : Nat} {ad : Option Addr} {c : Nat} {wr : World} (h : Gd w S P X M L1 a1 L n a ad c wr) : n ≤ c := by
  have := h.sl.le; rw [h.hn] at this; exact this
end Go.Proofs.Ytfmcgdjjcdlmeaa
